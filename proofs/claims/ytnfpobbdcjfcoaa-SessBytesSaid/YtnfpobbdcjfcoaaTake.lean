/-
  Walks: the document's table is read. (Written by gentake.py.)
-/
import Derived.Test.YtnfpobbdcjfcoaaGw
namespace Go.Proofs.Ytnfpobbdcjfcoaa
set_option linter.unusedVariables false
set_option linter.unusedSimpArgs false
open Go.RowKit
variable {w : World} {xb n c : Nat} {p : Option Addr} {xs : List Int} {i : Nat} {err : Int} {B b : Nat} {L : List Nat}

theorem XWithin_wn (h : XS w xb p n c xs i err) (lo hi : Int) :
    Calls Try.prog 46 #[.pointer (some ⟨xb, 0, none⟩), .int .i64 lo, .int .i64 hi] w (XOut (.int .i64 (wn xs lo hi (i, err)).1) w xb p n c xs (wn xs lo hi (i, err)).2.1 (wn xs lo hi (i, err)).2.2) := by
  by_cases he : err = 0
  · subst he
    obtain ⟨N, S, E, ht⟩ : ∃ N S E, numAt (xs.drop i) = (N, S, E) := ⟨_, _, _, rfl⟩
    unfold wn
    simp only [ne_eq, not_true_eq_false, if_false, ht]
    unfold withinOf
    by_cases hE : E = 0
    · subst hE
      simp only [ne_eq, not_true_eq_false, if_false]
      by_cases h0 : (N : Int) < lo
      · rw [if_pos (.inl h0)]; exact XWithin_low h lo hi N S ht h0
      · by_cases h1 : hi < (N : Int)
        · rw [if_pos (.inr h1)]; exact XWithin_high h lo hi N S ht h0 h1
        · rw [if_neg (by omega)]; exact XWithin_ok h lo hi N S ht h0 h1
    · simp only [ne_eq, hE, not_false_eq_true, if_true]
      exact XWithin_bad h lo hi N S E ht hE
  · rw [wn_err (p := (i, err)) he]
    exact XWithin_err h lo hi he
theorem XNumber_wn (h : XS w xb p n c xs i err) :
    Calls Try.prog 47 #[.pointer (some ⟨xb, 0, none⟩)] w (XOut (.int .i64 (wn xs 0 9223372036854775807 (i, err)).1) w xb p n c xs (wn xs 0 9223372036854775807 (i, err)).2.1 (wn xs 0 9223372036854775807 (i, err)).2.2) := by
  by_cases he : err = 0
  · subst he
    obtain ⟨N, S, E, ht⟩ : ∃ N S E, numAt (xs.drop i) = (N, S, E) := ⟨_, _, _, rfl⟩
    by_cases hE : E = 0
    · subst hE
      have hm := numAt_max h.rng ht
      rw [wn_of (lo := 0) (hi := 9223372036854775807) ht (by omega) (by omega)]
      exact XNumber_ok h N S ht
    · unfold wn
      simp only [ne_eq, not_true_eq_false, if_false, ht]
      unfold withinOf
      simp only [ne_eq, hE, not_false_eq_true, if_true]
      exact XNumber_bad h N S E ht hE
  · rw [wn_err (p := (i, err)) he]
    exact XNumber_err h he
theorem XS.ext {w' : World} {L L' : List Nat} (h : XS w xb p n c xs i err) (hrl : xb < w.heap.size) (he : Ext w L w' L') (hr : xb ∉ L) (hg : ∀ ad, p = some ad → ad.block < w.heap.size ∧ ad.block ∉ L) : XS w' xb p n c xs i err := by
  have kr := he.block xb hrl hr
  refine ⟨(World.cell?_of_block (a := ⟨xb, 0, none⟩) kr).trans h.c0, (World.cell?_of_block (a := ⟨xb, 1, none⟩) kr).trans h.c1, (World.cell?_of_block (a := ⟨xb, 2, none⟩) kr).trans h.c2, (World.frozen?_of_block (a := ⟨xb, 1, none⟩) kr).trans h.f1, (World.frozen?_of_block (a := ⟨xb, 2, none⟩) kr).trans h.f2, ?_, h.len, h.ncap, h.ile, h.hp, h.pne, h.rng, h.nb⟩
  intro hn
  obtain ⟨b', o', rfl, hc⟩ := h.inn hn
  have hg' := hg _ rfl
  exact ⟨b', o', rfl, fun j hj => (World.cell?_of_block (a := ⟨b', o' + j, none⟩) (he.block b' hg'.1 hg'.2)).trans (hc j hj)⟩

def xAll (xs : List Int) (i : Nat) (err : Int) : (List Se × Nat × Int) × Bool := xRows xs (gBg xs i err) (gP xs i err) (gCn xs i err).toNat
def GotX (w : World) (xb : Nat) (p : Option Addr) (n c : Nat) (xs : List Int) (i : Nat) (err : Int) (e : Ending) (w' : World) : Prop :=
  XS w' xb p n c xs (xAll xs i err).1.2.1 (xAll xs i err).1.2.2 ∧ Ext w [xb] w' [xb] ∧
  ((((xAll xs i err).1.2.2 ≠ 0 ∨ (xAll xs i err).2 = false) ∧ e = .returned (.tuple #[.pointer none, .bool false])) ∨
   ((xAll xs i err).1.2.2 = 0 ∧ (xAll xs i err).2 = true ∧ ∃ b L v, e = .returned (.tuple #[.pointer (some ⟨b, 0, none⟩), .bool true]) ∧ Gv w' w.heap.size b L [] (gBg xs i err) (xAll xs i err).1.1 v))
theorem xlid_range (xs : List Int) (bg : Int) (p : Nat × Int) : ∀ k, 0 ≤ lid (xRows xs bg p k).1.1
  | 0 => by simp [xRows, lid]
  | k + 1 => by
    simp only [xRows, lid_snoc]
    exact (wn_range (xs := xs) (lo := 0) (hi := 9223372036854775807) (p := (xRows xs bg p k).1.2) (.inr trivial)).1

set_option maxRecDepth 100000 in
set_option maxHeartbeats 25600000 in
theorem Take_any (h : XS w xb p n c xs i err) (hrl : xb < w.heap.size) (hpl : ∀ ad, p = some ad → ad.block < w.heap.size) : Calls Try.prog 33 #[.pointer (some ⟨xb, 0, none⟩)] w (GotX w xb p n c xs i err) := by
  obtain ⟨i0, hi, hz0, hz1, hz2⟩ := info_parts Try.infoSeat
  have HW1 := Lib.hid (XWithin_wn h 0 1099511627776)
  obtain ⟨bgN, hbg, hbg2⟩ := wn_nat xs 0 top40 (i, err) (by decide)
  obtain ⟨cN, hcN, hcN2⟩ := wn_nat xs 0 8 (wn xs 0 top40 (i, err)).2 (by decide)
  have HBG : Hid (gBg xs i err = (bgN : Int)) := hbg
  have HCN : Hid (gCn xs i err = (cN : Int)) := hcN
  have hbg3 : (bgN : Int) ≤ 1099511627776 := hbg2
  have HGA : Hid (xAll xs i err = xRows xs (bgN : Int) (gP xs i err) cN) := by show _ = _; unfold xAll; rw [HBG.out, HCN.out]; simp
  have HPL := Lib.hid hpl
  clear h hpl
  go_enter Try.func33, Try.ntmps33
  go_wp2_with fail
  go_fit HW1.out
  rintro e w1 ⟨rfl, hr1, hg1⟩
  rw [show (1099511627776 : Int) = top40 from rfl] at hr1 ⊢
  rw [hbg]
  have HB1 := Lib.hid (below_alloc w1 (.cells #[.int .i64 (bgN : Int), .slice none 0 0] 29))
  have hrl1 := Nat.lt_of_lt_of_le hrl hg1.size
  have HR2 := Lib.hid (hr1.ext hrl1 (Ext.of_below (L := []) HB1.out) (by simp) (fun ad h => ⟨Nat.lt_of_lt_of_le (HPL.out ad h) hg1.size, by simp⟩))
  have HE2 := Lib.hid ((ext_grown hg1).more HB1.out)
  have HG2 : Hid (Gv (w1.alloc (.cells #[.int .i64 (bgN : Int), .slice none 0 0] 29)) w.heap.size w1.heap.size [w1.heap.size] [] (bgN : Int) [] (.slice none 0 0)) := ⟨DC.alloc w1 [.int .i64 (bgN : Int), .slice none 0 0] _, World.ownsRow_nil _ _ _ _, .inl ⟨rfl, rfl, rfl⟩, fun k hk => by simp at hk; subst hk; exact hg1.size⟩
  have HT : Hid (w.heap.size ≤ w1.heap.size) := hg1.size
  have HW2 := Lib.hid (XWithin_wn HR2.out 0 8)
  clear HW1 hr1 hg1
  go_wp2_with fail
  generalize w1.heap.size = tb at *
  generalize w1.alloc (.cells #[.int .i64 (bgN : Int), .slice none 0 0] 29) = W1 at *
  go_fit HW2.out
  rintro e w2 ⟨rfl, hr2, hg2⟩
  rw [show wn xs 0 8 ((wn xs 0 top40 (i, err)).2.1, (wn xs 0 top40 (i, err)).2.2) = wn xs 0 8 (wn xs 0 top40 (i, err)).2 from rfl] at hr2 ⊢
  rw [hcN]
  have hnr : xb ≠ tb := by omega
  have HR3 : Hid (XS w2 xb p n c xs (xRows xs (bgN : Int) (gP xs i err) 0).1.2.1 (xRows xs (bgN : Int) (gP xs i err) 0).1.2.2) := hr2
  have HE3 := Lib.hid (HE2.out.trans (ext_grown hg2))
  have HG3 : Hid (Gv w2 w.heap.size tb [tb] [] (bgN : Int) (xRows xs (bgN : Int) (gP xs i err) 0).1.1 (.slice none 0 0)) := HG2.out.grown hg2 (by simpa using hnr)
  clear hr2 hg2 HR2 HE2 HG2 HW2 HB1 hbg hcN
  go_wp2_with fail
  go_loopw [5, 6, 14] (fun u o v wr => ∃ (k : Nat) (L : List Nat) (lv : Value), u = .int .i64 (lid (xRows xs (bgN : Int) (gP xs i err) k).1.1) ∧ o = .bool (xRows xs (bgN : Int) (gP xs i err) k).2 ∧ v = .int .i64 k ∧ k ≤ cN ∧ Hid (XS wr xb p n c xs (xRows xs (bgN : Int) (gP xs i err) k).1.2.1 (xRows xs (bgN : Int) (gP xs i err) k).1.2.2) ∧ Hid (Gv wr w.heap.size tb L [] (bgN : Int) (xRows xs (bgN : Int) (gP xs i err) k).1.1 lv) ∧ Hid (Ext w [xb] wr [xb]))
    (fun _ _ v _ => cN - (intOf v).toNat)
  case atStart => exact ⟨0, [tb], _, by simp [xRows, lid], rfl, rfl, Nat.zero_le _, HR3, HG3, HE3⟩
  case round =>
    clear HR3 HG3 HE3
    obtain ⟨k, L, lv, rfl, rfl, rfl, hk, hrs, hgv, hex⟩ := hrel
    by_cases hlt : k < cN
    · have ek : IntKind.i64.wrap ((k : Int) + 1) = (k : Int) + 1 := IntWalk.i64_in _ (by omega)
      have hkc : (k : Int) < (cN : Int) := by omega
      have hrL : xb ∉ L := fun hm => by have := hgv.out.low xb hm; omega
      have hPL : ∀ ad, p = some ad → ad.block ∉ L := fun ad h hm => by have := hgv.out.low _ hm; have := HPL.out ad h; omega
      have HPN := Lib.hid hPL
      have HSTEP : Hid (xRows xs (bgN : Int) (gP xs i err) (k + 1) = (((xRows xs (bgN : Int) (gP xs i err) k).1.1 ++ [(gRow xs 0 9223372036854775807 (xRows xs (bgN : Int) (gP xs i err) k).1.2).1], (gRow xs 0 9223372036854775807 (xRows xs (bgN : Int) (gP xs i err) k).1.2).2),
        (xRows xs (bgN : Int) (gP xs i err) k).2 && decide (lid (xRows xs (bgN : Int) (gP xs i err) k).1.1 < (gRow xs 0 9223372036854775807 (xRows xs (bgN : Int) (gP xs i err) k).1.2).1.id) && decide ((gRow xs 0 9223372036854775807 (xRows xs (bgN : Int) (gP xs i err) k).1.2).1.id ≤ (bgN : Int)))) := rfl
      have hlen := xRows_length xs (bgN : Int) (gP xs i err) k
      have HLEN := Lib.hid hlen
      generalize hG : xRows xs (bgN : Int) (gP xs i err) k = G at *
      clear hG
      obtain ⟨⟨l, gi, ge⟩, ok⟩ := G
      simp only at hrs hgv HSTEP HLEN ⊢
      clear hlen hPL
      have HS1 := Lib.hid (XNumber_wn hrs.out)
      obtain ⟨r1v, r1i, r1e, hr1⟩ : ∃ a b c, wn xs 0 9223372036854775807 (gi, ge) = (a, b, c) := ⟨_, _, _, rfl⟩
      obtain ⟨r2v, r2i, r2e, hr2⟩ : ∃ a b c, wn xs 0 top40 (r1i, r1e) = (a, b, c) := ⟨_, _, _, rfl⟩
      obtain ⟨r3v, r3i, r3e, hr3⟩ : ∃ a b c, wn xs 0 1000 (r2i, r2e) = (a, b, c) := ⟨_, _, _, rfl⟩
      obtain ⟨r4v, r4i, r4e, hr4⟩ : ∃ a b c, wn xs 0 top40 (r3i, r3e) = (a, b, c) := ⟨_, _, _, rfl⟩
      have HROW : Hid (gRow xs 0 9223372036854775807 (gi, ge) = (⟨r1v, r2v, r3v, r4v⟩, r4i, r4e)) := by show _ = _; unfold gRow; simp only [hr1, hr2, hr3, hr4]
      have HR1 := Lib.hid hr1
      have HR2 := Lib.hid hr2
      have HR3 := Lib.hid hr3
      have HR4 := Lib.hid hr4
      rw [HR1.out] at HS1
      clear hr1 hr2 hr3 hr4
      go_wp2_with fail
      go_fit HS1.out
      rintro e w3 ⟨rfl, hrs3, hg3⟩
      have HG3 := Lib.hid (hgv.out.grown hg3 hrL)
      have HE3 := Lib.hid (hex.out.trans (ext_grown hg3))
      have hw3 := XWithin_wn hrs3 0 1099511627776
      rw [show (1099511627776 : Int) = top40 from rfl, HR2.out] at hw3
      have HS2 := Lib.hid hw3
      clear hrs3 hg3 hw3 HS1
      go_wp2_with fail
      rw [show (1099511627776 : Int) = top40 from rfl]
      go_fit HS2.out
      rintro e w4 ⟨rfl, hrs4, hg4⟩
      have hba := below_alloc w4 (.cells #[.int .i64 r1v, .int .i64 r2v, .int .i64 0, .int .i64 0] 44)
      have hrl4 : xb < w4.heap.size := Nat.lt_of_lt_of_le hrl (HE3.out.trans (ext_grown hg4)).size
      have hpl4 : ∀ ad, p = some ad → ad.block < w4.heap.size := fun ad h => Nat.lt_of_lt_of_le (HPL.out ad h) (HE3.out.trans (ext_grown hg4)).size
      have HRS4 := Lib.hid (hrs4.ext hrl4 (Ext.of_below (L := []) hba) (by simp) (fun ad h => ⟨hpl4 ad h, by simp⟩))
      have HG4 := Lib.hid ((HG3.out.grown hg4 hrL).below hba)
      have HE4 := Lib.hid ((HE3.out.trans (ext_grown hg4)).more hba)
      have HD4 := Lib.hid (DC.alloc w4 [.int .i64 r1v, .int .i64 r2v, .int .i64 0, .int .i64 0] 44)
      have hsr : xb ≠ w4.heap.size := by omega
      have HSB : Hid (w.heap.size ≤ w4.heap.size) := (HE3.out.trans (ext_grown hg4)).size
      have hsL : w4.heap.size ∉ L := fun hm => by have := (HG3.out.grown hg4 hrL).llt _ hm; omega
      have HSL := Lib.hid hsL
      have HSG : Hid (∀ ad, p = some ad → ad.block ≠ w4.heap.size) := fun ad h => by have := hpl4 ad h; omega
      have hw4 := XWithin_wn HRS4.out 0 1000
      rw [HR3.out] at hw4
      have HS3 := Lib.hid hw4
      clear hrs4 hg4 hw4 HS2 hba hsL hpl4 HG3 HE3
      go_wp2_with fail
      generalize hsb : w4.heap.size = sb at *
      generalize w4.alloc (.cells #[.int .i64 r1v, .int .i64 r2v, .int .i64 0, .int .i64 0] 44) = W4 at *
      go_fit HS3.out
      rintro e w5 ⟨rfl, hrs5, hg5⟩
      have HG5 := Lib.hid (HG4.out.grown hg5 hrL)
      have HE5 := Lib.hid (HE4.out.trans (ext_grown hg5))
      have HD5 := Lib.hid (HD4.out.keep hg5.size (hg5.block sb HD4.out.lt (fun e => hsr (by cases e; rfl))))
      have hw5 := XWithin_wn hrs5 0 1099511627776
      rw [show (1099511627776 : Int) = top40 from rfl, HR4.out] at hw5
      have HS4 := Lib.hid hw5
      clear hrs5 hg5 hw5 HS3 HG4 HE4 HD4 HRS4
      go_wp2_with fail
      rw [show (1099511627776 : Int) = top40 from rfl]
      go_fit HS4.out
      rintro e w6 ⟨rfl, hrs6, hg6⟩
      have HG6 := Lib.hid (HG5.out.grown hg6 hrL)
      have HE6 := Lib.hid (HE5.out.trans (ext_grown hg6))
      have HD6 := HD5.out.keep hg6.size (hg6.block sb HD5.out.lt (fun e => hsr (by cases e; rfl)))
      have e2 := HD6.cells 2 _ rfl
      have e3 := HD6.cells 3 _ rfl
      have f2 := HD6.fz 2
      have f3 := HD6.fz 3
      have hd7 := (HD6.set 2 (.int .i64 r3v) (by simp)).set 3 (.int .i64 r4v) (by simp)
      simp only [List.set_cons_zero, List.set_cons_succ] at hd7
      have hx7 : Ext w6 [sb] ((w6.setCell ⟨sb, 2, none⟩ (.int .i64 r3v)).setCell ⟨sb, 3, none⟩ (.int .i64 r4v)) [sb] := ⟨rfl, rfl, rfl, by simp [World.setCell], fun k _ hk => by
        have hk' : k ≠ sb := fun e => hk (by simp [e])
        rw [Below.heap_setCell _ _ _ _ hk', Below.heap_setCell _ _ _ _ hk'], fun k hk => .inl hk⟩
      have hrl6 : xb < w6.heap.size := Nat.lt_of_lt_of_le hrl HE6.out.size
      have hpl6 : ∀ ad, p = some ad → ad.block < w6.heap.size := fun ad h => Nat.lt_of_lt_of_le (HPL.out ad h) HE6.out.size
      have HRS7 := Lib.hid (hrs6.ext hrl6 hx7 (by simpa using hsr) (fun ad h => ⟨hpl6 ad h, by simpa using HSG.out ad h⟩))
      have HG7 := Lib.hid (HG6.out.keep hx7.size (fun k hk => hx7.block k (HG6.out.llt k hk) (fun hm => HSL.out (by simp at hm; subst hm; exact hk))))
      have HE7 := Lib.hid (HE6.out.aside hx7 (fun k hk => by simp at hk; subst hk; exact HSB.out))
      have HD7 := Lib.hid hd7
      have HRL := Lib.hid (Nat.lt_of_lt_of_le hrl6 hx7.size)
      have HGL := Lib.hid (fun ad h => Nat.lt_of_lt_of_le (hpl6 ad h) hx7.size)
      clear hrs6 hg6 HS4 HG5 HE5 HD5 HG6 HE6 HD6 hd7 hx7 hpl6
      obtain ⟨la, lc, hlv, _, _⟩ := own_slice HG7.out.own
      subst hlv
      have hL1 : l.length + 1 ≤ maxLen := by have := HLEN.out; unfold maxLen; omega
      have hL2 : (l.length + 1) * 32 ≤ 140737488355328 := by have := HLEN.out; omega
      have HL1 := Lib.hid hL1
      have HL2 := Lib.hid hL2
      clear hL1 hL2
      cases ok
      · have b0 := HG7.out.cells.cells 0 _ rfl
        have a0 := HD7.out.cells 0 _ rfl
        go_wp2_with fail
        generalize (w6.setCell ⟨sb, 2, none⟩ (.int .i64 r3v)).setCell ⟨sb, 3, none⟩ (.int .i64 r4v) = W6 at *
        clear e2 e3 f2 f3
        go_region
        all_goals
          have hdr : Below W6.heap.size W6 W6.drew := ⟨rfl, rfl, rfl, Nat.le_refl _, fun _ _ => rfl⟩
          have HGd := Lib.hid (HG7.out.below hdr)
          have HDd := Lib.hid (HD7.out.below hdr)
          have HRd := Lib.hid (HRS7.out.ext HRL.out (Ext.of_below (L := []) hdr) (by simp) (fun ad h => ⟨HGL.out ad h, by simp⟩))
          have HEd := Lib.hid (HE7.out.more hdr)
          have HRLd : Hid (xb < W6.drew.heap.size) := HRL.out
          have HGLd : Hid (∀ ad, p = some ad → ad.block < W6.drew.heap.size) := HGL.out
          clear hdr b0 a0 HG7 HD7 HRS7 HE7 HRL HGL
          generalize W6.drew = W at *
          have s0 := HDd.out.cells 0 _ rfl
          have s1 := HDd.out.cells 1 _ rfl
          have s2 := HDd.out.cells 2 _ rfl
          have s3 := HDd.out.cells 3 _ rfl
          have c1 := HGd.out.cells.cells 1 _ rfl
          have hblt := HGd.out.cells.lt
          have hslt := HDd.out.lt
          have hba := below_alloc W (.cells #[.int .i64 r1v, .int .i64 r2v, .int .i64 r3v, .int .i64 r4v] 44)
          have HB2 : Hid (Below W.heap.size W (W.alloc (.cells #[.int .i64 r1v, .int .i64 r2v, .int .i64 r3v, .int .i64 r4v] 44)).drew) := ⟨hba.os, hba.tape, hba.output, hba.size, hba.block⟩
          have HOwn := Lib.hid (((HGd.out.own.alloc (.cells #[.int .i64 r1v, .int .i64 r2v, .int .i64 r3v, .int .i64 r4v] 44))).drew)
          clear hba
          go_wp2_with fail
          go_region_law (refine step_append_lies _ (by rfl) _ _ _ (by rfl) 0 44 i0 _ 4 32 Try.underlying27 hi hz0 hz1 hz2 rfl (by omega) (.slice la l.length lc) l.length (scs l) (by rfl) HOwn.out ⟨W.heap.size, 0, none⟩ 1 1 [.int .i64 r1v, .int .i64 r2v, .int .i64 r3v, .int .i64 r4v] (by rfl) (by rfl) (World.news_of_block (cs := #[.int .i64 r1v, .int .i64 r2v, .int .i64 r3v, .int .i64 r4v]) (t := 44) (fr := (0, 0)) (heap_alloc_new W _)) (by simp [Value.oneCell']) (by omega) HL1.out HL2.out (by simp) (W.heap.size + 1) (by simp) ?_; intro gg cap' w8 hown8 hgrow hat hlt8; have HWt := Lib.hid (HGd.out.put (n := l.length + 1) (m := l ++ [⟨r1v, r2v, r3v, r4v⟩]) HB2.out hgrow (by simp) (by rw [scs_app]; exact hown8) (hat.imp id (fun e => by omega))); have hDC := (HGd.out.cells.below HB2.out).keep hgrow.size (hgrow.block tb (Nat.lt_of_lt_of_le hblt HB2.out.size) (fun e => (HGd.out.ob tb e.symm).2 rfl)); have y0 := hDC.cells 0 _ rfl; have y1 := hDC.cells 1 _ rfl; have x1 := hDC.fz 1; clear hown8 hgrow hat hDC)
          all_goals
            have HRS9 := Lib.hid (HRd.out.ext HRLd.out HWt.out.2 hrL (fun ad h => ⟨HGLd.out ad h, HPN.out ad h⟩))
            have HE9 := Lib.hid (HEd.out.aside HWt.out.2 (fun k hk => HGd.out.low k hk))
            clear y0 y1 x1
            go_wp2_with fail
            refine ⟨⟨k + 1, [tb, gg], .slice (some ⟨gg, 0, none⟩) (l.length + 1) cap', ?_, ?_, by simp, hlt, ?_, ?_, HE9⟩, by show cN - ((k : Int) + 1).toNat < cN - ((k : Int)).toNat; omega⟩
            · rw [HSTEP.out, lid_snoc, HROW.out]
            · rw [HSTEP.out, HROW.out]
              simp only
              rfl
            · show XS _ _ _ _ _ _ _ _
              rw [HSTEP.out, HROW.out]; exact HRS9.out
            · show Gv _ _ _ _ _ _ _ _
              rw [HSTEP.out, HROW.out]; exact HWt.out.1
      · by_cases h1 : lid l < r1v
        · by_cases h2 : r1v ≤ (bgN : Int)
          · have b0 := HG7.out.cells.cells 0 _ rfl
            have a0 := HD7.out.cells 0 _ rfl
            go_wp2_with fail
            generalize (w6.setCell ⟨sb, 2, none⟩ (.int .i64 r3v)).setCell ⟨sb, 3, none⟩ (.int .i64 r4v) = W6 at *
            clear e2 e3 f2 f3
            go_region
            all_goals
              have hdr : Below W6.heap.size W6 W6.drew := ⟨rfl, rfl, rfl, Nat.le_refl _, fun _ _ => rfl⟩
              have HGd := Lib.hid (HG7.out.below hdr)
              have HDd := Lib.hid (HD7.out.below hdr)
              have HRd := Lib.hid (HRS7.out.ext HRL.out (Ext.of_below (L := []) hdr) (by simp) (fun ad h => ⟨HGL.out ad h, by simp⟩))
              have HEd := Lib.hid (HE7.out.more hdr)
              have HRLd : Hid (xb < W6.drew.heap.size) := HRL.out
              have HGLd : Hid (∀ ad, p = some ad → ad.block < W6.drew.heap.size) := HGL.out
              clear hdr b0 a0 HG7 HD7 HRS7 HE7 HRL HGL
              generalize W6.drew = W at *
              have s0 := HDd.out.cells 0 _ rfl
              have s1 := HDd.out.cells 1 _ rfl
              have s2 := HDd.out.cells 2 _ rfl
              have s3 := HDd.out.cells 3 _ rfl
              have c1 := HGd.out.cells.cells 1 _ rfl
              have hblt := HGd.out.cells.lt
              have hslt := HDd.out.lt
              have hba := below_alloc W (.cells #[.int .i64 r1v, .int .i64 r2v, .int .i64 r3v, .int .i64 r4v] 44)
              have HB2 : Hid (Below W.heap.size W (W.alloc (.cells #[.int .i64 r1v, .int .i64 r2v, .int .i64 r3v, .int .i64 r4v] 44)).drew) := ⟨hba.os, hba.tape, hba.output, hba.size, hba.block⟩
              have HOwn := Lib.hid (((HGd.out.own.alloc (.cells #[.int .i64 r1v, .int .i64 r2v, .int .i64 r3v, .int .i64 r4v] 44))).drew)
              clear hba
              go_wp2_with fail
              go_region_law (refine step_append_lies _ (by rfl) _ _ _ (by rfl) 0 44 i0 _ 4 32 Try.underlying27 hi hz0 hz1 hz2 rfl (by omega) (.slice la l.length lc) l.length (scs l) (by rfl) HOwn.out ⟨W.heap.size, 0, none⟩ 1 1 [.int .i64 r1v, .int .i64 r2v, .int .i64 r3v, .int .i64 r4v] (by rfl) (by rfl) (World.news_of_block (cs := #[.int .i64 r1v, .int .i64 r2v, .int .i64 r3v, .int .i64 r4v]) (t := 44) (fr := (0, 0)) (heap_alloc_new W _)) (by simp [Value.oneCell']) (by omega) HL1.out HL2.out (by simp) (W.heap.size + 1) (by simp) ?_; intro gg cap' w8 hown8 hgrow hat hlt8; have HWt := Lib.hid (HGd.out.put (n := l.length + 1) (m := l ++ [⟨r1v, r2v, r3v, r4v⟩]) HB2.out hgrow (by simp) (by rw [scs_app]; exact hown8) (hat.imp id (fun e => by omega))); have hDC := (HGd.out.cells.below HB2.out).keep hgrow.size (hgrow.block tb (Nat.lt_of_lt_of_le hblt HB2.out.size) (fun e => (HGd.out.ob tb e.symm).2 rfl)); have y0 := hDC.cells 0 _ rfl; have y1 := hDC.cells 1 _ rfl; have x1 := hDC.fz 1; clear hown8 hgrow hat hDC)
              all_goals
                have HRS9 := Lib.hid (HRd.out.ext HRLd.out HWt.out.2 hrL (fun ad h => ⟨HGLd.out ad h, HPN.out ad h⟩))
                have HE9 := Lib.hid (HEd.out.aside HWt.out.2 (fun k hk => HGd.out.low k hk))
                clear y0 y1 x1
                go_wp2_with fail
                refine ⟨⟨k + 1, [tb, gg], .slice (some ⟨gg, 0, none⟩) (l.length + 1) cap', ?_, ?_, by simp, hlt, ?_, ?_, HE9⟩, by show cN - ((k : Int) + 1).toNat < cN - ((k : Int)).toNat; omega⟩
                · rw [HSTEP.out, lid_snoc, HROW.out]
                · rw [HSTEP.out, HROW.out]
                  simp only
                  rw [decide_eq_true (by omega), decide_eq_true (by omega)]; rfl
                · show XS _ _ _ _ _ _ _ _
                  rw [HSTEP.out, HROW.out]; exact HRS9.out
                · show Gv _ _ _ _ _ _ _ _
                  rw [HSTEP.out, HROW.out]; exact HWt.out.1
          · have q2 : decide (r1v ≤ (bgN : Int)) = false := decide_eq_false h2
            have b0 := HG7.out.cells.cells 0 _ rfl
            have a0 := HD7.out.cells 0 _ rfl
            go_wp2_with fail
            generalize (w6.setCell ⟨sb, 2, none⟩ (.int .i64 r3v)).setCell ⟨sb, 3, none⟩ (.int .i64 r4v) = W6 at *
            clear e2 e3 f2 f3
            go_region
            all_goals
              have hdr : Below W6.heap.size W6 W6.drew := ⟨rfl, rfl, rfl, Nat.le_refl _, fun _ _ => rfl⟩
              have HGd := Lib.hid (HG7.out.below hdr)
              have HDd := Lib.hid (HD7.out.below hdr)
              have HRd := Lib.hid (HRS7.out.ext HRL.out (Ext.of_below (L := []) hdr) (by simp) (fun ad h => ⟨HGL.out ad h, by simp⟩))
              have HEd := Lib.hid (HE7.out.more hdr)
              have HRLd : Hid (xb < W6.drew.heap.size) := HRL.out
              have HGLd : Hid (∀ ad, p = some ad → ad.block < W6.drew.heap.size) := HGL.out
              clear hdr b0 a0 HG7 HD7 HRS7 HE7 HRL HGL
              generalize W6.drew = W at *
              have s0 := HDd.out.cells 0 _ rfl
              have s1 := HDd.out.cells 1 _ rfl
              have s2 := HDd.out.cells 2 _ rfl
              have s3 := HDd.out.cells 3 _ rfl
              have c1 := HGd.out.cells.cells 1 _ rfl
              have hblt := HGd.out.cells.lt
              have hslt := HDd.out.lt
              have hba := below_alloc W (.cells #[.int .i64 r1v, .int .i64 r2v, .int .i64 r3v, .int .i64 r4v] 44)
              have HB2 : Hid (Below W.heap.size W (W.alloc (.cells #[.int .i64 r1v, .int .i64 r2v, .int .i64 r3v, .int .i64 r4v] 44)).drew) := ⟨hba.os, hba.tape, hba.output, hba.size, hba.block⟩
              have HOwn := Lib.hid (((HGd.out.own.alloc (.cells #[.int .i64 r1v, .int .i64 r2v, .int .i64 r3v, .int .i64 r4v] 44))).drew)
              clear hba
              go_wp2_with fail
              go_region_law (refine step_append_lies _ (by rfl) _ _ _ (by rfl) 0 44 i0 _ 4 32 Try.underlying27 hi hz0 hz1 hz2 rfl (by omega) (.slice la l.length lc) l.length (scs l) (by rfl) HOwn.out ⟨W.heap.size, 0, none⟩ 1 1 [.int .i64 r1v, .int .i64 r2v, .int .i64 r3v, .int .i64 r4v] (by rfl) (by rfl) (World.news_of_block (cs := #[.int .i64 r1v, .int .i64 r2v, .int .i64 r3v, .int .i64 r4v]) (t := 44) (fr := (0, 0)) (heap_alloc_new W _)) (by simp [Value.oneCell']) (by omega) HL1.out HL2.out (by simp) (W.heap.size + 1) (by simp) ?_; intro gg cap' w8 hown8 hgrow hat hlt8; have HWt := Lib.hid (HGd.out.put (n := l.length + 1) (m := l ++ [⟨r1v, r2v, r3v, r4v⟩]) HB2.out hgrow (by simp) (by rw [scs_app]; exact hown8) (hat.imp id (fun e => by omega))); have hDC := (HGd.out.cells.below HB2.out).keep hgrow.size (hgrow.block tb (Nat.lt_of_lt_of_le hblt HB2.out.size) (fun e => (HGd.out.ob tb e.symm).2 rfl)); have y0 := hDC.cells 0 _ rfl; have y1 := hDC.cells 1 _ rfl; have x1 := hDC.fz 1; clear hown8 hgrow hat hDC)
              all_goals
                have HRS9 := Lib.hid (HRd.out.ext HRLd.out HWt.out.2 hrL (fun ad h => ⟨HGLd.out ad h, HPN.out ad h⟩))
                have HE9 := Lib.hid (HEd.out.aside HWt.out.2 (fun k hk => HGd.out.low k hk))
                clear y0 y1 x1
                go_wp2_with fail
                refine ⟨⟨k + 1, [tb, gg], .slice (some ⟨gg, 0, none⟩) (l.length + 1) cap', ?_, ?_, by simp, hlt, ?_, ?_, HE9⟩, by show cN - ((k : Int) + 1).toNat < cN - ((k : Int)).toNat; omega⟩
                · rw [HSTEP.out, lid_snoc, HROW.out]
                · rw [HSTEP.out, HROW.out]
                  simp only
                  rw [decide_eq_true (by omega), decide_eq_false (by omega)]; rfl
                · show XS _ _ _ _ _ _ _ _
                  rw [HSTEP.out, HROW.out]; exact HRS9.out
                · show Gv _ _ _ _ _ _ _ _
                  rw [HSTEP.out, HROW.out]; exact HWt.out.1
        · have q1 : decide (lid l < r1v) = false := decide_eq_false h1
          have b0 := HG7.out.cells.cells 0 _ rfl
          have a0 := HD7.out.cells 0 _ rfl
          go_wp2_with fail
          generalize (w6.setCell ⟨sb, 2, none⟩ (.int .i64 r3v)).setCell ⟨sb, 3, none⟩ (.int .i64 r4v) = W6 at *
          clear e2 e3 f2 f3
          go_region
          all_goals
            have hdr : Below W6.heap.size W6 W6.drew := ⟨rfl, rfl, rfl, Nat.le_refl _, fun _ _ => rfl⟩
            have HGd := Lib.hid (HG7.out.below hdr)
            have HDd := Lib.hid (HD7.out.below hdr)
            have HRd := Lib.hid (HRS7.out.ext HRL.out (Ext.of_below (L := []) hdr) (by simp) (fun ad h => ⟨HGL.out ad h, by simp⟩))
            have HEd := Lib.hid (HE7.out.more hdr)
            have HRLd : Hid (xb < W6.drew.heap.size) := HRL.out
            have HGLd : Hid (∀ ad, p = some ad → ad.block < W6.drew.heap.size) := HGL.out
            clear hdr b0 a0 HG7 HD7 HRS7 HE7 HRL HGL
            generalize W6.drew = W at *
            have s0 := HDd.out.cells 0 _ rfl
            have s1 := HDd.out.cells 1 _ rfl
            have s2 := HDd.out.cells 2 _ rfl
            have s3 := HDd.out.cells 3 _ rfl
            have c1 := HGd.out.cells.cells 1 _ rfl
            have hblt := HGd.out.cells.lt
            have hslt := HDd.out.lt
            have hba := below_alloc W (.cells #[.int .i64 r1v, .int .i64 r2v, .int .i64 r3v, .int .i64 r4v] 44)
            have HB2 : Hid (Below W.heap.size W (W.alloc (.cells #[.int .i64 r1v, .int .i64 r2v, .int .i64 r3v, .int .i64 r4v] 44)).drew) := ⟨hba.os, hba.tape, hba.output, hba.size, hba.block⟩
            have HOwn := Lib.hid (((HGd.out.own.alloc (.cells #[.int .i64 r1v, .int .i64 r2v, .int .i64 r3v, .int .i64 r4v] 44))).drew)
            clear hba
            go_wp2_with fail
            go_region_law (refine step_append_lies _ (by rfl) _ _ _ (by rfl) 0 44 i0 _ 4 32 Try.underlying27 hi hz0 hz1 hz2 rfl (by omega) (.slice la l.length lc) l.length (scs l) (by rfl) HOwn.out ⟨W.heap.size, 0, none⟩ 1 1 [.int .i64 r1v, .int .i64 r2v, .int .i64 r3v, .int .i64 r4v] (by rfl) (by rfl) (World.news_of_block (cs := #[.int .i64 r1v, .int .i64 r2v, .int .i64 r3v, .int .i64 r4v]) (t := 44) (fr := (0, 0)) (heap_alloc_new W _)) (by simp [Value.oneCell']) (by omega) HL1.out HL2.out (by simp) (W.heap.size + 1) (by simp) ?_; intro gg cap' w8 hown8 hgrow hat hlt8; have HWt := Lib.hid (HGd.out.put (n := l.length + 1) (m := l ++ [⟨r1v, r2v, r3v, r4v⟩]) HB2.out hgrow (by simp) (by rw [scs_app]; exact hown8) (hat.imp id (fun e => by omega))); have hDC := (HGd.out.cells.below HB2.out).keep hgrow.size (hgrow.block tb (Nat.lt_of_lt_of_le hblt HB2.out.size) (fun e => (HGd.out.ob tb e.symm).2 rfl)); have y0 := hDC.cells 0 _ rfl; have y1 := hDC.cells 1 _ rfl; have x1 := hDC.fz 1; clear hown8 hgrow hat hDC)
            all_goals
              have HRS9 := Lib.hid (HRd.out.ext HRLd.out HWt.out.2 hrL (fun ad h => ⟨HGLd.out ad h, HPN.out ad h⟩))
              have HE9 := Lib.hid (HEd.out.aside HWt.out.2 (fun k hk => HGd.out.low k hk))
              clear y0 y1 x1
              go_wp2_with fail
              refine ⟨⟨k + 1, [tb, gg], .slice (some ⟨gg, 0, none⟩) (l.length + 1) cap', ?_, ?_, by simp, hlt, ?_, ?_, HE9⟩, by show cN - ((k : Int) + 1).toNat < cN - ((k : Int)).toNat; omega⟩
              · rw [HSTEP.out, lid_snoc, HROW.out]
              · rw [HSTEP.out, HROW.out]
                simp only
                rw [decide_eq_false (by omega)]; rfl
              · show XS _ _ _ _ _ _ _ _
                rw [HSTEP.out, HROW.out]; exact HRS9.out
              · show Gv _ _ _ _ _ _ _ _
                rw [HSTEP.out, HROW.out]; exact HWt.out.1
    · obtain rfl : k = cN := by omega
      have hga := HGA.out
      have hgb := HBG.out
      generalize hG : xRows xs (bgN : Int) (gP xs i err) k = G at *
      obtain ⟨⟨l, gi, ge⟩, ok⟩ := G
      simp only at hrs hgv ⊢
      have c2 := hrs.out.c2
      cases ok
      · go_wp2_with fail
        (try simp only [Exit.inBlock, Exit.then])
        refine bodyPost_ret (v := .tuple #[.pointer none, .bool false]) (by simp [results, Try.results33, go_sem]) rfl ?_
        exact ⟨by rw [hga]; exact hrs.out, hex.out, .inl ⟨.inr (by rw [hga]), rfl⟩⟩
      · by_cases h0 : ge = 0
        · subst h0
          go_wp2_with fail
          (try simp only [Exit.inBlock, Exit.then])
          refine bodyPost_ret (v := .tuple #[.pointer (some ⟨tb, 0, none⟩), .bool true]) (by simp [results, Try.results33, go_sem]) rfl ?_
          refine ⟨by rw [hga]; exact hrs.out, hex.out, .inr ⟨by rw [hga], by rw [hga], tb, L, lv, rfl, ?_⟩⟩
          rw [hga, hgb]
          exact hgv.out
        · have h1 : (ge == 0) = false := by simpa using h0
          go_wp2_with fail
          (try simp only [Exit.inBlock, Exit.then])
          refine bodyPost_ret (v := .tuple #[.pointer none, .bool false]) (by simp [results, Try.results33, go_sem]) rfl ?_
          exact ⟨by rw [hga]; exact hrs.out, hex.out, .inl ⟨.inl (by rw [hga]; exact h0), rfl⟩⟩
end Go.Proofs.Ytnfpobbdcjfcoaa
