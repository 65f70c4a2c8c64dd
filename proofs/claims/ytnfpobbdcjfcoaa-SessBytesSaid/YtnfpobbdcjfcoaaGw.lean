/-
  Walks: a table is read.
-/
import Derived.Test.YtnfpobbdcjfcoaaGp
import Derived.Test.YtnfpobbdcjfcoaaB12
namespace Go.Proofs.Ytnfpobbdcjfcoaa
set_option linter.unusedVariables false
set_option linter.unusedSimpArgs false
open Go.RowKit
variable {w : World} {rb g n cap : Nat} {xs : List Int} {i : Nat} {err : Int} {B b : Nat} {L : List Nat}

theorem Within_wn (h : RS w rb g n cap xs i err) (lo hi : Int) :
    Calls Try.prog 44 #[.pointer (some ⟨rb, 0, none⟩), .int .i64 lo, .int .i64 hi] w (Out (.int .i64 (wn xs lo hi (i, err)).1) w rb g n cap xs (wn xs lo hi (i, err)).2.1 (wn xs lo hi (i, err)).2.2) := by
  have hw := Within_rs h lo hi
  by_cases he : err = 0
  · rw [if_neg (by simpa using he)] at hw
    unfold wn
    rw [if_neg (by simpa using he)]
    exact hw
  · rw [if_pos he] at hw
    rw [wn_err (p := (i, err)) he]
    exact hw
theorem wn_nat (xs : List Int) (lo hi : Int) (p : Nat × Int) (hh : 0 ≤ hi) : ∃ N : Nat, (wn xs lo hi p).1 = N ∧ (N : Int) ≤ hi := by
  have h := wn_range (xs := xs) (lo := lo) (hi := hi) (p := p) (.inr trivial)
  exact ⟨(wn xs lo hi p).1.toNat, by omega, by omega⟩
theorem lid_range (xs : List Int) (bg : Int) (p : Nat × Int) (hb : 0 ≤ bg) : ∀ k, 0 ≤ lid (gRows xs bg p k).1 ∧ lid (gRows xs bg p k).1 ≤ bg
  | 0 => by simp [gRows, lid]; exact hb
  | k + 1 => by
    simp only [gRows, lid_snoc]
    have h := wn_range (xs := xs) (lo := lid (gRows xs bg p k).1 + 1) (hi := bg) (p := (gRows xs bg p k).2) (.inr trivial)
    simp only [gRow]
    omega

/-- A table's memory while it is made: its block, and the row of its sessions, if there is one. -/
structure Gv (w : World) (B b : Nat) (L : List Nat) (tl : List Value) (bg : Int) (l : List Se) (v : Value) : Prop where
  cells : DC w b (.int .i64 bg :: v :: tl)
  own : w.ownsRow 0 44 4 v l.length (scs l)
  at_ : (L = [b] ∧ v = .slice none 0 0 ∧ l = []) ∨ ∃ g c, L = [b, g] ∧ g ≠ b ∧ v = .slice (some ⟨g, 0, none⟩) l.length c ∧ l.length ≤ c ∧ c ≤ 9223372036854775807
  low : ∀ k ∈ L, B ≤ k
variable {tl : List Value} {bg : Int} {l : List Se} {v : Value}
theorem Gv.bL (h : Gv w B b L tl bg l v) : b ∈ L := by
  rcases h.at_ with ⟨rfl, _⟩ | ⟨g, c, rfl, _⟩ <;> simp
theorem Gv.ob (h : Gv w B b L tl bg l v) : ∀ g, v.ownBlock = some g → g ∈ L ∧ g ≠ b := by
  intro g hg
  rcases h.at_ with ⟨_, rfl, _⟩ | ⟨g', c, rfl, hne, rfl, _⟩
  · cases hg
  · cases hg; exact ⟨by simp, hne⟩
theorem Gv.llt (h : Gv w B b L tl bg l v) : ∀ k ∈ L, k < w.heap.size := by
  rcases h.at_ with ⟨rfl, _⟩ | ⟨g, c, rfl, _, hv, _⟩
  · intro k hk; obtain rfl : k = b := by simpa using hk
    exact h.cells.lt
  · intro k hk
    have ho := h.own
    rw [hv] at ho
    rcases List.mem_cons.1 hk with rfl | hk
    · exact h.cells.lt
    · obtain rfl : k = g := by simpa using hk
      exact (ho.lt k rfl).2
theorem Gv.keep {w' : World} (h : Gv w B b L tl bg l v) (hs : w.heap.size ≤ w'.heap.size) (hk : ∀ k ∈ L, w'.heap[k]? = w.heap[k]?) : Gv w' B b L tl bg l v := by
  refine ⟨h.cells.keep hs (hk b h.bL), ?_, h.at_, h.low⟩
  have ho := h.own
  refine ⟨ho.1, ?_⟩
  rcases ho.2 with h0 | ⟨g, cap, cur, hv, hg, hh, rest⟩
  · exact .inl h0
  · refine .inr ⟨g, cap, cur, hv, hg, ?_, rest⟩
    rw [hk g (h.ob g (by rw [hv]; rfl)).1]; exact hh
theorem Gv.grown {w' : World} (h : Gv w B b L tl bg l v) (hg : w.grownBy w' (some rb)) (hr : rb ∉ L) : Gv w' B b L tl bg l v :=
  h.keep hg.size (fun k hk => hg.block k (h.llt k hk) (fun e => hr (by cases e; exact hk)))
theorem Gv.below {w' : World} (h : Gv w B b L tl bg l v) (hb : Below w.heap.size w w') : Gv w' B b L tl bg l v :=
  h.keep hb.size (fun k hk => hb.block k (h.llt k hk))
/-- The row is another one; its slice is laid. -/
theorem Gv.put {W w3 : World} {gg c n : Nat} {m : List Se} (h : Gv w B b L tl bg l v) (hb : Below w.heap.size w W) (hg : W.grownBy w3 v.ownBlock) (hn : n = m.length) (hown : w3.ownsRow 0 44 4 (.slice (some ⟨gg, 0, none⟩) n c) n (scs m)) (hat : v.ownBlock = some gg ∨ w.heap.size ≤ gg) :
    Gv (w3.setCell ⟨b, 1, none⟩ (.slice (some ⟨gg, 0, none⟩) n c)) B b [b, gg] tl bg m (.slice (some ⟨gg, 0, none⟩) n c) ∧ Ext w L (w3.setCell ⟨b, 1, none⟩ (.slice (some ⟨gg, 0, none⟩) n c)) [b, gg] := by
  subst hn
  have hblt := h.cells.lt
  have hne : gg ≠ b := by
    rcases hat with e | e
    · exact (h.ob gg e).2
    · omega
  have hc3 : DC w3 b (.int .i64 bg :: v :: tl) := (h.cells.below hb).keep hg.size (hg.block b (Nat.lt_of_lt_of_le hblt hb.size) (fun e => (h.ob b e.symm).2 rfl))
  have hc := hc3.set 1 (.slice (some ⟨gg, 0, none⟩) m.length c) (by simp)
  simp only [List.set_cons_zero, List.set_cons_succ] at hc
  have hgg : gg ∈ L ∨ w.heap.size ≤ gg := hat.imp (fun e => (h.ob gg e).1) id
  have hsl : m.length ≤ c ∧ c ≤ 9223372036854775807 := by
    rcases hown.2 with ⟨h0, _⟩ | ⟨g', cap, cur, hv, _, _, hn, hm, _⟩
    · cases h0
    · simp only [Value.slice.injEq] at hv
      unfold maxLen at hm
      omega
  have hg2 : w3.grownBy (w3.setCell ⟨b, 1, none⟩ (.slice (some ⟨gg, 0, none⟩) m.length c)) (some b) := ⟨rfl, rfl, rfl, by simp [World.setCell], fun k _ hk => Below.heap_setCell _ _ _ _ (fun e => hk (by rw [e]))⟩
  refine ⟨⟨hc, hown.kept hg2 (.inr (by simp [Value.ownBlock, hne])), .inr ⟨gg, c, rfl, hne, rfl, hsl.1, hsl.2⟩, fun k hk => ?_⟩, ?_⟩
  · rcases List.mem_cons.1 hk with rfl | hk
    · exact h.low _ h.bL
    · obtain rfl : k = gg := by simpa using hk
      rcases hgg with e | e
      · exact h.low _ e
      · have := h.low b h.bL; omega
  · refine ⟨hg.os.trans hb.os, hg.tape.trans hb.tape, hg.output.trans hb.output, Nat.le_trans (Nat.le_trans hb.size hg.size) hg2.size, fun k hk hn => ?_, fun k hk => ?_⟩
    · rw [hg2.block k (Nat.lt_of_lt_of_le hk (Nat.le_trans hb.size hg.size)) (fun e => hn (by cases e; exact h.bL)), hg.block k (Nat.lt_of_lt_of_le hk hb.size) (fun e => hn ((h.ob k e.symm).1)), hb.block k hk]
    · rcases List.mem_cons.1 hk with rfl | hk
      · exact .inl h.bL
      · obtain rfl : k = gg := by simpa using hk
        exact hgg

theorem RS.ext {w' : World} {L L' : List Nat} (h : RS w rb g n cap xs i err) (hrl : rb < w.heap.size) (hgl : g < w.heap.size) (he : Ext w L w' L') (hr : rb ∉ L) (hg : g ∉ L) : RS w' rb g n cap xs i err := by
  have kr := he.block rb hrl hr
  have kg := he.block g hgl hg
  refine ⟨(World.cell?_of_block (a := ⟨rb, 0, none⟩) kr).trans h.c0, (World.cell?_of_block (a := ⟨rb, 1, none⟩) kr).trans h.c1, (World.cell?_of_block (a := ⟨rb, 2, none⟩) kr).trans h.c2, (World.cell?_of_block (a := ⟨rb, 3, none⟩) kr).trans h.c3, (World.frozen?_of_block (a := ⟨rb, 1, none⟩) kr).trans h.f1, (World.frozen?_of_block (a := ⟨rb, 2, none⟩) kr).trans h.f2, ?_, h.len, h.ncap, h.ile, h.gne, h.rng, h.nb⟩
  intro hn
  obtain ⟨b', o', hh, hc⟩ := h.inn hn
  simp only [Option.some.injEq, Addr.mk.injEq] at hh
  obtain ⟨rfl, rfl, _⟩ := hh
  exact ⟨g, 0, rfl, fun j hj => (World.cell?_of_block (a := ⟨g, 0 + j, none⟩) kg).trans (hc j hj)⟩
theorem RS.below {w' : World} (h : RS w rb g n cap xs i err) (hrl : rb < w.heap.size) (hgl : g < w.heap.size) (hb : Below w.heap.size w w') : RS w' rb g n cap xs i err := h.ext hrl hgl (Ext.of_below (L := []) hb) (by simp) (by simp)
theorem ext_grown {w' : World} (hg : w.grownBy w' (some rb)) : Ext w [rb] w' [rb] := ⟨hg.os, hg.tape, hg.output, hg.size, fun k hk hn => hg.block k hk (fun e => hn (by cases e; simp)), fun k hk => .inl hk⟩
/-- What was there, but a reader, is as it was, though blocks that are new have turned. -/
theorem Ext.aside {W w' : World} {L L' : List Nat} (h : Ext w [rb] W [rb]) (he : Ext W L w' L') (hL : ∀ k ∈ L, w.heap.size ≤ k) : Ext w [rb] w' [rb] :=
  ⟨he.os.trans h.os, he.tape.trans h.tape, he.output.trans h.output, Nat.le_trans h.size he.size, fun k hk hn => (he.block k (Nat.lt_of_lt_of_le hk h.size) (fun hm => by have := hL k hm; omega)).trans (h.block k hk hn), fun k hk => .inl hk⟩
theorem Ext.more {W w' : World} (h : Ext w [rb] W [rb]) (hb : Below W.heap.size W w') : Ext w [rb] w' [rb] := h.aside (L := []) (Ext.of_below hb) (by simp)

/-- What a table is read as. -/
def gBg (xs : List Int) (i : Nat) (err : Int) : Int := (wn xs 0 top40 (i, err)).1
def gCn (xs : List Int) (i : Nat) (err : Int) : Int := (wn xs 0 8 (wn xs 0 top40 (i, err)).2).1
def gP (xs : List Int) (i : Nat) (err : Int) : Nat × Int := (wn xs 0 8 (wn xs 0 top40 (i, err)).2).2
def gAll (xs : List Int) (i : Nat) (err : Int) : List Se × Nat × Int := gRows xs (gBg xs i err) (gP xs i err) (gCn xs i err).toNat
def GotR (w : World) (rb g n cap : Nat) (xs : List Int) (i : Nat) (err : Int) (e : Ending) (w' : World) : Prop :=
  RS w' rb g n cap xs (gAll xs i err).2.1 (gAll xs i err).2.2 ∧ Ext w [rb] w' [rb] ∧
  (((gAll xs i err).2.2 ≠ 0 ∧ e = .returned (.tuple #[.pointer none, .bool false])) ∨
   ((gAll xs i err).2.2 = 0 ∧ ∃ b L, e = .returned (.tuple #[.pointer (some ⟨b, 0, none⟩), .bool true]) ∧ Tk w' w.heap.size b L ⟨gBg xs i err, (gAll xs i err).1⟩))

set_option maxRecDepth 100000 in
set_option maxHeartbeats 12800000 in
theorem Get_any (h : RS w rb g n cap xs i err) (hrl : rb < w.heap.size) (hgl : g < w.heap.size) : Calls Try.prog 31 #[.pointer (some ⟨rb, 0, none⟩)] w (GotR w rb g n cap xs i err) := by
  obtain ⟨i0, hi, hz0, hz1, hz2⟩ := info_parts Try.infoSeat
  have HW1 := Lib.hid (Within_wn h 0 1099511627776)
  obtain ⟨bgN, hbg, hbg2⟩ := wn_nat xs 0 top40 (i, err) (by decide)
  obtain ⟨cN, hcN, hcN2⟩ := wn_nat xs 0 8 (wn xs 0 top40 (i, err)).2 (by decide)
  have HBG : Hid (gBg xs i err = (bgN : Int)) := hbg
  have HCN : Hid (gCn xs i err = (cN : Int)) := hcN
  have hbg3 : (bgN : Int) ≤ 1099511627776 := hbg2
  have HGA : Hid (gAll xs i err = gRows xs (bgN : Int) (gP xs i err) cN) := by show _ = _; unfold gAll; rw [HBG.out, HCN.out]; simp
  have HLR := Lib.hid (fun k => lid_range xs (bgN : Int) (gP xs i err) (by omega) k)
  clear h
  go_enter Try.func31, Try.ntmps31
  go_wp2_with fail
  go_fit HW1.out
  rintro e w1 ⟨rfl, hr1, hg1⟩
  rw [show (1099511627776 : Int) = top40 from rfl] at hr1 ⊢
  rw [hbg]
  have HB1 := Lib.hid (below_alloc w1 (.cells #[.int .i64 (bgN : Int), .slice none 0 0, .bool true] 68))
  have hrl1 := Nat.lt_of_lt_of_le hrl hg1.size
  have hgl1 := Nat.lt_of_lt_of_le hgl hg1.size
  have HR2 := Lib.hid (hr1.below hrl1 hgl1 HB1.out)
  have HE2 := Lib.hid ((ext_grown hg1).more HB1.out)
  have HG2 : Hid (Gv (w1.alloc (.cells #[.int .i64 (bgN : Int), .slice none 0 0, .bool true] 68)) w.heap.size w1.heap.size [w1.heap.size] [.bool true] (bgN : Int) [] (.slice none 0 0)) := ⟨DC.alloc w1 [.int .i64 (bgN : Int), .slice none 0 0, .bool true] _, World.ownsRow_nil _ _ _ _, .inl ⟨rfl, rfl, rfl⟩, fun k hk => by simp at hk; subst hk; exact hg1.size⟩
  have HT : Hid (w.heap.size ≤ w1.heap.size) := hg1.size
  have HW2 := Lib.hid (Within_wn HR2.out 0 8)
  clear HW1 hr1 hg1
  go_wp2_with fail
  generalize w1.heap.size = tb at *
  generalize w1.alloc (.cells #[.int .i64 (bgN : Int), .slice none 0 0, .bool true] 68) = W1 at *
  go_fit HW2.out
  rintro e w2 ⟨rfl, hr2, hg2⟩
  rw [show wn xs 0 8 ((wn xs 0 top40 (i, err)).2.1, (wn xs 0 top40 (i, err)).2.2) = wn xs 0 8 (wn xs 0 top40 (i, err)).2 from rfl] at hr2 ⊢
  rw [hcN]
  have hnr : rb ≠ tb := by omega
  have HR3 : Hid (RS w2 rb g n cap xs (gRows xs (bgN : Int) (gP xs i err) 0).2.1 (gRows xs (bgN : Int) (gP xs i err) 0).2.2) := hr2
  have HE3 := Lib.hid (HE2.out.trans (ext_grown hg2))
  have HG3 : Hid (Gv w2 w.heap.size tb [tb] [.bool true] (bgN : Int) (gRows xs (bgN : Int) (gP xs i err) 0).1 (.slice none 0 0)) := HG2.out.grown hg2 (by simpa using hnr)
  clear hr2 hg2 HR2 HE2 HG2 HW2 HB1 hbg hcN
  go_wp2_with fail
  go_loopw [5, 13] (fun u v wr => ∃ (k : Nat) (L : List Nat) (lv : Value), u = .int .i64 (lid (gRows xs (bgN : Int) (gP xs i err) k).1) ∧ v = .int .i64 k ∧ k ≤ cN ∧ Hid (RS wr rb g n cap xs (gRows xs (bgN : Int) (gP xs i err) k).2.1 (gRows xs (bgN : Int) (gP xs i err) k).2.2) ∧ Hid (Gv wr w.heap.size tb L [.bool true] (bgN : Int) (gRows xs (bgN : Int) (gP xs i err) k).1 lv) ∧ Hid (Ext w [rb] wr [rb]))
    (fun _ v _ => cN - (intOf v).toNat)
  case atStart => exact ⟨0, [tb], _, by simp [gRows, lid], rfl, Nat.zero_le _, HR3, HG3, HE3⟩
  case round =>
    clear HR3 HG3 HE3
    obtain ⟨k, L, lv, rfl, rfl, hk, hrs, hgv, hex⟩ := hrel
    by_cases hlt : k < cN
    · have ek : IntKind.i64.wrap ((k : Int) + 1) = (k : Int) + 1 := IntWalk.i64_in _ (by omega)
      have hlr := HLR.out k
      have el : IntKind.i64.wrap (lid (gRows xs (bgN : Int) (gP xs i err) k).1 + 1) = lid (gRows xs (bgN : Int) (gP xs i err) k).1 + 1 := IntWalk.i64_in _ (by omega)
      have hkc : (k : Int) < (cN : Int) := by omega
      have hrL : rb ∉ L := fun hm => by have := hgv.out.low rb hm; omega
      have hgL : g ∉ L := fun hm => by have := hgv.out.low g hm; omega
      have HSTEP : Hid (gRows xs (bgN : Int) (gP xs i err) (k + 1) = ((gRows xs (bgN : Int) (gP xs i err) k).1 ++ [(gRow xs (lid (gRows xs (bgN : Int) (gP xs i err) k).1 + 1) (bgN : Int) (gRows xs (bgN : Int) (gP xs i err) k).2).1], (gRow xs (lid (gRows xs (bgN : Int) (gP xs i err) k).1 + 1) (bgN : Int) (gRows xs (bgN : Int) (gP xs i err) k).2).2)) := rfl
      have hlen := gRows_length xs (bgN : Int) (gP xs i err) k
      have HLEN := Lib.hid hlen
      generalize hG : gRows xs (bgN : Int) (gP xs i err) k = G at *
      clear hG
      obtain ⟨l, gi, ge⟩ := G
      simp only at hrs hgv hlr el HSTEP HLEN ⊢
      clear hlen
      have HS1 := Lib.hid (Within_wn hrs.out (lid l + 1) (bgN : Int))
      obtain ⟨r1v, r1i, r1e, hr1⟩ : ∃ a b c, wn xs (lid l + 1) (bgN : Int) (gi, ge) = (a, b, c) := ⟨_, _, _, rfl⟩
      obtain ⟨r2v, r2i, r2e, hr2⟩ : ∃ a b c, wn xs 0 top40 (r1i, r1e) = (a, b, c) := ⟨_, _, _, rfl⟩
      obtain ⟨r3v, r3i, r3e, hr3⟩ : ∃ a b c, wn xs 0 1000 (r2i, r2e) = (a, b, c) := ⟨_, _, _, rfl⟩
      obtain ⟨r4v, r4i, r4e, hr4⟩ : ∃ a b c, wn xs 0 top40 (r3i, r3e) = (a, b, c) := ⟨_, _, _, rfl⟩
      have HROW : Hid (gRow xs (lid l + 1) (bgN : Int) (gi, ge) = (⟨r1v, r2v, r3v, r4v⟩, r4i, r4e)) := by show _ = _; unfold gRow; simp only [hr1, hr2, hr3, hr4]
      have HR1 := Lib.hid hr1
      have HR2 := Lib.hid hr2
      have HR3 := Lib.hid hr3
      have HR4 := Lib.hid hr4
      rw [HR1.out] at HS1
      have b0 := hgv.out.cells.cells 0 _ rfl
      clear hr1 hr2 hr3 hr4
      go_wp2_with fail
      go_fit HS1.out
      rintro e w3 ⟨rfl, hrs3, hg3⟩
      have HG3 := Lib.hid (hgv.out.grown hg3 hrL)
      have HE3 := Lib.hid (hex.out.trans (ext_grown hg3))
      have hw3 := Within_wn hrs3 0 1099511627776
      rw [show (1099511627776 : Int) = top40 from rfl, HR2.out] at hw3
      have HS2 := Lib.hid hw3
      clear hrs3 hg3 hw3 HS1 b0
      go_wp2_with fail
      rw [show (1099511627776 : Int) = top40 from rfl]
      go_fit HS2.out
      rintro e w4 ⟨rfl, hrs4, hg4⟩
      have hba := below_alloc w4 (.cells #[.int .i64 r1v, .int .i64 r2v, .int .i64 0, .int .i64 0] 44)
      have hrl4 : rb < w4.heap.size := Nat.lt_of_lt_of_le hrl (HE3.out.trans (ext_grown hg4)).size
      have hgl4 : g < w4.heap.size := Nat.lt_of_lt_of_le hgl (HE3.out.trans (ext_grown hg4)).size
      have HRS4 := Lib.hid (hrs4.below hrl4 hgl4 hba)
      have HG4 := Lib.hid ((HG3.out.grown hg4 hrL).below hba)
      have HE4 := Lib.hid ((HE3.out.trans (ext_grown hg4)).more hba)
      have HD4 := Lib.hid (DC.alloc w4 [.int .i64 r1v, .int .i64 r2v, .int .i64 0, .int .i64 0] 44)
      have hsr : rb ≠ w4.heap.size := by omega
      have HSB : Hid (w.heap.size ≤ w4.heap.size) := (HE3.out.trans (ext_grown hg4)).size
      have hsL : w4.heap.size ∉ L := fun hm => by have := (HG3.out.grown hg4 hrL).llt _ hm; omega
      have HSL := Lib.hid hsL
      have hsg : g ≠ w4.heap.size := by omega
      have HSG := Lib.hid hsg
      have hw4 := Within_wn HRS4.out 0 1000
      rw [HR3.out] at hw4
      have HS3 := Lib.hid hw4
      have hrl5 := hba.size
      clear hrs4 hg4 hw4 HS2 hba hsL hsg HG3 HE3
      go_wp2_with fail
      generalize hsb : w4.heap.size = sb at *
      generalize w4.alloc (.cells #[.int .i64 r1v, .int .i64 r2v, .int .i64 0, .int .i64 0] 44) = W4 at *
      go_fit HS3.out
      rintro e w5 ⟨rfl, hrs5, hg5⟩
      have HG5 := Lib.hid (HG4.out.grown hg5 hrL)
      have HE5 := Lib.hid (HE4.out.trans (ext_grown hg5))
      have HD5 := Lib.hid (HD4.out.keep hg5.size (hg5.block sb HD4.out.lt (fun e => hsr (by cases e; rfl))))
      have hw5 := Within_wn hrs5 0 1099511627776
      rw [show (1099511627776 : Int) = top40 from rfl, HR4.out] at hw5
      have HS4 := Lib.hid hw5
      clear hrs5 hg5 hw5 HS3 HG4 HE4 HD4 HRS4
      go_wp2_with fail
      rw [show (1099511627776 : Int) = top40 from rfl]
      go_fit HS4.out
      rintro e w6 ⟨rfl, hrs6, hg6⟩
      have HG6 := Lib.hid (HG5.out.grown hg6 hrL)
      have HE6 := Lib.hid (HE5.out.trans (ext_grown hg6))
      have HD6 := HD5.out.keep hg6.size (hg6.block sb HD5.out.lt (fun e => hsr (by cases e; rfl)))
      have e2 := HD6.cells 2 _ rfl
      have e3 := HD6.cells 3 _ rfl
      have f2 := HD6.fz 2
      have f3 := HD6.fz 3
      have hd7 := (HD6.set 2 (.int .i64 r3v) (by simp)).set 3 (.int .i64 r4v) (by simp)
      simp only [List.set_cons_zero, List.set_cons_succ] at hd7
      have hx7 : Ext w6 [sb] ((w6.setCell ⟨sb, 2, none⟩ (.int .i64 r3v)).setCell ⟨sb, 3, none⟩ (.int .i64 r4v)) [sb] := ⟨rfl, rfl, rfl, by simp [World.setCell], fun k _ hk => by
        have hk' : k ≠ sb := fun e => hk (by simp [e])
        rw [Below.heap_setCell _ _ _ _ hk', Below.heap_setCell _ _ _ _ hk'], fun k hk => .inl hk⟩
      have hrl6 : rb < w6.heap.size := Nat.lt_of_lt_of_le hrl HE6.out.size
      have hgl6 : g < w6.heap.size := Nat.lt_of_lt_of_le hgl HE6.out.size
      have HRS7 := Lib.hid (hrs6.ext hrl6 hgl6 hx7 (by simpa using hsr) (by simpa using HSG.out))
      have HG7 := Lib.hid (HG6.out.keep hx7.size (fun k hk => hx7.block k (HG6.out.llt k hk) (fun hm => HSL.out (by simp at hm; subst hm; exact hk))))
      have HE7 := Lib.hid (HE6.out.aside hx7 (fun k hk => by simp at hk; subst hk; exact HSB.out))
      have HD7 := Lib.hid hd7
      have HRL := Lib.hid (Nat.lt_of_lt_of_le hrl6 hx7.size)
      have HGL := Lib.hid (Nat.lt_of_lt_of_le hgl6 hx7.size)
      clear hrs6 hg6 HS4 HG5 HE5 HD5 HG6 HE6 HD6 hd7 hx7
      go_wp2_with fail
      generalize (w6.setCell ⟨sb, 2, none⟩ (.int .i64 r3v)).setCell ⟨sb, 3, none⟩ (.int .i64 r4v) = W at *
      clear e2 e3 f2 f3
      have c1 := HG7.out.cells.cells 1 _ rfl
      have s0 := HD7.out.cells 0 _ rfl
      have s1 := HD7.out.cells 1 _ rfl
      have s2 := HD7.out.cells 2 _ rfl
      have s3 := HD7.out.cells 3 _ rfl
      have hblt := HG7.out.cells.lt
      have hslt := HD7.out.lt
      obtain ⟨la, lc, hlv, _, _⟩ := own_slice HG7.out.own
      subst hlv
      have hba := below_alloc W (.cells #[.int .i64 r1v, .int .i64 r2v, .int .i64 r3v, .int .i64 r4v] 44)
      have HB2 : Hid (Below W.heap.size W (W.alloc (.cells #[.int .i64 r1v, .int .i64 r2v, .int .i64 r3v, .int .i64 r4v] 44)).drew) := ⟨hba.os, hba.tape, hba.output, hba.size, hba.block⟩
      have HOwn := Lib.hid (((HG7.out.own.alloc (.cells #[.int .i64 r1v, .int .i64 r2v, .int .i64 r3v, .int .i64 r4v] 44))).drew)
      have hL1 : l.length + 1 ≤ maxLen := by have := HLEN.out; unfold maxLen; omega
      have hL2 : (l.length + 1) * 32 ≤ 140737488355328 := by have := HLEN.out; omega
      have HL1 := Lib.hid hL1
      have HL2 := Lib.hid hL2
      clear hba hL1 hL2
      go_wp2_with fail
      go_region_law (refine step_append_lies _ (by rfl) _ _ _ (by rfl) 0 44 i0 _ 4 32 Try.underlying27 hi hz0 hz1 hz2 rfl (by omega) (.slice la l.length lc) l.length (scs l) (by rfl) HOwn.out ⟨W.heap.size, 0, none⟩ 1 1 [.int .i64 r1v, .int .i64 r2v, .int .i64 r3v, .int .i64 r4v] (by rfl) (by rfl) (World.news_of_block (cs := #[.int .i64 r1v, .int .i64 r2v, .int .i64 r3v, .int .i64 r4v]) (t := 44) (fr := (0, 0)) (heap_alloc_new W _)) (by simp [Value.oneCell']) (by omega) HL1.out HL2.out (by simp) (W.heap.size + 1) (by simp) ?_; intro gg cap' w8 hown8 hgrow hat hlt8; have HWt := Lib.hid (HG7.out.put (n := l.length + 1) (m := l ++ [⟨r1v, r2v, r3v, r4v⟩]) HB2.out hgrow (by simp) (by rw [scs_app]; exact hown8) (hat.imp id (fun e => by omega))); have hDC := (HG7.out.cells.below HB2.out).keep hgrow.size (hgrow.block tb (Nat.lt_of_lt_of_le hblt HB2.out.size) (fun e => (HG7.out.ob tb e.symm).2 rfl)); have y0 := hDC.cells 0 _ rfl; have y1 := hDC.cells 1 _ rfl; have x1 := hDC.fz 1; clear hown8 hgrow hat hDC)
      all_goals
        have HRS9 := Lib.hid (HRS7.out.ext HRL.out HGL.out HWt.out.2 hrL hgL)
        have HE9 := Lib.hid (HE7.out.aside HWt.out.2 (fun k hk => HG7.out.low k hk))
        clear y0 y1 x1
        go_wp2_with fail
        refine ⟨⟨k + 1, [tb, gg], .slice (some ⟨gg, 0, none⟩) (l.length + 1) cap', ?_, by simp, hlt, ?_, ?_, HE9⟩, by show cN - ((k : Int) + 1).toNat < cN - ((k : Int)).toNat; omega⟩
        · rw [HSTEP.out, lid_snoc, HROW.out]
        · show RS _ _ _ _ _ _ _ _
          rw [HSTEP.out, HROW.out]; exact HRS9.out
        · show Gv _ _ _ _ _ _ _ _
          rw [HSTEP.out, HROW.out]; exact HWt.out.1
    · obtain rfl : k = cN := by omega
      have hga := HGA.out
      have hgb := HBG.out
      have hrl9 := Nat.lt_of_lt_of_le hrl hex.out.size
      have HER := Lib.hid (Err_rs hrs.out)
      go_wp2_with fail
      go_fit HER.out
      rintro e w9 ⟨rfl, rfl⟩
      generalize hG : gRows xs (bgN : Int) (gP xs i err) k = G at *
      obtain ⟨l, gi, ge⟩ := G
      simp only at hrs hgv HER ⊢
      by_cases h0 : ge = 0
      · subst h0
        go_wp2_with fail
        (try simp only [Exit.inBlock, Exit.then])
        refine bodyPost_ret (v := .tuple #[.pointer (some ⟨tb, 0, none⟩), .bool true]) (by simp [results, Try.results31, go_sem]) rfl ?_
        refine ⟨by rw [hga]; exact hrs.out, hex.out, .inr ⟨by rw [hga], tb, L, rfl, lv, ?_⟩⟩
        rw [hga, hgb]
        exact ⟨hgv.out.cells, hgv.out.own, hgv.out.at_, hgv.out.low⟩
      · have h1 : (ge == 0) = false := by simpa using h0
        go_wp2_with fail
        (try simp only [Exit.inBlock, Exit.then])
        refine bodyPost_ret (v := .tuple #[.pointer none, .bool false]) (by simp [results, Try.results31, go_sem]) rfl ?_
        exact ⟨by rw [hga]; exact hrs.out, hex.out, .inl ⟨by rw [hga]; exact h0, rfl⟩⟩
end Go.Proofs.Ytnfpobbdcjfcoaa
