/-
  K22 K23 in one text.
-/
import Derived.Test.YtdfjnpnkfjcpcaaKRA

/- K22 -/
namespace Go.Proofs.Ytdfjnpnkfjcpcaa
set_option linter.unusedVariables false
set_option linter.unusedSimpArgs false
open Go.RowKit

theorem put1_take1 (L : List Pr) (e : Kev) : put1 L ⟨e.key, e.has, e.now⟩ = take1 L e := rfl
theorem put1_look {L : List Pr} (h : Sorted L) (o : Kop) (k : ByteArray) : look (put1 L o) k = if k = o.key then opv o else look L k :=
  take1_look h ⟨0, o.key, false, ByteArray.empty, o.has, o.val⟩ k
def puts (L : List Pr) (ops : List Kop) : List Pr := ops.foldl put1 L
theorem puts_step (L : List Pr) {ops : List Kop} {i : Nat} {o : Kop} (h : ops[i]? = some o) : puts L (ops.take (i + 1)) = put1 (puts L (ops.take i)) o := by
  unfold puts
  rw [List.take_add_one, h, List.foldl_append]; rfl
theorem puts_sorted : ∀ (ops : List Kop) {L : List Pr}, Sorted L → Sorted (puts L ops)
  | [], _, h => h
  | o :: ops, _, h => puts_sorted ops (put1_sorted h o)
theorem puts_len : ∀ (ops : List Kop) (L : List Pr), (puts L ops).length ≤ L.length + ops.length
  | [], L => Nat.le_refl _
  | o :: ops, L => by
    have h1 := puts_len ops (put1 L o)
    have h2 := put1_len L o
    have e : puts L (o :: ops) = puts (put1 L o) ops := rfl
    rw [e, List.length_cons]; omega
theorem puts_look : ∀ (l : List Kop) {M : List Pr}, Sorted M → Unlike l → (∀ o ∈ l, look (puts M l) o.key = opv o) ∧ ∀ k, (∀ o ∈ l, o.key ≠ k) → look (puts M l) k = look M k
  | [], M, _, _ => ⟨fun o ho => (by cases ho), fun k _ => rfl⟩
  | o :: l, M, hs, hu => by
    have h1 := (List.pairwise_cons.1 hu).1
    obtain ⟨ih1, ih2⟩ := puts_look l (put1_sorted hs o) (List.pairwise_cons.1 hu).2
    refine ⟨fun x hx => ?_, fun k hk => ?_⟩
    · rcases List.mem_cons.1 hx with rfl | hx
      · exact (ih2 x.key (fun q hq => (h1 q hq).symm)).trans (by rw [put1_look hs, if_pos rfl])
      · exact ih1 x hx
    · exact (ih2 k (fun q hq => hk q (by simp [hq]))).trans (by rw [put1_look hs, if_neg (fun e => hk o (by simp) e.symm)])
theorem puts_chg {L : List Pr} (hs : Sorted L) (pos : Int) {ops : List Kop} (hu : Unlike ops) : puts L ops = takes L (chg L pos ops) := by
  obtain ⟨a1, a2⟩ := puts_look ops hs hu
  obtain ⟨b1, b2⟩ := chg_look hs pos hu
  refine sorted_ext (puts_sorted _ hs) (takes_sorted _ hs) (fun k => ?_)
  by_cases e : ∃ o ∈ ops, o.key = k
  · obtain ⟨o, ho, rfl⟩ := e
    rw [a1 o ho, b1 o ho]
  · rw [a2 k (fun o ho e' => e ⟨o, ho, e'⟩), b2 k (fun o ho e' => e ⟨o, ho, e'⟩)]
theorem puts_lenE {L : List Pr} (hs : Sorted L) (pos : Int) {ops : List Kop} (hu : Unlike ops) : (((puts L ops).length : Nat) : Int) = lenE L.length (chg L pos ops) := by
  rw [puts_chg hs pos hu]
  exact chain_len _ hs (chg_chain hs pos hu)
theorem puts_un : ∀ (l : List Kop) (M : List Pr), l.all (·.has) = true → puts M l = un M (oprs l)
  | [], M, _ => rfl
  | o :: l, M, h => by
    have h' : o.has = true ∧ l.all (·.has) = true := by simpa using h
    have e : puts M (o :: l) = puts (put1 M o) l := rfl
    rw [e, puts_un l _ h'.2]
    unfold put1
    rw [if_pos h'.1]
    rfl
/-! two values that lie apart -/
def Apart (e b : Value) : Prop := ∀ g off n c, b = .slice (some ⟨g, off, none⟩) n c → some g ≠ e.ownBlock
theorem apart_none (b : Value) : Apart (.slice none 0 0) b := fun g off n c _ h => by simp [Value.ownBlock] at h
theorem apart_new {α β : Type} {I : Lay α} {J : Lay β} {E F : TypeId} {w0 w1 w2 : World} {e b : Value} {es : List α} {bs : List β} (he : Rw I E w0 w1 e es) (hb : Rw J F w1 w2 b bs) : Apart e b := by
  intro g off n c hv eq
  have h1 := (he.lt g eq.symm).2
  rcases hb.own.2 with ⟨h0, _⟩ | ⟨g', cap, cur, h0, hg, _⟩
  · rw [hv] at h0; simp at h0
  · rw [hv] at h0
    simp only [Value.slice.injEq, Option.some.injEq, Addr.mk.injEq] at h0
    have := h0.1.1
    omega
theorem Lay.In.grownR {α : Type} {I : Lay α} {w w' : World} {e v : Value} {l : List α} (h : I.In w v l) (hg : w.grownBy w' e.ownBlock) (ho : Apart e v) : I.In w' v l := by
  obtain ⟨a, c, hv, h1, h2, h⟩ := h
  refine ⟨a, c, hv, h1, h2, h.imp id ?_⟩
  rintro ⟨g, off, ha, hlt, h⟩
  exact ⟨g, off, ha, Nat.lt_of_lt_of_le hlt hg.size, h.block (hg.block g hlt (ho g off l.length c (by rw [hv, ha])))⟩

def RTakeP (x : Nat) (L : List Pr) (w : World) (e : Ending) (w' : World) : Prop := e = .returned (.tuple #[]) ∧ Mr w' x L ∧ w.grownBy w' (some x)
set_option maxRecDepth 100000 in
set_option maxHeartbeats 6400000 in
theorem RTake {w : World} {x : Nat} {L : List Pr} {v : Value} {es : List Kev} (h : Mr w x L) (he : evL.In w v es) (hl : L.length + es.length ≤ 1000000) :
    Calls Try.prog 25 #[.pointer (some ⟨x, 0, none⟩), v] w (RTakeP x (takes L es) w) := by
  have HM := Lib.hid h
  have HD := Lib.hid he
  obtain ⟨a, c, rfl, hc1, hc2⟩ := he.slice
  have HLL := Lib.hid hl
  clear h he
  go_enter Try.func25, Try.ntmps25
  go_wp2_with fail
  go_loopw [8] (fun v wr => ∃ i : Nat, v = .int .i64 i ∧ i ≤ es.length ∧ Hid (Mr wr x (takes L (es.take i))) ∧ Hid (w.grownBy wr (some x)))
    (fun v _ => es.length - (intOf v).toNat)
  case atStart => exact ⟨0, rfl, Nat.zero_le _, HM, grown_of_below (Below.refl _ _) _⟩
  case round =>
    obtain ⟨i, rfl, hin, hMr, hgr⟩ := hrel
    have ei : IntKind.i64.wrap ((i : Int) + 1) = (i : Int) + 1 := IntWalk.i64_in _ (by have := HLL.out; omega)
    by_cases hlt : i < es.length
    · obtain ⟨o, ho⟩ : ∃ o, es[i]? = some o := ⟨es[i], List.getElem?_eq_getElem hlt⟩
      have HI := HM.out.keepE HD.out hgr.out
      obtain ⟨g, off, rfl, hle, hcell⟩ := HI.cells ho
      have c0 : wr.cell? ⟨g, off + i * 6, none⟩ = some (.int .i64 o.pos) := hcell 0 _ rfl
      have c1 : wr.cell? ⟨g, off + i * 6 + 1, none⟩ = some (.string o.key) := hcell 1 _ rfl
      have c2 : wr.cell? ⟨g, off + i * 6 + 2, none⟩ = some (.bool o.had) := hcell 2 _ rfl
      have c3 : wr.cell? ⟨g, off + i * 6 + 3, none⟩ = some (.string o.old) := hcell 3 _ rfl
      have c4 : wr.cell? ⟨g, off + i * 6 + 4, none⟩ = some (.bool o.has) := hcell 4 _ rfl
      have c5 : wr.cell? ⟨g, off + i * 6 + 5, none⟩ = some (.string o.now) := hcell 5 _ rfl
      have hI1 : (i : Int) < ((es.length : Nat) : Int) := by omega
      have hI0 : (0 : Int) ≤ (i : Int) := by omega
      have hA := lay_alloc wr (.cells #[.int .i64 o.pos, .string o.key, .bool o.had, .string o.old, .bool o.has, .string o.now] 32)
      have hMA := hMr.out.below hA
      have HST := Lib.hid (takes_step L ho)
      have hML : (takes L (es.take i)).length ≤ 1000000 := by have h1 := takes_len (es.take i) L; have h2 : (es.take i).length ≤ i := List.length_take_le _ _; have := HLL.out; omega
      generalize takes L (es.take i) = M at *
      obtain ⟨ma, mc, hmc, hmi, hms⟩ := hMA.slice
      have HP := Lib.hid (rput_any (w := (wr.alloc (.cells #[.int .i64 o.pos, .string o.key, .bool o.had, .string o.old, .bool o.has, .string o.now] 32)).drew) ⟨o.key, o.has, o.now⟩ (hmi.later (lay_drew (Below.refl _ _))) hms hML)
      have HMA := Lib.hid hMA
      have hC1 := kd_boxS wr #[.int .i64 o.pos, .string o.key, .bool o.had, .string o.old, .bool o.has, .string o.now] 32 1 _ rfl
      have hC4 := kd_boxS wr #[.int .i64 o.pos, .string o.key, .bool o.had, .string o.old, .bool o.has, .string o.now] 32 4 _ rfl
      have hC5 := kd_boxS wr #[.int .i64 o.pos, .string o.key, .bool o.had, .string o.old, .bool o.has, .string o.now] 32 5 _ rfl
      have HGr := Lib.hid (grown_then hgr.out (grown_of_below hA (some x)))
      have HCB : Hid ((wr.alloc (.cells #[.int .i64 o.pos, .string o.key, .bool o.had, .string o.old, .bool o.has, .string o.now] 32)).cell? ⟨x, 0, none⟩ = some (.slice ma M.length mc)) := by show _ = _; rw [cell_of_row _ x 0 _ _ (0, 0) hmc]; rfl
      have HFB := Lib.hid (frozen_of_row _ x 0 _ _ hmc)
      clear hcell hle ho hgr hMr hA hMA hmc hmi hms hML HI
      go_wp2_with fail
      have q0 := HCB.out
      have f0 := HFB.out
      go_region_with ((go_at_call 53; (with_reducible refine HP.out.mono ?_); rintro e w2 ⟨v2, rfl, hr2⟩; have HR2 := Lib.hid hr2; obtain ⟨va, vc, hv2, _, _⟩ := hr2.slice; subst hv2; have q2 := lay_later (w := (wr.alloc (.cells #[.int .i64 o.pos, .string o.key, .bool o.had, .string o.old, .bool o.has, .string o.now] 32)).drew) hr2.grown HCB.out; have f2 := (hr2.grown.frozen (p := ⟨x, 0, none⟩) HMA.out.lt).trans HFB.out; clear hr2 q0 f0))
      all_goals
        go_wp2_with fail
        refine ⟨⟨i + 1, by simp, hlt, ?_, ?_⟩, by show es.length - ((i : Int) + 1).toNat < es.length - ((i : Int)).toNat; omega⟩
        · show Mr _ _ _
          rw [HST.out]
          exact (HMA.out.below ((lay_drew (Below.refl _ _)).trans HR2.out.grown)).set (L' := take1 M o) HR2.out.told (take1_sorted HMA.out.sorted o)
        · exact grown_then (grown_then HGr.out (grown_of_below ((lay_drew (Below.refl _ _)).trans HR2.out.grown) _)) grown_put
    · obtain rfl : i = es.length := by omega
      have HR : Hid (Mr wr x (takes L es)) := by have h := hMr.out; rw [List.take_length] at h; exact h
      go_wp2_with fail
      go_end0
      exact ⟨rfl, HR.out, hgr.out⟩

def RSetP (x : Nat) (L : List Pr) (l : List Kop) (w : World) (e : Ending) (w' : World) : Prop := e = .returned (.int .i64 (setE l)) ∧ Mr w' x (setL L l) ∧ w.grownBy w' (some x)
theorem RSetP.no {x : Nat} {L : List Pr} {l : List Kop} {w w' : World} {n : Int} (hn : setE l = n) (h0 : n ≠ 0) (hm : Mr w x L) (hb : Below w.heap.size w w') : RSetP x L l w (.returned (.int .i64 n)) w' :=
  ⟨by rw [hn], by unfold setL; rw [hn, if_neg h0]; exact hm.below hb, grown_of_below hb _⟩
set_option maxRecDepth 100000 in
set_option maxHeartbeats 6400000 in
theorem RSet {w : World} {x : Nat} {L : List Pr} {v : Value} {l : List Kop} (h : Mr w x L) (ho : opL.In w v l) (so : Small l) (lo : l.length ≤ 1000000) :
    Calls Try.prog 20 #[.pointer (some ⟨x, 0, none⟩), v] w (RSetP x L l w) := by
  have HM := Lib.hid h
  have HD := Lib.hid ho
  obtain ⟨a, c, rfl, hc1, hc2⟩ := ho.slice
  have HMay := Lib.hid (rRight_any ho so (by omega))
  unfold MayP at HMay
  clear h ho so
  by_cases h24 : l.length ≤ 24
  · have hI24 : ¬ ((24 : Int) < ((l.length : Nat) : Int)) := by omega
    have HE := Lib.hid (setE_in (l := l) h24)
    generalize hmay : mayE l = n at *
    by_cases hn : n = 0
    · subst hn
      have HE0 := Lib.hid (HE.out rfl)
      clear HE
      have HE := HE0
      clear HE0 hmay
      go_enter Try.func20, Try.ntmps20
      go_wp2_with fail
      go_fit HMay.out
      rintro e w1 ⟨rfl, hb1⟩
      have HB1 := Lib.hid hb1
      clear hb1 HMay
      go_wp2_with fail
      go_loopw [6, 19] (fun u v wr => ∃ (i : Nat), v = .int .i64 i ∧ i ≤ l.length ∧ Hid (Below w.heap.size w wr) ∧ Hid (opL.In wr u (opsOf (puts [] (l.take i)))) ∧ Hid ((l.take i).all (·.has) = true))
        (fun _ v _ => l.length - (intOf v).toNat)
      case atStart => exact ⟨0, rfl, Nat.zero_le _, HB1, Lay.In.nil (I := opL) _, rfl⟩
      case round =>
        obtain ⟨i, rfl, hin, hB, hU, hA⟩ := hrel
        have ei : IntKind.i64.wrap ((i : Int) + 1) = (i : Int) + 1 := IntWalk.i64_in _ (by omega)
        obtain ⟨ua, uc, hu, _, _⟩ := hU.out.slice
        by_cases hlt : i < l.length
        · obtain ⟨o, ho⟩ : ∃ o, l[i]? = some o := ⟨l[i], List.getElem?_eq_getElem hlt⟩
          obtain ⟨g, off, rfl, hle, hcell⟩ := HD.out.cells ho
          have c0 : wr.cell? ⟨g, off + i * 3, none⟩ = some (.string o.key) := lay_later hB.out (hcell 0 _ rfl)
          have c1 : wr.cell? ⟨g, off + i * 3 + 1, none⟩ = some (.bool o.has) := lay_later hB.out (hcell 1 _ rfl)
          have c2 : wr.cell? ⟨g, off + i * 3 + 2, none⟩ = some (.string o.val) := lay_later hB.out (hcell 2 _ rfl)
          have hI1 : (i : Int) < ((l.length : Nat) : Int) := by omega
          have hI0 : (0 : Int) ≤ (i : Int) := by omega
          have HSt := Lib.hid (puts_step [] ho)
          have HAl := Lib.hid (all_has ho)
          have HO := Lib.hid ho
          have hML : (puts [] (l.take i)).length ≤ 1000000 := by have h1 := puts_len (l.take i) []; have h2 : (l.take i).length ≤ i := List.length_take_le _ _; simp at h1; omega
          have hA1 := lay_alloc wr (.cells #[.string o.key, .bool o.has, .string o.val] 37)
          have HP := Lib.hid (rput_any o (hU.out.later hA1) (puts_sorted (l.take i) trivial) hML)
          have HB2 := Lib.hid (below_of hB.out hA1)
          have HC := Lib.hid (kd_boxS wr #[.string o.key, .bool o.has, .string o.val] 37)
          subst hu
          clear hcell hle ho hU hA1 hML
          cases hh : o.has with
          | false =>
            have HF : Hid (setE l = 61) := by
              show _ = _
              rw [HE.out, if_neg]
              intro e
              have := List.all_eq_true.1 e o (List.mem_of_getElem? HO.out)
              rw [hh] at this; cases this
            rw [hh] at c1 HB2 HC
            have hC1 := HC.out 1 _ rfl
            clear HE hA hh HP
            go_wp2_with fail
            go_ret
            exact RSetP.no HF.out (by decide) HM.out HB2.out
          | true =>
            have HA2 : Hid ((l.take (i + 1)).all (·.has) = true) := by show _ = _; rw [HAl.out, hA.out, hh]; rfl
            rw [hh] at c1 HB2 HC HP
            have hC0 := HC.out 0 _ rfl
            have hC1 := HC.out 1 _ rfl
            have hC2 := HC.out 2 _ rfl
            clear hA hh
            generalize puts [] (l.take i) = M at *
            go_wp2_with fail
            go_fit HP.out
            rintro e w2 ⟨v2, rfl, hr2⟩
            have HB3 := Lib.hid (below_of HB2.out hr2.grown)
            have HU2 : Hid (opL.In w2 v2 (opsOf (puts [] (l.take (i + 1))))) := by show opL.In _ _ _; rw [HSt.out]; exact hr2.told
            clear hr2 HP
            go_wp2_with fail
            exact ⟨⟨i + 1, by simp, hlt, HB3, HU2, HA2⟩, by show l.length - ((i : Int) + 1).toNat < l.length - ((i : Int)).toNat; omega⟩
        · obtain rfl : i = l.length := by omega
          have hAl := hA.out
          rw [List.take_length] at hU hAl hu
          subst hu
          have HS0 : Hid (setE l = 0) := by show _ = _; rw [HE.out, if_pos hAl]
          have HSL : Hid (setL L l = puts [] l) := by show _ = _; unfold setL; rw [HS0.out, if_pos rfl, puts_un l [] hAl]
          have HMr := Lib.hid (HM.out.below hB.out)
          have HMS := Lib.hid (HMr.out.set hU.out (puts_sorted l trivial))
          obtain ⟨q1, q2, q3, _, _⟩ := HMr.out.slice
          have q0 : wr.cell? ⟨x, 0, none⟩ = some (.slice q1 L.length q2) := by rw [cell_of_row _ x 0 _ _ (0, 0) q3]; rfl
          have f0 := frozen_of_row _ x 0 _ _ q3
          clear hA hAl HE q3
          go_wp2_with fail
          go_ret
          exact ⟨by rw [HS0.out]; rfl, by rw [HSL.out]; exact HMS.out, grown_then (grown_of_below hB.out (some x)) grown_put⟩
    · have HF : Hid (setE l = n) := by show _ = _; unfold setE; rw [if_neg (by omega), if_pos (by rw [hmay]; exact hn), hmay]
      have hn1 : (n == 0) = false := by simpa using hn
      clear HE hmay
      go_enter Try.func20, Try.ntmps20
      go_wp2_with fail
      go_fit HMay.out
      rintro e w1 ⟨rfl, hb1⟩
      have HB1 := Lib.hid hb1
      clear hb1 HMay
      go_wp2_with fail
      go_ret
      exact RSetP.no HF.out hn HM.out HB1.out
  · have hI24 : ((24 : Int) < ((l.length : Nat) : Int)) := by omega
    have HF : Hid (setE l = 7) := by show _ = _; unfold setE; rw [if_pos (by omega)]
    clear HMay
    go_enter Try.func20, Try.ntmps20
    go_wp2_with fail
    go_ret
    exact RSetP.no HF.out (by decide) HM.out (Below.refl _ _)
end Go.Proofs.Ytdfjnpnkfjcpcaa

/- K23 -/
namespace Go.Proofs.Ytdfjnpnkfjcpcaa
set_option linter.unusedVariables false
set_option linter.unusedSimpArgs false
open Go.RowKit

theorem chg_new {L : List Pr} {pos : Int} {ops : List Kop} {i : Nat} {o : Kop} (h : ops[i]? = some o) (p q : Bool) (v : ByteArray) (r : Bool) (hp : hasB L o.key = p) (hv : val1 L o.key = v) (hI : isB L o = r) (hr : r = false) (hq : o.has = q) : chg L pos (ops.take (i + 1)) = chg L pos (ops.take i) ++ [⟨pos, o.key, p, v, q, o.val⟩] := by
  rw [chg_step L pos h, if_neg (by rw [hI, hr]; simp)]
  unfold evOf
  rw [hp, hv, hq]
theorem chg_old {L : List Pr} {pos : Int} {ops : List Kop} {i : Nat} {o : Kop} (h : ops[i]? = some o) (r : Bool) (hI : isB L o = r) (hr : r = true) : chg L pos (ops.take (i + 1)) = chg L pos (ops.take i) := by
  rw [chg_step L pos h, if_pos (by rw [hI, hr])]
theorem apart_old {α β : Type} {I : Lay α} {J : Lay β} {E F : TypeId} {w0 w1 w2 : World} {e b : Value} {es : List α} {bs : List β} (he : Rw I E w0 w1 e es) (hb : Rw J F w1 w2 b bs) : Apart e b := apart_new he hb

set_option maxRecDepth 100000 in
set_option maxHeartbeats 12800000 in
theorem RPlan {w : World} {x : Nat} {L : List Pr} {u v : Value} {conds ops : List Kop} (pos : Int) (h : Mr w x L) (hc : opL.In w u conds) (ho : opL.In w v ops) (sc : Small conds) (so : Small ops) (lc : conds.length ≤ 1000000) (lo : ops.length ≤ 1000000) (hL : L.length ≤ 1000) :
    Calls Try.prog 18 #[.pointer (some ⟨x, 0, none⟩), .int .i64 pos, u, v] w (PlanP (plan L pos conds ops) w) := by
  have HM := Lib.hid h
  have HC := Lib.hid (rCheck_any hc ho sc so (by omega) (by omega))
  have HCI := Lib.hid hc
  have HOI := Lib.hid ho
  have HLo := Lib.hid lo
  have HLL := Lib.hid hL
  obtain ⟨a, c, rfl, hc1, hc2⟩ := hc.slice
  obtain ⟨a', c', rfl, _, _⟩ := ho.slice
  clear h hc ho sc so hL
  by_cases hk : ckE conds ops = 0
  · have HC' : Hid (Calls Try.prog 34 #[.slice a conds.length c, .slice a' ops.length c'] w fun e w' => e = .returned (.int .i64 0) ∧ Below w.heap.size w w') := by show Calls _ _ _ _ _; have h := HC.out; unfold CkP at h; rw [hk] at h; exact h
    have HK := Lib.hid hk
    clear hk HC
    go_enter Try.func18, Try.ntmps18
    go_wp2_with fail
    go_fit HC'.out
    rintro e w1 ⟨rfl, hb1⟩
    have HB1 := Lib.hid hb1
    clear hb1 HC'
    go_wp2_with fail
    go_loopw [29] (fun v wr => ∃ i : Nat, v = .int .i64 i ∧ i ≤ conds.length ∧ Hid ((conds.take i).all (isB L) = true) ∧ Hid (Below w.heap.size w wr))
      (fun v _ => conds.length - (intOf v).toNat)
    case atStart => exact ⟨0, rfl, Nat.zero_le _, rfl, HB1⟩
    case round =>
      obtain ⟨i, rfl, hin, hT, hbw⟩ := hrel
      have ei : IntKind.i64.wrap ((i : Int) + 1) = (i : Int) + 1 := IntWalk.i64_in _ (by omega)
      by_cases hlt : i < conds.length
      · obtain ⟨o, ho⟩ : ∃ o, conds[i]? = some o := ⟨conds[i], List.getElem?_eq_getElem hlt⟩
        obtain ⟨g, off, rfl, hle, hcell⟩ := HCI.out.cells ho
        have c0 : wr.cell? ⟨g, off + i * 3, none⟩ = some (.string o.key) := lay_later hbw.out (hcell 0 _ rfl)
        have c1 : wr.cell? ⟨g, off + i * 3 + 1, none⟩ = some (.bool o.has) := lay_later hbw.out (hcell 1 _ rfl)
        have c2 : wr.cell? ⟨g, off + i * 3 + 2, none⟩ = some (.string o.val) := lay_later hbw.out (hcell 2 _ rfl)
        have hI1 : (i : Int) < ((conds.length : Nat) : Int) := by omega
        have hI0 : (0 : Int) ≤ (i : Int) := by omega
        have hA := lay_alloc wr (.cells #[.string o.key, .bool o.has, .string o.val] 37)
        have HB := Lib.hid (below_of hbw.out hA)
        have HO := Lib.hid ho
        have hG := RGet o.key ((HM.out.below hbw.out).below hA) (by have := HLL.out; omega)
        have hC := kd_boxS wr #[.string o.key, .bool o.has, .string o.val] 37
        unfold GetP at hG
        generalize hp : hasB L o.key = p at hG
        generalize hq : val1 L o.key = q at hG
        have hI : isB L o = ((p == o.has) && decide (q = o.val)) := by unfold isB; rw [hp, hq]
        have hqv : (q.toList == o.val.toList) = decide (q = o.val) := ba_eq q o.val
        have HB := HB
        clear hcell hle ho hbw hA hp hq
        cases hd : decide (q = o.val) <;> rw [hd] at hqv hI <;> cases p <;> cases hh : o.has <;> rw [hh] at hI hG HB hC c1
        · have hI : isB L o = false := hI.trans rfl
          have HE : Hid (plan L pos conds ops = ([], 60)) := by show _ = _; unfold plan; rw [if_pos HK.out, if_neg (by rw [all_miss HO.out hI]; simp)]
          clear hI hd hh
          go_wp2_with fail
          go_fit hG
          rintro e w2 ⟨rfl, hb2⟩
          have d0 := lay_later hb2 (hC 0 _ rfl)
          have d1 := lay_later hb2 (hC 1 _ rfl)
          have d2 := lay_later hb2 (hC 2 _ rfl)
          have HB2 := Lib.hid (below_of HB.out hb2)
          clear hb2
          go_wp2_with fail
          go_ret2
          exact PlanP.of HE.out (Rw.none HB2.out)
        · have hI : isB L o = false := hI.trans rfl
          have HE : Hid (plan L pos conds ops = ([], 60)) := by show _ = _; unfold plan; rw [if_pos HK.out, if_neg (by rw [all_miss HO.out hI]; simp)]
          clear hI hd hh
          go_wp2_with fail
          go_fit hG
          rintro e w2 ⟨rfl, hb2⟩
          have d0 := lay_later hb2 (hC 0 _ rfl)
          have d1 := lay_later hb2 (hC 1 _ rfl)
          have d2 := lay_later hb2 (hC 2 _ rfl)
          have HB2 := Lib.hid (below_of HB.out hb2)
          clear hb2
          go_wp2_with fail
          go_ret2
          exact PlanP.of HE.out (Rw.none HB2.out)
        · have hI : isB L o = false := hI.trans rfl
          have HE : Hid (plan L pos conds ops = ([], 60)) := by show _ = _; unfold plan; rw [if_pos HK.out, if_neg (by rw [all_miss HO.out hI]; simp)]
          clear hI hd hh
          go_wp2_with fail
          go_fit hG
          rintro e w2 ⟨rfl, hb2⟩
          have d0 := lay_later hb2 (hC 0 _ rfl)
          have d1 := lay_later hb2 (hC 1 _ rfl)
          have d2 := lay_later hb2 (hC 2 _ rfl)
          have HB2 := Lib.hid (below_of HB.out hb2)
          clear hb2
          go_wp2_with fail
          go_ret2
          exact PlanP.of HE.out (Rw.none HB2.out)
        · have hI : isB L o = false := hI.trans rfl
          have HE : Hid (plan L pos conds ops = ([], 60)) := by show _ = _; unfold plan; rw [if_pos HK.out, if_neg (by rw [all_miss HO.out hI]; simp)]
          clear hI hd hh
          go_wp2_with fail
          go_fit hG
          rintro e w2 ⟨rfl, hb2⟩
          have d0 := lay_later hb2 (hC 0 _ rfl)
          have d1 := lay_later hb2 (hC 1 _ rfl)
          have d2 := lay_later hb2 (hC 2 _ rfl)
          have HB2 := Lib.hid (below_of HB.out hb2)
          clear hb2
          go_wp2_with fail
          go_ret2
          exact PlanP.of HE.out (Rw.none HB2.out)
        · have hI : isB L o = true := hI.trans rfl
          have HT2 : Hid ((conds.take (i + 1)).all (isB L) = true) := by show _ = _; rw [all_step HO.out, hT.out, hI]; rfl
          clear hI hd hh
          go_wp2_with fail
          go_fit hG
          rintro e w2 ⟨rfl, hb2⟩
          have d0 := lay_later hb2 (hC 0 _ rfl)
          have d1 := lay_later hb2 (hC 1 _ rfl)
          have d2 := lay_later hb2 (hC 2 _ rfl)
          have HB2 := Lib.hid (below_of HB.out hb2)
          clear hb2
          go_wp2_with fail
          exact ⟨⟨i + 1, by simp, hlt, HT2, HB2.out⟩, by show conds.length - ((i : Int) + 1).toNat < conds.length - ((i : Int)).toNat; omega⟩
        · have hI : isB L o = false := hI.trans rfl
          have HE : Hid (plan L pos conds ops = ([], 60)) := by show _ = _; unfold plan; rw [if_pos HK.out, if_neg (by rw [all_miss HO.out hI]; simp)]
          clear hI hd hh
          go_wp2_with fail
          go_fit hG
          rintro e w2 ⟨rfl, hb2⟩
          have d0 := lay_later hb2 (hC 0 _ rfl)
          have d1 := lay_later hb2 (hC 1 _ rfl)
          have d2 := lay_later hb2 (hC 2 _ rfl)
          have HB2 := Lib.hid (below_of HB.out hb2)
          clear hb2
          go_wp2_with fail
          go_ret2
          exact PlanP.of HE.out (Rw.none HB2.out)
        · have hI : isB L o = false := hI.trans rfl
          have HE : Hid (plan L pos conds ops = ([], 60)) := by show _ = _; unfold plan; rw [if_pos HK.out, if_neg (by rw [all_miss HO.out hI]; simp)]
          clear hI hd hh
          go_wp2_with fail
          go_fit hG
          rintro e w2 ⟨rfl, hb2⟩
          have d0 := lay_later hb2 (hC 0 _ rfl)
          have d1 := lay_later hb2 (hC 1 _ rfl)
          have d2 := lay_later hb2 (hC 2 _ rfl)
          have HB2 := Lib.hid (below_of HB.out hb2)
          clear hb2
          go_wp2_with fail
          go_ret2
          exact PlanP.of HE.out (Rw.none HB2.out)
        · have hI : isB L o = true := hI.trans rfl
          have HT2 : Hid ((conds.take (i + 1)).all (isB L) = true) := by show _ = _; rw [all_step HO.out, hT.out, hI]; rfl
          clear hI hd hh
          go_wp2_with fail
          go_fit hG
          rintro e w2 ⟨rfl, hb2⟩
          have d0 := lay_later hb2 (hC 0 _ rfl)
          have d1 := lay_later hb2 (hC 1 _ rfl)
          have d2 := lay_later hb2 (hC 2 _ rfl)
          have HB2 := Lib.hid (below_of HB.out hb2)
          clear hb2
          go_wp2_with fail
          exact ⟨⟨i + 1, by simp, hlt, HT2, HB2.out⟩, by show conds.length - ((i : Int) + 1).toNat < conds.length - ((i : Int)).toNat; omega⟩
      · obtain rfl : i = conds.length := by omega
        have HA : Hid (conds.all (isB L) = true) := by have h := hT.out; rw [List.take_length] at h; exact h
        have HO6 : Hid (ops.length ≤ 6) := (ck_len HK.out).1
        have HU : Hid (Unlike ops) := (ck_unlike HK.out).1
        have HMw := Lib.hid (HM.out.below hbw.out)
        obtain ⟨q1, q2, q3, q4, q5⟩ := HMw.out.slice
        have q0 : wr.cell? ⟨x, 0, none⟩ = some (.slice q1 L.length q2) := by rw [cell_of_row _ x 0 _ _ (0, 0) q3]; rfl
        have HI0 := Lib.hid q4
        have HBw := Lib.hid hbw.out
        clear q3 q4 q5 hbw hT
        go_wp2_with fail
        clear q0
        generalize wr = wq at *
        go_loopw [15, 16, 57] (fun e b v wr => ∃ i : Nat, v = .int .i64 i ∧ i ≤ ops.length ∧ Hid (Rw evL 32 wq wr e (chg L pos (ops.take i))) ∧ Hid (opL.In wr b (opsOf (puts L (ops.take i)))) ∧ Hid (Apart e b))
          (fun _ _ v _ => ops.length - (intOf v).toNat)
        case atStart => exact ⟨0, rfl, Nat.zero_le _, by show Rw _ _ _ _ _ _; exact Rw.nil wq, HI0, apart_none _⟩
        case round =>
          obtain ⟨i, rfl, hin, hE, hU, hAp⟩ := hrel
          have ei : IntKind.i64.wrap ((i : Int) + 1) = (i : Int) + 1 := IntWalk.i64_in _ (by have := HO6.out; omega)
          obtain ⟨ua, uc, hu, _, _⟩ := hU.out.slice
          by_cases hlt : i < ops.length
          · obtain ⟨o, ho⟩ : ∃ o, ops[i]? = some o := ⟨ops[i], List.getElem?_eq_getElem hlt⟩
            obtain ⟨g, off, rfl, hle, hcell⟩ := HOI.out.cells ho
            have hbw : Below w.heap.size w wr := below_of HBw.out hE.out.grown
            have c0 : wr.cell? ⟨g, off + i * 3, none⟩ = some (.string o.key) := lay_later hbw (hcell 0 _ rfl)
            have c1 : wr.cell? ⟨g, off + i * 3 + 1, none⟩ = some (.bool o.has) := lay_later hbw (hcell 1 _ rfl)
            have c2 : wr.cell? ⟨g, off + i * 3 + 2, none⟩ = some (.string o.val) := lay_later hbw (hcell 2 _ rfl)
            have hI1 : (i : Int) < ((ops.length : Nat) : Int) := by omega
            have hI0 : (0 : Int) ≤ (i : Int) := by omega
            have hA := lay_alloc wr (.cells #[.string o.key, .bool o.has, .string o.val] 37)
            have HO := Lib.hid ho
            have hG := RGet o.key (((HM.out.below HBw.out).below hE.out.grown).below hA) (by have := HLL.out; omega)
            have hC := kd_boxS wr #[.string o.key, .bool o.has, .string o.val] 37
            have HEA := Lib.hid (hE.out.below hA)
            have HUA := Lib.hid (hU.out.later hA)
            have HNe : Hid (some wr.heap.size ≠ u15.ownBlock) := fun e => absurd (hE.out.lt _ e.symm).2 (Nat.lt_irrefl _)
            have hML : (puts L (ops.take i)).length ≤ 1000000 := by have h1 := puts_len (ops.take i) L; have h2 : (ops.take i).length ≤ i := List.length_take_le _ _; have := HO6.out; have := HLL.out; omega
            have HMS : Hid (Sorted (puts L (ops.take i))) := puts_sorted _ HM.out.sorted
            have HML := Lib.hid hML
            have HPS := Lib.hid (puts_step L ho)
            have HEL : Hid ((chg L pos (ops.take i)).length ≤ 1000000) := by show _ ≤ _; have h1 := chg_len L pos (ops.take i); have h2 : (ops.take i).length ≤ i := List.length_take_le _ _; have := HO6.out; omega
            have HNew := Lib.hid (@chg_new L pos ops i o ho)
            have HOld := Lib.hid (@chg_old L pos ops i o ho)
            obtain ⟨ea, ec, hev, _, _⟩ := hE.out.slice
            subst hev
            subst hu
            generalize chg L pos (ops.take i) = es at *
            generalize puts L (ops.take i) = M at *
            unfold GetP at hG
            have HP0 := Lib.hid (rfl : hasB L o.key = hasB L o.key)
            have HQ0 := Lib.hid (rfl : val1 L o.key = val1 L o.key)
            generalize hp : hasB L o.key = p at hG
            generalize hq : val1 L o.key = q at hG
            have hI : isB L o = ((p == o.has) && decide (q = o.val)) := by unfold isB; rw [hp, hq]
            have hqv : (q.toList == o.val.toList) = decide (q = o.val) := ba_eq q o.val
            have HPp := Lib.hid hp
            have HQq := Lib.hid hq
            clear hcell hle ho hbw hA hp hq hE hU hML HP0 HQ0
            cases hd : decide (q = o.val) <;> rw [hd] at hqv hI <;> cases p <;> cases hh : o.has <;> rw [hh] at hI hG hC c1 HEA HUA
            · have hI : isB L o = false := hI.trans rfl
              have HNw := Lib.hid (HNew.out _ _ _ _ HPp.out HQq.out hI rfl hh)
              have ho2 : (⟨o.key, false, o.val⟩ : Kop) = o := by rw [← hh]
              have HO2 := Lib.hid ho2
              clear hh ho2
              clear hI hd
              go_wp2_with fail
              go_fit hG
              rintro e w2 ⟨rfl, hb2⟩
              have d0 := lay_later hb2 (hC 0 _ rfl)
              have d1 := lay_later hb2 (hC 1 _ rfl)
              have d2 := lay_later hb2 (hC 2 _ rfl)
              have HE2 := Lib.hid (HEA.out.below hb2)
              have HU2 := Lib.hid (HUA.out.later hb2)
              have HZ2 := Lib.hid HE2.out.grown.size
              have HZb := Lib.hid hb2.size
              have HNs : Hid (some wr.heap.size ≠ (Value.slice ea es.length ec).ownBlock) := fun e => HNe.out e
              clear hb2
              go_wp2_with (at_builtin; go_loud (refine wpList_pushJ rfl _ _ 38 32 _ 6 72 rfl Try.underlying38 Try.infoEv rfl (by decide) wq.heap.size es.length _ (evL.all es) rfl HE2.out.own #[.int .i64 pos, .string o.key, .bool false, .string q, .bool false, .string o.val] rfl (evL.one ⟨pos, o.key, false, q, false, o.val⟩) _ rfl rfl (by have := HEL.out; omega) (by decide) HZ2.out ?_; intro g4 c4 w4 hown hgrow hat hlt4; have HE4 := Lib.hid (HE2.out.push ⟨pos, o.key, false, q, false, o.val⟩ hown hgrow); have HU4 := Lib.hid (HU2.out.grownR hgrow hAp.out); have y0 := hgrow.cell d0 HNs.out; have y1 := hgrow.cell d1 HNs.out; have y2 := hgrow.cell d2 HNs.out; clear hown hgrow hat hlt4))
              have HP := Lib.hid (rput_any ⟨o.key, false, o.val⟩ HU4.out HMS.out HML.out)
              go_fit HP.out
              rintro e w3 ⟨v3, rfl, hr3⟩
              have HE3 := Lib.hid (HE4.out.below hr3.grown)
              have HAp3 := Lib.hid (apart_new HE4.out hr3)
              have HU3 := Lib.hid hr3.told
              obtain ⟨va, vc, hv3, _, _⟩ := hr3.slice
              subst hv3
              clear hr3 HP
              go_wp2_with fail
              refine ⟨⟨i + 1, by simp, hlt, ?_, ?_, HAp3⟩, by show ops.length - ((i : Int) + 1).toNat < ops.length - ((i : Int)).toNat; omega⟩
              · show Rw _ _ _ _ _ _
                rw [HNw.out]; exact HE3.out
              · show opL.In _ _ _
                rw [HPS.out, ← HO2.out]; exact HU3.out
            · have hI : isB L o = false := hI.trans rfl
              have HNw := Lib.hid (HNew.out _ _ _ _ HPp.out HQq.out hI rfl hh)
              have ho2 : (⟨o.key, true, o.val⟩ : Kop) = o := by rw [← hh]
              have HO2 := Lib.hid ho2
              clear hh ho2
              clear hI hd
              go_wp2_with fail
              go_fit hG
              rintro e w2 ⟨rfl, hb2⟩
              have d0 := lay_later hb2 (hC 0 _ rfl)
              have d1 := lay_later hb2 (hC 1 _ rfl)
              have d2 := lay_later hb2 (hC 2 _ rfl)
              have HE2 := Lib.hid (HEA.out.below hb2)
              have HU2 := Lib.hid (HUA.out.later hb2)
              have HZ2 := Lib.hid HE2.out.grown.size
              have HZb := Lib.hid hb2.size
              have HNs : Hid (some wr.heap.size ≠ (Value.slice ea es.length ec).ownBlock) := fun e => HNe.out e
              clear hb2
              go_wp2_with (at_builtin; go_loud (refine wpList_pushJ rfl _ _ 38 32 _ 6 72 rfl Try.underlying38 Try.infoEv rfl (by decide) wq.heap.size es.length _ (evL.all es) rfl HE2.out.own #[.int .i64 pos, .string o.key, .bool false, .string q, .bool true, .string o.val] rfl (evL.one ⟨pos, o.key, false, q, true, o.val⟩) _ rfl rfl (by have := HEL.out; omega) (by decide) HZ2.out ?_; intro g4 c4 w4 hown hgrow hat hlt4; have HE4 := Lib.hid (HE2.out.push ⟨pos, o.key, false, q, true, o.val⟩ hown hgrow); have HU4 := Lib.hid (HU2.out.grownR hgrow hAp.out); have y0 := hgrow.cell d0 HNs.out; have y1 := hgrow.cell d1 HNs.out; have y2 := hgrow.cell d2 HNs.out; clear hown hgrow hat hlt4))
              have HP := Lib.hid (rput_any ⟨o.key, true, o.val⟩ HU4.out HMS.out HML.out)
              go_fit HP.out
              rintro e w3 ⟨v3, rfl, hr3⟩
              have HE3 := Lib.hid (HE4.out.below hr3.grown)
              have HAp3 := Lib.hid (apart_new HE4.out hr3)
              have HU3 := Lib.hid hr3.told
              obtain ⟨va, vc, hv3, _, _⟩ := hr3.slice
              subst hv3
              clear hr3 HP
              go_wp2_with fail
              refine ⟨⟨i + 1, by simp, hlt, ?_, ?_, HAp3⟩, by show ops.length - ((i : Int) + 1).toNat < ops.length - ((i : Int)).toNat; omega⟩
              · show Rw _ _ _ _ _ _
                rw [HNw.out]; exact HE3.out
              · show opL.In _ _ _
                rw [HPS.out, ← HO2.out]; exact HU3.out
            · have hI : isB L o = false := hI.trans rfl
              have HNw := Lib.hid (HNew.out _ _ _ _ HPp.out HQq.out hI rfl hh)
              have ho2 : (⟨o.key, false, o.val⟩ : Kop) = o := by rw [← hh]
              have HO2 := Lib.hid ho2
              clear hh ho2
              clear hI hd
              go_wp2_with fail
              go_fit hG
              rintro e w2 ⟨rfl, hb2⟩
              have d0 := lay_later hb2 (hC 0 _ rfl)
              have d1 := lay_later hb2 (hC 1 _ rfl)
              have d2 := lay_later hb2 (hC 2 _ rfl)
              have HE2 := Lib.hid (HEA.out.below hb2)
              have HU2 := Lib.hid (HUA.out.later hb2)
              have HZ2 := Lib.hid HE2.out.grown.size
              have HZb := Lib.hid hb2.size
              have HNs : Hid (some wr.heap.size ≠ (Value.slice ea es.length ec).ownBlock) := fun e => HNe.out e
              clear hb2
              go_wp2_with (at_builtin; go_loud (refine wpList_pushJ rfl _ _ 38 32 _ 6 72 rfl Try.underlying38 Try.infoEv rfl (by decide) wq.heap.size es.length _ (evL.all es) rfl HE2.out.own #[.int .i64 pos, .string o.key, .bool true, .string q, .bool false, .string o.val] rfl (evL.one ⟨pos, o.key, true, q, false, o.val⟩) _ rfl rfl (by have := HEL.out; omega) (by decide) HZ2.out ?_; intro g4 c4 w4 hown hgrow hat hlt4; have HE4 := Lib.hid (HE2.out.push ⟨pos, o.key, true, q, false, o.val⟩ hown hgrow); have HU4 := Lib.hid (HU2.out.grownR hgrow hAp.out); have y0 := hgrow.cell d0 HNs.out; have y1 := hgrow.cell d1 HNs.out; have y2 := hgrow.cell d2 HNs.out; clear hown hgrow hat hlt4))
              have HP := Lib.hid (rput_any ⟨o.key, false, o.val⟩ HU4.out HMS.out HML.out)
              go_fit HP.out
              rintro e w3 ⟨v3, rfl, hr3⟩
              have HE3 := Lib.hid (HE4.out.below hr3.grown)
              have HAp3 := Lib.hid (apart_new HE4.out hr3)
              have HU3 := Lib.hid hr3.told
              obtain ⟨va, vc, hv3, _, _⟩ := hr3.slice
              subst hv3
              clear hr3 HP
              go_wp2_with fail
              refine ⟨⟨i + 1, by simp, hlt, ?_, ?_, HAp3⟩, by show ops.length - ((i : Int) + 1).toNat < ops.length - ((i : Int)).toNat; omega⟩
              · show Rw _ _ _ _ _ _
                rw [HNw.out]; exact HE3.out
              · show opL.In _ _ _
                rw [HPS.out, ← HO2.out]; exact HU3.out
            · have hI : isB L o = false := hI.trans rfl
              have HNw := Lib.hid (HNew.out _ _ _ _ HPp.out HQq.out hI rfl hh)
              have ho2 : (⟨o.key, true, o.val⟩ : Kop) = o := by rw [← hh]
              have HO2 := Lib.hid ho2
              clear hh ho2
              clear hI hd
              go_wp2_with fail
              go_fit hG
              rintro e w2 ⟨rfl, hb2⟩
              have d0 := lay_later hb2 (hC 0 _ rfl)
              have d1 := lay_later hb2 (hC 1 _ rfl)
              have d2 := lay_later hb2 (hC 2 _ rfl)
              have HE2 := Lib.hid (HEA.out.below hb2)
              have HU2 := Lib.hid (HUA.out.later hb2)
              have HZ2 := Lib.hid HE2.out.grown.size
              have HZb := Lib.hid hb2.size
              have HNs : Hid (some wr.heap.size ≠ (Value.slice ea es.length ec).ownBlock) := fun e => HNe.out e
              clear hb2
              go_wp2_with (at_builtin; go_loud (refine wpList_pushJ rfl _ _ 38 32 _ 6 72 rfl Try.underlying38 Try.infoEv rfl (by decide) wq.heap.size es.length _ (evL.all es) rfl HE2.out.own #[.int .i64 pos, .string o.key, .bool true, .string q, .bool true, .string o.val] rfl (evL.one ⟨pos, o.key, true, q, true, o.val⟩) _ rfl rfl (by have := HEL.out; omega) (by decide) HZ2.out ?_; intro g4 c4 w4 hown hgrow hat hlt4; have HE4 := Lib.hid (HE2.out.push ⟨pos, o.key, true, q, true, o.val⟩ hown hgrow); have HU4 := Lib.hid (HU2.out.grownR hgrow hAp.out); have y0 := hgrow.cell d0 HNs.out; have y1 := hgrow.cell d1 HNs.out; have y2 := hgrow.cell d2 HNs.out; clear hown hgrow hat hlt4))
              have HP := Lib.hid (rput_any ⟨o.key, true, o.val⟩ HU4.out HMS.out HML.out)
              go_fit HP.out
              rintro e w3 ⟨v3, rfl, hr3⟩
              have HE3 := Lib.hid (HE4.out.below hr3.grown)
              have HAp3 := Lib.hid (apart_new HE4.out hr3)
              have HU3 := Lib.hid hr3.told
              obtain ⟨va, vc, hv3, _, _⟩ := hr3.slice
              subst hv3
              clear hr3 HP
              go_wp2_with fail
              refine ⟨⟨i + 1, by simp, hlt, ?_, ?_, HAp3⟩, by show ops.length - ((i : Int) + 1).toNat < ops.length - ((i : Int)).toNat; omega⟩
              · show Rw _ _ _ _ _ _
                rw [HNw.out]; exact HE3.out
              · show opL.In _ _ _
                rw [HPS.out, ← HO2.out]; exact HU3.out
            · have hI : isB L o = true := hI.trans rfl
              have HNw := Lib.hid (HOld.out _ hI rfl)
              have ho2 : (⟨o.key, false, o.val⟩ : Kop) = o := by rw [← hh]
              have HO2 := Lib.hid ho2
              clear hh ho2
              clear hI hd
              go_wp2_with fail
              go_fit hG
              rintro e w2 ⟨rfl, hb2⟩
              have d0 := lay_later hb2 (hC 0 _ rfl)
              have d1 := lay_later hb2 (hC 1 _ rfl)
              have d2 := lay_later hb2 (hC 2 _ rfl)
              have HE2 := Lib.hid (HEA.out.below hb2)
              have HU2 := Lib.hid (HUA.out.later hb2)
              have HZ2 := Lib.hid HE2.out.grown.size
              have HZb := Lib.hid hb2.size
              have HP := Lib.hid (rput_any ⟨o.key, false, o.val⟩ HU2.out HMS.out HML.out)
              clear hb2
              go_wp2_with fail
              go_fit HP.out
              rintro e w3 ⟨v3, rfl, hr3⟩
              have HE3 := Lib.hid (HE2.out.below hr3.grown)
              have HAp3 := Lib.hid (apart_new HE2.out hr3)
              have HU3 := Lib.hid hr3.told
              obtain ⟨va, vc, hv3, _, _⟩ := hr3.slice
              subst hv3
              clear hr3 HP
              go_wp2_with fail
              refine ⟨⟨i + 1, by simp, hlt, ?_, ?_, HAp3⟩, by show ops.length - ((i : Int) + 1).toNat < ops.length - ((i : Int)).toNat; omega⟩
              · show Rw _ _ _ _ _ _
                rw [HNw.out]; exact HE3.out
              · show opL.In _ _ _
                rw [HPS.out, ← HO2.out]; exact HU3.out
            · have hI : isB L o = false := hI.trans rfl
              have HNw := Lib.hid (HNew.out _ _ _ _ HPp.out HQq.out hI rfl hh)
              have ho2 : (⟨o.key, true, o.val⟩ : Kop) = o := by rw [← hh]
              have HO2 := Lib.hid ho2
              clear hh ho2
              clear hI hd
              go_wp2_with fail
              go_fit hG
              rintro e w2 ⟨rfl, hb2⟩
              have d0 := lay_later hb2 (hC 0 _ rfl)
              have d1 := lay_later hb2 (hC 1 _ rfl)
              have d2 := lay_later hb2 (hC 2 _ rfl)
              have HE2 := Lib.hid (HEA.out.below hb2)
              have HU2 := Lib.hid (HUA.out.later hb2)
              have HZ2 := Lib.hid HE2.out.grown.size
              have HZb := Lib.hid hb2.size
              have HNs : Hid (some wr.heap.size ≠ (Value.slice ea es.length ec).ownBlock) := fun e => HNe.out e
              clear hb2
              go_wp2_with (at_builtin; go_loud (refine wpList_pushJ rfl _ _ 38 32 _ 6 72 rfl Try.underlying38 Try.infoEv rfl (by decide) wq.heap.size es.length _ (evL.all es) rfl HE2.out.own #[.int .i64 pos, .string o.key, .bool false, .string q, .bool true, .string o.val] rfl (evL.one ⟨pos, o.key, false, q, true, o.val⟩) _ rfl rfl (by have := HEL.out; omega) (by decide) HZ2.out ?_; intro g4 c4 w4 hown hgrow hat hlt4; have HE4 := Lib.hid (HE2.out.push ⟨pos, o.key, false, q, true, o.val⟩ hown hgrow); have HU4 := Lib.hid (HU2.out.grownR hgrow hAp.out); have y0 := hgrow.cell d0 HNs.out; have y1 := hgrow.cell d1 HNs.out; have y2 := hgrow.cell d2 HNs.out; clear hown hgrow hat hlt4))
              have HP := Lib.hid (rput_any ⟨o.key, true, o.val⟩ HU4.out HMS.out HML.out)
              go_fit HP.out
              rintro e w3 ⟨v3, rfl, hr3⟩
              have HE3 := Lib.hid (HE4.out.below hr3.grown)
              have HAp3 := Lib.hid (apart_new HE4.out hr3)
              have HU3 := Lib.hid hr3.told
              obtain ⟨va, vc, hv3, _, _⟩ := hr3.slice
              subst hv3
              clear hr3 HP
              go_wp2_with fail
              refine ⟨⟨i + 1, by simp, hlt, ?_, ?_, HAp3⟩, by show ops.length - ((i : Int) + 1).toNat < ops.length - ((i : Int)).toNat; omega⟩
              · show Rw _ _ _ _ _ _
                rw [HNw.out]; exact HE3.out
              · show opL.In _ _ _
                rw [HPS.out, ← HO2.out]; exact HU3.out
            · have hI : isB L o = false := hI.trans rfl
              have HNw := Lib.hid (HNew.out _ _ _ _ HPp.out HQq.out hI rfl hh)
              have ho2 : (⟨o.key, false, o.val⟩ : Kop) = o := by rw [← hh]
              have HO2 := Lib.hid ho2
              clear hh ho2
              clear hI hd
              go_wp2_with fail
              go_fit hG
              rintro e w2 ⟨rfl, hb2⟩
              have d0 := lay_later hb2 (hC 0 _ rfl)
              have d1 := lay_later hb2 (hC 1 _ rfl)
              have d2 := lay_later hb2 (hC 2 _ rfl)
              have HE2 := Lib.hid (HEA.out.below hb2)
              have HU2 := Lib.hid (HUA.out.later hb2)
              have HZ2 := Lib.hid HE2.out.grown.size
              have HZb := Lib.hid hb2.size
              have HNs : Hid (some wr.heap.size ≠ (Value.slice ea es.length ec).ownBlock) := fun e => HNe.out e
              clear hb2
              go_wp2_with (at_builtin; go_loud (refine wpList_pushJ rfl _ _ 38 32 _ 6 72 rfl Try.underlying38 Try.infoEv rfl (by decide) wq.heap.size es.length _ (evL.all es) rfl HE2.out.own #[.int .i64 pos, .string o.key, .bool true, .string q, .bool false, .string o.val] rfl (evL.one ⟨pos, o.key, true, q, false, o.val⟩) _ rfl rfl (by have := HEL.out; omega) (by decide) HZ2.out ?_; intro g4 c4 w4 hown hgrow hat hlt4; have HE4 := Lib.hid (HE2.out.push ⟨pos, o.key, true, q, false, o.val⟩ hown hgrow); have HU4 := Lib.hid (HU2.out.grownR hgrow hAp.out); have y0 := hgrow.cell d0 HNs.out; have y1 := hgrow.cell d1 HNs.out; have y2 := hgrow.cell d2 HNs.out; clear hown hgrow hat hlt4))
              have HP := Lib.hid (rput_any ⟨o.key, false, o.val⟩ HU4.out HMS.out HML.out)
              go_fit HP.out
              rintro e w3 ⟨v3, rfl, hr3⟩
              have HE3 := Lib.hid (HE4.out.below hr3.grown)
              have HAp3 := Lib.hid (apart_new HE4.out hr3)
              have HU3 := Lib.hid hr3.told
              obtain ⟨va, vc, hv3, _, _⟩ := hr3.slice
              subst hv3
              clear hr3 HP
              go_wp2_with fail
              refine ⟨⟨i + 1, by simp, hlt, ?_, ?_, HAp3⟩, by show ops.length - ((i : Int) + 1).toNat < ops.length - ((i : Int)).toNat; omega⟩
              · show Rw _ _ _ _ _ _
                rw [HNw.out]; exact HE3.out
              · show opL.In _ _ _
                rw [HPS.out, ← HO2.out]; exact HU3.out
            · have hI : isB L o = true := hI.trans rfl
              have HNw := Lib.hid (HOld.out _ hI rfl)
              have ho2 : (⟨o.key, true, o.val⟩ : Kop) = o := by rw [← hh]
              have HO2 := Lib.hid ho2
              clear hh ho2
              clear hI hd
              go_wp2_with fail
              go_fit hG
              rintro e w2 ⟨rfl, hb2⟩
              have d0 := lay_later hb2 (hC 0 _ rfl)
              have d1 := lay_later hb2 (hC 1 _ rfl)
              have d2 := lay_later hb2 (hC 2 _ rfl)
              have HE2 := Lib.hid (HEA.out.below hb2)
              have HU2 := Lib.hid (HUA.out.later hb2)
              have HZ2 := Lib.hid HE2.out.grown.size
              have HZb := Lib.hid hb2.size
              have HP := Lib.hid (rput_any ⟨o.key, true, o.val⟩ HU2.out HMS.out HML.out)
              clear hb2
              go_wp2_with fail
              go_fit HP.out
              rintro e w3 ⟨v3, rfl, hr3⟩
              have HE3 := Lib.hid (HE2.out.below hr3.grown)
              have HAp3 := Lib.hid (apart_new HE2.out hr3)
              have HU3 := Lib.hid hr3.told
              obtain ⟨va, vc, hv3, _, _⟩ := hr3.slice
              subst hv3
              clear hr3 HP
              go_wp2_with fail
              refine ⟨⟨i + 1, by simp, hlt, ?_, ?_, HAp3⟩, by show ops.length - ((i : Int) + 1).toNat < ops.length - ((i : Int)).toNat; omega⟩
              · show Rw _ _ _ _ _ _
                rw [HNw.out]; exact HE3.out
              · show opL.In _ _ _
                rw [HPS.out, ← HO2.out]; exact HU3.out
          · obtain rfl : i = ops.length := by omega
            have HF : Hid ((((puts L ops).length : Nat) : Int) = lenE L.length (chg L pos ops)) := puts_lenE HM.out.sorted pos HU.out
            rw [List.take_length] at hE hU hu
            rw [opsOf_len] at hu
            have hbw : Below w.heap.size w wr := below_of HBw.out hE.out.grown
            have HEb : Hid (Rw evL 32 w wr u15 (chg L pos ops)) := hE.out.base HBw.out
            have HNone := Lib.hid (Rw.none hbw)
            subst hu
            clear hE hU hAp hbw
            have HPl : Hid (plan L pos conds ops = if 24 < (((puts L ops).length : Nat) : Int) then ([], 7) else (chg L pos ops, 0)) := by show _ = _; unfold plan; rw [if_pos HK.out, if_pos HA.out, HF.out]
            clear HF
            generalize (puts L ops).length = N at *
            by_cases hf : 24 < ((N : Nat) : Int)
            · have HX : Hid (plan L pos conds ops = ([], 7)) := by show _ = _; rw [HPl.out, if_pos hf]
              go_wp2_with fail
              go_ret2
              exact PlanP.of HX.out HNone.out
            · have HX : Hid (plan L pos conds ops = (chg L pos ops, 0)) := by show _ = _; rw [HPl.out, if_neg hf]
              go_wp2_with fail
              go_ret2
              exact PlanP.of HX.out HEb.out
  · obtain ⟨n, hn⟩ : ∃ n, n = ckE conds ops := ⟨_, rfl⟩
    have HC' : Hid (Calls Try.prog 34 #[.slice a conds.length c, .slice a' ops.length c'] w fun e w' => e = .returned (.int .i64 n) ∧ Below w.heap.size w w') := by show Calls _ _ _ _ _; have h := HC.out; unfold CkP at h; rw [← hn] at h; exact h
    have HE : Hid (plan L pos conds ops = ([], n)) := by show _ = _; unfold plan; rw [if_neg hk, hn]
    rw [← hn] at hk
    have hk2 : (n == 0) = false := by simpa using hk
    clear hn HC
    go_enter Try.func18, Try.ntmps18
    go_wp2_with fail
    go_fit HC'.out
    rintro e w1 ⟨rfl, hb1⟩
    have HB1 := Lib.hid hb1
    clear hb1 HC'
    go_wp2_with fail
    go_ret2
    exact PlanP.of HE.out (Rw.none HB1.out)

def RDoP (x : Nat) (L : List Pr) (pos : Int) (conds ops : List Kop) (w : World) (e : Ending) (w' : World) : Prop :=
  ∃ v, e = .returned (.tuple #[v, .int .i64 (plan L pos conds ops).2]) ∧ evL.In w' v (plan L pos conds ops).1 ∧ Mr w' x (doo L pos conds ops) ∧ w.grownBy w' (some x)
set_option maxRecDepth 100000 in
set_option maxHeartbeats 3200000 in
theorem RDo {w : World} {x : Nat} {L : List Pr} {u v : Value} {conds ops : List Kop} (pos : Int) (h : Mr w x L) (hc : opL.In w u conds) (ho : opL.In w v ops) (sc : Small conds) (so : Small ops) (lc : conds.length ≤ 1000000) (lo : ops.length ≤ 1000000) (hL : L.length ≤ 1000) :
    Calls Try.prog 27 #[.pointer (some ⟨x, 0, none⟩), .int .i64 pos, u, v] w (RDoP x L pos conds ops w) := by
  have HM := Lib.hid h
  have HP := Lib.hid (RPlan pos h hc ho sc so lc lo hL)
  have HLL := Lib.hid hL
  obtain ⟨a, c, rfl, _, _⟩ := hc.slice
  obtain ⟨a', c', rfl, _, _⟩ := ho.slice
  have HLn := Lib.hid (plan_len6 L pos conds ops)
  clear h hc ho sc so lc lo hL
  have HD := Lib.hid (doo_takes L pos conds ops)
  unfold RDoP
  generalize doo L pos conds ops = L' at *
  rcases hpl : plan L pos conds ops with ⟨es, n⟩
  rw [hpl] at HP HD HLn
  simp only at HD ⊢
  have HLn : Hid (es.length ≤ 6) := HLn.out
  clear hpl
  go_enter Try.func27, Try.ntmps27
  go_wp2_with fail
  go_fit HP.out
  rintro e w1 ⟨v1, rfl, hr⟩
  have hr : Rw evL 32 w w1 v1 es := hr
  have HR := Lib.hid hr
  obtain ⟨ea, ec, rfl, _, _⟩ := hr.slice
  have HT := Lib.hid (RTake (HM.out.below hr.grown) hr.told (by have := HLn.out; have := HLL.out; omega))
  clear hr HP
  go_wp2_with fail
  go_fit HT.out
  rintro e w2 ⟨rfl, hm2, hg2⟩
  have HM2 := Lib.hid hm2
  have HG2 := Lib.hid hg2
  clear hm2 hg2 HT
  go_wp2_with fail
  go_ret2
  exact ⟨_, rfl, (HM.out.below HR.out.grown).keepE HR.out.told HG2.out, by rw [HD.out]; exact HM2.out, grown_then (grown_of_below HR.out.grown _) HG2.out⟩
end Go.Proofs.Ytdfjnpnkfjcpcaa
