/-
  K19 K20 K21 in one text.
-/
import Derived.Test.YtdfjnpnkfjcpcaaK7
import Derived.Test.YtdfjnpnkfjcpcaaTSE
import Derived.Test.YtdfjnpnkfjcpcaaK14
import Derived.Test.YtdfjnpnkfjcpcaaK10

/- K19 -/
namespace Go.Proofs.Ytdfjnpnkfjcpcaa
set_option linter.unusedVariables false
set_option linter.unusedSimpArgs false
open Go.RowKit

theorem plan_err (L : List Pr) (pos : Int) (conds ops : List Kop) : (plan L pos conds ops).2 ≠ 0 → (plan L pos conds ops).1 = [] ∧ doo L pos conds ops = L := by
  intro h
  refine ⟨?_, by unfold doo; rw [if_neg h]⟩
  unfold plan at h ⊢
  split
  · rename_i h1
    rw [if_pos h1] at h
    split
    · rename_i h2
      rw [if_pos h2] at h
      split
      · rfl
      · rename_i h3
        rw [if_neg h3] at h
        exact absurd rfl h
    · rfl
  · rfl
/-! what Set makes -/
def setE (l : List Kop) : Int := if 24 < l.length then 7 else if mayE l ≠ 0 then mayE l else if l.all (·.has) = true then 0 else 61
def oprs (l : List Kop) : List Pr := l.map fun o => (o.key, o.val)
def setL (L : List Pr) (l : List Kop) : List Pr := if setE l = 0 then un [] (oprs l) else L
theorem oprs_step {l : List Kop} {i : Nat} {o : Kop} (h : l[i]? = some o) : oprs (l.take (i + 1)) = oprs (l.take i) ++ [(o.key, o.val)] := by
  unfold oprs
  rw [List.take_add_one, h]; simp
theorem Of_rw {w w0 : World} {v : Value} {xs : List Pr} (h : Rw prL 87 w0 w v xs) (hn : xs.length = 0 → v = .slice none 0 0) (hl : xs.length ≤ 1000000) : Calls Try.prog 55 #[v] w (Grows w (Ts.Built (un [] xs))) := by
  by_cases hx : xs.length = 0
  · rw [hn hx]
    obtain rfl := List.eq_nil_of_length_eq_zero hx
    exact Ts.Of_none w
  · have hown : w.ownsRow w0.heap.size 87 2 v xs.length (prs xs) := by have := h.own; rw [prL_all] at this; exact this
    rcases hown.2 with ⟨_, h0⟩ | ⟨g, cap, cur, rfl, _⟩
    · omega
    · have := Ts.Of_big (c := cap) (Ts.pairs_of_row hown).pairs rfl (by omega) hl
      rw [Ts.dd_un] at this
      exact this
theorem infoPairS : (Try.prog.info? 87).map (fun i => (i.zero, i.size, i.bytes)) = some (some (.agg #[.string ByteArray.empty, .string ByteArray.empty]), 2, 32) := by kernel_rfl
theorem kd_boxS (w : World) (cs : Array Value) (t : TypeId) (j : Nat) (v : Value) (h : cs[j]? = some v) : (w.alloc (.cells cs t)).cell? ⟨w.heap.size, j, none⟩ = some v := by rw [World.cell?_alloc_at _ _ _ _ rfl, h]
def SetP (b : Nat) (L : List Pr) (l : List Kop) (w : World) (e : Ending) (w' : World) : Prop := e = .returned (.int .i64 (setE l)) ∧ Mp w' b (setL L l) ∧ w.grownBy w' (some b)
theorem SetP.no {b : Nat} {L : List Pr} {l : List Kop} {w w' : World} {n : Int} (hn : setE l = n) (h0 : n ≠ 0) (hm : Mp w b L) (hb : Below w.heap.size w w') : SetP b L l w (.returned (.int .i64 n)) w' :=
  ⟨by rw [hn], by unfold setL; rw [hn, if_neg h0]; exact hm.below hb, grown_of_below hb _⟩
theorem setE_in {l : List Kop} (h1 : l.length ≤ 24) (h2 : mayE l = 0) : setE l = if l.all (·.has) = true then 0 else 61 := by
  unfold setE
  rw [if_neg (by omega), if_neg (by simp [h2])]
theorem all_has {l : List Kop} {i : Nat} {o : Kop} (h : l[i]? = some o) : (l.take (i + 1)).all (·.has) = ((l.take i).all (·.has) && o.has) := by
  rw [List.take_add_one, h]; simp
set_option maxRecDepth 100000 in
set_option maxHeartbeats 6400000 in
theorem Set_mp {w : World} {b : Nat} {L : List Pr} {v : Value} {l : List Kop} (h : Mp w b L) (ho : opL.In w v l) (so : Small l) (lo : l.length ≤ 1000000) :
    Calls Try.prog 19 #[.pointer (some ⟨b, 0, none⟩), v] w (SetP b L l w) := by
  have HMd := Lib.hid (made_mp h)
  have HM := Lib.hid h
  have HD := Lib.hid ho
  obtain ⟨a, c, rfl, hc1, hc2⟩ := ho.slice
  have HMay := Lib.hid (may_any ho so (by omega))
  unfold MayP at HMay
  clear h ho so
  by_cases h24 : l.length ≤ 24
  · have hI24 : ¬ ((24 : Int) < ((l.length : Nat) : Int)) := by omega
    have HE := Lib.hid (setE_in (l := l) h24)
    generalize hmay : mayE l = n at *
    by_cases hn : n = 0
    · subst hn
      have HE0 := Lib.hid (HE.out rfl)
      clear HE
      have HE := HE0
      clear HE0 hmay
      go_enter Try.func19, Try.ntmps19
      go_wp2_with fail
      go_fit HMd.out
      rintro e w' ⟨rfl, rfl⟩
      go_wp2_with fail
      go_fit HMay.out
      rintro e w1 ⟨rfl, hb1⟩
      have HB1 := Lib.hid hb1
      clear hb1 HMay HMd
      go_wp2_with fail
      go_loopw [6, 22] (fun u v wr => ∃ (i : Nat), v = .int .i64 i ∧ i ≤ l.length ∧ Hid (Rw prL 87 w1 wr u (oprs (l.take i))) ∧ Hid (i = 0 → u = .slice none 0 0) ∧ Hid ((l.take i).all (·.has) = true))
        (fun _ v _ => l.length - (intOf v).toNat)
      case atStart => exact ⟨0, rfl, Nat.zero_le _, Rw.nil w1, fun _ => rfl, rfl⟩
      case round =>
        obtain ⟨i, rfl, hin, hR, hZ, hA⟩ := hrel
        have ei : IntKind.i64.wrap ((i : Int) + 1) = (i : Int) + 1 := IntWalk.i64_in _ (by omega)
        obtain ⟨ua, uc, hu, _, _⟩ := hR.out.slice
        have Hln : Hid ((oprs (l.take i)).length = i) := by show _ = _; unfold oprs; rw [List.length_map, List.length_take]; omega
        subst hu
        by_cases hlt : i < l.length
        · obtain ⟨o, ho⟩ : ∃ o, l[i]? = some o := ⟨l[i], List.getElem?_eq_getElem hlt⟩
          obtain ⟨g, off, rfl, _, hcell⟩ := HD.out.cells ho
          have hbw : Below w.heap.size w wr := below_of HB1.out hR.out.grown
          have c0 : wr.cell? ⟨g, off + i * 3, none⟩ = some (.string o.key) := lay_later hbw (hcell 0 _ rfl)
          have c1 : wr.cell? ⟨g, off + i * 3 + 1, none⟩ = some (.bool o.has) := lay_later hbw (hcell 1 _ rfl)
          have c2 : wr.cell? ⟨g, off + i * 3 + 2, none⟩ = some (.string o.val) := lay_later hbw (hcell 2 _ rfl)
          have hI1 : (i : Int) < ((l.length : Nat) : Int) := by omega
          have hI0 : (0 : Int) ≤ (i : Int) := by omega
          have HSt := Lib.hid (oprs_step ho)
          have HAl := Lib.hid (all_has ho)
          have HO := Lib.hid ho
          have HRA := Lib.hid (hR.out.alloc (.cells #[.string o.key, .bool o.has, .string o.val] 37))
          have HC := Lib.hid (kd_boxS wr #[.string o.key, .bool o.has, .string o.val] 37)
          have HLe : Hid ((oprs (l.take i)).length + 1 ≤ 1073741825) := by show _ ≤ _; rw [Hln.out]; omega
          have HBw := Lib.hid hbw
          clear hcell ho hbw hR
          cases hh : o.has with
          | false =>
            have HF : Hid (setE l = 61) := by
              show _ = _
              rw [HE.out, if_neg]
              intro e
              have := List.all_eq_true.1 e o (List.mem_of_getElem? HO.out)
              rw [hh] at this; cases this
            rw [hh] at c1 HRA HC
            have hC1 := HC.out 1 _ rfl
            clear HE hA
            go_wp2_with fail
            go_ret
            exact SetP.no HF.out (by decide) HM.out (below_of HBw.out (lay_alloc _ _))
          | true =>
            have HA2 : Hid ((l.take (i + 1)).all (·.has) = true) := by show _ = _; rw [HAl.out, hA.out, hh]; rfl
            rw [hh] at c1 HRA HC
            have hC0 := HC.out 0 _ rfl
            have hC1 := HC.out 1 _ rfl
            have hC2 := HC.out 2 _ rfl
            have HN2 : Hid ((wr.alloc (.cells #[.string o.key, .bool true, .string o.val] 37)).heap.size = wr.heap.size + 1) := by show _ = _; simp
            have HZr := Lib.hid HRA.out.grown.size
            clear hA
            go_wp2_with (at_builtin; go_loud (refine wpList_pushJ rfl _ _ 85 87 _ 2 32 rfl Try.underlying85 infoPairS rfl (by decide) w1.heap.size _ _ _ rfl HRA.out.own #[.string o.key, .string o.val] rfl (by simp [Value.oneCell']) (wr.heap.size + 1) rfl HN2.out HLe.out (by decide) HZr.out ?_; intro g2 cap2 w2 hown2 hg2 hat2 hlt2; have HR2 := Lib.hid (Rw.push (I := prL) (o.key, o.val) HRA.out hown2 hg2); clear hown2 hg2 hat2 hlt2))
            have HR3 : Hid (Rw prL 87 w1 w2 (.slice (some ⟨g2, 0, none⟩) ((oprs (l.take i)).length + 1) cap2) (oprs (l.take (i + 1)))) := by show Rw _ _ _ _ _ _; rw [HSt.out]; exact HR2.out
            have HZ3 : Hid (i + 1 = 0 → Value.slice (some ⟨g2, 0, none⟩) ((oprs (l.take i)).length + 1) cap2 = .slice none 0 0) := fun h => by omega
            exact ⟨⟨i + 1, by simp, hlt, HR3, HZ3, HA2⟩, by show l.length - ((i : Int) + 1).toNat < l.length - ((i : Int)).toNat; omega⟩
        · obtain rfl : i = l.length := by omega
          have hAl := hA.out
          rw [List.take_length] at hR hAl Hln hZ
          have HS0 : Hid (setE l = 0) := by show _ = _; rw [HE.out, if_pos hAl]
          have HSL : Hid (setL L l = un [] (oprs l)) := by show _ = _; unfold setL; rw [HS0.out, if_pos rfl]
          have HOf := Lib.hid (Of_rw hR.out (fun h => hZ.out (by rw [← Hln.out]; exact h)) (by rw [Hln.out]; omega))
          have HMr := Lib.hid (HM.out.below (below_of HB1.out hR.out.grown))
          have HBr := Lib.hid (below_of HB1.out hR.out.grown)
          clear hA hAl HE hR hZ
          go_wp2_with fail
          go_fit HOf.out
          rintro e w3 ⟨tb, t, rfl, hq, ht, hb3⟩
          have HM3 := HMr.out.below hb3
          have HMS := Lib.hid (HM3.set ht hq.1 hq.2.1 (un_sorted (oprs l) (a := []) trivial))
          have HB3 := Lib.hid (below_of HBr.out hb3)
          obtain ⟨_, _, q0, f0, _⟩ := HM3.cell
          clear hq ht hb3 HM3 HOf
          go_wp2_with fail
          go_ret
          exact ⟨by rw [HS0.out]; rfl, by rw [HSL.out]; exact HMS.out, grown_then (grown_of_below HB3.out (some b)) grown_put⟩
    · have HF : Hid (setE l = n) := by show _ = _; unfold setE; rw [if_neg (by omega), if_pos (by rw [hmay]; exact hn), hmay]
      have hn1 : (n == 0) = false := by simpa using hn
      clear HE hmay
      go_enter Try.func19, Try.ntmps19
      go_wp2_with fail
      go_fit HMd.out
      rintro e w' ⟨rfl, rfl⟩
      go_wp2_with fail
      go_fit HMay.out
      rintro e w1 ⟨rfl, hb1⟩
      have HB1 := Lib.hid hb1
      clear hb1 HMay HMd
      go_wp2_with fail
      go_ret
      exact SetP.no HF.out hn HM.out HB1.out
  · have hI24 : ((24 : Int) < ((l.length : Nat) : Int)) := by omega
    have HF : Hid (setE l = 7) := by show _ = _; unfold setE; rw [if_pos (by omega)]
    clear HMay
    go_enter Try.func19, Try.ntmps19
    go_wp2_with fail
    go_fit HMd.out
    rintro e w' ⟨rfl, rfl⟩
    go_wp2_with fail
    go_ret
    exact SetP.no HF.out (by decide) HM.out (Below.refl _ _)
end Go.Proofs.Ytdfjnpnkfjcpcaa

/- K20 -/
namespace Go.Proofs.Ytdfjnpnkfjcpcaa
set_option linter.unusedVariables false
set_option linter.unusedSimpArgs false
open Go.RowKit

/-! the document's list: plainly -/
def opsOf (L : List Pr) : List Kop := L.map opOf
theorem opsOf_app (a b : List Pr) : opsOf (a ++ b) = opsOf a ++ opsOf b := List.map_append
theorem opsOf_len (L : List Pr) : (opsOf L).length = L.length := by unfold opsOf; rw [List.length_map]
theorem opsOf_at {L : List Pr} {i : Nat} {p : Pr} (h : L[i]? = some p) : (opsOf L)[i]? = some (opOf p) := by unfold opsOf; rw [List.getElem?_map, h]; rfl
theorem opsOf_take (L : List Pr) (i : Nat) : opsOf (L.take i) = (opsOf L).take i := by unfold opsOf; rw [List.map_take]
def put1 (L : List Pr) (o : Kop) : List Pr := if o.has = true then wi L (o.key, o.val) else wo L o.key
/-- What stands in the new list so far. -/
def hitG (A : List Pr) (k : ByteArray) : Bool := A.any fun q => !klt q.1 k
def pfx (A : List Pr) (o : Kop) : List Pr := if o.has = true then (if hitG A o.key = true then wi A (o.key, o.val) else A) else wo A o.key
theorem hitG_step {L : List Pr} {i : Nat} {p : Pr} (h : L[i]? = some p) (k : ByteArray) : hitG (L.take (i + 1)) k = (hitG (L.take i) k || !klt p.1 k) := by
  unfold hitG
  rw [List.take_add_one, h]; simp
theorem hitG_none {A : List Pr} {k : ByteArray} (h : hitG A k = false) : ∀ q ∈ A, klt q.1 k = true := by
  intro q hq
  unfold hitG at h
  have := List.any_eq_false.1 h q hq
  simpa using this
theorem wi_under_all {A : List Pr} {p : Pr} (h : ∀ q ∈ A, klt q.1 p.1 = true) : wi A p = A ++ [p] := by
  unfold wi
  have h1 : A.filter (fun q => klt q.1 p.1) = A := List.filter_eq_self.2 h
  have h2 : A.filter (fun q => klt p.1 q.1) = [] := List.filter_eq_nil_iff.2 (fun q hq => by simp [klt_asym (h q hq)])
  rw [h1, h2]
theorem wi_snoc_over (A : List Pr) {p x : Pr} (h : klt p.1 x.1 = true) : wi (A ++ [x]) p = wi A p ++ [x] := by
  unfold wi
  rw [List.filter_append, List.filter_append]
  have h1 : [x].filter (fun q => klt q.1 p.1) = [] := by simp [klt_asym h]
  have h2 : [x].filter (fun q => klt p.1 q.1) = [x] := by simp [h]
  rw [h1, h2]; simp
theorem wi_snoc_same (A : List Pr) {p x : Pr} (h : x.1 = p.1) : wi (A ++ [x]) p = wi A p := by
  unfold wi
  rw [List.filter_append, List.filter_append]
  have h1 : [x].filter (fun q => klt q.1 p.1) = [] := by simp [h, klt_irr]
  have h2 : [x].filter (fun q => klt p.1 q.1) = [] := by simp [h, klt_irr]
  rw [h1, h2]; simp
theorem sorted_before {L : List Pr} (hs : Sorted L) {i : Nat} {x : Pr} (h : L[i]? = some x) : ∀ q ∈ L.take i, klt q.1 x.1 = true := by
  intro q hq
  have e : L = L.take i ++ L.drop i := (List.take_append_drop i L).symm
  rw [e] at hs
  refine ((sorted_app _ _).1 hs).2.2 q hq x ?_
  have hd : (L.drop i)[0]? = some x := by rw [List.getElem?_drop, Nat.add_zero]; exact h
  exact List.mem_of_getElem? hd
/-- A round of put. -/
theorem pfx_step {L : List Pr} (hs : Sorted L) {i : Nat} {x : Pr} (h : L[i]? = some x) (o : Kop) :
    pfx (L.take (i + 1)) o = (if o.has = true ∧ hitG (L.take i) o.key = false ∧ klt x.1 o.key = false then pfx (L.take i) o ++ [(o.key, o.val)] else pfx (L.take i) o) ++ (if x.1 = o.key then [] else [x]) := by
  have hst := hitG_step h o.key
  have hb := sorted_before hs h
  have ht : L.take (i + 1) = L.take i ++ [x] := by rw [List.take_add_one, h]; rfl
  generalize L.take i = A at *
  unfold pfx
  cases ho : o.has with
  | false =>
    simp only [Bool.false_eq_true, if_false, false_and]
    rw [ht]
    unfold wo
    rw [List.filter_append]
    by_cases hx : x.1 = o.key
    · rw [if_pos hx]; simp [hx]
    · rw [if_neg hx]; simp [hx]
  | true =>
    simp only [if_true, true_and]
    cases hh : hitG A o.key with
    | true =>
      rw [hh, Bool.true_or] at hst
      obtain ⟨q, hq, hqk⟩ := List.any_eq_true.1 hh
      have hqx := hb q hq
      have hkx : klt o.key x.1 = true := klt_le_trans (by simpa using hqk) hqx
      have hne : x.1 ≠ o.key := klt_ne hkx |>.symm
      simp only [hst, if_true, Bool.true_eq_false, false_and, if_false, if_neg hne]
      rw [ht]; exact wi_snoc_over A (p := (o.key, o.val)) hkx
    | false =>
      rw [hh, Bool.false_or] at hst
      have hU := hitG_none hh
      cases hx : klt x.1 o.key with
      | true =>
        have hne : x.1 ≠ o.key := klt_ne hx
        rw [hx] at hst
        simp only [hst, Bool.not_true, Bool.false_eq_true, if_false, Bool.true_eq_false, and_false, if_neg hne]
        rw [ht]
      | false =>
        rw [hx] at hst
        simp only [hst, Bool.not_false, if_true, Bool.false_eq_true, if_false, and_self]
        rw [ht]
        by_cases he : x.1 = o.key
        · rw [if_pos he, wi_snoc_same A (p := (o.key, o.val)) he, wi_under_all (p := (o.key, o.val)) hU]; simp
        · have hkx : klt o.key x.1 = true := by
            rcases klt_le hx with e | e
            · exact absurd e.symm he
            · exact e
          rw [if_neg he, wi_snoc_over A (p := (o.key, o.val)) hkx, wi_under_all (p := (o.key, o.val)) hU]
theorem pfx_end (L : List Pr) (o : Kop) : put1 L o = if o.has = true ∧ hitG L o.key = false then pfx L o ++ [(o.key, o.val)] else pfx L o := by
  unfold put1 pfx
  cases ho : o.has with
  | false => simp
  | true =>
    simp only [if_true, true_and]
    cases hh : hitG L o.key with
    | true => simp
    | false => simp only [if_true, Bool.false_eq_true, if_false]; exact wi_under_all (p := (o.key, o.val)) (hitG_none hh)
theorem pfx_len (A : List Pr) (o : Kop) : (pfx A o).length ≤ A.length + 1 := by
  unfold pfx
  split
  · split
    · exact wi_len _ _
    · omega
  · exact Nat.le_trans (wo_len _ _) (Nat.le_succ _)
theorem put1_len (A : List Pr) (o : Kop) : (put1 A o).length ≤ A.length + 1 := by
  unfold put1
  split
  · exact wi_len _ _
  · exact Nat.le_trans (wo_len _ _) (Nat.le_succ _)
theorem put1_sorted {L : List Pr} (h : Sorted L) (o : Kop) : Sorted (put1 L o) := by
  unfold put1
  split
  · exact wi_sorted h _
  · exact wo_sorted h _

theorem pfx_same {L : List Pr} (hs : Sorted L) {i : Nat} {x : Pr} (h : L[i]? = some x) {o : Kop} (hD : (!o.has || hitG (L.take i) o.key) = true) :
    (!o.has || hitG (L.take (i + 1)) o.key) = true ∧ pfx (L.take (i + 1)) o = pfx (L.take i) o ++ (if x.1 = o.key then [] else [x]) := by
  constructor
  · rw [hitG_step h]
    cases ho : o.has <;> simp_all
  · rw [pfx_step hs h, if_neg]
    rintro ⟨h1, h2, _⟩
    rw [h1, h2] at hD; simp at hD
theorem pfx_less {L : List Pr} (hs : Sorted L) {i : Nat} {x : Pr} (h : L[i]? = some x) {o : Kop} (hD : (!o.has || hitG (L.take i) o.key) = false) (hx : klt x.1 o.key = true) :
    (!o.has || hitG (L.take (i + 1)) o.key) = false ∧ pfx (L.take (i + 1)) o = pfx (L.take i) o ++ [x] := by
  constructor
  · rw [hitG_step h, hx]
    cases ho : o.has <;> simp_all
  · rw [pfx_step hs h, if_neg, if_neg (klt_ne hx)]
    rintro ⟨_, _, h3⟩
    rw [hx] at h3; cases h3
theorem pfx_here {L : List Pr} (hs : Sorted L) {i : Nat} {x : Pr} (h : L[i]? = some x) {o : Kop} (hD : (!o.has || hitG (L.take i) o.key) = false) (hx : klt x.1 o.key = false) :
    o.has = true ∧ (!o.has || hitG (L.take (i + 1)) o.key) = true ∧ pfx (L.take (i + 1)) o = (pfx (L.take i) o ++ [(o.key, o.val)]) ++ (if x.1 = o.key then [] else [x]) := by
  have ho : o.has = true := by cases ho : o.has <;> simp_all
  have hh : hitG (L.take i) o.key = false := by rw [ho] at hD; simpa using hD
  refine ⟨ho, ?_, ?_⟩
  · rw [hitG_step h, hx]; simp
  · rw [pfx_step hs h, if_pos ⟨ho, hh, hx⟩]
theorem opsOf_snoc (A : List Pr) (x : Pr) : opsOf (A ++ [x]) = opsOf A ++ [opOf x] := opsOf_app A [x]
set_option maxRecDepth 100000 in
set_option maxHeartbeats 12800000 in
theorem rput_any {w : World} {v : Value} {L : List Pr} (o : Kop) (h : opL.In w v (opsOf L)) (hs : Sorted L) (hl : L.length ≤ 1000000) :
    Calls Try.prog 53 #[v, .agg #[.string o.key, .bool o.has, .string o.val]] w (ScanP (opsOf (put1 L o)) w) := by
  have hlen := opsOf_len L
  obtain ⟨a, c, rfl, hc1, hc2⟩ := h.slice
  rw [hlen] at h ⊢
  clear hc1 hlen
  have hA := lay_alloc w (.cells #[.string o.key, .bool o.has, .string o.val] 37)
  have HD := Lib.hid (h.later hA)
  have HSo := Lib.hid hs
  have HBx := Lib.hid (kd_boxS w #[.string o.key, .bool o.has, .string o.val] 37)
  have HA := Lib.hid hA
  have HZ : Hid (w.heap.size < (w.alloc (.cells #[.string o.key, .bool o.has, .string o.val] 37)).heap.size) := by show _ < _; simp
  clear h hs hA
  go_enter Try.func53, Try.ntmps53
  go_wp2_with fail
  generalize w.alloc (.cells #[.string o.key, .bool o.has, .string o.val] 37) = w0 at *
  go_loopw [5, 6, 14] (fun u d v wr => ∃ (i : Nat) (D : Bool), v = .int .i64 i ∧ d = .bool D ∧ i ≤ L.length ∧ Hid ((!o.has || hitG (L.take i) o.key) = D) ∧ Hid (Rw opL 37 w0 wr u (opsOf (pfx (L.take i) o))))
    (fun _ _ v _ => L.length - (intOf v).toNat)
  case atStart =>
    refine ⟨0, !o.has, rfl, rfl, Nat.zero_le _, ?_, ?_⟩
    · show _ = _
      simp [hitG]
    · show Rw _ _ _ _ _ _
      have : pfx [] o = [] := by unfold pfx; cases o.has <;> rfl
      rw [List.take_zero, this]
      exact Rw.nil w0
  case round =>
    obtain ⟨i, D, rfl, rfl, hin, hD, hR⟩ := hrel
    have ei : IntKind.i64.wrap ((i : Int) + 1) = (i : Int) + 1 := IntWalk.i64_in _ (by omega)
    have hpl : (pfx (L.take i) o).length ≤ 1000001 := by have := pfx_len (L.take i) o; have h2 : (L.take i).length ≤ i := List.length_take_le _ _; omega
    have bq := fun q v hq => lay_later hR.out.grown (HBx.out q v hq)
    by_cases hlt : i < L.length
    · obtain ⟨x, hx⟩ : ∃ x, L[i]? = some x := ⟨L[i], List.getElem?_eq_getElem hlt⟩
      obtain ⟨g, off, rfl, hle, hcell⟩ := HD.out.cells (opsOf_at hx)
      clear hle
      have c0 : wr.cell? ⟨g, off + i * 3, none⟩ = some (.string x.1) := lay_later hR.out.grown (hcell 0 _ rfl)
      have c1 : wr.cell? ⟨g, off + i * 3 + 1, none⟩ = some (.bool true) := lay_later hR.out.grown (hcell 1 _ rfl)
      have c2 : wr.cell? ⟨g, off + i * 3 + 2, none⟩ = some (.string x.2) := lay_later hR.out.grown (hcell 2 _ rfl)
      have hI1 : (i : Int) < ((L.length : Nat) : Int) := by omega
      have hI0 : (0 : Int) ≤ (i : Int) := by omega
      have hA1 := lay_alloc wr (.cells #[.string x.1, .bool true, .string x.2] 37)
      have hR2 := hR.out.below hA1
      have HR := Lib.hid hR2
      have HOw : Hid (∀ k, wr.heap.size ≤ k ∨ k < w0.heap.size → some k ≠ u5.ownBlock) := fun k hk e => by have h1 := hR.out.lt k e.symm; omega
      obtain ⟨ea, ec, hev, _, _⟩ := hR2.slice
      subst hev
      have x0 := kd_boxS wr #[.string x.1, .bool true, .string x.2] 37 0 _ rfl
      have x1 := kd_boxS wr #[.string x.1, .bool true, .string x.2] 37 1 _ rfl
      have x2 := kd_boxS wr #[.string x.1, .bool true, .string x.2] 37 2 _ rfl
      have b0 := lay_later hA1 (bq 0 _ rfl)
      have b1 := lay_later hA1 (bq 1 _ rfl)
      have b2 := lay_later hA1 (bq 2 _ rfl)
      have HX := Lib.hid hx
      have HS2 : Hid (w0.heap.size ≤ (wr.alloc (.cells #[.string x.1, .bool true, .string x.2] 37)).heap.size) := hR2.grown.size
      have HN2 : Hid ((opsOf (pfx (L.take i) o)).length ≤ 1000001) := by show _ ≤ _; rw [opsOf_len]; exact hpl
      have HPS := Lib.hid (fun h => pfx_same HSo.out (o := o) hx h)
      have HPL := Lib.hid (fun h => pfx_less HSo.out (o := o) hx h)
      have HPH := Lib.hid (fun h => pfx_here HSo.out (o := o) hx h)
      generalize pfx (L.take i) o = A at *
      clear hcell hx hA1 hR2 hR bq hpl
      generalize (!o.has || hitG (L.take i) o.key) = D0 at *
      have hDD : D0 = D := hD.out
      subst hDD
      clear hD
      generalize hTT : L.take (i + 1) = T at *
      cases hDc : D0 with
      | true =>
        obtain ⟨hd, hp⟩ := HPS.out hDc
        have HDn := Lib.hid hd
        have HPn := Lib.hid hp
        clear hd hp HPS HPL HPH hDc
        by_cases he : x.1 = o.key
        · have hee : x.1.toList = o.key.toList := by rw [he]
          have heq : (x.1.toList == o.key.toList) = true := by rw [ba_eq]; simpa using he
          have HF : Hid (Rw opL 37 w0 (wr.alloc (.cells #[.string x.1, .bool true, .string x.2] 37)) (.slice ea (opsOf A).length ec) (opsOf (pfx T o))) := by show Rw _ _ _ _ _ _; rw [HPn.out, if_pos he, List.append_nil]; exact HR.out
          clear he
          go_wp2_with fail
          exact ⟨⟨i + 1, true, by simp, rfl, hlt, by rw [hTT]; exact HDn, by rw [hTT]; exact HF⟩, by show L.length - ((i : Int) + 1).toNat < L.length - ((i : Int)).toNat; omega⟩
        · have hee : ¬ x.1.toList = o.key.toList := fun e => he (ba_inj e)
          have heq : (x.1.toList == o.key.toList) = false := by rw [ba_eq]; simpa using he
          have HP2 : Hid (pfx T o = A ++ [x]) := by show _ = _; rw [HPn.out, if_neg he]
          clear he
          go_wp2_with (at_builtin; go_loud (refine wpList_pushJ rfl _ _ 28 37 _ 3 40 rfl Try.underlying28 Try.infoOp rfl (by decide) w0.heap.size _ _ _ rfl HR.out.own #[.string x.1, .bool true, .string x.2] rfl (opL.one (opOf x)) _ rfl (by simp) (by have := HN2.out; omega) (by decide) HS2.out ?_; intro g4 c4 w4 hown hgrow hat hlt4; have HR4 := Lib.hid (HR.out.push (opOf x) hown hgrow); clear hown hgrow hat hlt4))
          refine ⟨⟨i + 1, true, by simp, rfl, hlt, by rw [hTT]; exact HDn, ?_⟩, by show L.length - ((i : Int) + 1).toNat < L.length - ((i : Int)).toNat; omega⟩
          show Rw _ _ _ _ _ _
          rw [hTT, HP2.out, opsOf_snoc]; exact HR4.out
      | false =>
        cases hxk : klt x.1 o.key with
        | true =>
          obtain ⟨hd, hp⟩ := HPL.out hDc hxk
          have HDn := Lib.hid hd
          have HP2 := Lib.hid hp
          have hbl : Go.Op.bytesLess x.1.toList o.key.toList = true := hxk
          have hne := klt_ne hxk
          have hee : ¬ x.1.toList = o.key.toList := fun e => hne (ba_inj e)
          have heq : (x.1.toList == o.key.toList) = false := by rw [ba_eq]; simpa using hne
          clear hd hp HPS HPL HPH hDc hxk hne
          go_wp2_with (at_builtin; go_loud (refine wpList_pushJ rfl _ _ 28 37 _ 3 40 rfl Try.underlying28 Try.infoOp rfl (by decide) w0.heap.size _ _ _ rfl HR.out.own #[.string x.1, .bool true, .string x.2] rfl (opL.one (opOf x)) _ rfl (by simp) (by have := HN2.out; omega) (by decide) HS2.out ?_; intro g4 c4 w4 hown hgrow hat hlt4; have HR4 := Lib.hid (HR.out.push (opOf x) hown hgrow); clear hown hgrow hat hlt4))
          refine ⟨⟨i + 1, false, by simp, rfl, hlt, by rw [hTT]; exact HDn, ?_⟩, by show L.length - ((i : Int) + 1).toNat < L.length - ((i : Int)).toNat; omega⟩
          show Rw _ _ _ _ _ _
          rw [hTT, HP2.out, opsOf_snoc]; exact HR4.out
        | false =>
          obtain ⟨ho, hd, hp⟩ := HPH.out hDc hxk
          have HDn := Lib.hid hd
          have HPn := Lib.hid hp
          have hbl : Go.Op.bytesLess x.1.toList o.key.toList = false := hxk
          rw [ho] at b1
          clear ho hd hp HPS HPL HPH hDc hxk
          by_cases he : x.1 = o.key
          · have hee : x.1.toList = o.key.toList := by rw [he]
            have heq : (x.1.toList == o.key.toList) = true := by rw [ba_eq]; simpa using he
            have HP2 : Hid (pfx T o = A ++ [(o.key, o.val)]) := by show _ = _; rw [HPn.out, if_pos he, List.append_nil]
            have hbl2 : Go.Op.bytesLess o.key.toList o.key.toList = false := by rw [hee] at hbl; exact hbl
            clear he
            go_wp2_with (at_builtin; go_loud (refine wpList_pushJ rfl _ _ 28 37 _ 3 40 rfl Try.underlying28 Try.infoOp rfl (by decide) w0.heap.size _ _ _ rfl HR.out.own #[.string o.key, .bool true, .string o.val] rfl (opL.one (opOf (o.key, o.val))) _ rfl (by simp) (by have := HN2.out; omega) (by decide) HS2.out ?_; intro g3 c3 w3 hown hgrow hat hlt3; have HR3 := Lib.hid (HR.out.push (opOf (o.key, o.val)) hown hgrow); have y0 := hgrow.cell x0 (HOw.out _ (.inl (Nat.le_refl _))); have y1 := hgrow.cell x1 (HOw.out _ (.inl (Nat.le_refl _))); have y2 := hgrow.cell x2 (HOw.out _ (.inl (Nat.le_refl _))); have d0 := hgrow.cell b0 (HOw.out _ (.inr HZ.out)); have d1 := hgrow.cell b1 (HOw.out _ (.inr HZ.out)); have d2 := hgrow.cell b2 (HOw.out _ (.inr HZ.out)); have HS3 : Hid (w0.heap.size ≤ w3.heap.size) := HR3.out.grown.size; clear hown hgrow hat hlt3))
            refine ⟨⟨i + 1, true, by simp, rfl, hlt, by rw [hTT]; exact HDn, ?_⟩, by show L.length - ((i : Int) + 1).toNat < L.length - ((i : Int)).toNat; omega⟩
            show Rw _ _ _ _ _ _
            rw [hTT, HP2.out, opsOf_snoc]; exact HR3.out
          · have hee : ¬ x.1.toList = o.key.toList := fun e => he (ba_inj e)
            have heq : (x.1.toList == o.key.toList) = false := by rw [ba_eq]; simpa using he
            have HP2 : Hid (pfx T o = (A ++ [(o.key, o.val)]) ++ [x]) := by show _ = _; rw [HPn.out, if_neg he]
            clear he
            go_wp2_with (first | (at_builtin; refine wpList_pushJ rfl _ _ 28 37 _ 3 40 rfl Try.underlying28 Try.infoOp rfl (by decide) w0.heap.size _ _ _ rfl HR.out.own #[.string o.key, .bool true, .string o.val] rfl (opL.one (opOf (o.key, o.val))) _ rfl (by simp) (by have := HN2.out; omega) (by decide) HS2.out ?_; intro g3 c3 w3 hown hgrow hat hlt3; have HR3 := Lib.hid (HR.out.push (opOf (o.key, o.val)) hown hgrow); have y0 := hgrow.cell x0 (HOw.out _ (.inl (Nat.le_refl _))); have y1 := hgrow.cell x1 (HOw.out _ (.inl (Nat.le_refl _))); have y2 := hgrow.cell x2 (HOw.out _ (.inl (Nat.le_refl _))); have d0 := hgrow.cell b0 (HOw.out _ (.inr HZ.out)); have d1 := hgrow.cell b1 (HOw.out _ (.inr HZ.out)); have d2 := hgrow.cell b2 (HOw.out _ (.inr HZ.out)); have HS3 : Hid (w0.heap.size ≤ w3.heap.size) := HR3.out.grown.size; clear hown hgrow hat hlt3) | (at_builtin; refine wpList_pushJ rfl _ _ 28 37 _ 3 40 rfl Try.underlying28 Try.infoOp rfl (by decide) w0.heap.size _ _ _ rfl HR3.out.own #[.string x.1, .bool true, .string x.2] rfl (opL.one (opOf x)) _ rfl (by simp) (by have := HN2.out; simp; omega) (by decide) HS3.out ?_; intro g4 c4 w4 hown hgrow hat hlt4; have HR4 := Lib.hid (HR3.out.push (opOf x) hown hgrow); clear hown hgrow hat hlt4))
            refine ⟨⟨i + 1, true, by simp, rfl, hlt, by rw [hTT]; exact HDn, ?_⟩, by show L.length - ((i : Int) + 1).toNat < L.length - ((i : Int)).toNat; omega⟩
            show Rw _ _ _ _ _ _
            rw [hTT, HP2.out, opsOf_snoc, opsOf_snoc]; have h4 := HR4.out; rw [List.length_append] at h4; exact h4
    · obtain rfl : i = L.length := by omega
      rw [List.take_length] at hR hD
      have HE := Lib.hid (pfx_end L o)
      have hpl2 : (pfx L o).length ≤ 1000001 := by have := pfx_len L o; omega
      have HN2 : Hid ((opsOf (pfx L o)).length ≤ 1000001) := by show _ ≤ _; rw [opsOf_len]; exact hpl2
      have HR := hR
      have HS2 : Hid (w0.heap.size ≤ wr.heap.size) := hR.out.grown.size
      obtain ⟨ea, ec, hev, _, _⟩ := hR.out.slice
      subst hev
      have b0 := bq 0 _ rfl
      have b1 := bq 1 _ rfl
      have b2 := bq 2 _ rfl
      clear hpl hR bq hpl2
      cases D with
      | true =>
        have HF : Hid (put1 L o = pfx L o) := by
          show _ = _
          rw [HE.out, if_neg]
          rintro ⟨h1, h2⟩
          have := hD.out
          rw [h1, h2] at this; simp at this
        clear HE hD
        go_wp2_with fail
        go_ret
        exact ⟨_, rfl, by rw [HF.out]; exact HR.out.base HA.out⟩
      | false =>
        have ho : o.has = true := by have := hD.out; cases ho : o.has <;> simp_all
        have HF : Hid (put1 L o = pfx L o ++ [(o.key, o.val)]) := by
          show _ = _
          rw [HE.out, if_pos]
          refine ⟨ho, ?_⟩
          have := hD.out
          rw [ho] at this; simpa using this
        rw [ho] at b1
        clear HE hD
        go_wp2_with (at_builtin; go_loud (refine wpList_pushJ rfl _ _ 28 37 _ 3 40 rfl Try.underlying28 Try.infoOp rfl (by decide) w0.heap.size _ _ _ rfl HR.out.own #[.string o.key, .bool true, .string o.val] rfl (opL.one (opOf (o.key, o.val))) _ rfl (by simp) (by have := HN2.out; omega) (by decide) HS2.out ?_; intro g3 c3 w3 hown hgrow hat hlt3; have HR3 := Lib.hid (HR.out.push (opOf (o.key, o.val)) hown hgrow); clear hown hgrow hat hlt3))
        go_ret
        refine ⟨_, rfl, ?_⟩
        rw [HF.out, opsOf_snoc]; exact HR3.out.base HA.out
end Go.Proofs.Ytdfjnpnkfjcpcaa

/- K21 -/
namespace Go.Proofs.Ytdfjnpnkfjcpcaa
set_option linter.unusedVariables false
set_option linter.unusedSimpArgs false
open Go.RowKit

/-- A list stays where a block of one cell of another kind is written. -/
theorem Lay.In.keep {α : Type} {I : Lay α} {w w' : World} {k : Nat} {y : Value} {E : TypeId} {v : Value} {l : List α} (h : I.In w v l) (hg : w.grownBy w' (some k)) (hk : w.heap[k]? = some (.cells #[y] E (0, 0))) (hy : ∀ r, (I.enc r)[0]? ≠ some y ∧ (I.enc r)[0]? ≠ none) : I.In w' v l := by
  obtain ⟨a, c, hv, h1, h2, h⟩ := h
  refine ⟨a, c, hv, h1, h2, ?_⟩
  rcases h with h | ⟨g, off, ha, hlt, h⟩
  · exact .inl h
  · cases hl : l with
    | nil => exact .inl rfl
    | cons r l' =>
      have hgk : g ≠ k := by
        intro e
        subst e
        cases hr : (I.enc r)[0]? with
        | none => exact (hy r).2 hr
        | some z =>
          have hc := h 0 r (by rw [hl]; rfl) 0 z hr
          rw [cell_of_row w g _ _ _ _ hk] at hc
          have e0 : off + 0 * I.sz + 0 = off := by omega
          rw [e0] at hc
          cases off with
          | zero =>
            have : y = z := by simpa using hc
            exact (hy r).1 (by rw [hr, this])
          | succ n => simp at hc
      rw [← hl]
      exact .inr ⟨g, off, ha, Nat.lt_of_lt_of_le hlt hg.size, h.block (hg.block g hlt (by simpa using hgk))⟩
/-- The document's map lies in block x. -/
def Mr (w : World) (x : Nat) (L : List Pr) : Prop := ∃ v, w.heap[x]? = some (.cells #[v] 30 (0, 0)) ∧ opL.In w v (opsOf L) ∧ Sorted L
theorem heap_lt {w : World} {x : Nat} {o : Obj} (h : w.heap[x]? = some o) : x < w.heap.size := (Array.getElem?_eq_some_iff.1 h).1
theorem Mr.lt {w : World} {x : Nat} {L : List Pr} (h : Mr w x L) : x < w.heap.size := by obtain ⟨v, h, _⟩ := h; exact heap_lt h
theorem Mr.sorted {w : World} {x : Nat} {L : List Pr} (h : Mr w x L) : Sorted L := by obtain ⟨v, _, _, h⟩ := h; exact h
theorem Mr.below {w w' : World} {x : Nat} {L : List Pr} (h : Mr w x L) (hb : Below w.heap.size w w') : Mr w' x L := by
  have hlt := h.lt
  obtain ⟨v, hc, hi, hs⟩ := h
  exact ⟨v, (hb.block x hlt).trans hc, hi.later hb, hs⟩
theorem op_enc (y : Value) (h : ∀ s, y ≠ .string s) (r : Kop) : (opL.enc r)[0]? ≠ some y ∧ (opL.enc r)[0]? ≠ none := ⟨fun e => h r.key (by simpa [opL] using e.symm), fun e => by simp [opL] at e⟩
theorem ev_enc (y : Value) (h : ∀ k n, y ≠ .int k n) (r : Kev) : (evL.enc r)[0]? ≠ some y ∧ (evL.enc r)[0]? ≠ none := ⟨fun e => h .i64 r.pos (by simpa [evL] using e.symm), fun e => by simp [evL] at e⟩
theorem Mr.slice {w : World} {x : Nat} {L : List Pr} (h : Mr w x L) : ∃ a c, w.heap[x]? = some (.cells #[.slice a L.length c] 30 (0, 0)) ∧ opL.In w (.slice a L.length c) (opsOf L) ∧ Sorted L := by
  obtain ⟨v, hc, hi, hs⟩ := h
  obtain ⟨a, c, rfl, _, _⟩ := hi.slice
  rw [opsOf_len] at hc hi
  exact ⟨a, c, hc, hi, hs⟩
theorem Mr.other {w w' : World} {b x : Nat} {L M : List Pr} (h : Mr w x L) (hm : Mp w b M) (hg : w.grownBy w' (some b)) : Mr w' x L := by
  have hlt := h.lt
  obtain ⟨v, hc, hi, hs⟩ := h
  obtain ⟨t, tb, hb, _⟩ := hm
  have hne : x ≠ b := by
    intro e
    subst e
    rw [hc] at hb
    simp at hb
  exact ⟨v, (hg.block x hlt (by simpa using hne)).trans hc, hi.keep hg hb (op_enc _ (fun s => by simp)), hs⟩
theorem Mp.writes {w w' : World} {b x : Nat} {L M : List Pr} (h : Mp w b M) (hr : Mr w x L) (hg : w.grownBy w' (some x)) : Mp w' b M := by
  obtain ⟨a, c, hc, hi, hs⟩ := hr.slice
  refine h.past hg (fun k hk => ?_) ?_
  · obtain rfl : x = k := by simpa using hk
    exact ⟨_, _, hc, by decide, by decide⟩
  · intro e
    obtain rfl : x = b := by simpa using e
    obtain ⟨t, tb, hb, _⟩ := h
    rw [hc] at hb
    simp at hb
theorem Mr.set {w : World} {x : Nat} {L L' : List Pr} {v : Value} (h : Mr w x L) (hv : opL.In w v (opsOf L')) (hs : Sorted L') : Mr (w.setCell ⟨x, 0, none⟩ v) x L' := by
  obtain ⟨a, c, hc, hi, _⟩ := h.slice
  exact ⟨v, by rw [heap_setCell_same w x 0 _ _ _ hc]; rfl, hv.keep grown_put hc (op_enc _ (fun s => by simp)), hs⟩
theorem Mr.keeps {α : Type} {I : Lay α} {w w' : World} {x : Nat} {L : List Pr} {v : Value} {l : List α} (h : Mr w x L) (hv : I.In w v l) (hg : w.grownBy w' (some x)) (hy : ∀ y, (∀ k n, y ≠ .int k n) → (∀ s, y ≠ .string s) → ∀ r, (I.enc r)[0]? ≠ some y ∧ (I.enc r)[0]? ≠ none) : I.In w' v l := by
  obtain ⟨a, c, hc, _⟩ := h.slice
  exact hv.keep hg hc (hy _ (fun k n => by simp) (fun s => by simp))
theorem Mr.keepO {w w' : World} {x : Nat} {L : List Pr} {v : Value} {l : List Kop} (h : Mr w x L) (hv : opL.In w v l) (hg : w.grownBy w' (some x)) : opL.In w' v l := h.keeps hv hg (fun y _ hy => op_enc y hy)
theorem Mr.keepE {w w' : World} {x : Nat} {L : List Pr} {v : Value} {l : List Kev} (h : Mr w x L) (hv : evL.In w v l) (hg : w.grownBy w' (some x)) : evL.In w' v l := h.keeps hv hg (fun y hy _ => ev_enc y hy)
theorem Mp.keepO {w w' : World} {b : Nat} {L : List Pr} {v : Value} {l : List Kop} (h : Mp w b L) (hv : opL.In w v l) (hg : w.grownBy w' (some b)) : opL.In w' v l := by
  obtain ⟨t, tb, hb, _⟩ := h
  exact hv.keep hg hb (op_enc _ (fun s => by simp))
theorem Mp.keepE {w w' : World} {b : Nat} {L : List Pr} {v : Value} {l : List Kev} (h : Mp w b L) (hv : evL.In w v l) (hg : w.grownBy w' (some b)) : evL.In w' v l := by
  obtain ⟨t, tb, hb, _⟩ := h
  exact hv.keep hg hb (ev_enc _ (fun k n => by simp))

set_option maxRecDepth 100000 in
set_option maxHeartbeats 3200000 in
theorem RGet {w : World} {x : Nat} {L : List Pr} (k : ByteArray) (h : Mr w x L) (hl : L.length ≤ 1000000) :
    Calls Try.prog 31 #[.pointer (some ⟨x, 0, none⟩), .string k] w (GetP L k w) := by
  obtain ⟨a, c, hc, hi, hs⟩ := h.slice
  have q0 : w.cell? ⟨x, 0, none⟩ = some (.slice a L.length c) := by rw [cell_of_row w x 0 _ _ (0, 0) hc]; rfl
  have HD := Lib.hid hi
  have HSo := Lib.hid hs
  clear h hc hi hs
  go_enter Try.func31, Try.ntmps31
  go_wp2_with fail
  clear q0
  go_loopw [13] (fun v wr => ∃ i : Nat, v = .int .i64 i ∧ i ≤ L.length ∧ Hid (Below w.heap.size w wr) ∧ Hid (look (L.take i) k = none))
    (fun v _ => L.length - (intOf v).toNat)
  case atStart => exact ⟨0, rfl, Nat.zero_le _, Below.refl _ _, by show look [] k = none; rfl⟩
  case round =>
    obtain ⟨i, rfl, hin, hB, hN⟩ := hrel
    have ei : IntKind.i64.wrap ((i : Int) + 1) = (i : Int) + 1 := IntWalk.i64_in _ (by omega)
    by_cases hlt : i < L.length
    · obtain ⟨p, hp⟩ : ∃ p, L[i]? = some p := ⟨L[i], List.getElem?_eq_getElem hlt⟩
      obtain ⟨g, off, rfl, hle, hcell⟩ := HD.out.cells (opsOf_at hp)
      have c0 : wr.cell? ⟨g, off + i * 3, none⟩ = some (.string p.1) := lay_later hB.out (hcell 0 _ rfl)
      have c1 : wr.cell? ⟨g, off + i * 3 + 1, none⟩ = some (.bool true) := lay_later hB.out (hcell 1 _ rfl)
      have c2 : wr.cell? ⟨g, off + i * 3 + 2, none⟩ = some (.string p.2) := lay_later hB.out (hcell 2 _ rfl)
      have hI1 : (i : Int) < ((L.length : Nat) : Int) := by omega
      have hI0 : (0 : Int) ≤ (i : Int) := by omega
      have x0 := kd_boxS wr #[.string p.1, .bool true, .string p.2] 37 0 _ rfl
      have x2 := kd_boxS wr #[.string p.1, .bool true, .string p.2] 37 2 _ rfl
      have HB2 := Lib.hid (below_of hB.out (lay_alloc wr (.cells #[.string p.1, .bool true, .string p.2] 37)))
      have HSt := Lib.hid (fun h => look_step hp hN.out h)
      have HDn := Lib.hid (fun h => look_done hp hN.out h)
      clear hcell hle hp hN
      by_cases he : p.1 = k
      · have HV := Lib.hid (HDn.out he)
        have hee : p.1.toList = k.toList := by rw [he]
        have heq : (p.1.toList == k.toList) = true := by rw [ba_eq]; simpa using he
        clear he HSt HDn
        go_wp2_with fail
        go_ret2
        refine ⟨?_, HB2.out⟩
        unfold val1 hasB
        rw [HV.out]; rfl
      · have HN2 := Lib.hid (HSt.out he)
        have hee : ¬ p.1.toList = k.toList := fun e => he (ba_inj e)
        have heq : (p.1.toList == k.toList) = false := by rw [ba_eq]; simpa using he
        clear he HSt HDn
        go_wp2_with fail
        exact ⟨⟨i + 1, by simp, hlt, HB2, HN2⟩, by show L.length - ((i : Int) + 1).toNat < L.length - ((i : Int)).toNat; omega⟩
    · obtain rfl : i = L.length := by omega
      rw [List.take_length] at hN
      go_wp2_with fail
      go_ret2
      refine ⟨?_, hB.out⟩
      unfold val1 hasB
      rw [hN.out]; rfl

theorem scO_step {L : List Pr} {i : Nat} {p : Pr} (h : L[i]? = some p) (a b : ByteArray) : scO (L.take (i + 1)) a b = if within a b p = true then scO (L.take i) a b ++ [opOf p] else scO (L.take i) a b := by
  unfold scO
  rw [List.take_add_one, h, List.filter_append, List.map_append]
  cases hw : within a b p <;> simp [hw]
theorem scO_len (L : List Pr) (a b : ByteArray) : (scO L a b).length ≤ L.length := by unfold scO; rw [List.length_map]; exact List.length_filter_le _ _
set_option maxRecDepth 100000 in
set_option maxHeartbeats 6400000 in
theorem RScan {w : World} {x : Nat} {L : List Pr} (k m : ByteArray) (h : Mr w x L) (hl : L.length ≤ 1000000) :
    Calls Try.prog 23 #[.pointer (some ⟨x, 0, none⟩), .string k, .string m] w (ScanP (scO L k m) w) := by
  obtain ⟨a, c, hc, hi, hs⟩ := h.slice
  have q0 : w.cell? ⟨x, 0, none⟩ = some (.slice a L.length c) := by rw [cell_of_row w x 0 _ _ (0, 0) hc]; rfl
  have HD := Lib.hid hi
  clear h hc hi hs
  go_enter Try.func23, Try.ntmps23
  go_wp2_with fail
  clear q0
  go_loopw [7, 15] (fun u v wr => ∃ i : Nat, v = .int .i64 i ∧ i ≤ L.length ∧ Hid (Rw opL 37 w wr u (scO (L.take i) k m)))
    (fun _ v _ => L.length - (intOf v).toNat)
  case atStart => exact ⟨0, rfl, Nat.zero_le _, by show Rw _ _ _ _ _ _; exact Rw.nil w⟩
  case round =>
    obtain ⟨i, rfl, hin, hR⟩ := hrel
    have ei : IntKind.i64.wrap ((i : Int) + 1) = (i : Int) + 1 := IntWalk.i64_in _ (by omega)
    by_cases hlt : i < L.length
    · obtain ⟨p, hp⟩ : ∃ p, L[i]? = some p := ⟨L[i], List.getElem?_eq_getElem hlt⟩
      obtain ⟨g, off, rfl, hle, hcell⟩ := HD.out.cells (opsOf_at hp)
      have c0 : wr.cell? ⟨g, off + i * 3, none⟩ = some (.string p.1) := lay_later hR.out.grown (hcell 0 _ rfl)
      have c1 : wr.cell? ⟨g, off + i * 3 + 1, none⟩ = some (.bool true) := lay_later hR.out.grown (hcell 1 _ rfl)
      have c2 : wr.cell? ⟨g, off + i * 3 + 2, none⟩ = some (.string p.2) := lay_later hR.out.grown (hcell 2 _ rfl)
      have hI1 : (i : Int) < ((L.length : Nat) : Int) := by omega
      have hI0 : (0 : Int) ≤ (i : Int) := by omega
      have hA := lay_alloc wr (.cells #[.string p.1, .bool true, .string p.2] 37)
      have hR2 := hR.out.below hA
      have HR := Lib.hid hR2
      obtain ⟨ea, ec, hev, _, _⟩ := hR2.slice
      subst hev
      have x0 := kd_boxS wr #[.string p.1, .bool true, .string p.2] 37 0 _ rfl
      have x1 := kd_boxS wr #[.string p.1, .bool true, .string p.2] 37 1 _ rfl
      have x2 := kd_boxS wr #[.string p.1, .bool true, .string p.2] 37 2 _ rfl
      have HStep := Lib.hid (scO_step hp k m)
      have HN2 : Hid ((scO (L.take i) k m).length ≤ 1000000) := by show _ ≤ _; have := scO_len (L.take i) k m; have h2 : (L.take i).length ≤ i := List.length_take_le _ _; omega
      have HS2 : Hid (w.heap.size ≤ (wr.alloc (.cells #[.string p.1, .bool true, .string p.2] 37)).heap.size) := hR2.grown.size
      generalize scO (L.take i) k m = es at *
      clear hcell hle hp hA hR2 hR
      have hbl : Go.Op.bytesLess p.1.toList k.toList = klt p.1 k := rfl
      cases hb1 : klt p.1 k with
      | true =>
        rw [hb1] at hbl
        have HSt : Hid (scO (L.take (i + 1)) k m = es) := by show _ = _; rw [HStep.out, if_neg]; unfold within; rw [hb1]; simp
        clear hb1 HStep
        go_wp2_with fail
        refine ⟨⟨i + 1, by simp, hlt, ?_⟩, by show L.length - ((i : Int) + 1).toNat < L.length - ((i : Int)).toNat; omega⟩
        show Rw _ _ _ _ _ _
        rw [HSt.out]; exact HR.out
      | false =>
        rw [hb1] at hbl
        have HW : Hid (within k m p = (decide (m = ByteArray.empty) || klt p.1 m)) := by show _ = _; unfold within; rw [hb1]; simp
        clear hb1
        have hme : (m.toList == []) = decide (m = ByteArray.empty) := by rw [← emp_toList, ba_eq]
        have hme2 := ba_emp m
        by_cases hm : m = ByteArray.empty
        · have HSt : Hid (scO (L.take (i + 1)) k m = es ++ [opOf p]) := by show _ = _; rw [HStep.out, if_pos]; rw [HW.out]; simp [hm]
          rw [decide_eq_true hm] at hme hme2
          have hml : m.toList = [] := by rw [hm, emp_toList]
          clear hm HW HStep
          go_wp2_with (at_builtin; go_loud (refine wpList_pushJ rfl _ _ 28 37 _ 3 40 rfl Try.underlying28 Try.infoOp rfl (by decide) w.heap.size es.length _ (opL.all es) rfl HR.out.own #[.string p.1, .bool true, .string p.2] rfl (opL.one (opOf p)) _ rfl (by simp) (by have := HN2.out; omega) (by decide) HS2.out ?_; intro g4 c4 w4 hown hgrow hat hlt4; have HR4 := Lib.hid (HR.out.push (opOf p) hown hgrow); clear hown hgrow hat hlt4))
          refine ⟨⟨i + 1, by simp, hlt, ?_⟩, by show L.length - ((i : Int) + 1).toNat < L.length - ((i : Int)).toNat; omega⟩
          show Rw _ _ _ _ _ _
          rw [HSt.out]; exact HR4.out
        · have hbl2 : Go.Op.bytesLess p.1.toList m.toList = klt p.1 m := rfl
          rw [decide_eq_false hm] at hme hme2
          have hml : ¬ m.toList = [] := fun e => hm (ba_inj (by rw [e, emp_toList]))
          cases hb2 : klt p.1 m with
          | true =>
            have HSt : Hid (scO (L.take (i + 1)) k m = es ++ [opOf p]) := by show _ = _; rw [HStep.out, if_pos]; rw [HW.out, hb2]; simp
            rw [hb2] at hbl2
            clear hm HW HStep hb2
            go_wp2_with (at_builtin; go_loud (refine wpList_pushJ rfl _ _ 28 37 _ 3 40 rfl Try.underlying28 Try.infoOp rfl (by decide) w.heap.size es.length _ (opL.all es) rfl HR.out.own #[.string p.1, .bool true, .string p.2] rfl (opL.one (opOf p)) _ rfl (by simp) (by have := HN2.out; omega) (by decide) HS2.out ?_; intro g4 c4 w4 hown hgrow hat hlt4; have HR4 := Lib.hid (HR.out.push (opOf p) hown hgrow); clear hown hgrow hat hlt4))
            refine ⟨⟨i + 1, by simp, hlt, ?_⟩, by show L.length - ((i : Int) + 1).toNat < L.length - ((i : Int)).toNat; omega⟩
            show Rw _ _ _ _ _ _
            rw [HSt.out]; exact HR4.out
          | false =>
            have HSt : Hid (scO (L.take (i + 1)) k m = es) := by show _ = _; rw [HStep.out, if_neg]; rw [HW.out, hb2]; simp [hm]
            rw [hb2] at hbl2
            clear hm HW HStep hb2
            go_wp2_with fail
            refine ⟨⟨i + 1, by simp, hlt, ?_⟩, by show L.length - ((i : Int) + 1).toNat < L.length - ((i : Int)).toNat; omega⟩
            show Rw _ _ _ _ _ _
            rw [HSt.out]; exact HR.out
    · obtain rfl : i = L.length := by omega
      rw [List.take_length] at hR
      go_wp2_with fail
      go_ret
      exact ⟨_, rfl, hR.out⟩
end Go.Proofs.Ytdfjnpnkfjcpcaa
