/-
  A region that draws its order, whatever it makes and writes: each operation has a relation of its own between the worlds ahead and behind; what another one has yielded stands under it. Operations without a slot (stores) are steps too.
-/
import Derived.Test.YtcmfnokpbgfioaaFlow2
namespace Go.Proofs.Ytcmfnokpbgfioaa
set_option linter.unusedVariables false
set_option linter.unusedSimpArgs false
open Go.RowKit

def valD (a : Act) : Option Tmp → Value
  | some d => a.tmps.getD d undef
  | none => undef
def valV (v : Value) : Option Tmp → Value
  | some _ => v
  | none => undef
def apartO (ops : Array Oper) (n : Nat) : Bool := (List.range ops.size).all fun i => match dstD ops i with
  | none => true
  | some d => decide (d < n) && (List.range ops.size).all fun j => decide (j = i) || !(dstD ops j == some d)
theorem apartO_lt {ops : Array Oper} {n i d : Nat} (h : apartO ops n = true) (hi : i < ops.size) (hd : dstD ops i = some d) : d < n ∧ ∀ j, j < ops.size → j ≠ i → dstD ops j ≠ some d := by
  have := List.all_eq_true.1 h i (List.mem_range.2 hi)
  rw [hd] at this
  simp only [Bool.and_eq_true, decide_eq_true_eq] at this
  refine ⟨this.1, fun j hj hne he => ?_⟩
  have := List.all_eq_true.1 this.2 j (List.mem_range.2 hj)
  rw [decide_eq_false hne, he] at this
  simp at this
theorem val_put {ops : Array Oper} {a : Act} {n i j : Nat} {v : Value} (ap : apartO ops n = true) (hs : a.tmps.size = n) (hi : i < ops.size) (hj : j < ops.size) : valD (a.put (dstD ops i) v) (dstD ops j) = if j = i then valV v (dstD ops i) else valD a (dstD ops j) := by
  cases hd : dstD ops i with
  | none =>
    by_cases e : j = i
    · subst e
      rw [if_pos rfl, hd]; rfl
    · rw [if_neg e]; rfl
  | some d =>
    obtain ⟨hdl, hdn⟩ := apartO_lt ap hi hd
    by_cases e : j = i
    · subst e
      rw [if_pos rfl, hd]
      show (a.tmps.setIfInBounds d v).getD d undef = v
      rw [Array.getD_eq_getD_getElem?, Array.getElem?_setIfInBounds_self_of_lt (by rw [hs]; exact hdl)]; rfl
    · rw [if_neg e]
      cases hj' : dstD ops j with
      | none => rfl
      | some x =>
        have hne : d ≠ x := fun h => hdn j hj e (by rw [hj', h])
        show (a.tmps.setIfInBounds d v).getD x undef = a.tmps.getD x undef
        simp only [Array.getD_eq_getD_getElem?, Array.getElem?_setIfInBounds_ne hne]
structure FlowW (I : World → Prop) (S : Nat → World → Value → Prop) (ops : Array Oper) (a0 : Act) (listed : Array Bool) (a : Act) (w : World) : Prop where
  inv : I w
  defers : a.defers = a0.defers
  size : a.tmps.size = a0.tmps.size
  rest : ∀ t, (∀ j, j < ops.size → dstD ops j ≠ some t) → a.tmps.getD t undef = a0.tmps.getD t undef
  got : ∀ j, j < ops.size → listed.getD j false = true → S j w (valD a (dstD ops j))
  len : listed.size = ops.size
def FlowStepW (P : Program) (Q : Exit → Act → World → Prop) (I : World → Prop) (S : Nat → World → Value → Prop) (R : Nat → World → World → Prop) (ops : Array Oper) (a0 : Act) (i : Nat) : Prop :=
  ∀ (a : Act) (w : World), I w → (∀ t, (∀ j, j < ops.size → dstD ops j ≠ some t) → a.tmps.getD t undef = a0.tmps.getD t undef) → a.tmps.size = a0.tmps.size →
    (∀ j, waits ops i j = true → S j w (valD a (dstD ops j))) →
    wpOp P ops Q i (fun a' w' => ∃ v, a' = a.put (dstD ops i) v ∧ S i w' (valV v (dstD ops i)) ∧ R i w w') a w
theorem flowW_all {P : Program} {Q : Exit → Act → World → Prop} {I : World → Prop} {S : Nat → World → Value → Prop} {R : Nat → World → World → Prop} {ops : Array Oper} {a0 : Act}
    (inv : ∀ i w w', I w → R i w w' → I w') (stable : ∀ i j w w' v, j ≠ i → I w → S j w v → R i w w' → S j w' v) (ap : apartO ops a0.tmps.size = true) (edges : ∀ i j, waits ops i j = true → j < i)
    (step : ∀ i, i < ops.size → FlowStepW P Q I S R ops a0 i)
    (done : ∀ a w, I w → a.defers = a0.defers → a.tmps.size = a0.tmps.size → (∀ t, (∀ j, j < ops.size → dstD ops j ≠ some t) → a.tmps.getD t undef = a0.tmps.getD t undef) →
      (∀ j, j < ops.size → S j w (valD a (dstD ops j))) → Q .normal a w) :
    ∀ (fuel : Nat) (listed : Array Bool) (a : Act) (w : World), left ops listed ≤ fuel → FlowW I S ops a0 listed a w → wpAny P .any ops Q fuel listed a w := by
  have progress : ∀ listed : Array Bool, listed.size = ops.size → Region.ready .any ops listed = [] → ∀ j, j < ops.size → listed.getD j false = true := by
    intro listed hsz hr j hj
    cases hl : listed.getD j false with
    | true => rfl
    | false =>
      obtain ⟨i, hi, hp, hmin⟩ := least (fun i => !listed.getD i false) ops.size ⟨j, hj, by simp [hl]⟩
      have hp : listed.getD i false = false := by simpa using hp
      have : i ∈ Region.ready .any ops listed := by
        refine mem_ready.2 ⟨?_, ops[i], Array.getElem?_eq_getElem hi, fun e he hb => ?_⟩
        · have hi' : i < listed.size := by omega
          simp only [Array.getD, hi', dif_pos] at hp ⊢
          exact hp
        · have := edges i e.on ((waits_of (Array.getElem?_eq_getElem hi)).2 ⟨e, he, hb, rfl⟩)
          simpa using hmin e.on this
      rw [hr] at this; cases this
  intro fuel
  induction fuel with
  | zero =>
    intro listed a w hf hF
    have hall : ∀ j, j < ops.size → listed.getD j false = true := fun j hj => by
      have := List.countP_eq_zero.1 (Nat.le_zero.1 hf) j (List.mem_range.2 hj)
      simpa using this
    refine ⟨?_, done a w hF.inv hF.defers hF.size hF.rest fun j hj => hF.got j hj (hall j hj)⟩
    rw [List.eq_nil_iff_forall_not_mem]
    intro j hj
    obtain ⟨h1, o, ho, _⟩ := mem_ready.1 hj
    have hjs : j < ops.size := (Array.getElem?_eq_some_iff.1 ho).1
    have h2 := hall j hjs
    have hi' : j < listed.size := by rw [hF.len]; exact hjs
    simp only [Array.getD, hi', dif_pos] at h1 h2
    rw [h1] at h2; cases h2
  | succ fuel ih =>
    intro listed a w hf hF
    refine ⟨fun hr => done a w hF.inv hF.defers hF.size hF.rest fun j hj => hF.got j hj (progress listed hF.len hr j hj), fun i hi => ?_⟩
    obtain ⟨h1, o, ho, haft⟩ := mem_ready.1 hi
    have his : i < ops.size := (Array.getElem?_eq_some_iff.1 ho).1
    have hil : i < listed.size := by rw [hF.len]; exact his
    refine wpOp_mono ?_ (step i his a w hF.inv hF.rest hF.size fun j hw => ?_)
    · rintro a' w' ⟨v, rfl, hv, hR⟩
      refine ih _ _ _ ?_ ⟨inv i w w' hF.inv hR, ?_, ?_, ?_, ?_, by simpa using hF.len⟩
      · have := countP_less (List.range ops.size) (fun j => !listed.getD j false) (fun j => !(listed.setIfInBounds i true).getD j false) (fun j _ hq => by
          by_cases e : i = j
          · subst e
            simp [Array.getD, hil] at hq
          · rw [getD_set_ne false e] at hq; exact hq) i (List.mem_range.2 his) (by
            simp only [Array.getD, hil, dif_pos] at h1 ⊢; simpa using h1) (by simp [Array.getD, hil])
        unfold left at hf ⊢
        omega
      · cases hd : dstD ops i with
        | none => exact hF.defers
        | some d => exact hF.defers
      · cases hd : dstD ops i with
        | none => exact hF.size
        | some d => simpa [Act.put] using hF.size
      · intro t ht
        cases hd : dstD ops i with
        | none => exact hF.rest t ht
        | some d =>
          have hne : d ≠ t := fun e => ht i his (by rw [hd, e])
          show (a.tmps.setIfInBounds d v).getD t undef = _
          rw [← hF.rest t ht]
          simp only [Array.getD_eq_getD_getElem?, Array.getElem?_setIfInBounds_ne hne]
      · intro j hj hlj
        rw [val_put ap hF.size his hj]
        by_cases hji : j = i
        · subst hji
          rw [if_pos rfl]; exact hv
        · rw [if_neg hji]
          rw [getD_set_ne false (fun h => hji h.symm)] at hlj
          exact stable i j w w' _ hji hF.inv (hF.got j hj hlj) hR
    · obtain ⟨x, hx, hbx, rfl⟩ := (waits_of ho).1 hw
      have hjs : x.on < ops.size := Nat.lt_trans (edges i x.on hw) his
      exact hF.got x.on hjs (haft x hx hbx)
theorem wp_region_flowW {P : Program} {Q : Exit → Act → World → Prop} {I : World → Prop} {S : Nat → World → Value → Prop} {R : Nat → World → World → Prop} {ops : Array Oper} {a0 : Act} {w0 : World} {id : Nat} (hm : P.follows .mixedOrders = true)
    (hI : ∀ w, w.os = w0.os → w.tape = w0.tape → w.output = w0.output → w.heap = w0.heap → I w)
    (inv : ∀ i w w', I w → R i w w' → I w') (stable : ∀ i j w w' v, j ≠ i → I w → S j w v → R i w w' → S j w' v) (ap : apartO ops a0.tmps.size = true) (edges : edgesB ops = true)
    (step : ∀ i, i < ops.size → FlowStepW P Q I S R ops a0 i)
    (done : ∀ a w, I w → a.defers = a0.defers → a.tmps.size = a0.tmps.size → (∀ t, (∀ j, j < ops.size → dstD ops j ≠ some t) → a.tmps.getD t undef = a0.tmps.getD t undef) →
      (∀ j, j < ops.size → S j w (valD a (dstD ops j))) → Q .normal a w) : (Code.region id ops true).wp P Q a0 w0 := by
  refine wp_region_any hm (flowW_all inv stable ap (edges_of edges) step done ops.size _ _ _ ?_ ⟨?_, rfl, rfl, fun _ _ => rfl, ?_, by simp⟩)
  · exact Nat.le_trans List.countP_le_length (by simp)
  · exact hI _ rfl rfl rfl rfl
  · intro j hj h
    simp [Array.getD, hj] at h
/-- A step: a plain operation with a slot. -/
theorem fsW_plain {P : Program} {Q : Exit → Act → World → Prop} {I : World → Prop} {S : Nat → World → Value → Prop} {R : Nat → World → World → Prop} {ops : Array Oper} {a0 : Act} {i : Nat} (o : Oper) (d : Tmp) (ho : ops[i]? = some o) (hd : o.dst = some d) (hg : o.guard = none)
    (h : ∀ a w, I w → (∀ t, freeB ops t = true → a.tmps.getD t undef = a0.tmps.getD t undef) → (∀ j t, waits ops i j = true → dstD ops j = some t → S j w (a.tmps.getD t undef)) →
      o.wp P a w (fun a' w' => ∃ v, a' = a.put (some d) v ∧ S i w' v ∧ R i w w') Q) : FlowStepW P Q I S R ops a0 i := by
  intro a w hI hr _ hn
  have : dstD ops i = some d := by unfold dstD; rw [ho]; exact hd
  rw [this]
  exact flow_plain ho hg (h a w hI (fun t ht => hr t (free_of ht)) fun j t hw ht => by have := hn j hw; rw [ht] at this; exact this)
/-- A step: a store. -/
theorem fsW_store {P : Program} {Q : Exit → Act → World → Prop} {I : World → Prop} {S : Nat → World → Value → Prop} {R : Nat → World → World → Prop} {ops : Array Oper} {a0 : Act} {i : Nat} (o : Oper) (ho : ops[i]? = some o) (hd : o.dst = none) (hg : o.guard = none)
    (h : ∀ a w, I w → (∀ t, freeB ops t = true → a.tmps.getD t undef = a0.tmps.getD t undef) → (∀ j t, waits ops i j = true → dstD ops j = some t → S j w (a.tmps.getD t undef)) →
      o.wp P a w (fun a' w' => a' = a ∧ S i w' undef ∧ R i w w') Q) : FlowStepW P Q I S R ops a0 i := by
  intro a w hI hr _ hn
  have hd' : dstD ops i = none := by unfold dstD; rw [ho]; exact hd
  rw [hd']
  refine flow_plain ho hg (Oper.wp_mono ?_ (h a w hI (fun t ht => hr t (free_of ht)) fun j t hw ht => by have := hn j hw; rw [ht] at this; exact this))
  rintro a' w' ⟨rfl, h1, h2⟩
  exact ⟨undef, rfl, h1, h2⟩
end Go.Proofs.Ytcmfnokpbgfioaa
