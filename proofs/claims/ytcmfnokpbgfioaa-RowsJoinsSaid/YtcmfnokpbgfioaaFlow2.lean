/-
  More on regions that draw their order: the frame behind one; a region whose last operation (a store) waits for all the others.
-/
import Derived.Test.YtcmfnokpbgfioaaFlow
namespace Go.Proofs.Ytcmfnokpbgfioaa
set_option linter.unusedVariables false
set_option linter.unusedSimpArgs false
open Go.RowKit

def dstsOf (ops : Array Oper) : List Tmp := (List.range ops.size).filterMap (dstD ops)
def putsOf (x : Act) (ds : List Tmp) (b : Act) : Act := ds.foldl (fun b d => b.put (some d) (x.tmps.getD d undef)) b
theorem puts_size (x : Act) : ∀ (ds : List Tmp) (b : Act), (putsOf x ds b).tmps.size = b.tmps.size ∧ (putsOf x ds b).defers = b.defers
  | [], b => ⟨rfl, rfl⟩
  | d :: ds, b => by
    obtain ⟨h1, h2⟩ := puts_size x ds (b.put (some d) (x.tmps.getD d undef))
    exact ⟨h1.trans (by simp [Act.put]), h2⟩
theorem puts_get (x : Act) (t : Nat) : ∀ (ds : List Tmp) (b : Act), t < b.tmps.size → (putsOf x ds b).tmps.getD t undef = if t ∈ ds then x.tmps.getD t undef else b.tmps.getD t undef
  | [], b, _ => by simp [putsOf]
  | d :: ds, b, ht => by
    have h := puts_get x t ds (b.put (some d) (x.tmps.getD d undef)) (by simpa [Act.put] using ht)
    show (putsOf x ds (b.put (some d) (x.tmps.getD d undef))).tmps.getD t undef = _
    rw [h]
    by_cases hd : t ∈ ds
    · rw [if_pos hd, if_pos (List.mem_cons_of_mem _ hd)]
    · rw [if_neg hd]
      by_cases e : t = d
      · subst e
        rw [if_pos (by simp)]
        show (b.tmps.setIfInBounds t _).getD t undef = _
        rw [Array.getD_eq_getD_getElem?, Array.getElem?_setIfInBounds_self_of_lt ht]; rfl
      · rw [if_neg (by simp [e, hd])]
        show (b.tmps.setIfInBounds d _).getD t undef = _
        simp only [Array.getD_eq_getD_getElem?, Array.getElem?_setIfInBounds_ne (Ne.symm e)]
/-- The frame behind a region: what was there, and what the operations yielded. -/
theorem act_flow {ops : Array Oper} {a0 a : Act} (ds : List Tmp) (hds : dstsOf ops = ds) (hd : a.defers = a0.defers) (hs : a.tmps.size = a0.tmps.size) (hr : ∀ t, (∀ j, j < ops.size → dstD ops j ≠ some t) → a.tmps.getD t undef = a0.tmps.getD t undef) : a = putsOf a ds a0 := by
  obtain ⟨h1, h2⟩ := puts_size a ds a0
  have ht : a.tmps = (putsOf a ds a0).tmps := by
    apply Array.ext
    · rw [h1, hs]
    · intro i hi hi'
      have e := puts_get a i ds a0 (by omega)
      have e1 : (putsOf a ds a0).tmps.getD i undef = (putsOf a ds a0).tmps[i] := by simp [Array.getD, hi']
      have e2 : a.tmps.getD i undef = a.tmps[i] := by simp [Array.getD, hi]
      rw [← e1, ← e2, e]
      by_cases hm : i ∈ ds
      · rw [if_pos hm]
      · rw [if_neg hm]
        refine hr i fun j hj he => hm ?_
        rw [← hds]
        exact List.mem_filterMap.2 ⟨j, List.mem_range.2 hj, he⟩
  cases a with
  | mk tm df =>
    have hd' : df = (putsOf ⟨tm, df⟩ ds a0).defers := by rw [h2]; exact hd
    generalize putsOf ⟨tm, df⟩ ds a0 = b at *
    cases b
    simp at ht hd'
    rw [ht, hd']

/-- Each operation but the last writes a slot of its own. -/
def apartL (ops : Array Oper) (n m : Nat) : Bool := (List.range m).all fun i => match dstD ops i with
  | none => false
  | some d => decide (d < n) && (List.range m).all fun j => decide (i = j) || !(dstD ops j == some d)
theorem apartL_lt {ops : Array Oper} {n m i : Nat} (h : apartL ops n m = true) (hi : i < m) : ∃ d, dstD ops i = some d ∧ d < n ∧ ∀ j, j < m → j ≠ i → dstD ops j ≠ some d := by
  have := List.all_eq_true.1 h i (List.mem_range.2 hi)
  cases hd : dstD ops i with
  | none => rw [hd] at this; cases this
  | some d =>
    rw [hd] at this
    simp only [Bool.and_eq_true, decide_eq_true_eq, List.all_eq_true, List.mem_range, Bool.or_eq_true, Bool.not_eq_true', beq_eq_false_iff_ne] at this
    exact ⟨d, rfl, this.1, fun j hj hne => (this.2 j hj).resolve_left (fun e => hne e.symm)⟩
structure FlowL (S : Nat → World → Value → Prop) (ops : Array Oper) (m : Nat) (a0 : Act) (w0 : World) (listed : Array Bool) (a : Act) (w : World) : Prop where
  below : Below w0.heap.size w0 w
  defers : a.defers = a0.defers
  size : a.tmps.size = a0.tmps.size
  rest : ∀ t, (∀ j, j < m → dstD ops j ≠ some t) → a.tmps.getD t undef = a0.tmps.getD t undef
  got : ∀ j, j < m → listed.getD j false = true → ∀ d, dstD ops j = some d → S j w (a.tmps.getD d undef)
  len : listed.size = ops.size
  last : listed.getD m false = false
def FlowStepL (P : Program) (Q : Exit → Act → World → Prop) (S : Nat → World → Value → Prop) (ops : Array Oper) (m : Nat) (a0 : Act) (w0 : World) (i : Nat) : Prop :=
  ∀ (a : Act) (w : World), Below w0.heap.size w0 w → (∀ t, (∀ j, j < m → dstD ops j ≠ some t) → a.tmps.getD t undef = a0.tmps.getD t undef) → a.tmps.size = a0.tmps.size →
    (∀ j, waits ops i j = true → ∀ d, dstD ops j = some d → S j w (a.tmps.getD d undef)) →
    wpOp P ops Q i (fun a' w' => ∃ v, a' = a.put (dstD ops i) v ∧ S i w' v ∧ Below w.heap.size w w') a w
theorem any_end {P : Program} {Q : Exit → Act → World → Prop} {ops : Array Oper} {listed : Array Bool} (h : Region.ready .any ops listed = []) : ∀ (fuel : Nat) {a : Act} {w : World}, Q .normal a w → wpAny P .any ops Q fuel listed a w
  | 0, _, _, hq => ⟨h, hq⟩
  | _ + 1, _, _, hq => ⟨fun _ => hq, fun i hi => by rw [h] at hi; cases hi⟩

theorem flowL_all {P : Program} {Q : Exit → Act → World → Prop} {S : Nat → World → Value → Prop} {ops : Array Oper} {a0 : Act} {w0 : World} {m : Nat} (hm : ops.size = m + 1)
    (stable : ∀ i w w' v, S i w v → Below w.heap.size w w' → S i w' v) (ap : apartL ops a0.tmps.size m = true) (edges : ∀ i j, waits ops i j = true → j < i) (hlast : ∀ j, j < m → waits ops m j = true)
    (step : ∀ i, i < m → FlowStepL P Q S ops m a0 w0 i)
    (fin : ∀ a w, Below w0.heap.size w0 w → a.defers = a0.defers → a.tmps.size = a0.tmps.size → (∀ t, (∀ j, j < m → dstD ops j ≠ some t) → a.tmps.getD t undef = a0.tmps.getD t undef) →
      (∀ j, j < m → ∀ d, dstD ops j = some d → S j w (a.tmps.getD d undef)) → wpOp P ops Q m (Q .normal) a w) :
    ∀ (fuel : Nat) (listed : Array Bool) (a : Act) (w : World), left ops listed ≤ fuel → FlowL S ops m a0 w0 listed a w → wpAny P .any ops Q fuel listed a w := by
  have progress : ∀ listed : Array Bool, listed.size = ops.size → Region.ready .any ops listed = [] → ∀ j, j < ops.size → listed.getD j false = true := by
    intro listed hsz hr j hj
    cases hl : listed.getD j false with
    | true => rfl
    | false =>
      obtain ⟨i, hi, hp, hmin⟩ := least (fun i => !listed.getD i false) ops.size ⟨j, hj, by simp [hl]⟩
      have hp : listed.getD i false = false := by simpa using hp
      have : i ∈ Region.ready .any ops listed := by
        refine mem_ready.2 ⟨?_, ops[i], Array.getElem?_eq_getElem hi, fun e he hb => ?_⟩
        · have hi' : i < listed.size := by omega
          simp only [Array.getD, hi', dif_pos] at hp ⊢
          exact hp
        · have := edges i e.on ((waits_of (Array.getElem?_eq_getElem hi)).2 ⟨e, he, hb, rfl⟩)
          simpa using hmin e.on this
      rw [hr] at this; cases this
  intro fuel
  induction fuel with
  | zero =>
    intro listed a w hf hF
    have := List.countP_eq_zero.1 (Nat.le_zero.1 hf) m (List.mem_range.2 (by omega))
    rw [hF.last] at this
    simp at this
  | succ fuel ih =>
    intro listed a w hf hF
    refine ⟨fun hr => ?_, fun i hi => ?_⟩
    · have := progress listed hF.len hr m (by omega)
      rw [hF.last] at this; cases this
    obtain ⟨h1, o, ho, haft⟩ := mem_ready.1 hi
    have his : i < ops.size := (Array.getElem?_eq_some_iff.1 ho).1
    have hil : i < listed.size := by rw [hF.len]; exact his
    by_cases him : i = m
    · subst him
      have hall : ∀ j, j < i → listed.getD j false = true := fun j hj => by
        obtain ⟨x, hx, hbx, rfl⟩ := (waits_of ho).1 (hlast j hj)
        exact haft x hx hbx
      refine wpOp_mono (fun a' w' hq => any_end ?_ fuel hq) (fin a w hF.below hF.defers hF.size hF.rest fun j hj d hd => hF.got j hj (hall j hj) d hd)
      rw [List.eq_nil_iff_forall_not_mem]
      intro j hj
      obtain ⟨g1, o', ho', _⟩ := mem_ready.1 hj
      have hjs : j < ops.size := (Array.getElem?_eq_some_iff.1 ho').1
      have hjl : j < (listed.setIfInBounds i true).size := by simpa using (by omega : j < listed.size)
      have : (listed.setIfInBounds i true).getD j false = true := by
        by_cases e : i = j
        · subst e; simp [Array.getD, hil]
        · rw [getD_set_ne false e]; exact hall j (by omega)
      simp only [Array.getD, hjl, dif_pos] at g1 this
      rw [g1] at this; cases this
    · have hi' : i < m := by omega
      obtain ⟨d, hd, hdl, hdn⟩ := apartL_lt ap hi'
      refine wpOp_mono ?_ (step i hi' a w hF.below hF.rest hF.size fun j hw e he => ?_)
      · rintro a' w' ⟨v, rfl, hv, hb⟩
        refine ih _ _ _ ?_ ⟨hF.below.trans (hb.mono hF.below.size), ?_, ?_, ?_, ?_, by simpa using hF.len, ?_⟩
        · have := countP_less (List.range ops.size) (fun j => !listed.getD j false) (fun j => !(listed.setIfInBounds i true).getD j false) (fun j _ hq => by
            by_cases e : i = j
            · subst e
              simp [Array.getD, hil] at hq
            · rw [getD_set_ne false e] at hq; exact hq) i (List.mem_range.2 his) (by
              simp only [Array.getD, hil, dif_pos] at h1 ⊢; simpa using h1) (by simp [Array.getD, hil])
          unfold left at hf ⊢
          omega
        · rw [hd]; exact hF.defers
        · rw [hd]; simpa [Act.put] using hF.size
        · intro t ht
          have hne : d ≠ t := fun e => ht i hi' (by rw [hd, e])
          rw [hd]
          show (a.tmps.setIfInBounds d v).getD t undef = _
          rw [← hF.rest t ht]
          simp only [Array.getD_eq_getD_getElem?, Array.getElem?_setIfInBounds_ne hne]
        · intro j hj hlj e he
          rw [hd]
          by_cases hji : j = i
          · subst hji
            rw [hd] at he
            obtain rfl : d = e := by simpa using he
            have : (a.put (some d) v).tmps.getD d undef = v := by
              show (a.tmps.setIfInBounds d v).getD d undef = v
              rw [Array.getD_eq_getD_getElem?, Array.getElem?_setIfInBounds_self_of_lt (by rw [hF.size]; exact hdl)]; rfl
            rw [this]; exact hv
          · have hne : d ≠ e := fun h => hdn j hj hji (by rw [he, h])
            have : (a.put (some d) v).tmps.getD e undef = a.tmps.getD e undef := by
              show (a.tmps.setIfInBounds d v).getD e undef = _
              simp only [Array.getD_eq_getD_getElem?, Array.getElem?_setIfInBounds_ne hne]
            rw [this]
            rw [getD_set_ne false (fun h => hji h.symm)] at hlj
            exact stable _ _ _ _ (hF.got j hj hlj e he) hb
        · rw [getD_set_ne false him]; exact hF.last
      · obtain ⟨x, hx, hbx, rfl⟩ := (waits_of ho).1 hw
        have hjs : x.on < m := Nat.lt_trans (edges i x.on hw) hi'
        exact hF.got x.on hjs (haft x hx hbx) e he
def lastB (ops : Array Oper) (m : Nat) : Bool := (List.range m).all fun j => waits ops m j
theorem wp_region_flowL {P : Program} {Q : Exit → Act → World → Prop} {S : Nat → World → Value → Prop} {ops : Array Oper} {a0 : Act} {w0 : World} {id : Nat} (m : Nat) (hm : P.follows .mixedOrders = true) (hsz : ops.size = m + 1)
    (stable : ∀ i w w' v, S i w v → Below w.heap.size w w' → S i w' v) (ap : apartL ops a0.tmps.size m = true) (edges : edgesB ops = true) (hl : lastB ops m = true)
    (step : ∀ i, i < m → FlowStepL P Q S ops m a0 w0 i)
    (fin : ∀ a w, Below w0.heap.size w0 w → a.defers = a0.defers → a.tmps.size = a0.tmps.size → (∀ t, (∀ j, j < m → dstD ops j ≠ some t) → a.tmps.getD t undef = a0.tmps.getD t undef) →
      (∀ j, j < m → ∀ d, dstD ops j = some d → S j w (a.tmps.getD d undef)) → wpOp P ops Q m (Q .normal) a w) : (Code.region id ops true).wp P Q a0 w0 := by
  refine wp_region_any hm (flowL_all hsz stable ap (edges_of edges) (fun j hj => List.all_eq_true.1 hl j (List.mem_range.2 hj)) step fin ops.size _ _ _ ?_ ⟨?_, rfl, rfl, fun _ _ => rfl, ?_, by simp, ?_⟩)
  · exact Nat.le_trans List.countP_le_length (by simp)
  · exact ⟨rfl, rfl, rfl, Nat.le_refl _, fun _ _ => rfl⟩
  · intro j hj h
    have : j < ops.size := by omega
    simp [Array.getD, this] at h
  · simp [Array.getD]
def freeL (ops : Array Oper) (m t : Nat) : Bool := (List.range m).all fun j => !(dstD ops j == some t)
theorem freeL_of {ops : Array Oper} {m t : Nat} (h : freeL ops m t = true) : ∀ j, j < m → dstD ops j ≠ some t := fun j hj => by
  have := List.all_eq_true.1 h j (List.mem_range.2 hj)
  simpa using this
theorem fsL_plain {P : Program} {Q : Exit → Act → World → Prop} {S : Nat → World → Value → Prop} {ops : Array Oper} {a0 : Act} {w0 : World} {i m : Nat} (o : Oper) (d : Tmp) (ho : ops[i]? = some o) (hd : o.dst = some d) (hg : o.guard = none)
    (h : ∀ a w, Below w0.heap.size w0 w → (∀ t, freeL ops m t = true → a.tmps.getD t undef = a0.tmps.getD t undef) → (∀ j t, waits ops i j = true → dstD ops j = some t → S j w (a.tmps.getD t undef)) →
      o.wp P a w (fun a' w' => ∃ v, a' = a.put (some d) v ∧ S i w' v ∧ Below w.heap.size w w') Q) : FlowStepL P Q S ops m a0 w0 i := by
  intro a w hb hr _ hn
  have : dstD ops i = some d := by unfold dstD; rw [ho]; exact hd
  rw [this]
  exact flow_plain ho hg (h a w hb (fun t ht => hr t (freeL_of ht)) fun j t hw ht => hn j hw t ht)
end Go.Proofs.Ytcmfnokpbgfioaa
