/-
  A region that draws its order, whatever it makes: what each operation yields hangs on what the operations ahead of it have yielded; no order is walked.
-/
import Derived.Orders
import Derived.WalkKit
import Derived.Test.YtcmfnokpbgfioaaLs
namespace Go.Proofs.Ytcmfnokpbgfioaa
set_option linter.unusedVariables false
set_option linter.unusedSimpArgs false
open Go.RowKit

/-- The slot of an operation. -/
def dstD (ops : Array Oper) (j : Nat) : Option Tmp := (ops[j]?).bind (·.dst)
/-- Whether an operation waits for another one. -/
def waits (ops : Array Oper) (i j : Nat) : Bool := match ops[i]? with
  | none => false
  | some o => o.after.toList.any fun e => Region.binds .any e && e.on == j
/-- Each operation writes a slot of its own. -/
def apartB (ops : Array Oper) (n : Nat) : Bool := (List.range ops.size).all fun i => match dstD ops i with
  | none => false
  | some d => decide (d < n) && (List.range ops.size).all fun j => decide (i = j) || !(dstD ops j == some d)

theorem apartB_lt {ops : Array Oper} {n i : Nat} (h : apartB ops n = true) (hi : i < ops.size) : ∃ d, dstD ops i = some d ∧ d < n ∧ ∀ j, j < ops.size → j ≠ i → dstD ops j ≠ some d := by
  have := List.all_eq_true.1 h i (List.mem_range.2 hi)
  cases hd : dstD ops i with
  | none => rw [hd] at this; cases this
  | some d =>
    rw [hd] at this
    simp only [Bool.and_eq_true, decide_eq_true_eq, List.all_eq_true, List.mem_range, Bool.or_eq_true, Bool.not_eq_true', beq_eq_false_iff_ne] at this
    exact ⟨d, rfl, this.1, fun j hj hne => (this.2 j hj).resolve_left (fun e => hne e.symm)⟩

/-- What is known when some operations have been done. -/
structure Flow (S : Nat → World → Value → Prop) (ops : Array Oper) (a0 : Act) (w0 : World) (listed : Array Bool) (a : Act) (w : World) : Prop where
  below : Below w0.heap.size w0 w
  defers : a.defers = a0.defers
  size : a.tmps.size = a0.tmps.size
  rest : ∀ t, (∀ j, j < ops.size → dstD ops j ≠ some t) → a.tmps.getD t undef = a0.tmps.getD t undef
  got : ∀ j, j < ops.size → listed.getD j false = true → ∀ d, dstD ops j = some d → S j w (a.tmps.getD d undef)
  len : listed.size = ops.size

/-- How an operation goes that others went ahead of. -/
def FlowStep (P : Program) (Q : Exit → Act → World → Prop) (S : Nat → World → Value → Prop) (ops : Array Oper) (a0 : Act) (w0 : World) (i : Nat) : Prop :=
  ∀ (a : Act) (w : World), Below w0.heap.size w0 w → (∀ t, (∀ j, j < ops.size → dstD ops j ≠ some t) → a.tmps.getD t undef = a0.tmps.getD t undef) → a.tmps.size = a0.tmps.size →
    (∀ j, waits ops i j = true → ∀ d, dstD ops j = some d → S j w (a.tmps.getD d undef)) →
    wpOp P ops Q i (fun a' w' => ∃ v, a' = a.put (dstD ops i) v ∧ S i w' v ∧ Below w.heap.size w w') a w

theorem countP_less : ∀ (l : List Nat) (p q : Nat → Bool), (∀ x ∈ l, q x = true → p x = true) → ∀ i ∈ l, p i = true → q i = false → l.countP q + 1 ≤ l.countP p
  | [], _, _, _, i, hi, _, _ => by simp at hi
  | x :: l, p, q, h, i, hi, hp, hq => by
    have hl := List.countP_mono_left (l := l) (fun y hy => h y (List.mem_cons_of_mem _ hy))
    rw [List.countP_cons, List.countP_cons]
    by_cases e : i = x
    · subst e
      rw [hp, hq]; simp; exact hl
    · have hi' : i ∈ l := by
        rcases List.mem_cons.1 hi with h | h
        · exact absurd h e
        · exact h
      have ih := countP_less l p q (fun y hy => h y (List.mem_cons_of_mem _ hy)) i hi' hp hq
      cases hqx : q x with
      | false => cases p x <;> simp <;> omega
      | true => rw [h x (by simp) hqx]; simp; omega
theorem waits_of {ops : Array Oper} {i : Nat} {o : Oper} (ho : ops[i]? = some o) {j : Nat} : waits ops i j = true ↔ ∃ e ∈ o.after, Region.binds .any e = true ∧ e.on = j := by
  unfold waits
  rw [ho]
  simp only []
  rw [List.any_eq_true]
  simp only [Array.mem_toList_iff, Bool.and_eq_true, beq_iff_eq]
def left (ops : Array Oper) (listed : Array Bool) : Nat := (List.range ops.size).countP fun j => !listed.getD j false

theorem least (p : Nat → Bool) : ∀ n, (∃ i, i < n ∧ p i = true) → ∃ i, i < n ∧ p i = true ∧ ∀ j, j < i → p j = false
  | 0, ⟨i, hi, _⟩ => absurd hi (Nat.not_lt_zero _)
  | n + 1, h => by
    by_cases hn : ∃ i, i < n ∧ p i = true
    · obtain ⟨i, hi, hp, hl⟩ := least p n hn
      exact ⟨i, by omega, hp, hl⟩
    · obtain ⟨i, hi, hp⟩ := h
      have : i = n := by
        rcases Nat.lt_or_eq_of_le (Nat.le_of_lt_succ hi) with h | h
        · exact absurd ⟨i, h, hp⟩ hn
        · exact h
      subst this
      exact ⟨i, by omega, hp, fun j hj => by
        cases hpj : p j with
        | false => rfl
        | true => exact absurd ⟨j, hj, hpj⟩ hn⟩

theorem flow_all {P : Program} {Q : Exit → Act → World → Prop} {S : Nat → World → Value → Prop} {ops : Array Oper} {a0 : Act} {w0 : World}
    (stable : ∀ i w w' v, S i w v → Below w.heap.size w w' → S i w' v) (ap : apartB ops a0.tmps.size = true) (edges : ∀ i j, waits ops i j = true → j < i)
    (step : ∀ i, i < ops.size → FlowStep P Q S ops a0 w0 i)
    (done : ∀ a w, Below w0.heap.size w0 w → a.defers = a0.defers → a.tmps.size = a0.tmps.size → (∀ t, (∀ j, j < ops.size → dstD ops j ≠ some t) → a.tmps.getD t undef = a0.tmps.getD t undef) →
      (∀ j, j < ops.size → ∀ d, dstD ops j = some d → S j w (a.tmps.getD d undef)) → Q .normal a w) :
    ∀ (fuel : Nat) (listed : Array Bool) (a : Act) (w : World), left ops listed ≤ fuel → Flow S ops a0 w0 listed a w → wpAny P .any ops Q fuel listed a w := by
  have progress : ∀ listed : Array Bool, listed.size = ops.size → Region.ready .any ops listed = [] → ∀ j, j < ops.size → listed.getD j false = true := by
    intro listed hsz hr j hj
    cases hl : listed.getD j false with
    | true => rfl
    | false =>
      obtain ⟨i, hi, hp, hmin⟩ := least (fun i => !listed.getD i false) ops.size ⟨j, hj, by simp [hl]⟩
      have hp : listed.getD i false = false := by simpa using hp
      have : i ∈ Region.ready .any ops listed := by
        refine mem_ready.2 ⟨?_, ops[i], Array.getElem?_eq_getElem hi, fun e he hb => ?_⟩
        · have hi' : i < listed.size := by omega
          simp only [Array.getD, hi', dif_pos] at hp ⊢
          exact hp
        · have := edges i e.on ((waits_of (Array.getElem?_eq_getElem hi)).2 ⟨e, he, hb, rfl⟩)
          simpa using hmin e.on this
      rw [hr] at this; cases this
  intro fuel
  induction fuel with
  | zero =>
    intro listed a w hf hF
    have hall : ∀ j, j < ops.size → listed.getD j false = true := fun j hj => by
      have := List.countP_eq_zero.1 (Nat.le_zero.1 hf) j (List.mem_range.2 hj)
      simpa using this
    refine ⟨?_, done a w hF.below hF.defers hF.size hF.rest fun j hj d hd => hF.got j hj (hall j hj) d hd⟩
    rw [List.eq_nil_iff_forall_not_mem]
    intro j hj
    obtain ⟨h1, o, ho, _⟩ := mem_ready.1 hj
    have hjs : j < ops.size := (Array.getElem?_eq_some_iff.1 ho).1
    have h2 := hall j hjs
    have hi' : j < listed.size := by rw [hF.len]; exact hjs
    simp only [Array.getD, hi', dif_pos] at h1 h2
    rw [h1] at h2; cases h2
  | succ fuel ih =>
    intro listed a w hf hF
    refine ⟨fun hr => done a w hF.below hF.defers hF.size hF.rest fun j hj d hd => hF.got j hj (progress listed hF.len hr j hj) d hd, fun i hi => ?_⟩
    obtain ⟨h1, o, ho, haft⟩ := mem_ready.1 hi
    have his : i < ops.size := (Array.getElem?_eq_some_iff.1 ho).1
    have hil : i < listed.size := by rw [hF.len]; exact his
    obtain ⟨d, hd, hdl, hdn⟩ := apartB_lt ap his
    refine wpOp_mono ?_ (step i his a w hF.below hF.rest hF.size fun j hw e he => ?_)
    · rintro a' w' ⟨v, rfl, hv, hb⟩
      refine ih _ _ _ ?_ ⟨hF.below.trans (hb.mono hF.below.size), ?_, ?_, ?_, ?_, by simpa using hF.len⟩
      · have := countP_less (List.range ops.size) (fun j => !listed.getD j false) (fun j => !(listed.setIfInBounds i true).getD j false) (fun j _ hq => by
          by_cases e : i = j
          · subst e
            simp [Array.getD, hil] at hq
          · rw [getD_set_ne false e] at hq; exact hq) i (List.mem_range.2 his) (by
            simp only [Array.getD, hil, dif_pos] at h1 ⊢; simpa using h1) (by simp [Array.getD, hil])
        unfold left at hf ⊢
        omega
      · rw [hd]; exact hF.defers
      · rw [hd]; simpa [Act.put] using hF.size
      · intro t ht
        have hne : d ≠ t := fun e => ht i his (by rw [hd, e])
        rw [hd]
        show (a.tmps.setIfInBounds d v).getD t undef = _
        rw [← hF.rest t ht]
        simp only [Array.getD_eq_getD_getElem?, Array.getElem?_setIfInBounds_ne hne]
      · intro j hj hlj e he
        rw [hd]
        by_cases hji : j = i
        · subst hji
          rw [hd] at he
          obtain rfl : d = e := by simpa using he
          have : (a.put (some d) v).tmps.getD d undef = v := by
            show (a.tmps.setIfInBounds d v).getD d undef = v
            rw [Array.getD_eq_getD_getElem?, Array.getElem?_setIfInBounds_self_of_lt (by rw [hF.size]; exact hdl)]; rfl
          rw [this]; exact hv
        · have hne : d ≠ e := fun h => hdn j hj hji (by rw [he, h])
          have : (a.put (some d) v).tmps.getD e undef = a.tmps.getD e undef := by
            show (a.tmps.setIfInBounds d v).getD e undef = _
            simp only [Array.getD_eq_getD_getElem?, Array.getElem?_setIfInBounds_ne hne]
          rw [this]
          rw [getD_set_ne false (fun h => hji h.symm)] at hlj
          exact stable _ _ _ _ (hF.got j hj hlj e he) hb
    · obtain ⟨x, hx, hbx, rfl⟩ := (waits_of ho).1 hw
      have hjs : x.on < ops.size := Nat.lt_trans (edges i x.on hw) his
      exact hF.got x.on hjs (haft x hx hbx) e he

/-- Whether all that is waited for stands ahead. -/
def edgesB (ops : Array Oper) : Bool := (List.range ops.size).all fun i => match ops[i]? with
  | none => true
  | some o => o.after.all fun e => !Region.binds .any e || decide (e.on < i)
theorem edges_of {ops : Array Oper} (h : edgesB ops = true) (i j : Nat) (hw : waits ops i j = true) : j < i := by
  cases ho : ops[i]? with
  | none => unfold waits at hw; rw [ho] at hw; cases hw
  | some o =>
    have his : i < ops.size := (Array.getElem?_eq_some_iff.1 ho).1
    have := List.all_eq_true.1 h i (List.mem_range.2 his)
    rw [ho] at this
    obtain ⟨e, he, hb, rfl⟩ := (waits_of ho).1 hw
    have := Array.all_eq_true_iff_forall_mem.1 this e he
    rw [hb] at this
    simpa using this

theorem wp_region_flow {P : Program} {Q : Exit → Act → World → Prop} {S : Nat → World → Value → Prop} {ops : Array Oper} {a0 : Act} {w0 : World} {id : Nat} (hm : P.follows .mixedOrders = true)
    (stable : ∀ i w w' v, S i w v → Below w.heap.size w w' → S i w' v) (ap : apartB ops a0.tmps.size = true) (edges : edgesB ops = true)
    (step : ∀ i, i < ops.size → FlowStep P Q S ops a0 w0 i)
    (done : ∀ a w, Below w0.heap.size w0 w → a.defers = a0.defers → a.tmps.size = a0.tmps.size → (∀ t, (∀ j, j < ops.size → dstD ops j ≠ some t) → a.tmps.getD t undef = a0.tmps.getD t undef) →
      (∀ j, j < ops.size → ∀ d, dstD ops j = some d → S j w (a.tmps.getD d undef)) → Q .normal a w) : (Code.region id ops true).wp P Q a0 w0 := by
  refine wp_region_any hm (flow_all stable ap (edges_of edges) step done ops.size _ _ _ ?_ ⟨?_, rfl, rfl, fun _ _ => rfl, ?_, by simp⟩)
  · exact Nat.le_trans List.countP_le_length (by simp)
  · exact ⟨rfl, rfl, rfl, Nat.le_refl _, fun _ _ => rfl⟩
  · intro j hj h
    simp [Array.getD, hj] at h

/-- A plain operation. -/
theorem flow_plain {P : Program} {Q : Exit → Act → World → Prop} {ops : Array Oper} {i : Nat} {o : Oper} {K : Act → World → Prop} {a : Act} {w : World} (ho : ops[i]? = some o) (hg : o.guard = none) (h : o.wp P a w K Q) : wpOp P ops Q i K a w := by
  unfold wpOp
  rw [ho]
  simp only [Region.wanted, hg, if_true]
  exact .inl h
/-- A guarded operation whose guard lets it be done. -/
theorem flow_guard {P : Program} {Q : Exit → Act → World → Prop} {ops : Array Oper} {i j d : Nat} {b : Bool} {o : Oper} {K : Act → World → Prop} {a : Act} {w : World} (ho : ops[i]? = some o) (hg : o.guard = some (j, b)) (hd : dstD ops j = some d) (hv : a.tmps.getD d undef = .bool b) (h : o.wp P a w K Q) : wpOp P ops Q i K a w := by
  unfold wpOp
  rw [ho]
  have hy : yielded ops a.tmps j = some b := by
    unfold yielded
    unfold dstD at hd
    rw [hd, Option.bind_some]
    rw [Array.getD_eq_getD_getElem?] at hv
    cases hx : a.tmps[d]? with
    | none => rw [hx] at hv; cases hv
    | some x => rw [hx] at hv; simp only [Option.getD_some] at hv; rw [hv]
  simp only [Region.wanted, hg, hy, beq_self_eq_true, if_true]
  exact .inl h
/-- .. and one that is left out. -/
theorem flow_skip {P : Program} {Q : Exit → Act → World → Prop} {ops : Array Oper} {i j d : Nat} {b : Bool} {o : Oper} {K : Act → World → Prop} {a : Act} {w : World} (ho : ops[i]? = some o) (hg : o.guard = some (j, b)) (hd : dstD ops j = some d) (hv : a.tmps.getD d undef = .bool (!b)) (h : K (a.put o.dst undef) w) : wpOp P ops Q i K a w := by
  unfold wpOp
  rw [ho]
  have hy : yielded ops a.tmps j = some (!b) := by
    unfold yielded
    unfold dstD at hd
    rw [hd, Option.bind_some]
    rw [Array.getD_eq_getD_getElem?] at hv
    cases hx : a.tmps[d]? with
    | none => rw [hx] at hv; cases hv
    | some x => rw [hx] at hv; simp only [Option.getD_some] at hv; rw [hv]
  have : (some (!b) == some b) = false := by cases b <;> rfl
  simp only [Region.wanted, hg, hy, this, Bool.false_eq_true, if_false]
  exact h
def freeB (ops : Array Oper) (t : Nat) : Bool := (List.range ops.size).all fun j => !(dstD ops j == some t)
theorem free_of {ops : Array Oper} {t : Nat} (h : freeB ops t = true) : ∀ j, j < ops.size → dstD ops j ≠ some t := fun j hj => by
  have := List.all_eq_true.1 h j (List.mem_range.2 hj)
  simpa using this
/-- A step: a plain operation. -/
theorem fs_plain {P : Program} {Q : Exit → Act → World → Prop} {S : Nat → World → Value → Prop} {ops : Array Oper} {a0 : Act} {w0 : World} {i : Nat} (o : Oper) (d : Tmp) (ho : ops[i]? = some o) (hd : o.dst = some d) (hg : o.guard = none)
    (h : ∀ a w, Below w0.heap.size w0 w → (∀ t, freeB ops t = true → a.tmps.getD t undef = a0.tmps.getD t undef) → (∀ j t, waits ops i j = true → dstD ops j = some t → S j w (a.tmps.getD t undef)) →
      o.wp P a w (fun a' w' => ∃ v, a' = a.put (some d) v ∧ S i w' v ∧ Below w.heap.size w w') Q) : FlowStep P Q S ops a0 w0 i := by
  intro a w hb hr _ hn
  have : dstD ops i = some d := by unfold dstD; rw [ho]; exact hd
  rw [this]
  exact flow_plain ho hg (h a w hb (fun t ht => hr t (free_of ht)) fun j t hw ht => hn j hw t ht)
/-- A step: a guarded one that is done. -/
theorem fs_guard {P : Program} {Q : Exit → Act → World → Prop} {S : Nat → World → Value → Prop} {ops : Array Oper} {a0 : Act} {w0 : World} {i : Nat} (o : Oper) (d j t : Nat) (b : Bool) (ho : ops[i]? = some o) (hd : o.dst = some d) (hg : o.guard = some (j, b)) (hw : waits ops i j = true) (ht : dstD ops j = some t) (hS : ∀ w v, S j w v → v = .bool b)
    (h : ∀ a w, Below w0.heap.size w0 w → (∀ t, freeB ops t = true → a.tmps.getD t undef = a0.tmps.getD t undef) → (∀ j t, waits ops i j = true → dstD ops j = some t → S j w (a.tmps.getD t undef)) →
      o.wp P a w (fun a' w' => ∃ v, a' = a.put (some d) v ∧ S i w' v ∧ Below w.heap.size w w') Q) : FlowStep P Q S ops a0 w0 i := by
  intro a w hb hr _ hn
  have : dstD ops i = some d := by unfold dstD; rw [ho]; exact hd
  rw [this]
  exact flow_guard ho hg ht (hS _ _ (hn j hw t ht)) (h a w hb (fun t ht => hr t (free_of ht)) fun j t hw ht => hn j hw t ht)
/-- A step: a guarded one that is left out. -/
theorem fs_skip {P : Program} {Q : Exit → Act → World → Prop} {S : Nat → World → Value → Prop} {ops : Array Oper} {a0 : Act} {w0 : World} {i : Nat} (o : Oper) (d j t : Nat) (b : Bool) (ho : ops[i]? = some o) (hd : o.dst = some d) (hg : o.guard = some (j, b)) (hw : waits ops i j = true) (ht : dstD ops j = some t) (hS : ∀ w v, S j w v → v = .bool (!b)) (hu : ∀ w, S i w undef) : FlowStep P Q S ops a0 w0 i := by
  intro a w hb hr _ hn
  have : dstD ops i = some d := by unfold dstD; rw [ho]; exact hd
  rw [this]
  exact flow_skip ho hg ht (hS _ _ (hn j hw t ht)) ⟨undef, by rw [hd], hu w, Below.refl _ _⟩
/-- Two operations told apart by their slots: a value that is read. -/
theorem eval_tmp (a : Act) (t : Nat) : a.eval (.tmp t) = a.tmps.getD t undef := rfl
end Go.Proofs.Ytcmfnokpbgfioaa
