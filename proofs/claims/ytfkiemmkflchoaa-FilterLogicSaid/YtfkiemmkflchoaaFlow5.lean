/-
  A region as Flow3 has it, where besides something that hangs on the world is known of each two operations' values, and each step may use it of the operations that it waits for (a new variable is none of the blocks that another value reaches).
-/
import Derived.Test.YtfkiemmkflchoaaFlow3
namespace Go.Proofs.Ytfkiemmkflchoaa
set_option linter.unusedVariables false
set_option linter.unusedSimpArgs false
open Go.RowKit

structure FlowE (S : Nat → World → Value → Prop) (D : Nat → Nat → World → Value → Value → Prop) (ops : Array Oper) (m : Nat) (a0 : Act) (w0 : World) (listed : Array Bool) (a : Act) (w : World) : Prop where
  below : Below w0.heap.size w0 w
  defers : a.defers = a0.defers
  size : a.tmps.size = a0.tmps.size
  rest : ∀ t, (∀ j, j < m → dstD ops j ≠ some t) → a.tmps.getD t undef = a0.tmps.getD t undef
  got : ∀ j, j < m → listed.getD j false = true → ∀ d, dstD ops j = some d → S j w (a.tmps.getD d undef)
  pairs : ∀ i j, i < m → j < m → i ≠ j → listed.getD i false = true → listed.getD j false = true → ∀ d e, dstD ops i = some d → dstD ops j = some e → D i j w (a.tmps.getD d undef) (a.tmps.getD e undef)
  len : listed.size = ops.size
  last : ∀ j, m ≤ j → listed.getD j false = false

/-- How an operation goes, and how its value stands to those that were yielded. -/
def FlowStepE (P : Program) (Q : Exit → Act → World → Prop) (S : Nat → World → Value → Prop) (D : Nat → Nat → World → Value → Value → Prop) (ops : Array Oper) (m : Nat) (a0 : Act) (w0 : World) (i : Nat) : Prop :=
  ∀ (L : Nat → Prop) (a : Act) (w : World), Below w0.heap.size w0 w → (∀ t, (∀ j, j < m → dstD ops j ≠ some t) → a.tmps.getD t undef = a0.tmps.getD t undef) → a.tmps.size = a0.tmps.size →
    (∀ j, waits ops i j = true → ∀ d, dstD ops j = some d → S j w (a.tmps.getD d undef)) →
    (∀ j, waits ops i j = true → ∀ k, k < m → L k → k ≠ j → ∀ d e, dstD ops j = some d → dstD ops k = some e → D j k w (a.tmps.getD d undef) (a.tmps.getD e undef) ∧ D k j w (a.tmps.getD e undef) (a.tmps.getD d undef)) →
    wpOp P ops Q i (fun a' w' => ∃ v, a' = a.put (dstD ops i) v ∧ S i w' v ∧ Below w.heap.size w w' ∧ ∀ k, k < m → L k → k ≠ i → ∀ e, dstD ops k = some e → S k w (a.tmps.getD e undef) → D i k w' v (a.tmps.getD e undef) ∧ D k i w' (a.tmps.getD e undef) v) a w
theorem flowE_all {P : Program} {Q : Exit → Act → World → Prop} {S : Nat → World → Value → Prop} {D : Nat → Nat → World → Value → Value → Prop} {ops : Array Oper} {a0 : Act} {w0 : World} {m n : Nat} (hm : m + n = ops.size)
    (stable : ∀ i w w' v, S i w v → Below w.heap.size w w' → S i w' v) (dstable : ∀ i j w w' v u, D i j w v u → S i w v → S j w u → Below w.heap.size w w' → D i j w' v u) (ap : apartL ops a0.tmps.size m = true) (edges : ∀ i j, waits ops i j = true → j < i) (hlast : ∀ k j, m ≤ k → k < ops.size → j < k → waits ops k j = true)
    (step : ∀ i, i < m → FlowStepE P Q S D ops m a0 w0 i)
    (fin : ∀ a w, Below w0.heap.size w0 w → a.defers = a0.defers → a.tmps.size = a0.tmps.size → (∀ t, (∀ j, j < m → dstD ops j ≠ some t) → a.tmps.getD t undef = a0.tmps.getD t undef) →
      (∀ j, j < m → ∀ d, dstD ops j = some d → S j w (a.tmps.getD d undef)) → (∀ i j, i < m → j < m → i ≠ j → ∀ d e, dstD ops i = some d → dstD ops j = some e → D i j w (a.tmps.getD d undef) (a.tmps.getD e undef)) → wpOps P ops Q (List.range' m n) a w) :
    ∀ (fuel : Nat) (listed : Array Bool) (a : Act) (w : World), leftm m listed + n ≤ fuel → FlowE S D ops m a0 w0 listed a w → wpAny P .any ops Q fuel listed a w := by
  intro fuel
  have whole : ∀ fuel listed a w, leftm m listed + n ≤ fuel → FlowE S D ops m a0 w0 listed a w → (∀ j, j < m → listed.getD j false = true) → wpAny P .any ops Q fuel listed a w := fun fuel listed a w hf hF hall =>
    any_tail edges n m fuel listed a w hm hF.len hlast hall hF.last (by omega) (fin a w hF.below hF.defers hF.size hF.rest (fun j hj d hd => hF.got j hj (hall j hj) d hd) fun i j hi hj hne d e hd he => hF.pairs i j hi hj hne (hall i hi) (hall j hj) d e hd he)
  have some_left : ∀ listed : Array Bool, ¬ (∀ j, j < m → listed.getD j false = true) → ∃ j, j < m ∧ listed.getD j false = false := fun listed hall => by
    refine Classical.byContradiction fun hn => hall fun j hj => ?_
    cases e : listed.getD j false with
    | true => rfl
    | false => exact absurd ⟨j, hj, e⟩ hn
  induction fuel with
  | zero =>
    intro listed a w hf hF
    refine whole 0 listed a w hf hF fun j hj => ?_
    have : leftm m listed = 0 := by omega
    have := List.countP_eq_zero.1 this j (List.mem_range.2 hj)
    simpa using this
  | succ fuel ih =>
    intro listed a w hf hF
    by_cases hall : ∀ j, j < m → listed.getD j false = true
    · exact whole _ listed a w hf hF hall
    · obtain ⟨j0, hj0, hl0⟩ := some_left listed hall
      refine ⟨fun hr => ?_, fun i hi => ?_⟩
      · obtain ⟨i0, hi0, hp0, hmin⟩ := least (fun i => !listed.getD i false) m ⟨j0, hj0, by simp [hl0]⟩
        have hp0 : listed.getD i0 false = false := by simpa using hp0
        have his : i0 < ops.size := by omega
        have hrd : i0 ∈ Region.ready .any ops listed := by
          refine mem_ready.2 ⟨?_, ops[i0], Array.getElem?_eq_getElem his, fun e he hb => ?_⟩
          · have hi' : i0 < listed.size := by rw [hF.len]; exact his
            simp only [Array.getD, hi', dif_pos] at hp0 ⊢
            exact hp0
          · have := edges i0 e.on ((waits_of (Array.getElem?_eq_getElem his)).2 ⟨e, he, hb, rfl⟩)
            simpa using hmin e.on this
        rw [hr] at hrd; cases hrd
      · obtain ⟨h1, o, ho, haft⟩ := mem_ready.1 hi
        have his : i < ops.size := (Array.getElem?_eq_some_iff.1 ho).1
        have hil : i < listed.size := by rw [hF.len]; exact his
        have hi' : i < m := by
          rcases Nat.lt_or_ge i m with h | h
          · exact h
          · obtain ⟨x, hx, hbx, rfl⟩ := (waits_of ho).1 (hlast i j0 h his (by omega))
            have := haft x hx hbx
            rw [hl0] at this; cases this
        obtain ⟨d, hd, hdl, hdn⟩ := apartL_lt ap hi'
        refine wpOp_mono ?_ (step i hi' (fun k => listed.getD k false = true) a w hF.below hF.rest hF.size (fun j hw e he => ?_) fun j hw k hk hlk hkj d e hd he => ?_)
        · rintro a' w' ⟨v, rfl, hv, hb, hD⟩
          refine ih _ _ _ ?_ ⟨hF.below.trans (hb.mono hF.below.size), ?_, ?_, ?_, ?_, ?_, by simpa using hF.len, ?_⟩
          · have := countP_less (List.range m) (fun j => !listed.getD j false) (fun j => !(listed.setIfInBounds i true).getD j false) (fun j _ hq => by
              by_cases e : i = j
              · subst e
                simp [Array.getD, hil] at hq
              · rw [getD_set_ne false e] at hq; exact hq) i (List.mem_range.2 hi') (by
                simp only [Array.getD, hil, dif_pos] at h1 ⊢; simpa using h1) (by simp [Array.getD, hil])
            unfold leftm at hf ⊢
            omega
          · rw [hd]; exact hF.defers
          · rw [hd]; simpa [Act.put] using hF.size
          · intro t ht
            have hne : d ≠ t := fun e => ht i hi' (by rw [hd, e])
            rw [hd]
            show (a.tmps.setIfInBounds d v).getD t undef = _
            rw [← hF.rest t ht]
            simp only [Array.getD_eq_getD_getElem?, Array.getElem?_setIfInBounds_ne hne]
          · intro j hj hlj e he
            rw [hd]
            by_cases hji : j = i
            · subst hji
              rw [hd] at he
              obtain rfl : d = e := by simpa using he
              have : (a.put (some d) v).tmps.getD d undef = v := by
                show (a.tmps.setIfInBounds d v).getD d undef = v
                rw [Array.getD_eq_getD_getElem?, Array.getElem?_setIfInBounds_self_of_lt (by rw [hF.size]; exact hdl)]; rfl
              rw [this]; exact hv
            · have hne : d ≠ e := fun h => hdn j hj hji (by rw [he, h])
              have : (a.put (some d) v).tmps.getD e undef = a.tmps.getD e undef := by
                show (a.tmps.setIfInBounds d v).getD e undef = _
                simp only [Array.getD_eq_getD_getElem?, Array.getElem?_setIfInBounds_ne hne]
              rw [this]
              rw [getD_set_ne false (fun h => hji h.symm)] at hlj
              exact stable _ _ _ _ (hF.got j hj hlj e he) hb
          · have get : ∀ j e, j < m → dstD ops j = some e → (a.put (dstD ops i) v).tmps.getD e undef = if j = i then v else a.tmps.getD e undef := fun j e hj he => by
              rw [hd]
              show (a.tmps.setIfInBounds d v).getD e undef = _
              by_cases hji : j = i
              · subst hji
                rw [hd] at he
                obtain rfl : d = e := by simpa using he
                rw [if_pos rfl, Array.getD_eq_getD_getElem?, Array.getElem?_setIfInBounds_self_of_lt (by rw [hF.size]; exact hdl)]; rfl
              · have hne : d ≠ e := fun h => hdn j hj hji (by rw [he, h])
                rw [if_neg hji]
                simp only [Array.getD_eq_getD_getElem?, Array.getElem?_setIfInBounds_ne hne]
            intro x y hx hy hxy hlx hly dx dy hdx hdy
            rw [get x dx hx hdx, get y dy hy hdy]
            by_cases e1 : x = i
            · have e2 : ¬ y = i := fun e => hxy (by rw [e1, e])
              rw [if_pos e1, if_neg e2]
              rw [getD_set_ne false (fun h => e2 h.symm)] at hly
              subst e1
              exact (hD y hy hly e2 dy hdy (hF.got y hy hly dy hdy)).1
            · rw [if_neg e1]
              rw [getD_set_ne false (fun h => e1 h.symm)] at hlx
              by_cases e2 : y = i
              · rw [if_pos e2]
                subst e2
                exact (hD x hx hlx e1 dx hdx (hF.got x hx hlx dx hdx)).2
              · rw [if_neg e2]
                rw [getD_set_ne false (fun h => e2 h.symm)] at hly
                exact dstable _ _ _ _ _ _ (hF.pairs x y hx hy hxy hlx hly dx dy hdx hdy) (hF.got x hx hlx dx hdx) (hF.got y hy hly dy hdy) hb
          · intro j hj
            rw [getD_set_ne false (by omega)]; exact hF.last j hj
        · obtain ⟨x, hx, hbx, rfl⟩ := (waits_of ho).1 hw
          have hjs : x.on < m := Nat.lt_trans (edges i x.on hw) hi'
          exact hF.got x.on hjs (haft x hx hbx) e he
        · obtain ⟨x, hx, hbx, rfl⟩ := (waits_of ho).1 hw
          have hjs : x.on < m := Nat.lt_trans (edges i x.on hw) hi'
          exact ⟨hF.pairs x.on k hjs hk (fun e => hkj e.symm) (haft x hx hbx) hlk d e hd he, hF.pairs k x.on hk hjs hkj hlk (haft x hx hbx) e d he hd⟩
/-- A region whose last n operations each wait for all that stand ahead. -/
theorem wp_region_flowE {P : Program} {Q : Exit → Act → World → Prop} {S : Nat → World → Value → Prop} {D : Nat → Nat → World → Value → Value → Prop} {ops : Array Oper} {a0 : Act} {w0 : World} {id : Nat} (m n : Nat) (hm : P.follows .mixedOrders = true) (hsz : m + n = ops.size)
    (stable : ∀ i w w' v, S i w v → Below w.heap.size w w' → S i w' v) (dstable : ∀ i j w w' v u, D i j w v u → S i w v → S j w u → Below w.heap.size w w' → D i j w' v u) (ap : apartL ops a0.tmps.size m = true) (edges : edgesB ops = true) (hl : tailB ops m = true)
    (step : ∀ i, i < m → FlowStepE P Q S D ops m a0 w0 i)
    (fin : ∀ a w, Below w0.heap.size w0 w → a.defers = a0.defers → a.tmps.size = a0.tmps.size → (∀ t, (∀ j, j < m → dstD ops j ≠ some t) → a.tmps.getD t undef = a0.tmps.getD t undef) →
      (∀ j, j < m → ∀ d, dstD ops j = some d → S j w (a.tmps.getD d undef)) → (∀ i j, i < m → j < m → i ≠ j → ∀ d e, dstD ops i = some d → dstD ops j = some e → D i j w (a.tmps.getD d undef) (a.tmps.getD e undef)) → wpOps P ops Q (List.range' m n) a w) : (Code.region id ops true).wp P Q a0 w0 := by
  refine wp_region_any hm (flowE_all hsz stable dstable ap (edges_of edges) (tail_of hl) step fin ops.size _ _ _ ?_ ⟨?_, rfl, rfl, fun _ _ => rfl, ?_, ?_, by simp, ?_⟩)
  · have : leftm m (Array.replicate ops.size false) ≤ m := Nat.le_trans List.countP_le_length (by simp)
    omega
  · exact ⟨rfl, rfl, rfl, Nat.le_refl _, fun _ _ => rfl⟩
  · intro j hj h
    have : j < ops.size := by omega
    simp [Array.getD, this] at h
  · intro i j hi hj _ h
    have : i < ops.size := by omega
    simp [Array.getD, this] at h
  · intro j _
    simp [Array.getD]
theorem fsE_plain {P : Program} {Q : Exit → Act → World → Prop} {S : Nat → World → Value → Prop} {D : Nat → Nat → World → Value → Value → Prop} {ops : Array Oper} {a0 : Act} {w0 : World} {i m : Nat} (o : Oper) (d : Tmp) (ho : ops[i]? = some o) (hd : o.dst = some d) (hg : o.guard = none)
    (h : ∀ (L : Nat → Prop) a w, Below w0.heap.size w0 w → (∀ t, freeL ops m t = true → a.tmps.getD t undef = a0.tmps.getD t undef) → (∀ j t, waits ops i j = true → dstD ops j = some t → S j w (a.tmps.getD t undef)) →
      (∀ j, waits ops i j = true → ∀ k, k < m → L k → k ≠ j → ∀ d e, dstD ops j = some d → dstD ops k = some e → D j k w (a.tmps.getD d undef) (a.tmps.getD e undef) ∧ D k j w (a.tmps.getD e undef) (a.tmps.getD d undef)) →
      o.wp P a w (fun a' w' => ∃ v, a' = a.put (some d) v ∧ S i w' v ∧ Below w.heap.size w w' ∧ ∀ k, k < m → L k → k ≠ i → ∀ e, dstD ops k = some e → S k w (a.tmps.getD e undef) → D i k w' v (a.tmps.getD e undef) ∧ D k i w' (a.tmps.getD e undef) v) Q) : FlowStepE P Q S D ops m a0 w0 i := by
  intro L a w hb hr _ hn hp
  have : dstD ops i = some d := by unfold dstD; rw [ho]; exact hd
  rw [this]
  exact flow_plain ho hg (h L a w hb (fun t ht => hr t (freeL_of ht)) (fun j t hw ht => hn j hw t ht) hp)
end Go.Proofs.Ytfkiemmkflchoaa
