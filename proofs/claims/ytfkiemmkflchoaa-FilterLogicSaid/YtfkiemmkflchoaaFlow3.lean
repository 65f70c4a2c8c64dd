/-
  A region whose last operations (stores) each wait for all that stand ahead of them.
-/
import Derived.Test.YtfkiemmkflchoaaFlow2
namespace Go.Proofs.Ytfkiemmkflchoaa
set_option linter.unusedVariables false
set_option linter.unusedSimpArgs false
open Go.RowKit

theorem any_tail {P : Program} {Q : Exit → Act → World → Prop} {ops : Array Oper} (edges : ∀ i j, waits ops i j = true → j < i) : ∀ (n i fuel : Nat) (listed : Array Bool) (a : Act) (w : World), i + n = ops.size → listed.size = ops.size →
    (∀ k j, i ≤ k → k < ops.size → j < k → waits ops k j = true) → (∀ j, j < i → listed.getD j false = true) → (∀ j, i ≤ j → listed.getD j false = false) → n ≤ fuel → wpOps P ops Q (List.range' i n) a w → wpAny P .any ops Q fuel listed a w
  | 0, i, fuel, listed, a, w, hi, hs, hw, h1, h2, hf, h => by
    refine any_end ?_ fuel (by simpa [wpOps] using h)
    rw [List.eq_nil_iff_forall_not_mem]
    intro j hj
    obtain ⟨g1, o, ho, _⟩ := mem_ready.1 hj
    have hjs : j < ops.size := (Array.getElem?_eq_some_iff.1 ho).1
    have := h1 j (by omega)
    have hjl : j < listed.size := by omega
    simp only [Array.getD, hjl, dif_pos] at g1 this
    rw [g1] at this; cases this
  | n + 1, i, 0, _, _, _, _, _, _, _, _, hf, _ => by omega
  | n + 1, i, fuel + 1, listed, a, w, hi, hs, hw, h1, h2, hf, h => by
    have his : i < ops.size := by omega
    have hil : i < listed.size := by omega
    have hrd : i ∈ Region.ready .any ops listed := by
      refine mem_ready.2 ⟨?_, ops[i], Array.getElem?_eq_getElem his, fun e he hb => h1 _ (edges i e.on ((waits_of (Array.getElem?_eq_getElem his)).2 ⟨e, he, hb, rfl⟩))⟩
      have := h2 i (Nat.le_refl _)
      simp only [Array.getD, hil, dif_pos] at this ⊢
      exact this
    refine ⟨(fun hr => by rw [hr] at hrd; cases hrd), fun j hj => ?_⟩
    obtain ⟨g1, o, ho, haft⟩ := mem_ready.1 hj
    have hjs : j < ops.size := (Array.getElem?_eq_some_iff.1 ho).1
    have hji : j = i := by
      rcases Nat.lt_trichotomy j i with hlt | e | hgt
      · have := h1 j hlt
        have hjl : j < listed.size := by omega
        simp only [Array.getD, hjl, dif_pos] at g1 this
        rw [g1] at this; cases this
      · exact e
      · obtain ⟨x, hx, hbx, rfl⟩ := (waits_of ho).1 (hw j i (Nat.le_of_lt hgt) hjs hgt)
        have := haft x hx hbx
        rw [h2 _ (Nat.le_refl _)] at this; cases this
    subst hji
    rw [List.range'_succ, wpOps_cons] at h
    refine wpOp_mono (fun a' w' hq => any_tail edges n (j + 1) fuel _ a' w' (by omega) (by simpa using hs) (fun k l hk hks hl => hw k l (by omega) hks hl) (fun l hl => ?_) (fun l hl => ?_) (by omega) hq) h
    · by_cases e : j = l
      · subst e; simp [Array.getD, hil]
      · rw [getD_set_ne false e]; exact h1 l (by omega)
    · rw [getD_set_ne false (by omega)]; exact h2 l (by omega)

structure FlowT (S : Nat → World → Value → Prop) (ops : Array Oper) (m : Nat) (a0 : Act) (w0 : World) (listed : Array Bool) (a : Act) (w : World) : Prop where
  below : Below w0.heap.size w0 w
  defers : a.defers = a0.defers
  size : a.tmps.size = a0.tmps.size
  rest : ∀ t, (∀ j, j < m → dstD ops j ≠ some t) → a.tmps.getD t undef = a0.tmps.getD t undef
  got : ∀ j, j < m → listed.getD j false = true → ∀ d, dstD ops j = some d → S j w (a.tmps.getD d undef)
  len : listed.size = ops.size
  last : ∀ j, m ≤ j → listed.getD j false = false

def leftm (m : Nat) (listed : Array Bool) : Nat := (List.range m).countP fun j => !listed.getD j false
theorem flowT_all {P : Program} {Q : Exit → Act → World → Prop} {S : Nat → World → Value → Prop} {ops : Array Oper} {a0 : Act} {w0 : World} {m n : Nat} (hm : m + n = ops.size)
    (stable : ∀ i w w' v, S i w v → Below w.heap.size w w' → S i w' v) (ap : apartL ops a0.tmps.size m = true) (edges : ∀ i j, waits ops i j = true → j < i) (hlast : ∀ k j, m ≤ k → k < ops.size → j < k → waits ops k j = true)
    (step : ∀ i, i < m → FlowStepL P Q S ops m a0 w0 i)
    (fin : ∀ a w, Below w0.heap.size w0 w → a.defers = a0.defers → a.tmps.size = a0.tmps.size → (∀ t, (∀ j, j < m → dstD ops j ≠ some t) → a.tmps.getD t undef = a0.tmps.getD t undef) →
      (∀ j, j < m → ∀ d, dstD ops j = some d → S j w (a.tmps.getD d undef)) → wpOps P ops Q (List.range' m n) a w) :
    ∀ (fuel : Nat) (listed : Array Bool) (a : Act) (w : World), leftm m listed + n ≤ fuel → FlowT S ops m a0 w0 listed a w → wpAny P .any ops Q fuel listed a w := by
  intro fuel
  have whole : ∀ fuel listed a w, leftm m listed + n ≤ fuel → FlowT S ops m a0 w0 listed a w → (∀ j, j < m → listed.getD j false = true) → wpAny P .any ops Q fuel listed a w := fun fuel listed a w hf hF hall =>
    any_tail edges n m fuel listed a w hm hF.len hlast hall hF.last (by omega) (fin a w hF.below hF.defers hF.size hF.rest fun j hj d hd => hF.got j hj (hall j hj) d hd)
  have some_left : ∀ listed : Array Bool, ¬ (∀ j, j < m → listed.getD j false = true) → ∃ j, j < m ∧ listed.getD j false = false := fun listed hall => by
    refine Classical.byContradiction fun hn => hall fun j hj => ?_
    cases e : listed.getD j false with
    | true => rfl
    | false => exact absurd ⟨j, hj, e⟩ hn
  induction fuel with
  | zero =>
    intro listed a w hf hF
    refine whole 0 listed a w hf hF fun j hj => ?_
    have : leftm m listed = 0 := by omega
    have := List.countP_eq_zero.1 this j (List.mem_range.2 hj)
    simpa using this
  | succ fuel ih =>
    intro listed a w hf hF
    by_cases hall : ∀ j, j < m → listed.getD j false = true
    · exact whole _ listed a w hf hF hall
    · obtain ⟨j0, hj0, hl0⟩ := some_left listed hall
      refine ⟨fun hr => ?_, fun i hi => ?_⟩
      · obtain ⟨i0, hi0, hp0, hmin⟩ := least (fun i => !listed.getD i false) m ⟨j0, hj0, by simp [hl0]⟩
        have hp0 : listed.getD i0 false = false := by simpa using hp0
        have his : i0 < ops.size := by omega
        have hrd : i0 ∈ Region.ready .any ops listed := by
          refine mem_ready.2 ⟨?_, ops[i0], Array.getElem?_eq_getElem his, fun e he hb => ?_⟩
          · have hi' : i0 < listed.size := by rw [hF.len]; exact his
            simp only [Array.getD, hi', dif_pos] at hp0 ⊢
            exact hp0
          · have := edges i0 e.on ((waits_of (Array.getElem?_eq_getElem his)).2 ⟨e, he, hb, rfl⟩)
            simpa using hmin e.on this
        rw [hr] at hrd; cases hrd
      · obtain ⟨h1, o, ho, haft⟩ := mem_ready.1 hi
        have his : i < ops.size := (Array.getElem?_eq_some_iff.1 ho).1
        have hil : i < listed.size := by rw [hF.len]; exact his
        have hi' : i < m := by
          rcases Nat.lt_or_ge i m with h | h
          · exact h
          · obtain ⟨x, hx, hbx, rfl⟩ := (waits_of ho).1 (hlast i j0 h his (by omega))
            have := haft x hx hbx
            rw [hl0] at this; cases this
        obtain ⟨d, hd, hdl, hdn⟩ := apartL_lt ap hi'
        refine wpOp_mono ?_ (step i hi' a w hF.below hF.rest hF.size fun j hw e he => ?_)
        · rintro a' w' ⟨v, rfl, hv, hb⟩
          refine ih _ _ _ ?_ ⟨hF.below.trans (hb.mono hF.below.size), ?_, ?_, ?_, ?_, by simpa using hF.len, ?_⟩
          · have := countP_less (List.range m) (fun j => !listed.getD j false) (fun j => !(listed.setIfInBounds i true).getD j false) (fun j _ hq => by
              by_cases e : i = j
              · subst e
                simp [Array.getD, hil] at hq
              · rw [getD_set_ne false e] at hq; exact hq) i (List.mem_range.2 hi') (by
                simp only [Array.getD, hil, dif_pos] at h1 ⊢; simpa using h1) (by simp [Array.getD, hil])
            unfold leftm at hf ⊢
            omega
          · rw [hd]; exact hF.defers
          · rw [hd]; simpa [Act.put] using hF.size
          · intro t ht
            have hne : d ≠ t := fun e => ht i hi' (by rw [hd, e])
            rw [hd]
            show (a.tmps.setIfInBounds d v).getD t undef = _
            rw [← hF.rest t ht]
            simp only [Array.getD_eq_getD_getElem?, Array.getElem?_setIfInBounds_ne hne]
          · intro j hj hlj e he
            rw [hd]
            by_cases hji : j = i
            · subst hji
              rw [hd] at he
              obtain rfl : d = e := by simpa using he
              have : (a.put (some d) v).tmps.getD d undef = v := by
                show (a.tmps.setIfInBounds d v).getD d undef = v
                rw [Array.getD_eq_getD_getElem?, Array.getElem?_setIfInBounds_self_of_lt (by rw [hF.size]; exact hdl)]; rfl
              rw [this]; exact hv
            · have hne : d ≠ e := fun h => hdn j hj hji (by rw [he, h])
              have : (a.put (some d) v).tmps.getD e undef = a.tmps.getD e undef := by
                show (a.tmps.setIfInBounds d v).getD e undef = _
                simp only [Array.getD_eq_getD_getElem?, Array.getElem?_setIfInBounds_ne hne]
              rw [this]
              rw [getD_set_ne false (fun h => hji h.symm)] at hlj
              exact stable _ _ _ _ (hF.got j hj hlj e he) hb
          · intro j hj
            rw [getD_set_ne false (by omega)]; exact hF.last j hj
        · obtain ⟨x, hx, hbx, rfl⟩ := (waits_of ho).1 hw
          have hjs : x.on < m := Nat.lt_trans (edges i x.on hw) hi'
          exact hF.got x.on hjs (haft x hx hbx) e he
def tailB (ops : Array Oper) (m : Nat) : Bool := (List.range ops.size).all fun k => decide (k < m) || (List.range k).all fun j => waits ops k j
theorem tail_of {ops : Array Oper} {m : Nat} (h : tailB ops m = true) (k j : Nat) (hk : m ≤ k) (hks : k < ops.size) (hj : j < k) : waits ops k j = true := by
  have h1 := List.all_eq_true.1 h k (List.mem_range.2 hks)
  rw [Bool.or_eq_true, decide_eq_true_eq] at h1
  exact List.all_eq_true.1 (h1.resolve_left (by omega)) j (List.mem_range.2 hj)
/-- A region whose last n operations each wait for all that stand ahead. -/
theorem wp_region_flowT {P : Program} {Q : Exit → Act → World → Prop} {S : Nat → World → Value → Prop} {ops : Array Oper} {a0 : Act} {w0 : World} {id : Nat} (m n : Nat) (hm : P.follows .mixedOrders = true) (hsz : m + n = ops.size)
    (stable : ∀ i w w' v, S i w v → Below w.heap.size w w' → S i w' v) (ap : apartL ops a0.tmps.size m = true) (edges : edgesB ops = true) (hl : tailB ops m = true)
    (step : ∀ i, i < m → FlowStepL P Q S ops m a0 w0 i)
    (fin : ∀ a w, Below w0.heap.size w0 w → a.defers = a0.defers → a.tmps.size = a0.tmps.size → (∀ t, (∀ j, j < m → dstD ops j ≠ some t) → a.tmps.getD t undef = a0.tmps.getD t undef) →
      (∀ j, j < m → ∀ d, dstD ops j = some d → S j w (a.tmps.getD d undef)) → wpOps P ops Q (List.range' m n) a w) : (Code.region id ops true).wp P Q a0 w0 := by
  refine wp_region_any hm (flowT_all hsz stable ap (edges_of edges) (tail_of hl) step fin ops.size _ _ _ ?_ ⟨?_, rfl, rfl, fun _ _ => rfl, ?_, by simp, ?_⟩)
  · have : leftm m (Array.replicate ops.size false) ≤ m := Nat.le_trans List.countP_le_length (by simp)
    omega
  · exact ⟨rfl, rfl, rfl, Nat.le_refl _, fun _ _ => rfl⟩
  · intro j hj h
    have : j < ops.size := by omega
    simp [Array.getD, this] at h
  · intro j _
    simp [Array.getD]
end Go.Proofs.Ytfkiemmkflchoaa
