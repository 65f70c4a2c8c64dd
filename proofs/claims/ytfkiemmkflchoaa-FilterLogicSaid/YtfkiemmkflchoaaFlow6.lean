/-
  A region as Flow5 has it, where the last operations wait for all ahead, some of them by way of others.
-/
import Derived.Test.YtfkiemmkflchoaaFlow5
namespace Go.Proofs.Ytfkiemmkflchoaa
set_option linter.unusedVariables false
set_option linter.unusedSimpArgs false
open Go.RowKit

/-- Waits for, by way of others. -/
inductive TG (ops : Array Oper) : Nat → Nat → Prop
  | one (i j : Nat) (h : waits ops i j = true) : TG ops i j
  | more (i x j : Nat) (h : waits ops i x = true) (hx : TG ops x j) : TG ops i j
theorem TG.lt {ops : Array Oper} (edges : ∀ i j, waits ops i j = true → j < i) {i j : Nat} (h : TG ops i j) : j < i := by
  induction h with
  | one i j h => exact edges i j h
  | more i x j h hx ih => exact Nat.lt_trans ih (edges i x h)
theorem TG.first {ops : Array Oper} {i j : Nat} (h : TG ops i j) : ∃ x, waits ops i x = true ∧ (j = x ∨ TG ops x j) := by
  cases h with
  | one _ _ h => exact ⟨j, h, .inl rfl⟩
  | more _ x _ h hx => exact ⟨x, h, .inr hx⟩
theorem TG.listed {ops : Array Oper} {listed : Array Bool} (hc : ∀ i j, listed.getD i false = true → waits ops i j = true → listed.getD j false = true) {i j : Nat} (h : TG ops i j) : listed.getD i false = true → listed.getD j false = true := by
  induction h with
  | one i j h => intro hi; exact hc i j hi h
  | more i x j h hx ih => intro hi; exact ih (hc i x hi h)
theorem TG.then {ops : Array Oper} {i x j : Nat} (h : TG ops i x) (hx : waits ops x j = true) : TG ops i j := by
  induction h with
  | one i y h => exact .more i y j h (.one _ _ hx)
  | more i y z h hy ih => exact .more i y j h (ih hx)
def downL (ops : Array Oper) (k : Nat) : List Nat := (List.range k).reverse.foldl (fun acc x => if acc.any (fun y => waits ops y x) then x :: acc else acc) [k]
theorem downL_ok (ops : Array Oper) (k : Nat) : ∀ x ∈ downL ops k, x = k ∨ TG ops k x := by
  unfold downL
  suffices h : ∀ (l acc : List Nat), (∀ x ∈ acc, x = k ∨ TG ops k x) → ∀ x ∈ l.foldl (fun acc x => if acc.any (fun y => waits ops y x) then x :: acc else acc) acc, x = k ∨ TG ops k x from h _ [k] (fun x hx => .inl (by simpa using hx))
  intro l
  induction l with
  | nil => intro acc h; exact h
  | cons y l ih =>
    intro acc h
    rw [List.foldl_cons]
    refine ih _ ?_
    split
    · rename_i hy
      intro x hx
      rcases List.mem_cons.1 hx with rfl | hx
      · obtain ⟨z, hz, hw⟩ := List.any_eq_true.1 hy
        rcases h z hz with rfl | hz
        · exact .inr (.one _ _ hw)
        · exact .inr (hz.then hw)
      · exact h x hx
    · exact h
def tailG (ops : Array Oper) (m : Nat) : Bool := (List.range ops.size).all fun k => decide (k < m) || (List.range k).all fun j => (downL ops k).contains j
theorem tailG_of {ops : Array Oper} {m : Nat} (h : tailG ops m = true) : ∀ k j, m ≤ k → k < ops.size → j < k → TG ops k j := by
  intro k j hk hs hj
  have := List.all_eq_true.1 h k (List.mem_range.2 hs)
  rw [decide_eq_false (by omega), Bool.false_or] at this
  have := List.all_eq_true.1 this j (List.mem_range.2 hj)
  rcases downL_ok ops k j (by simpa using this) with e | h
  · omega
  · exact h
theorem any_tailG {P : Program} {Q : Exit → Act → World → Prop} {ops : Array Oper} (edges : ∀ i j, waits ops i j = true → j < i) : ∀ (n i fuel : Nat) (listed : Array Bool) (a : Act) (w : World), i + n = ops.size → listed.size = ops.size →
    (∀ k j, i ≤ k → k < ops.size → j < k → TG ops k j) → (∀ j, j < i → listed.getD j false = true) → (∀ j, i ≤ j → listed.getD j false = false) → n ≤ fuel → wpOps P ops Q (List.range' i n) a w → wpAny P .any ops Q fuel listed a w
  | 0, i, fuel, listed, a, w, hi, hs, hw, h1, h2, hf, h => by
    refine any_end ?_ fuel (by simpa [wpOps] using h)
    rw [List.eq_nil_iff_forall_not_mem]
    intro j hj
    obtain ⟨g1, o, ho, _⟩ := mem_ready.1 hj
    have hjs : j < ops.size := (Array.getElem?_eq_some_iff.1 ho).1
    have := h1 j (by omega)
    have hjl : j < listed.size := by omega
    simp only [Array.getD, hjl, dif_pos] at g1 this
    rw [g1] at this; cases this
  | n + 1, i, 0, _, _, _, _, _, _, _, _, hf, _ => by omega
  | n + 1, i, fuel + 1, listed, a, w, hi, hs, hw, h1, h2, hf, h => by
    have his : i < ops.size := by omega
    have hil : i < listed.size := by omega
    have hrd : i ∈ Region.ready .any ops listed := by
      refine mem_ready.2 ⟨?_, ops[i], Array.getElem?_eq_getElem his, fun e he hb => h1 _ (edges i e.on ((waits_of (Array.getElem?_eq_getElem his)).2 ⟨e, he, hb, rfl⟩))⟩
      have := h2 i (Nat.le_refl _)
      simp only [Array.getD, hil, dif_pos] at this ⊢
      exact this
    refine ⟨(fun hr => by rw [hr] at hrd; cases hrd), fun j hj => ?_⟩
    obtain ⟨g1, o, ho, haft⟩ := mem_ready.1 hj
    have hjs : j < ops.size := (Array.getElem?_eq_some_iff.1 ho).1
    have hji : j = i := by
      rcases Nat.lt_trichotomy j i with hlt | e | hgt
      · have := h1 j hlt
        have hjl : j < listed.size := by omega
        simp only [Array.getD, hjl, dif_pos] at g1 this
        rw [g1] at this; cases this
      · exact e
      · obtain ⟨x, hwx, hx⟩ := (hw j i (Nat.le_of_lt hgt) hjs hgt).first
        obtain ⟨y, hy, hby, rfl⟩ := (waits_of ho).1 hwx
        have := haft y hy hby
        have hyi : i ≤ y.on := by
          rcases hx with h | h
          · omega
          · exact Nat.le_of_lt (h.lt edges)
        rw [h2 _ hyi] at this; cases this
    subst hji
    rw [List.range'_succ, wpOps_cons] at h
    refine wpOp_mono (fun a' w' hq => any_tailG edges n (j + 1) fuel _ a' w' (by omega) (by simpa using hs) (fun k l hk hks hl => hw k l (by omega) hks hl) (fun l hl => ?_) (fun l hl => ?_) (by omega) hq) h
    · by_cases e : j = l
      · subst e; simp [Array.getD, hil]
      · rw [getD_set_ne false e]; exact h1 l (by omega)
    · rw [getD_set_ne false (by omega)]; exact h2 l (by omega)

structure FlowG (S : Nat → World → Value → Prop) (D : Nat → Nat → World → Value → Value → Prop) (ops : Array Oper) (m : Nat) (a0 : Act) (w0 : World) (listed : Array Bool) (a : Act) (w : World) : Prop where
  below : Below w0.heap.size w0 w
  defers : a.defers = a0.defers
  size : a.tmps.size = a0.tmps.size
  rest : ∀ t, (∀ j, j < m → dstD ops j ≠ some t) → a.tmps.getD t undef = a0.tmps.getD t undef
  got : ∀ j, j < m → listed.getD j false = true → ∀ d, dstD ops j = some d → S j w (a.tmps.getD d undef)
  pairs : ∀ i j, i < m → j < m → i ≠ j → listed.getD i false = true → listed.getD j false = true → ∀ d e, dstD ops i = some d → dstD ops j = some e → D i j w (a.tmps.getD d undef) (a.tmps.getD e undef)
  len : listed.size = ops.size
  last : ∀ j, m ≤ j → listed.getD j false = false
  closed : ∀ i j, listed.getD i false = true → waits ops i j = true → listed.getD j false = true

theorem flowG_all {P : Program} {Q : Exit → Act → World → Prop} {S : Nat → World → Value → Prop} {D : Nat → Nat → World → Value → Value → Prop} {ops : Array Oper} {a0 : Act} {w0 : World} {m n : Nat} (hm : m + n = ops.size)
    (stable : ∀ i w w' v, S i w v → Below w.heap.size w w' → S i w' v) (dstable : ∀ i j w w' v u, D i j w v u → S i w v → S j w u → Below w.heap.size w w' → D i j w' v u) (ap : apartL ops a0.tmps.size m = true) (edges : ∀ i j, waits ops i j = true → j < i) (hlast : ∀ k j, m ≤ k → k < ops.size → j < k → TG ops k j)
    (step : ∀ i, i < m → FlowStepE P Q S D ops m a0 w0 i)
    (fin : ∀ a w, Below w0.heap.size w0 w → a.defers = a0.defers → a.tmps.size = a0.tmps.size → (∀ t, (∀ j, j < m → dstD ops j ≠ some t) → a.tmps.getD t undef = a0.tmps.getD t undef) →
      (∀ j, j < m → ∀ d, dstD ops j = some d → S j w (a.tmps.getD d undef)) → (∀ i j, i < m → j < m → i ≠ j → ∀ d e, dstD ops i = some d → dstD ops j = some e → D i j w (a.tmps.getD d undef) (a.tmps.getD e undef)) → wpOps P ops Q (List.range' m n) a w) :
    ∀ (fuel : Nat) (listed : Array Bool) (a : Act) (w : World), leftm m listed + n ≤ fuel → FlowG S D ops m a0 w0 listed a w → wpAny P .any ops Q fuel listed a w := by
  intro fuel
  have whole : ∀ fuel listed a w, leftm m listed + n ≤ fuel → FlowG S D ops m a0 w0 listed a w → (∀ j, j < m → listed.getD j false = true) → wpAny P .any ops Q fuel listed a w := fun fuel listed a w hf hF hall =>
    any_tailG edges n m fuel listed a w hm hF.len hlast hall hF.last (by omega) (fin a w hF.below hF.defers hF.size hF.rest (fun j hj d hd => hF.got j hj (hall j hj) d hd) fun i j hi hj hne d e hd he => hF.pairs i j hi hj hne (hall i hi) (hall j hj) d e hd he)
  have some_left : ∀ listed : Array Bool, ¬ (∀ j, j < m → listed.getD j false = true) → ∃ j, j < m ∧ listed.getD j false = false := fun listed hall => by
    refine Classical.byContradiction fun hn => hall fun j hj => ?_
    cases e : listed.getD j false with
    | true => rfl
    | false => exact absurd ⟨j, hj, e⟩ hn
  induction fuel with
  | zero =>
    intro listed a w hf hF
    refine whole 0 listed a w hf hF fun j hj => ?_
    have : leftm m listed = 0 := by omega
    have := List.countP_eq_zero.1 this j (List.mem_range.2 hj)
    simpa using this
  | succ fuel ih =>
    intro listed a w hf hF
    by_cases hall : ∀ j, j < m → listed.getD j false = true
    · exact whole _ listed a w hf hF hall
    · obtain ⟨j0, hj0, hl0⟩ := some_left listed hall
      refine ⟨fun hr => ?_, fun i hi => ?_⟩
      · obtain ⟨i0, hi0, hp0, hmin⟩ := least (fun i => !listed.getD i false) m ⟨j0, hj0, by simp [hl0]⟩
        have hp0 : listed.getD i0 false = false := by simpa using hp0
        have his : i0 < ops.size := by omega
        have hrd : i0 ∈ Region.ready .any ops listed := by
          refine mem_ready.2 ⟨?_, ops[i0], Array.getElem?_eq_getElem his, fun e he hb => ?_⟩
          · have hi' : i0 < listed.size := by rw [hF.len]; exact his
            simp only [Array.getD, hi', dif_pos] at hp0 ⊢
            exact hp0
          · have := edges i0 e.on ((waits_of (Array.getElem?_eq_getElem his)).2 ⟨e, he, hb, rfl⟩)
            simpa using hmin e.on this
        rw [hr] at hrd; cases hrd
      · obtain ⟨h1, o, ho, haft⟩ := mem_ready.1 hi
        have his : i < ops.size := (Array.getElem?_eq_some_iff.1 ho).1
        have hil : i < listed.size := by rw [hF.len]; exact his
        have hi' : i < m := by
          rcases Nat.lt_or_ge i m with h | h
          · exact h
          · obtain ⟨x, hwx, hx⟩ := (hlast i j0 h his (by omega)).first
            obtain ⟨y, hy, hby, rfl⟩ := (waits_of ho).1 hwx
            have hly := haft y hy hby
            have : listed.getD j0 false = true := by
              rcases hx with h | h
              · rw [h]; exact hly
              · exact h.listed (fun a b => hF.closed a b) hly
            rw [hl0] at this; cases this
        obtain ⟨d, hd, hdl, hdn⟩ := apartL_lt ap hi'
        refine wpOp_mono ?_ (step i hi' (fun k => listed.getD k false = true) a w hF.below hF.rest hF.size (fun j hw e he => ?_) fun j hw k hk hlk hkj d e hd he => ?_)
        · rintro a' w' ⟨v, rfl, hv, hb, hD⟩
          refine ih _ _ _ ?_ ⟨hF.below.trans (hb.mono hF.below.size), ?_, ?_, ?_, ?_, ?_, by simpa using hF.len, ?_, ?_⟩
          · have := countP_less (List.range m) (fun j => !listed.getD j false) (fun j => !(listed.setIfInBounds i true).getD j false) (fun j _ hq => by
              by_cases e : i = j
              · subst e
                simp [Array.getD, hil] at hq
              · rw [getD_set_ne false e] at hq; exact hq) i (List.mem_range.2 hi') (by
                simp only [Array.getD, hil, dif_pos] at h1 ⊢; simpa using h1) (by simp [Array.getD, hil])
            unfold leftm at hf ⊢
            omega
          · rw [hd]; exact hF.defers
          · rw [hd]; simpa [Act.put] using hF.size
          · intro t ht
            have hne : d ≠ t := fun e => ht i hi' (by rw [hd, e])
            rw [hd]
            show (a.tmps.setIfInBounds d v).getD t undef = _
            rw [← hF.rest t ht]
            simp only [Array.getD_eq_getD_getElem?, Array.getElem?_setIfInBounds_ne hne]
          · intro j hj hlj e he
            rw [hd]
            by_cases hji : j = i
            · subst hji
              rw [hd] at he
              obtain rfl : d = e := by simpa using he
              have : (a.put (some d) v).tmps.getD d undef = v := by
                show (a.tmps.setIfInBounds d v).getD d undef = v
                rw [Array.getD_eq_getD_getElem?, Array.getElem?_setIfInBounds_self_of_lt (by rw [hF.size]; exact hdl)]; rfl
              rw [this]; exact hv
            · have hne : d ≠ e := fun h => hdn j hj hji (by rw [he, h])
              have : (a.put (some d) v).tmps.getD e undef = a.tmps.getD e undef := by
                show (a.tmps.setIfInBounds d v).getD e undef = _
                simp only [Array.getD_eq_getD_getElem?, Array.getElem?_setIfInBounds_ne hne]
              rw [this]
              rw [getD_set_ne false (fun h => hji h.symm)] at hlj
              exact stable _ _ _ _ (hF.got j hj hlj e he) hb
          · have get : ∀ j e, j < m → dstD ops j = some e → (a.put (dstD ops i) v).tmps.getD e undef = if j = i then v else a.tmps.getD e undef := fun j e hj he => by
              rw [hd]
              show (a.tmps.setIfInBounds d v).getD e undef = _
              by_cases hji : j = i
              · subst hji
                rw [hd] at he
                obtain rfl : d = e := by simpa using he
                rw [if_pos rfl, Array.getD_eq_getD_getElem?, Array.getElem?_setIfInBounds_self_of_lt (by rw [hF.size]; exact hdl)]; rfl
              · have hne : d ≠ e := fun h => hdn j hj hji (by rw [he, h])
                rw [if_neg hji]
                simp only [Array.getD_eq_getD_getElem?, Array.getElem?_setIfInBounds_ne hne]
            intro x y hx hy hxy hlx hly dx dy hdx hdy
            rw [get x dx hx hdx, get y dy hy hdy]
            by_cases e1 : x = i
            · have e2 : ¬ y = i := fun e => hxy (by rw [e1, e])
              rw [if_pos e1, if_neg e2]
              rw [getD_set_ne false (fun h => e2 h.symm)] at hly
              subst e1
              exact (hD y hy hly e2 dy hdy (hF.got y hy hly dy hdy)).1
            · rw [if_neg e1]
              rw [getD_set_ne false (fun h => e1 h.symm)] at hlx
              by_cases e2 : y = i
              · rw [if_pos e2]
                subst e2
                exact (hD x hx hlx e1 dx hdx (hF.got x hx hlx dx hdx)).2
              · rw [if_neg e2]
                rw [getD_set_ne false (fun h => e2 h.symm)] at hly
                exact dstable _ _ _ _ _ _ (hF.pairs x y hx hy hxy hlx hly dx dy hdx hdy) (hF.got x hx hlx dx hdx) (hF.got y hy hly dy hdy) hb
          · intro j hj
            rw [getD_set_ne false (by omega)]; exact hF.last j hj
          · intro x y hx hw
            by_cases e1 : i = y
            · subst e1; simp [Array.getD, hil]
            · rw [getD_set_ne false e1]
              by_cases e2 : i = x
              · subst e2
                obtain ⟨z, hz, hbz, rfl⟩ := (waits_of ho).1 hw
                exact haft z hz hbz
              · rw [getD_set_ne false e2] at hx
                exact hF.closed x y hx hw
        · obtain ⟨x, hx, hbx, rfl⟩ := (waits_of ho).1 hw
          have hjs : x.on < m := Nat.lt_trans (edges i x.on hw) hi'
          exact hF.got x.on hjs (haft x hx hbx) e he
        · obtain ⟨x, hx, hbx, rfl⟩ := (waits_of ho).1 hw
          have hjs : x.on < m := Nat.lt_trans (edges i x.on hw) hi'
          exact ⟨hF.pairs x.on k hjs hk (fun e => hkj e.symm) (haft x hx hbx) hlk d e hd he, hF.pairs k x.on hk hjs hkj hlk (haft x hx hbx) e d he hd⟩
/-- A region whose last n operations each wait for all that stand ahead. -/
theorem wp_region_flowG {P : Program} {Q : Exit → Act → World → Prop} {S : Nat → World → Value → Prop} {D : Nat → Nat → World → Value → Value → Prop} {ops : Array Oper} {a0 : Act} {w0 : World} {id : Nat} (m n : Nat) (hm : P.follows .mixedOrders = true) (hsz : m + n = ops.size)
    (stable : ∀ i w w' v, S i w v → Below w.heap.size w w' → S i w' v) (dstable : ∀ i j w w' v u, D i j w v u → S i w v → S j w u → Below w.heap.size w w' → D i j w' v u) (ap : apartL ops a0.tmps.size m = true) (edges : edgesB ops = true) (hl : tailG ops m = true)
    (step : ∀ i, i < m → FlowStepE P Q S D ops m a0 w0 i)
    (fin : ∀ a w, Below w0.heap.size w0 w → a.defers = a0.defers → a.tmps.size = a0.tmps.size → (∀ t, (∀ j, j < m → dstD ops j ≠ some t) → a.tmps.getD t undef = a0.tmps.getD t undef) →
      (∀ j, j < m → ∀ d, dstD ops j = some d → S j w (a.tmps.getD d undef)) → (∀ i j, i < m → j < m → i ≠ j → ∀ d e, dstD ops i = some d → dstD ops j = some e → D i j w (a.tmps.getD d undef) (a.tmps.getD e undef)) → wpOps P ops Q (List.range' m n) a w) : (Code.region id ops true).wp P Q a0 w0 := by
  refine wp_region_any hm (flowG_all hsz stable dstable ap (edges_of edges) (tailG_of hl) step fin ops.size _ _ _ ?_ ⟨?_, rfl, rfl, fun _ _ => rfl, ?_, ?_, by simp, ?_, ?_⟩)
  · have : leftm m (Array.replicate ops.size false) ≤ m := Nat.le_trans List.countP_le_length (by simp)
    omega
  · exact ⟨rfl, rfl, rfl, Nat.le_refl _, fun _ _ => rfl⟩
  · intro j hj h
    have : j < ops.size := by omega
    simp [Array.getD, this] at h
  · intro i j hi hj _ h
    have : i < ops.size := by omega
    simp [Array.getD, this] at h
  · intro j _
    simp [Array.getD]
  · intro i j hi hw
    rcases Nat.lt_or_ge i ops.size with h | h
    · simp [Array.getD, h] at hi
    · simp [Array.getD, Nat.not_lt.2 h] at hi
end Go.Proofs.Ytfkiemmkflchoaa
