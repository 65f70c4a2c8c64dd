/-
  Plain facts: rosters, what each node is in them, majorities, what a majority has reached.
-/
import GoSem.Op.String
namespace Go.Proofs.Yticcmjiekopnbaa
set_option linter.unusedVariables false
set_option linter.unusedSimpArgs false

/-- A node's number. -/
def inR (x : Int) : Bool := decide (0 ≤ x ∧ x ≤ 4)
/-- Numbers of unlike nodes. -/
def okAll (L : List Int) : Bool := decide L.Nodup && L.all inR
def okR (vs ls : List Int) : Bool := okAll (ls ++ vs) && decide (0 < vs.length)
theorem okAll_iff (L : List Int) : okAll L = true ↔ L.Nodup ∧ ∀ x ∈ L, inR x = true := by simp [okAll]
theorem okR_iff (vs ls : List Int) : okR vs ls = true ↔ okAll (ls ++ vs) = true ∧ 0 < vs.length := by simp [okR]
theorem inR_iff (x : Int) : inR x = true ↔ 0 ≤ x ∧ x ≤ 4 := by simp [inR]
theorem okAll_left {A B : List Int} (h : okAll (A ++ B) = true) : okAll A = true := by
  rw [okAll_iff] at *
  exact ⟨(List.nodup_append.1 h.1).1, fun x hx => h.2 x (List.mem_append_left _ hx)⟩
theorem okAll_snoc (A : List Int) (x : Int) : okAll (A ++ [x]) = true ↔ okAll A = true ∧ inR x = true ∧ x ∉ A := by
  rw [okAll_iff, okAll_iff, List.nodup_append]
  constructor
  · rintro ⟨⟨h1, _, h2⟩, h3⟩
    exact ⟨⟨h1, fun y hy => h3 y (List.mem_append_left _ hy)⟩, h3 x (by simp), fun hx => h2 x hx x (by simp) rfl⟩
  · rintro ⟨⟨h1, h2⟩, h3, h4⟩
    refine ⟨⟨h1, by simp, fun a ha b hb e => ?_⟩, fun y hy => ?_⟩
    · have : b = x := by simpa using hb
      subst this; subst e; exact h4 ha
    · rcases List.mem_append.1 hy with hy | hy
      · exact h2 y hy
      · have : y = x := by simpa using hy
        subst this; exact h3
/-- What a node is: 2 a voter, 1 a learner. -/
def wayO (vs ls : List Int) (n : Int) : Int := if n ∈ vs then 2 else if n ∈ ls then 1 else 0
/-- As the lists are gone through: none, learners, voters. -/
def Lst (vs ls : List Int) (i : Nat) : List Int := if i = 1 then ls else if i = 2 then vs else []
def Bsf (vs ls : List Int) (i : Nat) : List Int := if i ≤ 1 then [] else if i = 2 then ls else ls ++ vs
def Fsf (vs ls : List Int) (i : Nat) (n : Int) : Int := if 3 ≤ i ∧ n ∈ vs then 2 else if 2 ≤ i ∧ n ∈ ls then 1 else 0
theorem Bsf_step (vs ls : List Int) {i : Nat} (h : i ≤ 2) : Bsf vs ls (i + 1) = Bsf vs ls i ++ Lst vs ls i := by
  rcases (by omega : i = 0 ∨ i = 1 ∨ i = 2) with rfl | rfl | rfl <;> simp [Bsf, Lst]
theorem Fsf_step (vs ls : List Int) {i : Nat} (h : i ≤ 2) (n : Int) : Fsf vs ls (i + 1) n = if n ∈ Lst vs ls i then (i : Int) else Fsf vs ls i n := by
  rcases (by omega : i = 0 ∨ i = 1 ∨ i = 2) with rfl | rfl | rfl <;> simp [Fsf, Lst]
theorem Fsf_zero (vs ls : List Int) {i : Nat} (n : Int) (h : i ≤ 3) : Fsf vs ls i n = 0 ↔ n ∉ Bsf vs ls i := by
  rcases (by omega : i = 0 ∨ i = 1 ∨ i = 2 ∨ i = 3) with rfl | rfl | rfl | rfl
  · simp [Fsf, Bsf]
  · simp [Fsf, Bsf]
  · by_cases h2 : n ∈ ls <;> simp [Fsf, Bsf, h2]
  · by_cases h1 : n ∈ vs <;> by_cases h2 : n ∈ ls <;> simp [Fsf, Bsf, h1, h2]
theorem Fsf_three (vs ls : List Int) (n : Int) : Fsf vs ls 3 n = wayO vs ls n := by simp [Fsf, wayO]
/-- Within a list. -/
def Fin' (vs ls : List Int) (i k : Nat) (n : Int) : Int := if n ∈ (Lst vs ls i).take k then (i : Int) else Fsf vs ls i n
theorem Fin_zero (vs ls : List Int) (i : Nat) (n : Int) : Fin' vs ls i 0 n = Fsf vs ls i n := by simp [Fin']
theorem Fin_all (vs ls : List Int) {i : Nat} (h : i ≤ 2) (n : Int) : Fin' vs ls i (Lst vs ls i).length n = Fsf vs ls (i + 1) n := by rw [Fsf_step _ _ h, Fin', List.take_length]
theorem Fin_step (vs ls : List Int) {i k : Nat} {x : Int} (hx : (Lst vs ls i)[k]? = some x) (n : Int) : Fin' vs ls i (k + 1) n = if n = x then (i : Int) else Fin' vs ls i k n := by
  unfold Fin'
  rw [List.take_add_one, hx, Option.toList_some]
  by_cases e : n = x
  · subst e; simp
  · simp [e]
theorem Fin_free (vs ls : List Int) {i k : Nat} (hi : i ≤ 2) (hk : i = 0 → k = 0) (n : Int) : Fin' vs ls i k n = 0 ↔ n ∉ Bsf vs ls i ++ (Lst vs ls i).take k := by
  unfold Fin'
  by_cases h : n ∈ (Lst vs ls i).take k
  · rw [if_pos h]
    have : i ≠ 0 := by
      rintro rfl
      simp [Lst] at h
    simp [h]; omega
  · rw [if_neg h, Fsf_zero _ _ _ (by omega)]
    simp [h]

theorem five_counts : ∀ L : List Int, L.count 0 + L.count 1 + L.count 2 + L.count 3 + L.count 4 = L.countP inR
  | [] => rfl
  | x :: l => by
    have ih := five_counts l
    simp only [List.count_cons, List.countP_cons]
    by_cases hx : inR x = true
    · have := (inR_iff x).1 hx
      have : x = 0 ∨ x = 1 ∨ x = 2 ∨ x = 3 ∨ x = 4 := by omega
      rcases this with rfl | rfl | rfl | rfl | rfl <;> simp [inR] <;> omega
    · have h1 : ¬ (0 ≤ x ∧ x ≤ 4) := fun h => hx ((inR_iff x).2 h)
      have e : ∀ k : Int, 0 ≤ k → k ≤ 4 → (x == k) = false := fun k hk hk' => by
        rw [beq_eq_false_iff_ne]; omega
      rw [e 0 (by omega) (by omega), e 1 (by omega) (by omega), e 2 (by omega) (by omega), e 3 (by omega) (by omega), e 4 (by omega) (by omega)]
      simp [hx]
      omega
theorem okAll_len {L : List Int} (h : okAll L = true) : L.length ≤ 5 := by
  rw [okAll_iff] at h
  have h1 := five_counts L
  rw [List.countP_eq_length.2 h.2] at h1
  have h2 := List.nodup_iff_count.1 h.1
  have := h2 0; have := h2 1; have := h2 2; have := h2 3; have := h2 4
  omega
theorem okR_len {vs ls : List Int} (h : okR vs ls = true) : ls.length + vs.length ≤ 5 := by
  have := okAll_len ((okR_iff _ _).1 h).1
  rwa [List.length_append] at this
/-- How often a number stands in lists. -/
def cn (vs ls : List Int) (n : Int) : Nat := vs.count n + ls.count n
def cnSum (vs ls : List Int) : Nat → Nat
  | 0 => 0
  | k + 1 => cnSum vs ls k + cn vs ls (k : Nat)
theorem cnSum_five (vs ls : List Int) : cnSum vs ls 5 = (ls ++ vs).countP inR := by
  have h1 := five_counts vs
  have h2 := five_counts ls
  rw [List.countP_append]
  simp [cnSum, cn]
  omega
/-- The document's look at a roster. -/
theorem okR_ref (vs ls : List Int) : okR vs ls = true ↔ (∀ k, k < 5 → cn vs ls (k : Nat) ≤ 1) ∧ cnSum vs ls 5 = vs.length + ls.length ∧ 0 < vs.length := by
  rw [okR_iff, okAll_iff, cnSum_five]
  have hc : ∀ n, (ls ++ vs).count n = cn vs ls n := fun n => by rw [List.count_append, cn]; omega
  constructor
  · rintro ⟨⟨h1, h2⟩, h3⟩
    refine ⟨fun k hk => ?_, ?_, h3⟩
    · rw [← hc]; exact List.nodup_iff_count.1 h1 _
    · rw [List.countP_eq_length.2 h2, List.length_append]; omega
  · rintro ⟨h1, h2, h3⟩
    have hall : ∀ x ∈ ls ++ vs, inR x = true := List.countP_eq_length.1 (by rw [h2, List.length_append]; omega)
    refine ⟨⟨List.nodup_iff_count.2 fun a => ?_, hall⟩, h3⟩
    by_cases ha : a ∈ ls ++ vs
    · have := (inR_iff a).1 (hall a ha)
      have := h1 a.toNat (by omega)
      rw [hc]
      rwa [Int.toNat_of_nonneg (by omega)] at this
    · rw [List.count_eq_zero.2 ha]; omega
theorem way_ref {vs ls : List Int} (h : okR vs ls = true) (n : Int) : 2 * (vs.count n : Int) + (ls.count n : Int) = wayO vs ls n := by
  have h1 := ((okAll_iff _).1 ((okR_iff _ _).1 h).1).1
  have hn := (List.nodup_append.1 h1)
  have hv := List.nodup_iff_count.1 hn.2.1 n
  have hl := List.nodup_iff_count.1 hn.1 n
  unfold wayO
  by_cases e1 : n ∈ vs
  · have e2 : n ∉ ls := fun e => hn.2.2 n e n e1 rfl
    have := List.count_pos_iff.2 e1
    rw [if_pos e1, List.count_eq_zero.2 e2]
    omega
  · rw [if_neg e1, List.count_eq_zero.2 e1]
    by_cases e2 : n ∈ ls
    · have := List.count_pos_iff.2 e2
      rw [if_pos e2]; omega
    · rw [if_neg e2, List.count_eq_zero.2 e2]; omega

/-- How many nodes below k are another thing in the next roster; and whether one votes that was none. -/
def chg (F G : Int → Int) : Nat → Nat
  | 0 => 0
  | k + 1 => chg F G k + if F (k : Nat) = G (k : Nat) then 0 else 1
def jmp (F G : Int → Int) (k : Nat) : Bool := (List.range k).any fun j => decide (F (j : Nat) = 0 ∧ G (j : Nat) = 2)
theorem jmp_succ (F G : Int → Int) (k : Nat) : jmp F G (k + 1) = (jmp F G k || decide (F (k : Nat) = 0 ∧ G (k : Nat) = 2)) := by
  simp [jmp, List.range_succ]
theorem jmp_mono {F G : Int → Int} {k m : Nat} (h : k ≤ m) (hj : jmp F G k = true) : jmp F G m = true := by
  simp only [jmp, List.any_eq_true, List.mem_range] at *
  obtain ⟨x, hx, hp⟩ := hj
  exact ⟨x, by omega, hp⟩
theorem chg_le (F G : Int → Int) : ∀ k, chg F G k ≤ k
  | 0 => Nat.le_refl _
  | k + 1 => by have := chg_le F G k; unfold chg; split <;> omega
def mayE (vs ls us ms : List Int) : Int :=
  if okR vs ls = true ∧ okR us ms = true then (if jmp (wayO vs ls) (wayO us ms) 5 = true ∨ chg (wayO vs ls) (wayO us ms) 5 ≠ 1 then 111 else 0) else 110
def ckE (vs ls : List Int) : Int := if okR vs ls = true then 0 else 110

/-- Whether some are a majority. -/
def majB (vs some : List Int) : Bool := decide (vs.length < 2 * vs.countP fun v => some.contains v)
theorem majB_half (vs some : List Int) : decide ((vs.length : Int) / 2 < ((vs.countP fun v => some.contains v : Nat) : Int)) = majB vs some := by
  unfold majB
  rw [decide_eq_decide]
  omega

/-- What a majority has reached. -/
def qual (L : List Int) (x : Int) : Bool := decide (L.length < 2 * L.countP fun y => decide (x ≤ y))
def mid (L : List Int) : Int := (L.mergeSort fun x y => decide (x ≤ y)).getD ((L.length - 1) / 2) 0
theorem sorted_ms (L : List Int) : (L.mergeSort fun x y => decide (x ≤ y)).Pairwise (· ≤ ·) := by
  have := List.pairwise_mergeSort (le := fun (x y : Int) => decide (x ≤ y)) (fun a b c h1 h2 => by simp at *; omega) (fun a b => by simp; omega) L
  exact this.imp (fun h => by simpa using h)
theorem mid_mem {L : List Int} (h : L ≠ []) : mid L ∈ L := by
  have hp := List.mergeSort_perm L fun x y => decide (x ≤ y)
  have hl : (L.mergeSort fun x y => decide (x ≤ y)).length = L.length := hp.length_eq
  have hpos : 0 < L.length := List.length_pos_iff.2 h
  unfold mid
  rw [List.getD_eq_getElem?_getD, List.getElem?_eq_getElem (by omega), Option.getD_some]
  exact hp.mem_iff.1 (List.getElem_mem _)
theorem mid_count {L : List Int} (h : L ≠ []) : L.length < 2 * L.countP (fun y => decide (mid L ≤ y)) ∧ 2 * L.countP (fun y => decide (mid L < y)) ≤ L.length := by
  have hp := List.mergeSort_perm L fun x y => decide (x ≤ y)
  have hs := sorted_ms L
  have hl : (L.mergeSort fun x y => decide (x ≤ y)).length = L.length := hp.length_eq
  have hpos : 0 < L.length := List.length_pos_iff.2 h
  rw [← hp.countP_eq, ← hp.countP_eq]
  unfold mid
  generalize (L.mergeSort fun x y => decide (x ≤ y)) = S at *
  rw [← hl]
  rw [← hl] at hpos
  generalize hk : (S.length - 1) / 2 = k
  have hkl : k < S.length := by omega
  rw [List.getD_eq_getElem?_getD, List.getElem?_eq_getElem hkl, Option.getD_some]
  have hget : ∀ i j (hi : i < S.length) (hj : j < S.length), i ≤ j → S[i] ≤ S[j] := fun i j hi hj hij => by
    rcases Nat.lt_or_eq_of_le hij with hlt | rfl
    · exact List.pairwise_iff_getElem.1 hs i j hi hj hlt
    · exact Int.le_refl _
  constructor
  · have h1 : (S.drop k).countP (fun y => decide (S[k] ≤ y)) = (S.drop k).length := List.countP_eq_length.2 fun y hy => by
      obtain ⟨i, hi, rfl⟩ := List.getElem_of_mem hy
      rw [List.getElem_drop]
      rw [List.length_drop] at hi
      simpa using hget k (k + i) hkl (by omega) (by omega)
    have h2 : (S.drop k).countP (fun y => decide (S[k] ≤ y)) ≤ S.countP (fun y => decide (S[k] ≤ y)) := (List.drop_sublist k S).countP_le
    rw [h1, List.length_drop] at h2
    omega
  · have h1 : (S.take (k + 1)).countP (fun y => decide (S[k] < y)) = 0 := List.countP_eq_zero.2 fun y hy => by
      obtain ⟨i, hi, rfl⟩ := List.getElem_of_mem hy
      rw [List.getElem_take]
      rw [List.length_take] at hi
      have := hget i k (by omega) hkl (by omega)
      simp; omega
    have h2 := List.countP_append (p := fun y => decide (S[k] < y)) (l₁ := S.take (k + 1)) (l₂ := S.drop (k + 1))
    rw [List.take_append_drop, h1] at h2
    have h3 := List.countP_le_length (p := fun y => decide (S[k] < y)) (l := S.drop (k + 1))
    rw [List.length_drop] at h3
    omega
theorem mid_qual {L : List Int} (h : L ≠ []) : qual L (mid L) = true := by
  unfold qual
  exact decide_eq_true (mid_count h).1
theorem mid_max {L : List Int} (h : L ≠ []) {x : Int} (hq : qual L x = true) : x ≤ mid L := by
  by_cases hx : x ≤ mid L
  · exact hx
  · have h1 := (mid_count h).2
    have h2 := of_decide_eq_true hq
    have h3 : L.countP (fun y => decide (x ≤ y)) ≤ L.countP (fun y => decide (mid L < y)) := List.countP_mono_left fun y _ hy => by simp at *; omega
    omega
/-- As the document looks for it. -/
def Best (L : List Int) (k : Nat) (b : Int) (f : Bool) : Prop :=
  (f = false ∧ b = 0 ∧ ∀ x ∈ L.take k, qual L x = false) ∨ (f = true ∧ b ∈ L ∧ qual L b = true ∧ ∀ x ∈ L.take k, qual L x = true → x ≤ b)
theorem Best.end' {L : List Int} {b : Int} {f : Bool} (h : Best L L.length b f) (hL : L ≠ []) : b = mid L := by
  unfold Best at h
  rw [List.take_length] at h
  rcases h with ⟨_, _, h⟩ | ⟨_, h1, h2, h3⟩
  · have := h _ (mid_mem hL)
    rw [mid_qual hL] at this; cases this
  · have := h3 _ (mid_mem hL) (mid_qual hL)
    have := mid_max hL h2
    omega
theorem Best.skip {L : List Int} {k : Nat} {b x : Int} {f : Bool} (h : Best L k b f) (hx : L[k]? = some x) (hn : qual L x = false ∨ (f = true ∧ x ≤ b)) : Best L (k + 1) b f := by
  unfold Best at *
  rw [List.take_add_one, hx, Option.toList_some]
  rcases h with ⟨h1, h2, h3⟩ | ⟨h1, h2, h3, h4⟩
  · refine .inl ⟨h1, h2, fun y hy => ?_⟩
    rcases List.mem_append.1 hy with hy | hy
    · exact h3 y hy
    · have : y = x := by simpa using hy
      subst this
      rcases hn with hn | ⟨e, _⟩
      · exact hn
      · rw [h1] at e; cases e
  · refine .inr ⟨h1, h2, h3, fun y hy hq => ?_⟩
    rcases List.mem_append.1 hy with hy | hy
    · exact h4 y hy hq
    · have : y = x := by simpa using hy
      subst this
      rcases hn with hn | ⟨_, hn⟩
      · rw [hn] at hq; cases hq
      · exact hn
theorem Best.take' {L : List Int} {k : Nat} {b x : Int} {f : Bool} (h : Best L k b f) (hx : L[k]? = some x) (hq : qual L x = true) (hn : f = false ∨ b < x) : Best L (k + 1) x true := by
  unfold Best at *
  rw [List.take_add_one, hx, Option.toList_some]
  have hm : x ∈ L := List.mem_of_getElem? hx
  refine .inr ⟨rfl, hm, hq, fun y hy hq' => ?_⟩
  rcases List.mem_append.1 hy with hy | hy
  · rcases h with ⟨h1, h2, h3⟩ | ⟨h1, h2, h3, h4⟩
    · rw [h3 y hy] at hq'; cases hq'
    · have := h4 y hy hq'
      rcases hn with e | hn
      · rw [h1] at e; cases e
      · omega
  · have : y = x := by simpa using hy
    subst this; exact Int.le_refl _
end Go.Proofs.Yticcmjiekopnbaa
