/-
  S1 S0 S7 in one text.
-/
import Derived.Test.YtdgnjalbpiciiaaE1

/- S1 -/
namespace Go.Proofs.Ytdgnjalbpiciiaa
set_option linter.unusedVariables false
set_option linter.unusedSimpArgs false
open Go.RowKit
variable {κ : Env}

/-- By rising keys; those of one key may be many. -/
def SortedW (l : List Pl) : Prop := l.Pairwise fun p q => plt q.1 p.1 = false
def kf (k : Nat) (l : List Pl) : List Pl := l.filter fun p => decide (p.1 = k)
theorem kf_app (k : Nat) (a b : List Pl) : kf k (a ++ b) = kf k a ++ kf k b := by unfold kf; rw [List.filter_append]
theorem kf_cons (k : Nat) (p : Pl) (l : List Pl) : kf k (p :: l) = if p.1 = k then p :: kf k l else kf k l := by
  unfold kf
  by_cases h : p.1 = k
  · rw [List.filter_cons_of_pos (by simpa using h), if_pos h]
  · rw [List.filter_cons_of_neg (by simpa using h), if_neg h]
theorem mem_kf {p : Pl} {l : List Pl} (h : p ∈ l) : p ∈ kf p.1 l := List.mem_filter.2 ⟨h, by simp⟩
theorem mem_of_kf {p : Pl} {k : Nat} {l : List Pl} (h : p ∈ kf k l) : p ∈ l := (List.mem_filter.1 h).1
/-- The same pairs, sorted, in the order of those of one key. -/
def Mg (xs ys : List Pl) : Prop := SortedW ys ∧ ∀ k, kf k ys = kf k xs
theorem stable_one : ∀ {a b : List Pl}, SortedW a → SortedW b → (∀ k, kf k a = kf k b) → a = b
  | [], [], _, _, _ => rfl
  | [], q :: b, _, _, h => by
    have := h q.1
    rw [kf_cons, if_pos rfl] at this
    cases this
  | p :: a, [], _, _, h => by
    have := h p.1
    rw [kf_cons, if_pos rfl] at this
    cases this
  | p :: a, q :: b, ha, hb, h => by
    have h1 := List.pairwise_cons.1 ha
    have h2 := List.pairwise_cons.1 hb
    have hpq : plt p.1 q.1 = false := by
      have hm : p ∈ q :: b := mem_of_kf (k := p.1) (by rw [← h p.1]; exact mem_kf (by simp))
      rcases List.mem_cons.1 hm with e | hm
      · rw [e]; exact plt_irr _
      · exact h2.1 p hm
    have hqp : plt q.1 p.1 = false := by
      have hm : q ∈ p :: a := mem_of_kf (k := q.1) (by rw [h q.1]; exact mem_kf (by simp))
      rcases List.mem_cons.1 hm with e | hm
      · rw [e]; exact plt_irr _
      · exact h1.1 q hm
    have hk : p.1 = q.1 := by
      rcases plt_tri p.1 q.1 with e | e | e
      · rw [hpq] at e; cases e
      · exact e
      · rw [hqp] at e; cases e
    have hp := h p.1
    rw [kf_cons, kf_cons, if_pos rfl, if_pos hk.symm] at hp
    have he : p = q := (List.cons.inj hp).1
    subst he
    have ih := stable_one h1.2 h2.2 (fun k => by
      have := h k
      rw [kf_cons, kf_cons] at this
      split at this
      · exact (List.cons.inj this).2
      · exact this)
    rw [ih]
theorem Mg.eq {xs a b : List Pl} (h : Mg xs a) (g : Mg xs b) : a = b := stable_one h.1 g.1 (fun k => (h.2 k).trans (g.2 k).symm)
theorem Mg.trans {xs ys zs : List Pl} (h : ∀ k, kf k ys = kf k xs) (g : Mg ys zs) : Mg xs zs := ⟨g.1, fun k => (g.2 k).trans (h k)⟩

/-- The lists that stand in the same pairs, key by key, are as long. -/
theorem kf_len : ∀ {a b : List Pl}, (∀ k, kf k a = kf k b) → a.length = b.length
  | [], [], _ => rfl
  | [], q :: b, h => by
    have := h q.1
    rw [kf_cons, if_pos rfl] at this
    cases this
  | p :: a, b, h => by
    -- take p's first place in b out
    have hm : p ∈ b := mem_of_kf (k := p.1) (by rw [← h p.1]; exact mem_kf (by simp))
    obtain ⟨b1, b2, hb, hn⟩ : ∃ b1 b2, b = b1 ++ p :: b2 ∧ ∀ q ∈ b1, q.1 ≠ p.1 := by
      have hp := h p.1
      rw [kf_cons, if_pos rfl] at hp
      clear h hm
      induction b with
      | nil => cases hp
      | cons q b ih =>
        rw [kf_cons] at hp
        by_cases e : q.1 = p.1
        · rw [if_pos e] at hp
          have := (List.cons.inj hp).1
          subst this
          exact ⟨[], b, rfl, fun q hq => by cases hq⟩
        · rw [if_neg e] at hp
          obtain ⟨b1, b2, h1, h2⟩ := ih hp
          exact ⟨q :: b1, b2, by rw [h1]; rfl, fun x hx => by
            rcases List.mem_cons.1 hx with rfl | hx
            · exact e
            · exact h2 x hx⟩
    subst hb
    have ih := kf_len (a := a) (b := b1 ++ b2) (fun k => by
      have := h k
      rw [kf_cons, kf_app, kf_cons] at this
      rw [kf_app]
      by_cases e : p.1 = k
      · rw [if_pos e, if_pos e] at this
        have h0 : kf k b1 = [] := List.filter_eq_nil_iff.2 (fun q hq => by simpa using fun e' => hn q hq (e'.trans e.symm))
        rw [h0] at this ⊢
        exact (List.cons.inj this).2
      · rw [if_neg e, if_neg e] at this
        exact this)
    simp only [List.length_append, List.length_cons] at ih ⊢
    omega
theorem Mg.len {xs ys : List Pl} (h : Mg xs ys) : ys.length = xs.length := kf_len h.2

theorem sortedW_app {a b : List Pl} : SortedW (a ++ b) ↔ SortedW a ∧ SortedW b ∧ ∀ p ∈ a, ∀ q ∈ b, plt q.1 p.1 = false := List.pairwise_append
theorem kle_trans {a b c : Nat} (h : plt b a = false) (g : plt c b = false) : plt c a = false := by
  cases e : plt c a with
  | false => rfl
  | true =>
    have := plt_trans_le e h
    rw [g] at this; cases this
theorem sortedW_at {l : List Pl} (h : SortedW l) {i j : Nat} {p q : Pl} (hi : l[i]? = some p) (hj : l[j]? = some q) (hij : i ≤ j) : plt q.1 p.1 = false := by
  rcases Nat.eq_or_lt_of_le hij with e | e
  · subst e
    rw [hi] at hj
    obtain rfl : p = q := by simpa using hj
    exact plt_irr _
  · obtain ⟨hi1, hi2⟩ := List.getElem?_eq_some_iff.1 hi
    obtain ⟨hj1, hj2⟩ := List.getElem?_eq_some_iff.1 hj
    have := List.pairwise_iff_getElem.1 h i j hi1 hj1 e
    rw [hi2, hj2] at this
    exact this
theorem kf_none {k : Nat} {l : List Pl} (h : ∀ p ∈ l, p.1 ≠ k) : kf k l = [] := List.filter_eq_nil_iff.2 (fun q hq => by simpa using h q hq)
/-- Lists none of whose keys is one of the other's may be exchanged. -/
theorem kf_swap {X Y : List Pl} (h : ∀ x ∈ X, ∀ y ∈ Y, plt y.1 x.1 = true) (k : Nat) : kf k (X ++ Y) = kf k (Y ++ X) := by
  rw [kf_app, kf_app]
  by_cases e : ∃ x ∈ X, x.1 = k
  · obtain ⟨x, hx, rfl⟩ := e
    rw [kf_none (l := Y) (fun y hy => plt_ne (h x hx y hy)), List.append_nil, List.nil_append]
  · rw [kf_none (l := X) (fun x hx e' => e ⟨x, hx, e'⟩), List.append_nil, List.nil_append]

theorem tw_all {f : Pl → Bool} {l : List Pl} {x : Pl} (h : x ∈ l.takeWhile f) : f x = true := by
  induction l with
  | nil => cases h
  | cons p l ih =>
    rw [List.takeWhile_cons] at h
    split at h
    · rename_i hp
      rcases List.mem_cons.1 h with rfl | h
      · exact hp
      · exact ih h
    · cases h
theorem ins_kf (S : List Pl) (p : Pl) (k : Nat) : kf k (ins S p) = kf k (S ++ [p]) := by
  unfold ins
  have h := List.takeWhile_append_dropWhile (p := fun q : Pl => plt p.1 q.1) (l := S.reverse)
  have h2 : S = (S.reverse.dropWhile (fun q => plt p.1 q.1)).reverse ++ (S.reverse.takeWhile (fun q => plt p.1 q.1)).reverse := by
    rw [← List.reverse_append, h, List.reverse_reverse]
  have h3 : ∀ x ∈ (S.reverse.takeWhile (fun q => plt p.1 q.1)).reverse, plt p.1 x.1 = true := fun x hx => by
    exact tw_all (List.mem_reverse.1 hx)
  generalize (S.reverse.dropWhile (fun q => plt p.1 q.1)).reverse = A at *
  generalize (S.reverse.takeWhile (fun q => plt p.1 q.1)).reverse = C at *
  subst h2
  rw [List.append_assoc, kf_app, kf_app]
  congr 1
  have := kf_swap (X := C) (Y := [p]) (fun x hx y hy => by
    obtain rfl : y = p := by simpa using hy
    exact h3 x hx) k
  rw [this]; rfl
theorem ins_sortedW {S : List Pl} (hs : SortedW S) (p : Pl) : SortedW (ins S p) := by
  unfold ins
  have h := List.takeWhile_append_dropWhile (p := fun q : Pl => plt p.1 q.1) (l := S.reverse)
  have h2 : S = (S.reverse.dropWhile (fun q => plt p.1 q.1)).reverse ++ (S.reverse.takeWhile (fun q => plt p.1 q.1)).reverse := by
    rw [← List.reverse_append, h, List.reverse_reverse]
  have h3 : ∀ x ∈ (S.reverse.takeWhile (fun q => plt p.1 q.1)).reverse, plt p.1 x.1 = true := fun x hx => tw_all (List.mem_reverse.1 hx)
  have h4 : ∀ q, (S.reverse.dropWhile (fun q => plt p.1 q.1)).head? = some q → plt p.1 q.1 = false := fun q hq => by
    have := List.head?_dropWhile_not (fun q : Pl => plt p.1 q.1) S.reverse
    rw [hq] at this
    simpa using this
  generalize hA : S.reverse.dropWhile (fun q => plt p.1 q.1) = A at *
  generalize (S.reverse.takeWhile (fun q => plt p.1 q.1)).reverse = C at *
  subst h2
  obtain ⟨h5, h6, h7⟩ := sortedW_app.1 hs
  have h8 : ∀ q ∈ A.reverse, plt p.1 q.1 = false := fun q hq => by
    cases A with
    | nil => cases hq
    | cons a A =>
      have ha := h4 a rfl
      rw [List.reverse_cons] at hq h5
      rcases List.mem_append.1 hq with hq | hq
      · have := (sortedW_app.1 h5).2.2 q hq a (by simp)
        exact kle_trans this ha
      · obtain rfl : q = a := by simpa using hq
        exact ha
  refine sortedW_app.2 ⟨h5, List.pairwise_cons.2 ⟨fun q hq => plt_asym (h3 q hq), h6⟩, fun a ha q hq => ?_⟩
  rcases List.mem_cons.1 hq with rfl | hq
  · exact h8 a ha
  · exact h7 a ha q hq
theorem isort_mg (xs : List Pl) : Mg xs (isort xs) := by
  have h : ∀ (l a : List Pl), SortedW a → SortedW (l.foldl ins a) ∧ ∀ k, kf k (l.foldl ins a) = kf k (a ++ l) := by
    intro l
    induction l with
    | nil => intro a ha; exact ⟨ha, fun k => by simp⟩
    | cons p l ih =>
      intro a ha
      obtain ⟨h1, h2⟩ := ih (ins a p) (ins_sortedW ha p)
      refine ⟨h1, fun k => ?_⟩
      show kf k (l.foldl ins (ins a p)) = _
      rw [h2, kf_app, ins_kf, ← kf_app, List.append_assoc]
      rfl
  obtain ⟨h1, h2⟩ := h xs [] List.Pairwise.nil
  exact ⟨h1, h2⟩
/-- What is sorted in this way is what an insertion makes. -/
theorem Mg.isort {xs ys : List Pl} (h : Mg xs ys) : ys = isort xs := h.eq (isort_mg xs)

/-- Two sorted stretches, cut so that what goes first is nowhere more than what stays. -/
theorem merge_cut {L1 X Y R2 : List Pl} (hL : SortedW (L1 ++ X)) (hR : SortedW (Y ++ R2)) (hXY : ∀ x ∈ X, ∀ y ∈ Y, plt y.1 x.1 = true) (hLR : ∀ l ∈ L1, ∀ r ∈ R2, plt r.1 l.1 = false)
    {M N : List Pl} (hM : Mg (L1 ++ Y) M) (hN : Mg (X ++ R2) N) : Mg ((L1 ++ X) ++ (Y ++ R2)) (M ++ N) := by
  obtain ⟨l1, l2, l3⟩ := sortedW_app.1 hL
  obtain ⟨r1, r2, r3⟩ := sortedW_app.1 hR
  refine ⟨sortedW_app.2 ⟨hM.1, hN.1, fun p hp q hq => ?_⟩, fun k => ?_⟩
  · have hp' : p ∈ L1 ++ Y := mem_of_kf (k := p.1) (by rw [← hM.2]; exact mem_kf hp)
    have hq' : q ∈ X ++ R2 := mem_of_kf (k := q.1) (by rw [← hN.2]; exact mem_kf hq)
    rcases List.mem_append.1 hp' with hp | hp <;> rcases List.mem_append.1 hq' with hq | hq
    · exact l3 p hp q hq
    · exact hLR p hp q hq
    · exact plt_asym (hXY q hq p hp)
    · exact r3 p hp q hq
  · rw [kf_app, hM.2, hN.2, kf_app, kf_app, kf_app, kf_app, kf_app]
    have := kf_swap hXY k
    rw [kf_app, kf_app] at this
    rw [List.append_assoc, List.append_assoc, ← List.append_assoc (kf k Y), ← List.append_assoc (kf k X), this]
end Go.Proofs.Ytdgnjalbpiciiaa

/- S0 -/
namespace Go.Proofs.Ytdgnjalbpiciiaa
set_option linter.unusedVariables false
set_option linter.unusedSimpArgs false
open Go.RowKit
variable {κ : Env}

theorem at_left {A L Z : List Pl} {a i : Nat} (hA : A.length = a) (hi : i < L.length) : (A ++ (L ++ Z))[a + i]? = L[i]? := by
  rw [List.getElem?_append_right (by omega), hA, Nat.add_sub_cancel_left, List.getElem?_append_left hi]
theorem at_right {A L R B : List Pl} {a m j : Nat} (hA : A.length = a) (hm : a + L.length = m) (hj : j < R.length) : (A ++ (L ++ (R ++ B)))[m + j]? = R[j]? := by
  rw [List.getElem?_append_right (by omega), List.getElem?_append_right (by omega), List.getElem?_append_left (by omega)]
  congr 1; omega
theorem sym_cut {A L R B : List Pl} {a m b n s : Nat} (hA : A.length = a) (hm : a + L.length = m) (hb : m + R.length = b) (hs : a ≤ s) (hsm : s ≤ m) (he1 : m + s ≤ n) (he2 : n ≤ b + s)
    (hlo : s = a ∨ n = b + s ∨ ∀ x y, (A ++ (L ++ (R ++ B)))[s - 1]? = some x → (A ++ (L ++ (R ++ B)))[n - s]? = some y → plt y.1 x.1 = false)
    (hhi : s = m ∨ n = m + s ∨ ∀ x y, (A ++ (L ++ (R ++ B)))[s]? = some x → (A ++ (L ++ (R ++ B)))[n - 1 - s]? = some y → plt y.1 x.1 = true) (hL : SortedW L) (hR : SortedW R) :
    ∃ L1 X Y R2, L = L1 ++ X ∧ R = Y ++ R2 ∧ a + L1.length = s ∧ m + Y.length + s = n ∧ (∀ x ∈ X, ∀ y ∈ Y, plt y.1 x.1 = true) ∧ ∀ l ∈ L1, ∀ r ∈ R2, plt r.1 l.1 = false := by
  refine ⟨L.take (s - a), L.drop (s - a), R.take (n - s - m), R.drop (n - s - m), (List.take_append_drop _ _).symm, (List.take_append_drop _ _).symm, by rw [List.length_take]; omega, by rw [List.length_take]; omega, ?_, ?_⟩
  · intro x hx y hy
    obtain ⟨i, hi⟩ := List.mem_iff_getElem?.1 hx
    obtain ⟨j, hj⟩ := List.mem_iff_getElem?.1 hy
    rw [List.getElem?_drop] at hi
    rw [List.getElem?_take] at hj
    split at hj
    · rename_i hjl
      have hil := (List.getElem?_eq_some_iff.1 hi).1
      have hjr := (List.getElem?_eq_some_iff.1 hj).1
      obtain ⟨x0, hx0⟩ : ∃ x0, L[s - a]? = some x0 := ⟨L[s - a]'(by omega), List.getElem?_eq_getElem _⟩
      obtain ⟨y0, hy0⟩ : ∃ y0, R[n - 1 - s - m]? = some y0 := ⟨R[n - 1 - s - m]'(by omega), List.getElem?_eq_getElem _⟩
      have h := (hhi.resolve_left (by omega)).resolve_left (by omega) x0 y0 (by
        have := at_left (A := A) (L := L) (Z := R ++ B) hA (i := s - a) (by omega)
        rw [show a + (s - a) = s by omega, hx0] at this; exact this) (by
        have := at_right (A := A) (L := L) (R := R) (B := B) hA hm (j := n - 1 - s - m) (by omega)
        rw [show m + (n - 1 - s - m) = n - 1 - s by omega, hy0] at this; exact this)
      have h1 := sortedW_at hL hx0 hi (by omega)
      have h2 := sortedW_at hR hj hy0 (by omega)
      exact plt_trans_le (plt_le_trans h2 h) h1
    · cases hj
  · intro l hl r hr
    obtain ⟨i, hi⟩ := List.mem_iff_getElem?.1 hl
    obtain ⟨j, hj⟩ := List.mem_iff_getElem?.1 hr
    rw [List.getElem?_drop] at hj
    rw [List.getElem?_take] at hi
    split at hi
    · rename_i hil
      have hil2 := (List.getElem?_eq_some_iff.1 hi).1
      have hjr := (List.getElem?_eq_some_iff.1 hj).1
      obtain ⟨x1, hx1⟩ : ∃ x1, L[s - 1 - a]? = some x1 := ⟨L[s - 1 - a]'(by omega), List.getElem?_eq_getElem _⟩
      obtain ⟨y1, hy1⟩ : ∃ y1, R[n - s - m]? = some y1 := ⟨R[n - s - m]'(by omega), List.getElem?_eq_getElem _⟩
      have h := (hlo.resolve_left (by omega)).resolve_left (by omega) x1 y1 (by
        have := at_left (A := A) (L := L) (Z := R ++ B) hA (i := s - 1 - a) (by omega)
        rw [show a + (s - 1 - a) = s - 1 by omega, hx1] at this; exact this) (by
        have := at_right (A := A) (L := L) (R := R) (B := B) hA hm (j := n - s - m) (by omega)
        rw [show m + (n - s - m) = n - s by omega, hy1] at this; exact this)
      have h1 := sortedW_at hL hi hx1 (by omega)
      have h2 := sortedW_at hR hy1 hj (by omega)
      exact kle_trans (kle_trans h1 h) h2
    · cases hi
theorem isort_sorted {l : List Pl} (h : SortedW l) : isort l = l := (Mg.isort ⟨h, fun _ => rfl⟩).symm
theorem isort_sortedW (l : List Pl) : SortedW (isort l) := (isort_mg l).1
/-- Cut, exchanged and merged: what is merged. -/
theorem isort_cut {L1 X Y R2 : List Pl} (hL : SortedW (L1 ++ X)) (hR : SortedW (Y ++ R2)) (hXY : ∀ x ∈ X, ∀ y ∈ Y, plt y.1 x.1 = true) (hLR : ∀ l ∈ L1, ∀ r ∈ R2, plt r.1 l.1 = false) :
    isort (L1 ++ Y) ++ isort (X ++ R2) = isort ((L1 ++ X) ++ (Y ++ R2)) := (merge_cut hL hR hXY hLR (isort_mg _) (isort_mg _)).isort
/-- Sorted stretches are sorted together. -/
theorem isort_two (a b : List Pl) : isort (isort a ++ isort b) = isort (a ++ b) :=
  (Mg.trans (fun k => by rw [kf_app, (isort_mg a).2, (isort_mg b).2, kf_app]) (isort_mg (isort a ++ isort b))).isort
end Go.Proofs.Ytdgnjalbpiciiaa

/- S7 -/
namespace Go.Proofs.Ytdgnjalbpiciiaa
set_option linter.unusedVariables false
set_option linter.unusedSimpArgs false
open Go.RowKit
variable {κ : Env}

/-- A list sorted in chunks of so many. -/
inductive Ch (k : Nat) : List Pl → Prop
  | last (l : List Pl) : l.length ≤ k → SortedW l → Ch k l
  | cons (l r : List Pl) : l.length = k → SortedW l → Ch k r → Ch k (l ++ r)
theorem Ch.sorted {k : Nat} {u : List Pl} (h : Ch k u) (hl : u.length ≤ k) : SortedW u := by
  cases h with
  | last _ _ h => exact h
  | cons l r h1 h2 h3 =>
    rw [List.length_append] at hl
    have : r = [] := List.eq_nil_of_length_eq_zero (by omega)
    subst this
    rw [List.append_nil]; exact h2
theorem Ch.take {k : Nat} {u : List Pl} (h : Ch k u) (hl : k < u.length) : ∃ l r, u = l ++ r ∧ l.length = k ∧ SortedW l ∧ Ch k r := by
  cases h with
  | last _ h _ => omega
  | cons l r h1 h2 h3 => exact ⟨l, r, rfl, h1, h2, h3⟩
theorem Ch.one {k : Nat} {u : List Pl} (h : Ch k u) (hl : k ≤ u.length) : ∃ l r, u = l ++ r ∧ l.length = k ∧ SortedW l ∧ Ch k r := by
  rcases Nat.eq_or_lt_of_le hl with e | e
  · exact ⟨u, [], by simp, e.symm, h.sorted (by omega), .last [] (by simp) (by simp [SortedW])⟩
  · exact h.take e
theorem Ch.two {k : Nat} {u : List Pl} (hk : 1 ≤ k) (h : Ch k u) (hl : 2 * k ≤ u.length) : ∃ l m r, u = l ++ (m ++ r) ∧ l.length = k ∧ m.length = k ∧ SortedW l ∧ SortedW m ∧ Ch k r := by
  obtain ⟨l, r, rfl, h1, h2, h3⟩ := h.one (by omega)
  rw [List.length_append] at hl
  obtain ⟨m, r', rfl, h4, h5, h6⟩ := h3.one (by omega)
  exact ⟨l, m, r', rfl, h1, h4, h2, h5, h6⟩
theorem isort_kf (l : List Pl) (k : Nat) : kf k (isort l) = kf k l := (isort_mg l).2 k
/-- A chunk that was sorted: nothing else has turned. -/
theorem kf_mid (T l E : List Pl) (k : Nat) : kf k (T ++ (isort l ++ E)) = kf k (T ++ (l ++ E)) := by
  rw [kf_app, kf_app, isort_kf, kf_app, kf_app]
theorem isort_of {xs ys : List Pl} (h : SortedW ys) (hk : ∀ k, kf k ys = kf k xs) : ys = isort xs := Mg.isort ⟨h, hk⟩
/-- What stands behind a beginning that is sorted in chunks may be any such. -/
def Front (k : Nat) (T : List Pl) : Prop := ∀ Z, Ch k Z → Ch k (T ++ Z)
theorem Front.nil (k : Nat) : Front k [] := fun Z h => by simpa using h
theorem Front.more {k : Nat} {T S : List Pl} (h : Front k T) (hl : S.length = k) (hs : SortedW S) : Front k (T ++ S) := fun Z hz => by
  rw [List.append_assoc]; exact h _ (.cons S Z hl hs hz)
end Go.Proofs.Ytdgnjalbpiciiaa
