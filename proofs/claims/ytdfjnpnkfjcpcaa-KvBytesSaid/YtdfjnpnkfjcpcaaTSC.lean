/-
  TSA TSB in one text.
-/
import Derived.Test.YtdfjnpnkfjcpcaaTBE
import Derived.BigRegion

/- TSA -/

/- S1 -/
namespace Go.Proofs.Ytdfjnpnkfjcpcaa.Ts
open Go.Proofs.Ytdfjnpnkfjcpcaa
set_option linter.unusedVariables false
set_option linter.unusedSimpArgs false
open Go.RowKit

/-- By rising keys; those of one key may be many. -/
def SortedW (l : List Pr) : Prop := l.Pairwise fun p q => klt q.1 p.1 = false
def kf (k : ByteArray) (l : List Pr) : List Pr := l.filter fun p => decide (p.1 = k)
theorem kf_app (k : ByteArray) (a b : List Pr) : kf k (a ++ b) = kf k a ++ kf k b := by unfold kf; rw [List.filter_append]
theorem kf_cons (k : ByteArray) (p : Pr) (l : List Pr) : kf k (p :: l) = if p.1 = k then p :: kf k l else kf k l := by
  unfold kf
  by_cases h : p.1 = k
  · rw [List.filter_cons_of_pos (by simpa using h), if_pos h]
  · rw [List.filter_cons_of_neg (by simpa using h), if_neg h]
theorem mem_kf {p : Pr} {l : List Pr} (h : p ∈ l) : p ∈ kf p.1 l := List.mem_filter.2 ⟨h, by simp⟩
theorem mem_of_kf {p : Pr} {k : ByteArray} {l : List Pr} (h : p ∈ kf k l) : p ∈ l := (List.mem_filter.1 h).1
/-- The same pairs, sorted, in the order of those of one key. -/
def Mg (xs ys : List Pr) : Prop := SortedW ys ∧ ∀ k, kf k ys = kf k xs
theorem stable_one : ∀ {a b : List Pr}, SortedW a → SortedW b → (∀ k, kf k a = kf k b) → a = b
  | [], [], _, _, _ => rfl
  | [], q :: b, _, _, h => by
    have := h q.1
    rw [kf_cons, if_pos rfl] at this
    cases this
  | p :: a, [], _, _, h => by
    have := h p.1
    rw [kf_cons, if_pos rfl] at this
    cases this
  | p :: a, q :: b, ha, hb, h => by
    have h1 := List.pairwise_cons.1 ha
    have h2 := List.pairwise_cons.1 hb
    have hpq : klt p.1 q.1 = false := by
      have hm : p ∈ q :: b := mem_of_kf (k := p.1) (by rw [← h p.1]; exact mem_kf (by simp))
      rcases List.mem_cons.1 hm with e | hm
      · rw [e]; exact klt_irr _
      · exact h2.1 p hm
    have hqp : klt q.1 p.1 = false := by
      have hm : q ∈ p :: a := mem_of_kf (k := q.1) (by rw [h q.1]; exact mem_kf (by simp))
      rcases List.mem_cons.1 hm with e | hm
      · rw [e]; exact klt_irr _
      · exact h1.1 q hm
    have hk : p.1 = q.1 := by
      rcases klt_tri p.1 q.1 with e | e | e
      · rw [hpq] at e; cases e
      · exact e
      · rw [hqp] at e; cases e
    have hp := h p.1
    rw [kf_cons, kf_cons, if_pos rfl, if_pos hk.symm] at hp
    have he : p = q := (List.cons.inj hp).1
    subst he
    have ih := stable_one h1.2 h2.2 (fun k => by
      have := h k
      rw [kf_cons, kf_cons] at this
      split at this
      · exact (List.cons.inj this).2
      · exact this)
    rw [ih]
theorem Mg.eq {xs a b : List Pr} (h : Mg xs a) (g : Mg xs b) : a = b := stable_one h.1 g.1 (fun k => (h.2 k).trans (g.2 k).symm)
theorem Mg.trans {xs ys zs : List Pr} (h : ∀ k, kf k ys = kf k xs) (g : Mg ys zs) : Mg xs zs := ⟨g.1, fun k => (g.2 k).trans (h k)⟩

/-- The lists that stand in the same pairs, key by key, are as long. -/
theorem kf_len : ∀ {a b : List Pr}, (∀ k, kf k a = kf k b) → a.length = b.length
  | [], [], _ => rfl
  | [], q :: b, h => by
    have := h q.1
    rw [kf_cons, if_pos rfl] at this
    cases this
  | p :: a, b, h => by
    -- take p's first place in b out
    have hm : p ∈ b := mem_of_kf (k := p.1) (by rw [← h p.1]; exact mem_kf (by simp))
    obtain ⟨b1, b2, hb, hn⟩ : ∃ b1 b2, b = b1 ++ p :: b2 ∧ ∀ q ∈ b1, q.1 ≠ p.1 := by
      have hp := h p.1
      rw [kf_cons, if_pos rfl] at hp
      clear h hm
      induction b with
      | nil => cases hp
      | cons q b ih =>
        rw [kf_cons] at hp
        by_cases e : q.1 = p.1
        · rw [if_pos e] at hp
          have := (List.cons.inj hp).1
          subst this
          exact ⟨[], b, rfl, fun q hq => by cases hq⟩
        · rw [if_neg e] at hp
          obtain ⟨b1, b2, h1, h2⟩ := ih hp
          exact ⟨q :: b1, b2, by rw [h1]; rfl, fun x hx => by
            rcases List.mem_cons.1 hx with rfl | hx
            · exact e
            · exact h2 x hx⟩
    subst hb
    have ih := kf_len (a := a) (b := b1 ++ b2) (fun k => by
      have := h k
      rw [kf_cons, kf_app, kf_cons] at this
      rw [kf_app]
      by_cases e : p.1 = k
      · rw [if_pos e, if_pos e] at this
        have h0 : kf k b1 = [] := List.filter_eq_nil_iff.2 (fun q hq => by simpa using fun e' => hn q hq (e'.trans e.symm))
        rw [h0] at this ⊢
        exact (List.cons.inj this).2
      · rw [if_neg e, if_neg e] at this
        exact this)
    simp only [List.length_append, List.length_cons] at ih ⊢
    omega
theorem Mg.len {xs ys : List Pr} (h : Mg xs ys) : ys.length = xs.length := kf_len h.2

theorem sortedW_app {a b : List Pr} : SortedW (a ++ b) ↔ SortedW a ∧ SortedW b ∧ ∀ p ∈ a, ∀ q ∈ b, klt q.1 p.1 = false := List.pairwise_append
theorem kle_trans {a b c : ByteArray} (h : klt b a = false) (g : klt c b = false) : klt c a = false := by
  cases e : klt c a with
  | false => rfl
  | true =>
    have := klt_trans_le e h
    rw [g] at this; cases this
theorem sortedW_at {l : List Pr} (h : SortedW l) {i j : Nat} {p q : Pr} (hi : l[i]? = some p) (hj : l[j]? = some q) (hij : i ≤ j) : klt q.1 p.1 = false := by
  rcases Nat.eq_or_lt_of_le hij with e | e
  · subst e
    rw [hi] at hj
    obtain rfl : p = q := by simpa using hj
    exact klt_irr _
  · obtain ⟨hi1, hi2⟩ := List.getElem?_eq_some_iff.1 hi
    obtain ⟨hj1, hj2⟩ := List.getElem?_eq_some_iff.1 hj
    have := List.pairwise_iff_getElem.1 h i j hi1 hj1 e
    rw [hi2, hj2] at this
    exact this
theorem kf_none {k : ByteArray} {l : List Pr} (h : ∀ p ∈ l, p.1 ≠ k) : kf k l = [] := List.filter_eq_nil_iff.2 (fun q hq => by simpa using h q hq)
/-- Lists none of whose keys is one of the other's may be exchanged. -/
theorem kf_swap {X Y : List Pr} (h : ∀ x ∈ X, ∀ y ∈ Y, klt y.1 x.1 = true) (k : ByteArray) : kf k (X ++ Y) = kf k (Y ++ X) := by
  rw [kf_app, kf_app]
  by_cases e : ∃ x ∈ X, x.1 = k
  · obtain ⟨x, hx, rfl⟩ := e
    rw [kf_none (l := Y) (fun y hy => klt_ne (h x hx y hy)), List.append_nil, List.nil_append]
  · rw [kf_none (l := X) (fun x hx e' => e ⟨x, hx, e'⟩), List.append_nil, List.nil_append]

theorem tw_all {f : Pr → Bool} {l : List Pr} {x : Pr} (h : x ∈ l.takeWhile f) : f x = true := by
  induction l with
  | nil => cases h
  | cons p l ih =>
    rw [List.takeWhile_cons] at h
    split at h
    · rename_i hp
      rcases List.mem_cons.1 h with rfl | h
      · exact hp
      · exact ih h
    · cases h
theorem ins_kf (S : List Pr) (p : Pr) (k : ByteArray) : kf k (ins S p) = kf k (S ++ [p]) := by
  unfold ins
  have h := List.takeWhile_append_dropWhile (p := fun q : Pr => klt p.1 q.1) (l := S.reverse)
  have h2 : S = (S.reverse.dropWhile (fun q => klt p.1 q.1)).reverse ++ (S.reverse.takeWhile (fun q => klt p.1 q.1)).reverse := by
    rw [← List.reverse_append, h, List.reverse_reverse]
  have h3 : ∀ x ∈ (S.reverse.takeWhile (fun q => klt p.1 q.1)).reverse, klt p.1 x.1 = true := fun x hx => by
    exact tw_all (List.mem_reverse.1 hx)
  generalize (S.reverse.dropWhile (fun q => klt p.1 q.1)).reverse = A at *
  generalize (S.reverse.takeWhile (fun q => klt p.1 q.1)).reverse = C at *
  subst h2
  rw [List.append_assoc, kf_app, kf_app]
  congr 1
  have := kf_swap (X := C) (Y := [p]) (fun x hx y hy => by
    obtain rfl : y = p := by simpa using hy
    exact h3 x hx) k
  rw [this]; rfl
theorem ins_sortedW {S : List Pr} (hs : SortedW S) (p : Pr) : SortedW (ins S p) := by
  unfold ins
  have h := List.takeWhile_append_dropWhile (p := fun q : Pr => klt p.1 q.1) (l := S.reverse)
  have h2 : S = (S.reverse.dropWhile (fun q => klt p.1 q.1)).reverse ++ (S.reverse.takeWhile (fun q => klt p.1 q.1)).reverse := by
    rw [← List.reverse_append, h, List.reverse_reverse]
  have h3 : ∀ x ∈ (S.reverse.takeWhile (fun q => klt p.1 q.1)).reverse, klt p.1 x.1 = true := fun x hx => tw_all (List.mem_reverse.1 hx)
  have h4 : ∀ q, (S.reverse.dropWhile (fun q => klt p.1 q.1)).head? = some q → klt p.1 q.1 = false := fun q hq => by
    have := List.head?_dropWhile_not (fun q : Pr => klt p.1 q.1) S.reverse
    rw [hq] at this
    simpa using this
  generalize hA : S.reverse.dropWhile (fun q => klt p.1 q.1) = A at *
  generalize (S.reverse.takeWhile (fun q => klt p.1 q.1)).reverse = C at *
  subst h2
  obtain ⟨h5, h6, h7⟩ := sortedW_app.1 hs
  have h8 : ∀ q ∈ A.reverse, klt p.1 q.1 = false := fun q hq => by
    cases A with
    | nil => cases hq
    | cons a A =>
      have ha := h4 a rfl
      rw [List.reverse_cons] at hq h5
      rcases List.mem_append.1 hq with hq | hq
      · have := (sortedW_app.1 h5).2.2 q hq a (by simp)
        exact kle_trans this ha
      · obtain rfl : q = a := by simpa using hq
        exact ha
  refine sortedW_app.2 ⟨h5, List.pairwise_cons.2 ⟨fun q hq => klt_asym (h3 q hq), h6⟩, fun a ha q hq => ?_⟩
  rcases List.mem_cons.1 hq with rfl | hq
  · exact h8 a ha
  · exact h7 a ha q hq
theorem isort_mg (xs : List Pr) : Mg xs (isort xs) := by
  have h : ∀ (l a : List Pr), SortedW a → SortedW (l.foldl ins a) ∧ ∀ k, kf k (l.foldl ins a) = kf k (a ++ l) := by
    intro l
    induction l with
    | nil => intro a ha; exact ⟨ha, fun k => by simp⟩
    | cons p l ih =>
      intro a ha
      obtain ⟨h1, h2⟩ := ih (ins a p) (ins_sortedW ha p)
      refine ⟨h1, fun k => ?_⟩
      show kf k (l.foldl ins (ins a p)) = _
      rw [h2, kf_app, ins_kf, ← kf_app, List.append_assoc]
      rfl
  obtain ⟨h1, h2⟩ := h xs [] List.Pairwise.nil
  exact ⟨h1, h2⟩
/-- What is sorted in this way is what an insertion makes. -/
theorem Mg.isort {xs ys : List Pr} (h : Mg xs ys) : ys = isort xs := h.eq (isort_mg xs)

/-- Two sorted stretches, cut so that what goes first is nowhere more than what stays. -/
theorem merge_cut {L1 X Y R2 : List Pr} (hL : SortedW (L1 ++ X)) (hR : SortedW (Y ++ R2)) (hXY : ∀ x ∈ X, ∀ y ∈ Y, klt y.1 x.1 = true) (hLR : ∀ l ∈ L1, ∀ r ∈ R2, klt r.1 l.1 = false)
    {M N : List Pr} (hM : Mg (L1 ++ Y) M) (hN : Mg (X ++ R2) N) : Mg ((L1 ++ X) ++ (Y ++ R2)) (M ++ N) := by
  obtain ⟨l1, l2, l3⟩ := sortedW_app.1 hL
  obtain ⟨r1, r2, r3⟩ := sortedW_app.1 hR
  refine ⟨sortedW_app.2 ⟨hM.1, hN.1, fun p hp q hq => ?_⟩, fun k => ?_⟩
  · have hp' : p ∈ L1 ++ Y := mem_of_kf (k := p.1) (by rw [← hM.2]; exact mem_kf hp)
    have hq' : q ∈ X ++ R2 := mem_of_kf (k := q.1) (by rw [← hN.2]; exact mem_kf hq)
    rcases List.mem_append.1 hp' with hp | hp <;> rcases List.mem_append.1 hq' with hq | hq
    · exact l3 p hp q hq
    · exact hLR p hp q hq
    · exact klt_asym (hXY q hq p hp)
    · exact r3 p hp q hq
  · rw [kf_app, hM.2, hN.2, kf_app, kf_app, kf_app, kf_app, kf_app]
    have := kf_swap hXY k
    rw [kf_app, kf_app] at this
    rw [List.append_assoc, List.append_assoc, ← List.append_assoc (kf k Y), ← List.append_assoc (kf k X), this]
end Go.Proofs.Ytdfjnpnkfjcpcaa.Ts

/- S0 -/
namespace Go.Proofs.Ytdfjnpnkfjcpcaa.Ts
open Go.Proofs.Ytdfjnpnkfjcpcaa
set_option linter.unusedVariables false
set_option linter.unusedSimpArgs false
open Go.RowKit

theorem at_left {A L Z : List Pr} {a i : Nat} (hA : A.length = a) (hi : i < L.length) : (A ++ (L ++ Z))[a + i]? = L[i]? := by
  rw [List.getElem?_append_right (by omega), hA, Nat.add_sub_cancel_left, List.getElem?_append_left hi]
theorem at_right {A L R B : List Pr} {a m j : Nat} (hA : A.length = a) (hm : a + L.length = m) (hj : j < R.length) : (A ++ (L ++ (R ++ B)))[m + j]? = R[j]? := by
  rw [List.getElem?_append_right (by omega), List.getElem?_append_right (by omega), List.getElem?_append_left (by omega)]
  congr 1; omega
theorem sym_cut {A L R B : List Pr} {a m b n s : Nat} (hA : A.length = a) (hm : a + L.length = m) (hb : m + R.length = b) (hs : a ≤ s) (hsm : s ≤ m) (he1 : m + s ≤ n) (he2 : n ≤ b + s)
    (hlo : s = a ∨ n = b + s ∨ ∀ x y, (A ++ (L ++ (R ++ B)))[s - 1]? = some x → (A ++ (L ++ (R ++ B)))[n - s]? = some y → klt y.1 x.1 = false)
    (hhi : s = m ∨ n = m + s ∨ ∀ x y, (A ++ (L ++ (R ++ B)))[s]? = some x → (A ++ (L ++ (R ++ B)))[n - 1 - s]? = some y → klt y.1 x.1 = true) (hL : SortedW L) (hR : SortedW R) :
    ∃ L1 X Y R2, L = L1 ++ X ∧ R = Y ++ R2 ∧ a + L1.length = s ∧ m + Y.length + s = n ∧ (∀ x ∈ X, ∀ y ∈ Y, klt y.1 x.1 = true) ∧ ∀ l ∈ L1, ∀ r ∈ R2, klt r.1 l.1 = false := by
  refine ⟨L.take (s - a), L.drop (s - a), R.take (n - s - m), R.drop (n - s - m), (List.take_append_drop _ _).symm, (List.take_append_drop _ _).symm, by rw [List.length_take]; omega, by rw [List.length_take]; omega, ?_, ?_⟩
  · intro x hx y hy
    obtain ⟨i, hi⟩ := List.mem_iff_getElem?.1 hx
    obtain ⟨j, hj⟩ := List.mem_iff_getElem?.1 hy
    rw [List.getElem?_drop] at hi
    rw [List.getElem?_take] at hj
    split at hj
    · rename_i hjl
      have hil := (List.getElem?_eq_some_iff.1 hi).1
      have hjr := (List.getElem?_eq_some_iff.1 hj).1
      obtain ⟨x0, hx0⟩ : ∃ x0, L[s - a]? = some x0 := ⟨L[s - a]'(by omega), List.getElem?_eq_getElem _⟩
      obtain ⟨y0, hy0⟩ : ∃ y0, R[n - 1 - s - m]? = some y0 := ⟨R[n - 1 - s - m]'(by omega), List.getElem?_eq_getElem _⟩
      have h := (hhi.resolve_left (by omega)).resolve_left (by omega) x0 y0 (by
        have := at_left (A := A) (L := L) (Z := R ++ B) hA (i := s - a) (by omega)
        rw [show a + (s - a) = s by omega, hx0] at this; exact this) (by
        have := at_right (A := A) (L := L) (R := R) (B := B) hA hm (j := n - 1 - s - m) (by omega)
        rw [show m + (n - 1 - s - m) = n - 1 - s by omega, hy0] at this; exact this)
      have h1 := sortedW_at hL hx0 hi (by omega)
      have h2 := sortedW_at hR hj hy0 (by omega)
      exact klt_trans_le (klt_le_trans h2 h) h1
    · cases hj
  · intro l hl r hr
    obtain ⟨i, hi⟩ := List.mem_iff_getElem?.1 hl
    obtain ⟨j, hj⟩ := List.mem_iff_getElem?.1 hr
    rw [List.getElem?_drop] at hj
    rw [List.getElem?_take] at hi
    split at hi
    · rename_i hil
      have hil2 := (List.getElem?_eq_some_iff.1 hi).1
      have hjr := (List.getElem?_eq_some_iff.1 hj).1
      obtain ⟨x1, hx1⟩ : ∃ x1, L[s - 1 - a]? = some x1 := ⟨L[s - 1 - a]'(by omega), List.getElem?_eq_getElem _⟩
      obtain ⟨y1, hy1⟩ : ∃ y1, R[n - s - m]? = some y1 := ⟨R[n - s - m]'(by omega), List.getElem?_eq_getElem _⟩
      have h := (hlo.resolve_left (by omega)).resolve_left (by omega) x1 y1 (by
        have := at_left (A := A) (L := L) (Z := R ++ B) hA (i := s - 1 - a) (by omega)
        rw [show a + (s - 1 - a) = s - 1 by omega, hx1] at this; exact this) (by
        have := at_right (A := A) (L := L) (R := R) (B := B) hA hm (j := n - s - m) (by omega)
        rw [show m + (n - s - m) = n - s by omega, hy1] at this; exact this)
      have h1 := sortedW_at hL hi hx1 (by omega)
      have h2 := sortedW_at hR hy1 hj (by omega)
      exact kle_trans (kle_trans h1 h) h2
    · cases hi
theorem isort_sorted {l : List Pr} (h : SortedW l) : isort l = l := (Mg.isort ⟨h, fun _ => rfl⟩).symm
theorem isort_sortedW (l : List Pr) : SortedW (isort l) := (isort_mg l).1
/-- Cut, exchanged and merged: what is merged. -/
theorem isort_cut {L1 X Y R2 : List Pr} (hL : SortedW (L1 ++ X)) (hR : SortedW (Y ++ R2)) (hXY : ∀ x ∈ X, ∀ y ∈ Y, klt y.1 x.1 = true) (hLR : ∀ l ∈ L1, ∀ r ∈ R2, klt r.1 l.1 = false) :
    isort (L1 ++ Y) ++ isort (X ++ R2) = isort ((L1 ++ X) ++ (Y ++ R2)) := (merge_cut hL hR hXY hLR (isort_mg _) (isort_mg _)).isort
/-- Sorted stretches are sorted together. -/
theorem isort_two (a b : List Pr) : isort (isort a ++ isort b) = isort (a ++ b) :=
  (Mg.trans (fun k => by rw [kf_app, (isort_mg a).2, (isort_mg b).2, kf_app]) (isort_mg (isort a ++ isort b))).isort
end Go.Proofs.Ytdfjnpnkfjcpcaa.Ts

/- S7 -/
namespace Go.Proofs.Ytdfjnpnkfjcpcaa.Ts
open Go.Proofs.Ytdfjnpnkfjcpcaa
set_option linter.unusedVariables false
set_option linter.unusedSimpArgs false
open Go.RowKit

/-- A list sorted in chunks of so many. -/
inductive Ch (k : Nat) : List Pr → Prop
  | last (l : List Pr) : l.length ≤ k → SortedW l → Ch k l
  | cons (l r : List Pr) : l.length = k → SortedW l → Ch k r → Ch k (l ++ r)
theorem Ch.sorted {k : Nat} {u : List Pr} (h : Ch k u) (hl : u.length ≤ k) : SortedW u := by
  cases h with
  | last _ _ h => exact h
  | cons l r h1 h2 h3 =>
    rw [List.length_append] at hl
    have : r = [] := List.eq_nil_of_length_eq_zero (by omega)
    subst this
    rw [List.append_nil]; exact h2
theorem Ch.take {k : Nat} {u : List Pr} (h : Ch k u) (hl : k < u.length) : ∃ l r, u = l ++ r ∧ l.length = k ∧ SortedW l ∧ Ch k r := by
  cases h with
  | last _ h _ => omega
  | cons l r h1 h2 h3 => exact ⟨l, r, rfl, h1, h2, h3⟩
theorem Ch.one {k : Nat} {u : List Pr} (h : Ch k u) (hl : k ≤ u.length) : ∃ l r, u = l ++ r ∧ l.length = k ∧ SortedW l ∧ Ch k r := by
  rcases Nat.eq_or_lt_of_le hl with e | e
  · exact ⟨u, [], by simp, e.symm, h.sorted (by omega), .last [] (by simp) (by simp [SortedW])⟩
  · exact h.take e
theorem Ch.two {k : Nat} {u : List Pr} (hk : 1 ≤ k) (h : Ch k u) (hl : 2 * k ≤ u.length) : ∃ l m r, u = l ++ (m ++ r) ∧ l.length = k ∧ m.length = k ∧ SortedW l ∧ SortedW m ∧ Ch k r := by
  obtain ⟨l, r, rfl, h1, h2, h3⟩ := h.one (by omega)
  rw [List.length_append] at hl
  obtain ⟨m, r', rfl, h4, h5, h6⟩ := h3.one (by omega)
  exact ⟨l, m, r', rfl, h1, h4, h2, h5, h6⟩
theorem isort_kf (l : List Pr) (k : ByteArray) : kf k (isort l) = kf k l := (isort_mg l).2 k
/-- A chunk that was sorted: nothing else has turned. -/
theorem kf_mid (T l E : List Pr) (k : ByteArray) : kf k (T ++ (isort l ++ E)) = kf k (T ++ (l ++ E)) := by
  rw [kf_app, kf_app, isort_kf, kf_app, kf_app]
theorem isort_of {xs ys : List Pr} (h : SortedW ys) (hk : ∀ k, kf k ys = kf k xs) : ys = isort xs := Mg.isort ⟨h, hk⟩
/-- What stands behind a beginning that is sorted in chunks may be any such. -/
def Front (k : Nat) (T : List Pr) : Prop := ∀ Z, Ch k Z → Ch k (T ++ Z)
theorem Front.nil (k : Nat) : Front k [] := fun Z h => by simpa using h
theorem Front.more {k : Nat} {T S : List Pr} (h : Front k T) (hl : S.length = k) (hs : SortedW S) : Front k (T ++ S) := fun Z hz => by
  rw [List.append_assoc]; exact h _ (.cons S Z hl hs hz)
end Go.Proofs.Ytdfjnpnkfjcpcaa.Ts

/- TSB -/

/- S2 -/
namespace Go.Proofs.Ytdfjnpnkfjcpcaa.Ts
open Go.Proofs.Ytdfjnpnkfjcpcaa
set_option linter.unusedVariables false
set_option linter.unusedSimpArgs false
open Go.RowKit

/-- Two pairs exchanged. -/
theorem PRow.swap2 {w0 w W : World} {g p q : Nat} {A M B : List Pr} {x y : Pr} (h : PRow w g (A ++ x :: (M ++ y :: B))) (hp : A.length = p) (hq : p + 1 + M.length = q) (hg : w0.grownBy w (some g)) (hW : (putPair (putPair w g p y) g q x).drew = W) :
    PRow W g (A ++ y :: (M ++ x :: B)) ∧ w0.grownBy W (some g) := by
  subst hW
  subst hp
  have h1 : PRow (putPair w g A.length y) g ((A ++ y :: M) ++ y :: B) := by
    have := h.put y
    simpa using this
  have hl : (A ++ y :: M).length = q := by rw [List.length_append, List.length_cons]; omega
  have h2 : PRow (putPair (putPair w g A.length y) g q x) g ((A ++ y :: M) ++ x :: B) := by
    rw [← hl]
    exact h1.put x
  refine ⟨?_, grown_drew (grown_seq (grown_seq hg (grown_put w g A.length y) (.inl rfl)) (grown_put _ g q x) (.inl rfl))⟩
  have := h2.drew
  simpa using this
theorem PRow.at1 {w : World} {g p : Nat} {xs : List Pr} {q : Pr} (h : PRow w g xs) (hq : xs[p]? = some q) : w.cell? ⟨g, p * 2, none⟩ = some (.string q.1) ∧ w.cell? ⟨g, p * 2 + 1, none⟩ = some (.string q.2) := by
  have := h.pairs p q hq
  simpa using this

set_option maxRecDepth 100000 in
set_option maxHeartbeats 6400000 in
theorem swapRange_any {w : World} {g c N a b n : Nat} {A X M Y B : List Pr} (hr : PRow w g (A ++ (X ++ (M ++ (Y ++ B))))) (hA : A.length = a) (hX : X.length = n) (hY : Y.length = n) (hb : a + n + M.length = b) (hN : (A ++ (X ++ (M ++ (Y ++ B)))).length = N) (hc : N ≤ c) (hNb : N ≤ 1073741824) :
    Calls Try.prog 117 #[.slice (some ⟨g, 0, none⟩) N c, .int .i64 a, .int .i64 b, .int .i64 n, .func (.func 83) #[] #[]] w fun e w' => e = .returned (.tuple #[]) ∧ Sorts g (A ++ (Y ++ (M ++ (X ++ B)))) w w' := by
  have hle : b + n ≤ N := by rw [← hN]; simp only [List.length_append]; omega
  have HR := Lib.hid hr
  have HA := Lib.hid hA
  have HX := Lib.hid hX
  have HY := Lib.hid hY
  have Hb := Lib.hid hb
  have hab : a + n ≤ b := by omega
  clear hr hA hX hY hN hb
  go_enter Try.func117, Try.ntmps117
  go_wp2_with fail
  go_loopw [10] (fun v wr => ∃ (i : Nat) (X1 X2 Y1 Y2 : List Pr), v = .int .i64 i ∧ i ≤ n ∧ Hid (X = X1 ++ X2) ∧ Hid (Y = Y1 ++ Y2) ∧ Hid (X1.length = i) ∧ Hid (Y1.length = i) ∧ Hid (PRow wr g (A ++ (Y1 ++ (X2 ++ (M ++ (X1 ++ (Y2 ++ B))))))) ∧ Hid (w.grownBy wr (some g)))
    (fun v _ => n - (intOf v).toNat)
  case atStart => exact ⟨0, [], X, [], Y, rfl, Nat.zero_le _, rfl, rfl, rfl, rfl, HR, grown_refl _ _⟩
  case round =>
    obtain ⟨i, X1, X2, Y1, Y2, rfl, hin, hX, hY, hX1, hY1, hrow, hgr⟩ := hrel
    have ei : IntKind.i64.wrap ((i : Int) + 1) = (i : Int) + 1 := IntWalk.i64_in _ (by omega)
    by_cases hlt : i < n
    · obtain ⟨x, X2', rfl⟩ : ∃ x X2', X2 = x :: X2' := by
        cases X2 with
        | nil => have := HX.out; rw [hX.out, List.append_nil, hX1.out] at this; omega
        | cons x l => exact ⟨x, l, rfl⟩
      obtain ⟨y, Y2', rfl⟩ : ∃ y Y2', Y2 = y :: Y2' := by
        cases Y2 with
        | nil => have := HY.out; rw [hY.out, List.append_nil, hY1.out] at this; omega
        | cons y l => exact ⟨y, l, rfl⟩
      have hxl : X2'.length + i + 1 = n := by have := HX.out; rw [hX.out, List.length_append, List.length_cons, hX1.out] at this; omega
      have hrow2 : PRow wr g ((A ++ Y1) ++ x :: ((X2' ++ (M ++ X1)) ++ y :: (Y2' ++ B))) := by simpa using hrow.out
      have hp : (A ++ Y1).length = a + i := by rw [List.length_append, HA.out, hY1.out]
      have hq : a + i + 1 + (X2' ++ (M ++ X1)).length = b + i := by simp only [List.length_append]; have := Hb.out; have := hX1.out; omega
      have x01 := hrow2.at1 (p := a + i) (q := x) (by rw [← hp]; simp)
      have y01 := hrow2.at1 (p := b + i) (q := y) (by rw [← hq, ← hp, Nat.add_assoc, List.getElem?_append_right (by omega), Nat.add_sub_cancel_left, Nat.add_comm 1, List.getElem?_cons_succ, List.getElem?_append_right (Nat.le_refl _), Nat.sub_self]; rfl)
      obtain ⟨x0, x1⟩ := x01
      obtain ⟨y0, y1⟩ := y01
      have zx0 := hrow2.fz ((a + i) * 2)
      have zx1 := hrow2.fz ((a + i) * 2 + 1)
      have zy0 := hrow2.fz ((b + i) * 2)
      have zy1 := hrow2.fz ((b + i) * 2 + 1)
      have HR2 := Lib.hid hrow2
      have HP := Lib.hid hp
      have HQ := Lib.hid hq
      have ea : IntKind.i64.wrap ((a : Int) + (i : Int)) = (a : Int) + (i : Int) := IntWalk.i64_in _ (by omega)
      have eb : IntKind.i64.wrap ((b : Int) + (i : Int)) = (b : Int) + (i : Int) := IntWalk.i64_in _ (by omega)
      have ta : ((a : Int) + (i : Int)).toNat = a + i := by omega
      have tb : ((b : Int) + (i : Int)).toNat = b + i := by omega
      have ha0 : (0 : Int) ≤ (a : Int) + (i : Int) := by omega
      have hb0 : (0 : Int) ≤ (b : Int) + (i : Int) := by omega
      have ha1 : (a : Int) + (i : Int) < (N : Int) := by omega
      have hb1 : (b : Int) + (i : Int) < (N : Int) := by omega
      have n0 : ¬ a = b := by omega
      have n1 : ¬ b = a := by omega
      have n2 : ¬ (a + i) * 2 = (b + i) * 2 := by omega
      have n3 : ¬ (a + i) * 2 + 1 = (b + i) * 2 := by omega
      have n4 : ¬ (a + i) * 2 = (b + i) * 2 + 1 := by omega
      have n5 : ¬ (b + i) * 2 + 1 = (a + i) * 2 := by omega
      have n6 : ¬ (b + i) * 2 = (a + i) * 2 + 1 := by omega
      have n7 : ¬ (b + i) * 2 = (a + i) * 2 := by omega
      clear hrow hrow2 hp hq hxl
      go_wp2_with fail
      go_region
      all_goals
        generalize hW : World.drew _ = W
        obtain ⟨h2, h3⟩ := HR2.out.swap2 (W := W) HP.out HQ.out hgr.out hW
        have H2 : Hid (PRow W g (A ++ ((Y1 ++ [y]) ++ (X2' ++ (M ++ ((X1 ++ [x]) ++ (Y2' ++ B))))))) := by show PRow _ _ _; simpa using h2
        have H3 := Lib.hid h3
        have H4 : Hid (X = (X1 ++ [x]) ++ X2') := by show _ = _; rw [hX.out]; simp
        have H5 : Hid (Y = (Y1 ++ [y]) ++ Y2') := by show _ = _; rw [hY.out]; simp
        have H6 : Hid ((X1 ++ [x]).length = i + 1) := by show _ = _; rw [List.length_append, hX1.out]; rfl
        have H7 : Hid ((Y1 ++ [y]).length = i + 1) := by show _ = _; rw [List.length_append, hY1.out]; rfl
        clear h2 h3 hW x0 x1 y0 y1 zx0 zx1 zy0 zy1 ea eb ta tb ha0 hb0 ha1 hb1 n0 n1 n2 n3 n4 n5 n6 n7
        go_wp2_with fail
        exact ⟨⟨i + 1, X1 ++ [x], X2', Y1 ++ [y], Y2', by simp, hlt, H4, H5, H6, H7, H2, H3⟩, by show n - ((i : Int) + 1).toNat < n - ((i : Int)).toNat; omega⟩
    · obtain rfl : i = n := by omega
      have hx2 : X2 = [] := by have := HX.out; rw [hX.out, List.length_append, hX1.out] at this; exact List.eq_nil_of_length_eq_zero (by omega)
      have hy2 : Y2 = [] := by have := HY.out; rw [hY.out, List.length_append, hY1.out] at this; exact List.eq_nil_of_length_eq_zero (by omega)
      have HF : Hid (PRow wr g (A ++ (Y ++ (M ++ (X ++ B))))) := by
        show PRow _ _ _
        have h := hrow.out
        rw [hX.out, hY.out]
        subst hx2
        subst hy2
        simpa using h
      clear hrow hx2 hy2
      go_wp2_with fail
      go_end0
      exact ⟨rfl, HF.out, hgr.out⟩

set_option maxRecDepth 100000 in
set_option maxHeartbeats 6400000 in
theorem rotate_any {w : World} {g c N a m b : Nat} {A X Y B : List Pr} (hr : PRow w g (A ++ (X ++ (Y ++ B)))) (hA : A.length = a) (hX : a + X.length = m) (hY : m + Y.length = b) (hX0 : X ≠ []) (hY0 : Y ≠ []) (hN : (A ++ (X ++ (Y ++ B))).length = N) (hc : N ≤ c) (hNb : N ≤ 1073741824) :
    Calls Try.prog 116 #[.slice (some ⟨g, 0, none⟩) N c, .int .i64 a, .int .i64 m, .int .i64 b, .func (.func 83) #[] #[]] w fun e w' => e = .returned (.tuple #[]) ∧ Sorts g (A ++ (Y ++ (X ++ B))) w w' := by
  have hx1 : 0 < X.length := List.length_pos_iff.2 hX0
  have hy1 : 0 < Y.length := List.length_pos_iff.2 hY0
  have hle : b ≤ N := by rw [← hN]; simp only [List.length_append]; omega
  have HR := Lib.hid hr
  have HA := Lib.hid hA
  have HN := Lib.hid hN
  obtain ⟨i0, hi0⟩ : ∃ i0, X.length = i0 := ⟨_, rfl⟩
  obtain ⟨j0, hj0⟩ : ∃ j0, Y.length = j0 := ⟨_, rfl⟩
  have HI := Lib.hid hi0
  have HJ := Lib.hid hj0
  rw [hi0] at hX hx1
  rw [hj0] at hY hy1
  have e1 : (m : Int) - (a : Int) = (i0 : Int) := by omega
  have e2 : (b : Int) - (m : Int) = (j0 : Int) := by omega
  have HM : Hid (a + i0 = m) := hX
  have Hb : Hid (m + j0 = b) := hY
  clear hr hA hN hX0 hY0 hi0 hj0 hX hY
  go_enter Try.func116, Try.ntmps116
  go_wp2_with fail
  clear e1 e2
  go_loopw [10, 11] (fun u v wr => ∃ (i j : Nat) (P U V Q : List Pr), u = .int .i64 i ∧ v = .int .i64 j ∧ 1 ≤ i ∧ 1 ≤ j ∧ i ≤ m ∧ m + j ≤ b ∧ Hid (U.length = i) ∧ Hid (V.length = j) ∧ Hid (a + P.length + i = m) ∧ Hid (P ++ (V ++ (U ++ Q)) = Y ++ X) ∧ Hid (PRow wr g (A ++ (P ++ (U ++ (V ++ (Q ++ B)))))) ∧ Hid (w.grownBy wr (some g)))
    (fun u v _ => (intOf u).toNat + (intOf v).toNat)
  case atStart => exact ⟨i0, j0, [], X, Y, [], rfl, rfl, hx1, hy1, by have := HM.out; omega, by have := Hb.out; omega, HI, HJ, HM, (by show _ = _; simp), HR, grown_refl _ _⟩
  case round =>
    obtain ⟨i, j, P, U, V, Q, rfl, rfl, hi1, hj1, him, hmj, hU, hV, hP, hT, hrow, hgr⟩ := hrel
    have hlen : (A ++ (P ++ (U ++ (V ++ (Q ++ B))))).length = N := by
      have h1 := congrArg List.length hT.out
      have h2 := HN.out
      simp only [List.length_append] at h1 h2 ⊢
      omega
    have HLn := Lib.hid hlen
    have e3 : (m : Int) - (i : Int) = ((m - i : Nat) : Int) := by omega
    clear hlen
    rcases Nat.lt_trichotomy i j with hij | hij | hij
    · -- i < j
      have hne : ((i : Int) == (j : Int)) = false := by rw [beq_eq_false_iff_ne]; omega
      have hgt : ¬ (j : Int) < (i : Int) := by omega
      obtain ⟨V1, V2, hV12, hV2⟩ : ∃ V1 V2, V = V1 ++ V2 ∧ V2.length = i := ⟨V.take (j - i), V.drop (j - i), (List.take_append_drop _ _).symm, by rw [List.length_drop, hV.out]; omega⟩
      have hV1 : V1.length = j - i := by have := hV.out; rw [hV12, List.length_append, hV2] at this; omega
      have e4 : (m : Int) + (j : Int) - (i : Int) = ((m + (j - i) : Nat) : Int) := by omega
      have HS : Hid (Calls Try.prog 117 #[.slice (some ⟨g, 0, none⟩) N c, .int .i64 ((m - i : Nat) : Int), .int .i64 ((m + (j - i) : Nat) : Int), .int .i64 i, .func (.func 83) #[] #[]] wr fun e w' => e = .returned (.tuple #[]) ∧ Sorts g ((A ++ P) ++ (V2 ++ (V1 ++ (U ++ (Q ++ B))))) wr w') := by
        show Calls _ _ _ _ _
        refine swapRange_any (X := U) (M := V1) (Y := V2) ?_ ?_ hU.out hV2 ?_ ?_ hc hNb
        · have h := hrow.out; rw [hV12] at h; simpa using h
        · rw [List.length_append, HA.out]; have := hP.out; omega
        · rw [hV1]; omega
        · have h := HLn.out; rw [hV12] at h; simpa using h
      have HT2 : Hid (P ++ (V1 ++ (V2 ++ (U ++ Q))) = Y ++ X) := by show _ = _; have h := hT.out; rw [hV12] at h; simpa using h
      have HV1 := Lib.hid hV1
      have HV2 := Lib.hid hV2
      have HIJ := Lib.hid hij
      have e5 : IntKind.i64.wrap ((j : Int) - (i : Int)) = ((j - i : Nat) : Int) := by rw [IntWalk.i64_in _ (by omega)]; omega
      clear hV12 hV1 hV2 hrow hij
      go_wp2_with fail
      go_fit HS.out
      rintro e w2 ⟨rfl, hs, hg⟩
      have H1 : Hid (PRow w2 g (A ++ (P ++ (V2 ++ (V1 ++ ((U ++ Q) ++ B)))))) := by show PRow _ _ _; simpa using hs
      have H2 : Hid (w.grownBy w2 (some g)) := grown_seq hgr.out hg (.inl rfl)
      have H3 : Hid (P ++ (V1 ++ (V2 ++ (U ++ Q))) = Y ++ X) := HT2
      have hj' : 1 ≤ j - i := by have := HIJ.out; omega
      have hmj' : m + (j - i) ≤ b := by omega
      clear hs hg HS hT HT2
      go_wp2_with fail
      exact ⟨⟨i, j - i, P, V2, V1, U ++ Q, rfl, rfl, hi1, hj', him, hmj', HV2, HV1, hP, H3, H1, H2⟩, by show ((i : Int)).toNat + (((j - i : Nat) : Int)).toNat < ((i : Int)).toNat + ((j : Int)).toNat; have := HIJ.out; omega⟩
    · subst hij
      have HS : Hid (Calls Try.prog 117 #[.slice (some ⟨g, 0, none⟩) N c, .int .i64 ((m - i : Nat) : Int), .int .i64 m, .int .i64 i, .func (.func 83) #[] #[]] wr fun e w' => e = .returned (.tuple #[]) ∧ Sorts g ((A ++ P) ++ (V ++ ([] ++ (U ++ (Q ++ B))))) wr w') := by
        show Calls _ _ _ _ _
        refine swapRange_any (X := U) (M := []) (Y := V) ?_ ?_ hU.out hV.out ?_ ?_ hc hNb
        · have h := hrow.out; simpa using h
        · rw [List.length_append, HA.out]; have := hP.out; omega
        · simp only [List.length_nil]; omega
        · have h := HLn.out; simpa using h
      clear hrow
      go_wp2_with fail
      go_fit HS.out
      rintro e w2 ⟨rfl, hs, hg⟩
      have H1 : Hid (PRow w2 g (A ++ (Y ++ (X ++ B)))) := by
        show PRow _ _ _
        have e9 : (A ++ P) ++ (V ++ ([] ++ (U ++ (Q ++ B)))) = A ++ (Y ++ (X ++ B)) := by
          have h := hT.out
          have : A ++ ((P ++ (V ++ (U ++ Q))) ++ B) = A ++ ((Y ++ X) ++ B) := by rw [h]
          simpa using this
        rw [← e9]; exact hs
      have H2 : Hid (w.grownBy w2 (some g)) := grown_seq hgr.out hg (.inl rfl)
      clear hs hg HS hT
      go_wp2_with fail
      go_end0
      exact ⟨rfl, H1.out, H2.out⟩
    · have hne : ((i : Int) == (j : Int)) = false := by rw [beq_eq_false_iff_ne]; omega
      have hgt : (j : Int) < (i : Int) := by omega
      obtain ⟨U1, U2, hU12, hU1⟩ : ∃ U1 U2, U = U1 ++ U2 ∧ U1.length = j := ⟨U.take j, U.drop j, (List.take_append_drop _ _).symm, by rw [List.length_take, hU.out]; omega⟩
      have hU2 : U2.length = i - j := by have := hU.out; rw [hU12, List.length_append, hU1] at this; omega
      have HS : Hid (Calls Try.prog 117 #[.slice (some ⟨g, 0, none⟩) N c, .int .i64 ((m - i : Nat) : Int), .int .i64 m, .int .i64 j, .func (.func 83) #[] #[]] wr fun e w' => e = .returned (.tuple #[]) ∧ Sorts g ((A ++ P) ++ (V ++ (U2 ++ (U1 ++ (Q ++ B))))) wr w') := by
        show Calls _ _ _ _ _
        refine swapRange_any (X := U1) (M := U2) (Y := V) ?_ ?_ hU1 hV.out ?_ ?_ hc hNb
        · have h := hrow.out; rw [hU12] at h; simpa using h
        · rw [List.length_append, HA.out]; have := hP.out; omega
        · rw [hU2]; omega
        · have h := HLn.out; rw [hU12] at h; simpa using h
      have HT2 : Hid ((P ++ V) ++ (U1 ++ (U2 ++ Q)) = Y ++ X) := by show _ = _; have h := hT.out; rw [hU12] at h; simpa using h
      have HP2 : Hid (a + (P ++ V).length + (i - j) = m) := by show _ = _; rw [List.length_append, hV.out]; have := hP.out; omega
      have HU1 := Lib.hid hU1
      have HU2 := Lib.hid hU2
      have HIJ := Lib.hid hij
      have e5 : IntKind.i64.wrap ((i : Int) - (j : Int)) = ((i - j : Nat) : Int) := by rw [IntWalk.i64_in _ (by omega)]; omega
      clear hU12 hU1 hU2 hrow hij
      go_wp2_with fail
      go_fit HS.out
      rintro e w2 ⟨rfl, hs, hg⟩
      have H1 : Hid (PRow w2 g (A ++ ((P ++ V) ++ (U2 ++ (U1 ++ (Q ++ B)))))) := by show PRow _ _ _; simpa using hs
      have H2 : Hid (w.grownBy w2 (some g)) := grown_seq hgr.out hg (.inl rfl)
      have hi' : 1 ≤ i - j := by have := HIJ.out; omega
      have him' : i - j ≤ m := by omega
      clear hs hg HS hT
      go_wp2_with fail
      exact ⟨⟨i - j, j, P ++ V, U2, U1, Q, rfl, rfl, hi', hj1, him', hmj, HU2, HU1, HP2, HT2, H1, H2⟩, by show (((i - j : Nat) : Int)).toNat + ((j : Int)).toNat < ((i : Int)).toNat + ((j : Int)).toNat; have := HIJ.out; omega⟩
end Go.Proofs.Ytdfjnpnkfjcpcaa.Ts

/- S3 -/
namespace Go.Proofs.Ytdfjnpnkfjcpcaa.Ts
open Go.Proofs.Ytdfjnpnkfjcpcaa
set_option linter.unusedVariables false
set_option linter.unusedSimpArgs false
open Go.RowKit

set_option maxRecDepth 100000 in
set_option maxHeartbeats 6400000 in
theorem insertion_seg {w : World} {g c N a n : Nat} {F xs E : List Pr} (hr : PRow w g (F ++ (xs ++ E))) (hgl : g < w.heap.size) (hF : F.length = a) (hn : a + xs.length = n) (hn1 : a + 1 ≤ n) (hN : n ≤ N) (hc : N ≤ c) (hnb : N ≤ 1073741824) :
    Calls Try.prog 112 #[.slice (some ⟨g, 0, none⟩) N c, .int .i64 a, .int .i64 n, .func (.func 83) #[] #[]] w fun e w' => e = .returned (.tuple #[]) ∧ Sorts g (F ++ (isort xs ++ E)) w w' := by
  have HR := Lib.hid hr
  have Hgl := Lib.hid hgl
  have Hn := Lib.hid hn
  have HF := Lib.hid hF
  have ea1 : IntKind.i64.wrap ((a : Int) + 1) = (a : Int) + 1 := IntWalk.i64_in _ (by omega)
  clear hr hgl hn hF
  go_enter Try.func112, Try.ntmps112
  go_wp2_with fail
  go_loopw [8] (fun v wr => ∃ (i : Nat), v = .int .i64 i ∧ a + 1 ≤ i ∧ i ≤ n ∧ Hid (PRow wr g (F ++ (isort (xs.take (i - a)) ++ (xs.drop (i - a) ++ E)))) ∧ Hid (w.grownBy wr (some g)))
    (fun v _ => n - (intOf v).toNat)
  case atStart =>
    refine ⟨a + 1, by simp, Nat.le_refl _, hn1, ?_, grown_refl _ _⟩
    have : isort (xs.take 1) ++ xs.drop 1 = xs := by
      cases hx : xs with
      | nil => have := Hn.out; rw [hx] at this; simp at this; omega
      | cons a l => rfl
    show PRow w g _
    rw [Nat.add_sub_cancel_left, ← List.append_assoc (isort _), this]; exact HR.out
  case round =>
    obtain ⟨i, rfl, hi1, hin, hrow, hgr⟩ := hrel
    have ei : IntKind.i64.wrap ((i : Int) + 1) = (i : Int) + 1 := IntWalk.i64_in _ (by omega)
    by_cases hlt : i < n
    · obtain ⟨p, hp⟩ : ∃ p, xs[i - a]? = some p := ⟨xs[i - a]'(by have := Hn.out; omega), List.getElem?_eq_getElem _⟩
      obtain ⟨S, hS⟩ : ∃ S, S = isort (xs.take (i - a)) := ⟨_, rfl⟩
      have hSl : S.length = i - a := by rw [hS, isort_length, List.length_take]; have := Hn.out; omega
      obtain ⟨D, hD⟩ : ∃ D, D = xs.drop (i - a + 1) := ⟨_, rfl⟩
      have hrow' : Hid (PRow wr g (F ++ (S ++ p :: (D ++ E)))) := by
        have h1 : xs.drop (i - a) = p :: D := by rw [hD]; have := (List.getElem?_eq_some_iff.1 hp); rw [← this.2]; exact List.drop_eq_getElem_cons this.1
        have := hrow.out
        rw [h1, ← hS] at this; exact this
      have Hp := Lib.hid hp
      have HS := Lib.hid hS
      have HSl := Lib.hid hSl
      have HD := Lib.hid hD
      clear hp hS hSl hD hrow
      go_wp2_with fail
      go_loopw [9] (fun v wr2 => ∃ (j : Nat) (A C : List Pr), v = .int .i64 j ∧ j ≤ i ∧ a ≤ j ∧ Hid (S = A ++ C) ∧ Hid (a + A.length = j) ∧ Hid (∀ q ∈ C, klt p.1 q.1 = true) ∧ Hid (PRow wr2 g (F ++ (A ++ p :: (C ++ (D ++ E))))) ∧ Hid (w.grownBy wr2 (some g)))
        (fun v _ => (intOf v).toNat)
      case atStart => exact ⟨i, S, [], rfl, Nat.le_refl _, by omega, (by show _ = _; simp), (by show _ = _; have := HSl.out; omega), (fun (q : Pr) (hq : q ∈ ([] : List Pr)) => absurd hq (by simp)), hrow', hgr⟩
      case round =>
        obtain ⟨j, A, C, rfl, hji, haj, hSA, hAl, hC, hrw, hg2⟩ := hrel
        clear hrow' hgr
        have ej : IntKind.i64.wrap ((j : Int) - 1) = (j : Int) - 1 := IntWalk.i64_in _ (by omega)
        have hfin : Hid ((∀ q, A.getLast? = some q → klt p.1 q.1 = false) → isort (xs.take (i + 1 - a)) ++ (xs.drop (i + 1 - a) ++ E) = A ++ p :: (C ++ (D ++ E))) := fun hA => by
          have ei2 : i + 1 - a = i - a + 1 := by omega
          rw [ei2, isort_step xs Hp.out, ← HS.out, hSA.out, ins_of hC.out hA, ← HD.out]; simp
        by_cases hj : j = a
        · subst hj
          obtain rfl : A = [] := List.eq_nil_of_length_eq_zero (by have := hAl.out; omega)
          go_wp2_with fail
          go_quiet (fail)
          go_wp2_with fail
          · refine ⟨⟨i + 1, by simp, by omega, by omega, ?_, grown_of_below hg2.out (below_drewN (Below.refl _ _) _)⟩, by show n - ((i : Int) + 1).toNat < n - ((i : Int)).toNat; omega⟩
            show PRow _ g _
            rw [hfin.out (fun q hq => by simp at hq)]
            exact hrw.out.drewN _
        · obtain ⟨A', q, rfl⟩ : ∃ A' q, A = A' ++ [q] := ⟨A.dropLast, A.getLast (fun e => hj (by have := hAl.out; rw [e] at this; simp at this; omega)), (List.dropLast_concat_getLast _).symm⟩
          obtain ⟨k, rfl⟩ : ∃ k, j = k + 1 := ⟨j - 1, by omega⟩
          have hAl' : (F ++ A').length = k := by have := hAl.out; simp at this; rw [List.length_append, HF.out]; omega
          have hrw2 : PRow wr g ((F ++ A') ++ q :: p :: (C ++ (D ++ E))) := by simpa using hrw.out
          have hrw3 : PRow wr g ((F ++ (A' ++ [q])) ++ p :: (C ++ (D ++ E))) := by simpa using hrw.out
          have hAl2 : (F ++ (A' ++ [q])).length = k + 1 := by rw [← List.append_assoc, List.length_append, hAl']; rfl
          have q0 := hrw2.pairs (F ++ A').length q (by simp)
          have p0 := hrw3.pairs (F ++ (A' ++ [q])).length p (by rw [List.getElem?_append_right (Nat.le_refl _), Nat.sub_self]; rfl)
          rw [hAl'] at q0
          rw [hAl2] at p0
          simp only [Nat.zero_add] at q0 p0
          obtain ⟨q0, q1⟩ := q0
          obtain ⟨p0, p1⟩ := p0
          have HA' := Lib.hid hAl'
          have Hrw := Lib.hid hrw2
          have Hj := Lib.hid hj
          have hak : (a : Int) < (k : Int) + 1 := by omega
          have HA2 := Lib.hid hAl2
          have hkn : k < N := by omega
          have hkn1 : k + 1 < N := by omega
          have ek : IntKind.i64.wrap (k : Int) = (k : Int) := IntWalk.i64_in _ (by omega)
          have ek1 : ((k + 1 : Nat) : Int) - 1 = (k : Int) := by omega
          have hI1 : (0 : Int) ≤ (k : Int) + 1 := by omega
          have hI2 : (k : Int) + 1 < (N : Int) := by omega
          have hI3 : ((k : Int) + 1).toNat = k + 1 := by omega
          clear hrw hrw2 hrw3 hAl' hAl2 hj ej
          go_wp2_with fail
          go_region_held3 (fun V => V.cell? ⟨g, k * 2, none⟩ = some (.string q.1) ∧ V.cell? ⟨g, k * 2 + 1, none⟩ = some (.string q.2) ∧ V.cell? ⟨g, (k + 1) * 2, none⟩ = some (.string p.1) ∧ V.cell? ⟨g, (k + 1) * 2 + 1, none⟩ = some (.string p.2)) (go_keep)
            (first
              | (go_at_call 83; (with_reducible refine (cmp_any wr.drew p q).mono ?_); rintro e w2 ⟨rfl, hb2⟩; have hbd : Below wr.heap.size wr w2 := (below_drew1 wr).trans hb2; have a0 := cell_later hbd q0; have a1 := cell_later hbd q1; have b0 := cell_later hbd p0; have b1 := cell_later hbd p1; have HB2 := Lib.hid hbd; clear hbd hb2))
          have Hrw2 := Lib.hid (Hrw.out.later (World.block_lt_of_cell? wr _ q0) HB2.out)
          have hg3 : Hid (w.grownBy w2 (some g)) := grown_of_below hg2.out HB2.out
          clear q0 q1 p0 p1 Hrw hg2 HB2
          cases hk : klt p.1 q.1 with
          | false =>
            have hcmp : ¬ Lib.compareBytes p.1.data.toList q.1.data.toList < 0 := fun e => by rw [compare_klt, hk] at e; cases e
            have hcmp2 : decide (Lib.compareBytes p.1.data.toList q.1.data.toList < 0) = false := by simpa using hcmp
            go_wp2_with fail
            refine ⟨⟨i + 1, by simp, by omega, by omega, ?_, hg3⟩, by show n - ((i : Int) + 1).toNat < n - ((i : Int)).toNat; omega⟩
            show PRow _ g _
            rw [hfin.out (fun r hr => by simp at hr; rw [← hr]; exact hk)]
            simpa using Hrw2.out
          | true =>
            have hcmp : Lib.compareBytes p.1.data.toList q.1.data.toList < 0 := (compare_klt _ _).2 hk
            have hcmp2 : decide (Lib.compareBytes p.1.data.toList q.1.data.toList < 0) = true := by simpa using hcmp
            have z0 := Hrw2.out.fz (k * 2)
            have z1 := Hrw2.out.fz (k * 2 + 1)
            have z2 := Hrw2.out.fz ((k + 1) * 2)
            have z3 := Hrw2.out.fz ((k + 1) * 2 + 1)
            go_wp2_with fail
            go_region_with (fail)
            all_goals
              go_wp2_with fail
              have h1 : PRow (putPair w2 g (k + 1) q) g ((F ++ (A' ++ [q])) ++ q :: (C ++ (D ++ E))) := by
                rw [← HA2.out]
                exact PRow.put (q := p) (by simpa using Hrw2.out) q
              have h2 : PRow (putPair (putPair w2 g (k + 1) q) g k p) g ((F ++ A') ++ p :: (q :: (C ++ (D ++ E)))) := by
                rw [← HA'.out]
                rw [← HA'.out] at h1
                exact PRow.put (q := q) (by simpa using h1) p
              refine ⟨⟨k, A', q :: C, rfl, by omega, by omega, ?_, (by show _ = _; have := HA'.out; rw [List.length_append, HF.out] at this; exact this), ?_, (by show PRow _ _ _; have h := h2.drew; rw [List.append_assoc] at h; exact h), grown_drew (grown_seq (grown_seq hg3.out (grown_put w2 g (k + 1) q) (.inl rfl)) (grown_put _ g k p) (.inl rfl))⟩, by show k < k + 1; omega⟩
              · show S = _
                rw [hSA.out]; simp
              · show ∀ r ∈ q :: C, _
                intro r hr
                rcases List.mem_cons.1 hr with rfl | hr
                · exact hk
                · exact hC.out r hr
    · obtain rfl : i = n := by omega
      have hr : Hid (PRow wr g (F ++ (isort xs ++ E))) := by
        show PRow _ _ _
        have := hrow.out
        have e9 : i - a = xs.length := by have := Hn.out; omega
        rw [e9, List.take_length, List.drop_length, List.nil_append] at this
        exact this
      clear hrow
      go_wp2_with fail
      go_end0
      exact ⟨rfl, hr.out, hgr.out⟩

set_option maxHeartbeats 800000 in
theorem insertion_nil {w : World} {g c N a : Nat} (ha : a ≤ 1073741824) : Calls Try.prog 112 #[.slice (some ⟨g, 0, none⟩) N c, .int .i64 a, .int .i64 a, .func (.func 83) #[] #[]] w fun e w' => e = .returned (.tuple #[]) ∧ w = w' := by
  have ea1 : IntKind.i64.wrap ((a : Int) + 1) = (a : Int) + 1 := IntWalk.i64_in _ (by omega)
  have hl : ¬ (a : Int) + 1 < (a : Int) := by omega
  go_enter Try.func112, Try.ntmps112
  go_wp2_with fail
  refine wp_loop_rounds 1 ?_
  rw [rounds_succ]
  go_wp2_with fail
  go_end0
  exact ⟨rfl, rfl⟩
end Go.Proofs.Ytdfjnpnkfjcpcaa.Ts

/- S4 -/
namespace Go.Proofs.Ytdfjnpnkfjcpcaa.Ts
open Go.Proofs.Ytdfjnpnkfjcpcaa
set_option linter.unusedVariables false
set_option linter.unusedSimpArgs false
open Go.RowKit

/-- Two pairs exchanged, the later place first. -/
theorem PRow.swap2r {w0 w W : World} {g p q : Nat} {A B : List Pr} {x y : Pr} (h : PRow w g (A ++ x :: y :: B)) (hp : A.length = p) (hq : p + 1 = q) (hg : w0.grownBy w (some g)) (hW : (putPair (putPair w g q x) g p y).drew = W) :
    PRow W g (A ++ y :: x :: B) ∧ w0.grownBy W (some g) := by
  subst hW
  subst hp
  subst hq
  have h1 : PRow (putPair w g (A.length + 1) x) g ((A ++ [x]) ++ x :: B) := by
    have h0 : PRow w g ((A ++ [x]) ++ y :: B) := by simpa using h
    have := h0.put x
    rw [List.length_append] at this
    exact this
  have h2 : PRow (putPair (putPair w g (A.length + 1) x) g A.length y) g (A ++ y :: (x :: B)) := PRow.put (q := x) (by simpa using h1) y
  exact ⟨h2.drew, grown_drew (grown_seq (grown_seq hg (grown_put w g (A.length + 1) x) (.inl rfl)) (grown_put _ g A.length y) (.inl rfl))⟩
theorem half_in {i j : Nat} (h : i < j) : i ≤ (i + j) / 2 ∧ (i + j) / 2 < j := by omega
theorem half_int (i j : Nat) : ((i : Int) + (j : Int)) / 2 = (((i + j) / 2 : Nat) : Int) := by omega
def SymP (g : Nat) (ys : List Pr) (w : World) (e : Ending) (w' : World) : Prop := e = .returned (.tuple #[]) ∧ Sorts g ys w w'

set_option maxRecDepth 100000 in
set_option maxHeartbeats 12800000 in
theorem sym_left {w : World} {g c N a m b : Nat} {A R B : List Pr} {x : Pr} (hr : PRow w g (A ++ ([x] ++ (R ++ B)))) (hgl : g < w.heap.size) (hA : A.length = a) (hm : a + 1 = m) (hb : m + R.length = b) (hN : (A ++ ([x] ++ (R ++ B))).length = N) (hc : N ≤ c) (hNb : N ≤ 1073741824) (hR : SortedW R) :
    Calls Try.prog 113 #[.slice (some ⟨g, 0, none⟩) N c, .int .i64 a, .int .i64 m, .int .i64 b, .func (.func 83) #[] #[]] w (SymP g (A ++ (isort ([x] ++ R) ++ B)) w) := by
  have hbN : b ≤ N := by rw [← hN]; simp only [List.length_append, List.length_cons, List.length_nil]; omega
  have HA := Lib.hid hA
  have HN := Lib.hid hN
  have HRs := Lib.hid hR
  have Hb := Lib.hid hb
  have Hm := Lib.hid hm
  have HR := Lib.hid hr
  have Hgl := Lib.hid hgl
  have e1 : (m : Int) - (a : Int) = 1 := by omega
  have hmb : m ≤ b := by omega
  have hx : (A ++ ([x] ++ (R ++ B)))[a]? = some x := by have := at_left (A := A) (L := [x]) (Z := R ++ B) hA (i := 0) (by simp); simpa using this
  have HX := Lib.hid hx
  clear hA hN hR hb hm hr hgl hx
  go_enter Try.func113, Try.ntmps113
  go_wp2_with fail
  clear e1
  go_loopw [10, 11] (fun u v wr => ∃ (i j : Nat), u = .int .i64 i ∧ v = .int .i64 j ∧ m ≤ i ∧ i ≤ j ∧ j ≤ b ∧ Hid (i = m ∨ ∀ y, (A ++ ([x] ++ (R ++ B)))[i - 1]? = some y → klt y.1 x.1 = true) ∧ Hid (j = b ∨ ∀ y, (A ++ ([x] ++ (R ++ B)))[j]? = some y → klt y.1 x.1 = false) ∧ Hid (PRow wr g (A ++ ([x] ++ (R ++ B)))) ∧ Hid (w.grownBy wr (some g)))
    (fun u v _ => (intOf v).toNat - (intOf u).toNat)
  case atStart => exact ⟨m, b, rfl, rfl, Nat.le_refl _, hmb, Nat.le_refl _, .inl rfl, .inl rfl, HR, grown_refl _ _⟩
  case round =>
    obtain ⟨i, j, rfl, rfl, hmi, hij, hjb, hlo, hhi, hrow, hgr⟩ := hrel
    by_cases hlt : i < j
    · obtain ⟨hh1, hh2⟩ := half_in hlt
      have hH := half_int i j
      generalize (i + j) / 2 = H at *
      obtain ⟨y, hy⟩ : ∃ y, (A ++ ([x] ++ (R ++ B)))[H]? = some y := ⟨(A ++ ([x] ++ (R ++ B)))[H]'(by rw [HN.out]; omega), List.getElem?_eq_getElem _⟩
      obtain ⟨y0, y1⟩ := hrow.out.at1 hy
      obtain ⟨x0, x1⟩ := hrow.out.at1 HX.out
      have hI : (i : Int) < (j : Int) := by omega
      have hH0 : (0 : Int) ≤ (H : Int) := by omega
      have hH1 : (H : Int) < (N : Int) := by omega
      have ha0 : (0 : Int) ≤ (a : Int) := by omega
      have ha1 : (a : Int) < (N : Int) := by have := Hm.out; omega
      have eH : IntKind.i64.wrap ((H : Int) + 1) = (H : Int) + 1 := IntWalk.i64_in _ (by omega)
      have HY := Lib.hid hy
      clear hy
      go_wp2_with fail
      go_region_held3 (fun V => V.cell? ⟨g, H * 2, none⟩ = some (.string y.1) ∧ V.cell? ⟨g, H * 2 + 1, none⟩ = some (.string y.2) ∧ V.cell? ⟨g, a * 2, none⟩ = some (.string x.1) ∧ V.cell? ⟨g, a * 2 + 1, none⟩ = some (.string x.2)) (go_keep)
        (first
          | (go_at_call 83; (with_reducible refine (cmp_any wr.drew y x).mono ?_); rintro e w2 ⟨rfl, hb2⟩; have hbd : Below wr.heap.size wr w2 := (below_drew1 wr).trans hb2; have z0 := cell_later hbd y0; have z1 := cell_later hbd y1; have z2 := cell_later hbd x0; have z3 := cell_later hbd x1; have HB2 := Lib.hid hbd; clear hbd hb2))
      have Hrw := Lib.hid (hrow.out.later (World.block_lt_of_cell? wr _ y0) HB2.out)
      have Hgr := Lib.hid (grown_of_below hgr.out HB2.out)
      clear y0 y1 x0 x1 z0 z1 z2 z3 hrow hgr HB2
      cases hk : klt y.1 x.1 with
      | true =>
        have hcmp : Lib.compareBytes y.1.data.toList x.1.data.toList < 0 := (compare_klt _ _).2 hk
        have hcmp2 : decide (Lib.compareBytes y.1.data.toList x.1.data.toList < 0) = true := by simpa using hcmp
        have HL : Hid (H + 1 = m ∨ ∀ z, (A ++ ([x] ++ (R ++ B)))[H + 1 - 1]? = some z → klt z.1 x.1 = true) := .inr (fun z hz => by rw [Nat.add_sub_cancel, HY.out] at hz; have e : y = z := (by simpa using hz); rw [← e]; exact hk)
        clear hk
        go_wp2_with fail
        exact ⟨⟨H + 1, j, by simp, rfl, by omega, by omega, hjb, HL, hhi, Hrw, Hgr⟩, by show ((j : Int)).toNat - ((H : Int) + 1).toNat < ((j : Int)).toNat - ((i : Int)).toNat; omega⟩
      | false =>
        have hcmp : ¬ Lib.compareBytes y.1.data.toList x.1.data.toList < 0 := fun e => by rw [compare_klt, hk] at e; cases e
        have hcmp2 : decide (Lib.compareBytes y.1.data.toList x.1.data.toList < 0) = false := by simpa using hcmp
        have HL : Hid (H = b ∨ ∀ z, (A ++ ([x] ++ (R ++ B)))[H]? = some z → klt z.1 x.1 = false) := .inr (fun z hz => by rw [HY.out] at hz; have e : y = z := (by simpa using hz); rw [← e]; exact hk)
        clear hk
        go_wp2_with fail
        exact ⟨⟨i, H, rfl, rfl, hmi, hh1, by omega, hlo, HL, Hrw, Hgr⟩, by show ((H : Int)).toNat - ((i : Int)).toNat < ((j : Int)).toNat - ((i : Int)).toNat; omega⟩
    · obtain rfl : j = i := by omega
      -- R's part that is less goes ahead
      obtain ⟨Y, R2, hRY, hYl, hY, hR2⟩ : ∃ Y R2, R = Y ++ R2 ∧ m + Y.length = j ∧ (∀ y ∈ Y, klt y.1 x.1 = true) ∧ ∀ r ∈ R2, klt r.1 x.1 = false := by
        have hb' := Hb.out
        have hm' := Hm.out
        refine ⟨R.take (j - m), R.drop (j - m), (List.take_append_drop _ _).symm, by rw [List.length_take]; omega, fun y hy => ?_, fun r hr => ?_⟩
        · obtain ⟨k, hk⟩ := List.mem_iff_getElem?.1 hy
          rw [List.getElem?_take] at hk
          split at hk
          · rename_i hkl
            have hk2 := (List.getElem?_eq_some_iff.1 hk).1
            obtain ⟨z, hz⟩ : ∃ z, R[j - 1 - m]? = some z := ⟨R[j - 1 - m]'(by omega), List.getElem?_eq_getElem _⟩
            have h1 := hlo.out.resolve_left (by omega) z (by
              have := at_right (A := A) (L := [x]) (R := R) (B := B) HA.out (m := m) (by simpa using hm') (j := j - 1 - m) (by omega)
              rw [show m + (j - 1 - m) = j - 1 by omega, hz] at this; exact this)
            exact klt_le_trans (sortedW_at HRs.out hk hz (by omega)) h1
          · cases hk
        · obtain ⟨k, hk⟩ := List.mem_iff_getElem?.1 hr
          rw [List.getElem?_drop] at hk
          have hk2 := (List.getElem?_eq_some_iff.1 hk).1
          obtain ⟨z, hz⟩ : ∃ z, R[j - m]? = some z := ⟨R[j - m]'(by omega), List.getElem?_eq_getElem _⟩
          have h1 := hhi.out.resolve_left (by omega) z (by
            have := at_right (A := A) (L := [x]) (R := R) (B := B) HA.out (m := m) (by simpa using hm') (j := j - m) (by omega)
            rw [show m + (j - m) = j by omega, hz] at this; exact this)
          exact kle_trans h1 (sortedW_at HRs.out hz hk (by omega))
      have HF : Hid (isort ([x] ++ R) = Y ++ ([x] ++ R2)) := by
        show _ = _
        have hs := HRs.out
        rw [hRY] at hs ⊢
        obtain ⟨s1, s2, _⟩ := sortedW_app.1 hs
        have h := isort_cut (L1 := []) (X := [x]) (Y := Y) (R2 := R2) (by simp [SortedW]) hs (fun x' hx' y hy => by have e : x' = x := (by simpa using hx'); rw [e]; exact hY y hy) (fun a ha => by cases ha)
        rw [List.nil_append, List.nil_append, isort_sorted s1, isort_sorted (l := [x] ++ R2) (List.pairwise_cons.2 ⟨hR2, s2⟩)] at h
        exact h.symm
      have HRY := Lib.hid hRY
      have HYl := Lib.hid hYl
      have ej : (j : Int) - 1 = ((j - 1 : Nat) : Int) := by have := Hm.out; omega
      clear hlo hhi hRY hYl hY hR2 hlt HX
      go_wp2_with fail
      go_loopw [13] (fun v wr2 => ∃ (k : Nat) (Y1 Y2 : List Pr), v = .int .i64 k ∧ a ≤ k ∧ k ≤ j - 1 ∧ Hid (Y = Y1 ++ Y2) ∧ Hid (a + Y1.length = k) ∧ Hid (PRow wr2 g ((A ++ Y1) ++ x :: (Y2 ++ (R2 ++ B)))) ∧ Hid (w.grownBy wr2 (some g)))
        (fun v _ => (j - 1) - (intOf v).toNat)
      case atStart => exact ⟨a, [], Y, rfl, Nat.le_refl _, by have := Hm.out; omega, rfl, rfl, (by show PRow _ _ _; have h := hrow.out; rw [HRY.out] at h; simpa using h), hgr⟩
      case round =>
        obtain ⟨k, Y1, Y2, rfl, hak, hkj, hYY, hY1, hrw, hg2⟩ := hrel
        have ek : IntKind.i64.wrap ((k : Int) + 1) = (k : Int) + 1 := IntWalk.i64_in _ (by omega)
        have hYn : Y1.length + Y2.length + m = j := by have h := HYl.out; rw [hYY.out, List.length_append] at h; omega
        by_cases hkt : k < j - 1
        · obtain ⟨y, Y3, rfl⟩ : ∃ y Y3, Y2 = y :: Y3 := by
            cases Y2 with
            | nil => have := hY1.out; have := Hm.out; simp at hYn; omega
            | cons y l => exact ⟨y, l, rfl⟩
          have hAl : (A ++ Y1).length = k := by rw [List.length_append, HA.out]; exact hY1.out
          have x01 := hrw.out.at1 (p := k) (q := x) (by rw [← hAl]; simp)
          have y01 := hrw.out.at1 (p := k + 1) (q := y) (by rw [← hAl, List.getElem?_append_right (by omega), Nat.add_sub_cancel_left]; rfl)
          obtain ⟨x0, x1⟩ := x01
          obtain ⟨y0, y1⟩ := y01
          have zx0 := hrw.out.fz (k * 2)
          have zx1 := hrw.out.fz (k * 2 + 1)
          have zy0 := hrw.out.fz ((k + 1) * 2)
          have zy1 := hrw.out.fz ((k + 1) * 2 + 1)
          have hI0 : (0 : Int) ≤ (k : Int) := by omega
          have hI1 : (k : Int) < ((j - 1 : Nat) : Int) := by omega
          have hI2 : (k : Int) + 1 < (N : Int) := by omega
          have hI3 : ((k : Int) + 1).toNat = k + 1 := by omega
          have hI4 : (k : Int) < (N : Int) := by omega
          have HAl := Lib.hid hAl
          have Hrw : Hid (PRow wr g ((A ++ Y1) ++ x :: ([] ++ y :: (Y3 ++ (R2 ++ B))))) := hrw
          have hkj2 := Lib.hid hkj
          clear hAl hrw hYn
          go_wp2_with fail
          go_region
          all_goals
            generalize hW : World.drew _ = W
            obtain ⟨h2, h3⟩ := Hrw.out.swap2 (W := W) (q := k + 1) HAl.out rfl hg2.out hW
            have H2 : Hid (PRow W g ((A ++ (Y1 ++ [y])) ++ x :: (Y3 ++ (R2 ++ B)))) := by show PRow _ _ _; simpa using h2
            have H3 := Lib.hid h3
            have H4 : Hid (Y = (Y1 ++ [y]) ++ Y3) := by show _ = _; rw [hYY.out]; simp
            have H5 : Hid (a + (Y1 ++ [y]).length = k + 1) := by show _ = _; rw [List.length_append]; have := hY1.out; simp; omega
            clear h2 h3 hW x0 x1 y0 y1 zx0 zx1 zy0 zy1
            go_wp2_with fail
            exact ⟨⟨k + 1, Y1 ++ [y], Y3, by simp, by omega, by omega, H4, H5, H2, H3⟩, by show (j - 1) - ((k : Int) + 1).toNat < (j - 1) - ((k : Int)).toNat; omega⟩
        · obtain rfl : k = j - 1 := by omega
          obtain rfl : Y2 = [] := List.eq_nil_of_length_eq_zero (by have := hY1.out; have := Hm.out; omega)
          have H1 : Hid (PRow wr g (A ++ (isort ([x] ++ R) ++ B))) := by
            show PRow _ _ _
            have h := hrw.out
            have h2 := hYY.out
            rw [List.append_nil] at h2
            subst h2
            rw [HF.out]; simpa using h
          have hI1 : ¬ ((j - 1 : Nat) : Int) < ((j - 1 : Nat) : Int) := by omega
          clear hrw hYY hYn
          go_wp2_with fail
          (try simp only [Exit.inBlock, Exit.then])
          refine bodyPost_ret (results_none rfl _ _ _) rfl ?_
          exact ⟨rfl, H1.out, hg2.out⟩

end Go.Proofs.Ytdfjnpnkfjcpcaa.Ts

/- S5 -/
namespace Go.Proofs.Ytdfjnpnkfjcpcaa.Ts
open Go.Proofs.Ytdfjnpnkfjcpcaa
set_option linter.unusedVariables false
set_option linter.unusedSimpArgs false
open Go.RowKit

set_option maxRecDepth 100000 in
set_option maxHeartbeats 12800000 in
theorem sym_right {w : World} {g c N a m b : Nat} {A L B : List Pr} {y : Pr} (hr : PRow w g (A ++ (L ++ ([y] ++ B)))) (hgl : g < w.heap.size) (hA : A.length = a) (hm : a + L.length = m) (hb : m + 1 = b) (hL2 : 2 ≤ L.length) (hN : (A ++ (L ++ ([y] ++ B))).length = N) (hc : N ≤ c) (hNb : N ≤ 1073741824) (hL : SortedW L) :
    Calls Try.prog 113 #[.slice (some ⟨g, 0, none⟩) N c, .int .i64 a, .int .i64 m, .int .i64 b, .func (.func 83) #[] #[]] w (SymP g (A ++ (isort (L ++ [y]) ++ B)) w) := by
  have hbN : b ≤ N := by rw [← hN]; simp only [List.length_append, List.length_cons, List.length_nil]; omega
  have HA := Lib.hid hA
  have HN := Lib.hid hN
  have HLs := Lib.hid hL
  have Hb := Lib.hid hb
  have Hm := Lib.hid hm
  have HR := Lib.hid hr
  have Hgl := Lib.hid hgl
  have e1 : ((m : Int) - (a : Int) == 1) = false := by rw [beq_eq_false_iff_ne]; omega
  have e2 : (b : Int) - (m : Int) = 1 := by omega
  have ham : a + 2 ≤ m := by omega
  have hy : (A ++ (L ++ ([y] ++ B)))[m]? = some y := by have := at_right (A := A) (L := L) (R := [y]) (B := B) hA hm (j := 0) (by simp); simpa using this
  have HY := Lib.hid hy
  clear hA hN hL hb hm hr hgl hy hL2
  go_enter Try.func113, Try.ntmps113
  go_wp2_with fail
  clear e1 e2
  go_loopw [14, 15] (fun u v wr => ∃ (i j : Nat), u = .int .i64 i ∧ v = .int .i64 j ∧ a ≤ i ∧ i ≤ j ∧ j ≤ m ∧ Hid (i = a ∨ ∀ x, (A ++ (L ++ ([y] ++ B)))[i - 1]? = some x → klt y.1 x.1 = false) ∧ Hid (j = m ∨ ∀ x, (A ++ (L ++ ([y] ++ B)))[j]? = some x → klt y.1 x.1 = true) ∧ Hid (PRow wr g (A ++ (L ++ ([y] ++ B)))) ∧ Hid (w.grownBy wr (some g)))
    (fun u v _ => (intOf v).toNat - (intOf u).toNat)
  case atStart => exact ⟨a, m, rfl, rfl, Nat.le_refl _, by omega, Nat.le_refl _, .inl rfl, .inl rfl, HR, grown_refl _ _⟩
  case round =>
    obtain ⟨i, j, rfl, rfl, hai, hij, hjm, hlo, hhi, hrow, hgr⟩ := hrel
    have hmb : m < N := by have := Hb.out; omega
    by_cases hlt : i < j
    · obtain ⟨hh1, hh2⟩ := half_in hlt
      have hH := half_int i j
      generalize (i + j) / 2 = H at *
      obtain ⟨x, hx⟩ : ∃ x, (A ++ (L ++ ([y] ++ B)))[H]? = some x := ⟨(A ++ (L ++ ([y] ++ B)))[H]'(by rw [HN.out]; omega), List.getElem?_eq_getElem _⟩
      obtain ⟨x0, x1⟩ := hrow.out.at1 hx
      obtain ⟨y0, y1⟩ := hrow.out.at1 HY.out
      have hI : (i : Int) < (j : Int) := by omega
      have hH0 : (0 : Int) ≤ (H : Int) := by omega
      have hH1 : (H : Int) < (N : Int) := by omega
      have ha0 : (0 : Int) ≤ (m : Int) := by omega
      have ha1 : (m : Int) < (N : Int) := by omega
      have eH : IntKind.i64.wrap ((H : Int) + 1) = (H : Int) + 1 := IntWalk.i64_in _ (by omega)
      have HX := Lib.hid hx
      clear hx
      go_wp2_with fail
      go_region_held3 (fun V => V.cell? ⟨g, m * 2, none⟩ = some (.string y.1) ∧ V.cell? ⟨g, m * 2 + 1, none⟩ = some (.string y.2) ∧ V.cell? ⟨g, H * 2, none⟩ = some (.string x.1) ∧ V.cell? ⟨g, H * 2 + 1, none⟩ = some (.string x.2)) (go_keep)
        (first
          | (go_at_call 83; (with_reducible refine (cmp_any wr.drew y x).mono ?_); rintro e w2 ⟨rfl, hb2⟩; have hbd : Below wr.heap.size wr w2 := (below_drew1 wr).trans hb2; have z0 := cell_later hbd y0; have z1 := cell_later hbd y1; have z2 := cell_later hbd x0; have z3 := cell_later hbd x1; have HB2 := Lib.hid hbd; clear hbd hb2))
      have Hrw := Lib.hid (hrow.out.later (World.block_lt_of_cell? wr _ y0) HB2.out)
      have Hgr := Lib.hid (grown_of_below hgr.out HB2.out)
      clear y0 y1 x0 x1 z0 z1 z2 z3 hrow hgr HB2
      cases hk : klt y.1 x.1 with
      | true =>
        have hcmp : Lib.compareBytes y.1.data.toList x.1.data.toList < 0 := (compare_klt _ _).2 hk
        have hcmp2 : decide (Lib.compareBytes y.1.data.toList x.1.data.toList < 0) = true := by simpa using hcmp
        have hcmp3 : (!decide (Lib.compareBytes y.1.data.toList x.1.data.toList < 0)) = false := by rw [hcmp2]; rfl
        have HL : Hid (H = m ∨ ∀ z, (A ++ (L ++ ([y] ++ B)))[H]? = some z → klt y.1 z.1 = true) := .inr (fun z hz => by rw [HX.out] at hz; have e : x = z := (by simpa using hz); rw [← e]; exact hk)
        clear hk
        go_wp2_with fail
        all_goals first
          | exact ⟨⟨i, H, rfl, rfl, hai, hh1, by omega, hlo, HL, Hrw, Hgr⟩, by show ((H : Int)).toNat - ((i : Int)).toNat < ((j : Int)).toNat - ((i : Int)).toNat; omega⟩
          | (rename_i hX; exact absurd hX (by rw [hcmp2]; decide))
      | false =>
        have hcmp : ¬ Lib.compareBytes y.1.data.toList x.1.data.toList < 0 := fun e => by rw [compare_klt, hk] at e; cases e
        have hcmp2 : decide (Lib.compareBytes y.1.data.toList x.1.data.toList < 0) = false := by simpa using hcmp
        have hcmp3 : (!decide (Lib.compareBytes y.1.data.toList x.1.data.toList < 0)) = true := by rw [hcmp2]; rfl
        have HL : Hid (H + 1 = a ∨ ∀ z, (A ++ (L ++ ([y] ++ B)))[H + 1 - 1]? = some z → klt y.1 z.1 = false) := .inr (fun z hz => by rw [Nat.add_sub_cancel, HX.out] at hz; have e : x = z := (by simpa using hz); rw [← e]; exact hk)
        clear hk
        go_wp2_with fail
        all_goals first
          | exact ⟨⟨H + 1, j, by simp, rfl, by omega, by omega, hjm, HL, hhi, Hrw, Hgr⟩, by show ((j : Int)).toNat - ((H : Int) + 1).toNat < ((j : Int)).toNat - ((i : Int)).toNat; omega⟩
          | (rename_i hX; exact absurd hX (by rw [hcmp2]; decide))
    · obtain rfl : j = i := by omega
      obtain ⟨L1, X, hLX, hLl, hL1, hX⟩ : ∃ L1 X, L = L1 ++ X ∧ a + L1.length = j ∧ (∀ l ∈ L1, klt y.1 l.1 = false) ∧ ∀ x ∈ X, klt y.1 x.1 = true := by
        have hm' := Hm.out
        refine ⟨L.take (j - a), L.drop (j - a), (List.take_append_drop _ _).symm, by rw [List.length_take]; omega, fun l hl => ?_, fun x hx => ?_⟩
        · obtain ⟨k, hk⟩ := List.mem_iff_getElem?.1 hl
          rw [List.getElem?_take] at hk
          split at hk
          · rename_i hkl
            have hk2 := (List.getElem?_eq_some_iff.1 hk).1
            obtain ⟨z, hz⟩ : ∃ z, L[j - 1 - a]? = some z := ⟨L[j - 1 - a]'(by omega), List.getElem?_eq_getElem _⟩
            have h1 := hlo.out.resolve_left (by omega) z (by
              have := at_left (A := A) (L := L) (Z := [y] ++ B) HA.out (i := j - 1 - a) (by omega)
              rw [show a + (j - 1 - a) = j - 1 by omega, hz] at this; exact this)
            exact kle_trans (sortedW_at HLs.out hk hz (by omega)) h1
          · cases hk
        · obtain ⟨k, hk⟩ := List.mem_iff_getElem?.1 hx
          rw [List.getElem?_drop] at hk
          have hk2 := (List.getElem?_eq_some_iff.1 hk).1
          obtain ⟨z, hz⟩ : ∃ z, L[j - a]? = some z := ⟨L[j - a]'(by omega), List.getElem?_eq_getElem _⟩
          have h1 := hhi.out.resolve_left (by omega) z (by
            have := at_left (A := A) (L := L) (Z := [y] ++ B) HA.out (i := j - a) (by omega)
            rw [show a + (j - a) = j by omega, hz] at this; exact this)
          exact klt_trans_le h1 (sortedW_at HLs.out hz hk (by omega))
      have HF : Hid (isort (L ++ [y]) = L1 ++ ([y] ++ X)) := by
        show _ = _
        have hs := HLs.out
        rw [hLX] at hs ⊢
        obtain ⟨s1, s2, _⟩ := sortedW_app.1 hs
        have h := isort_cut (L1 := L1) (X := X) (Y := [y]) (R2 := []) hs (by simp [SortedW]) (fun x hx y' hy' => by have e : y' = y := (by simpa using hy'); rw [e]; exact hX x hx) (fun _ _ r hr => by cases hr)
        rw [List.append_nil, List.append_nil, isort_sorted s2, isort_sorted (l := L1 ++ [y]) (sortedW_app.2 ⟨s1, by simp [SortedW], fun p hp q hq => by have e : q = y := (by simpa using hq); rw [e]; exact hL1 p hp⟩)] at h
        rw [← h]; simp
      have HLX := Lib.hid hLX
      have HLl := Lib.hid hLl
      clear hlo hhi hLX hLl hL1 hX hlt HY
      go_wp2_with fail
      go_loopw [17] (fun v wr2 => ∃ (k : Nat) (X1 X2 : List Pr), v = .int .i64 k ∧ j ≤ k ∧ k ≤ m ∧ Hid (X = X1 ++ X2) ∧ Hid (j + X1.length = k) ∧ Hid (PRow wr2 g ((A ++ L1) ++ (X1 ++ y :: (X2 ++ B)))) ∧ Hid (w.grownBy wr2 (some g)))
        (fun v _ => (intOf v).toNat)
      case atStart => exact ⟨m, X, [], rfl, hjm, Nat.le_refl _, (by show _ = _; simp), (by show _ = _; have h := Hm.out; rw [HLX.out, List.length_append] at h; have := HLl.out; omega), (by show PRow _ _ _; have h := hrow.out; rw [HLX.out] at h; simpa using h), hgr⟩
      case round =>
        obtain ⟨k, X1, X2, rfl, hjk, hkm, hXX, hX1, hrw, hg2⟩ := hrel
        by_cases hkt : j < k
        · obtain ⟨X3, x, rfl⟩ : ∃ X3 x, X1 = X3 ++ [x] := by
            rcases List.eq_nil_or_concat X1 with rfl | ⟨X3, x, rfl⟩
            · have := hX1.out; simp at this; omega
            · exact ⟨X3, x, List.concat_eq_append⟩
          obtain ⟨k, rfl⟩ : ∃ k', k = k' + 1 := ⟨k - 1, by omega⟩
          have hAl : ((A ++ L1) ++ X3).length = k := by rw [List.length_append, List.length_append, HA.out]; have h1 := hX1.out; have h2 := HLl.out; rw [List.length_append] at h1; simp at h1; omega
          have hrw2 : PRow wr g (((A ++ L1) ++ X3) ++ x :: y :: (X2 ++ B)) := by simpa using hrw.out
          have x01 := hrw2.at1 (p := k) (q := x) (by rw [← hAl]; simp)
          have y01 := hrw2.at1 (p := k + 1) (q := y) (by rw [← hAl, List.getElem?_append_right (by omega), Nat.add_sub_cancel_left]; rfl)
          obtain ⟨x0, x1⟩ := x01
          obtain ⟨y0, y1⟩ := y01
          have zx0 := hrw2.fz (k * 2)
          have zx1 := hrw2.fz (k * 2 + 1)
          have zy0 := hrw2.fz ((k + 1) * 2)
          have zy1 := hrw2.fz ((k + 1) * 2 + 1)
          have ek : IntKind.i64.wrap (k : Int) = (k : Int) := IntWalk.i64_in _ (by omega)
          have ek1 : ((k + 1 : Nat) : Int) - 1 = (k : Int) := by omega
          have hI1 : (0 : Int) ≤ (k : Int) + 1 := by omega
          have hI2 : (k : Int) + 1 < (N : Int) := by omega
          have hI3 : ((k : Int) + 1).toNat = k + 1 := by omega
          have hI4 : (k : Int) < (N : Int) := by omega
          have hI5 : (0 : Int) ≤ (k : Int) := by omega
          have hI6 : (j : Int) < (k : Int) + 1 := by omega
          have HAl := Lib.hid hAl
          have Hrw := Lib.hid hrw2
          clear hAl hrw hrw2
          go_wp2_with fail
          go_region
          all_goals
            generalize hW : World.drew _ = W
            obtain ⟨h2, h3⟩ := Hrw.out.swap2r (W := W) HAl.out rfl hg2.out hW
            have H2 : Hid (PRow W g ((A ++ L1) ++ (X3 ++ y :: ((x :: X2) ++ B)))) := by show PRow _ _ _; simpa using h2
            have H3 := Lib.hid h3
            have H4 : Hid (X = X3 ++ (x :: X2)) := by show _ = _; rw [hXX.out]; simp
            have H5 : Hid (j + X3.length = k) := by show _ = _; have := hX1.out; rw [List.length_append] at this; simp at this; omega
            clear h2 h3 hW x0 x1 y0 y1 zx0 zx1 zy0 zy1
            go_wp2_with fail
            exact ⟨⟨k, X3, x :: X2, by simp, by omega, by omega, H4, H5, H2, H3⟩, by show k < k + 1; omega⟩
        · obtain rfl : k = j := by omega
          obtain rfl : X1 = [] := List.eq_nil_of_length_eq_zero (by have := hX1.out; omega)
          have H1 : Hid (PRow wr g (A ++ (isort (L ++ [y]) ++ B))) := by
            show PRow _ _ _
            have h := hrw.out
            have h2 := hXX.out
            rw [List.nil_append] at h2
            subst h2
            rw [HF.out]; simpa using h
          clear hrw hXX
          go_wp2_with fail
          (try simp only [Exit.inBlock, Exit.then])
          refine bodyPost_ret (results_none rfl _ _ _) rfl ?_
          exact ⟨rfl, H1.out, hg2.out⟩
end Go.Proofs.Ytdfjnpnkfjcpcaa.Ts
