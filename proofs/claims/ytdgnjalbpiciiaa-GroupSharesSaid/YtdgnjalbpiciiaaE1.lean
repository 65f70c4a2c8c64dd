/-
  Ints with their keys sorted by insertion. (Written by gengsort.py out of tree's.)
-/
import Derived.Test.YtdgnjalbpiciiaaE0
namespace Go.Proofs.Ytdgnjalbpiciiaa
set_option linter.unusedVariables false
set_option linter.unusedSimpArgs false
open Go.RowKit

variable {κ : Env}
/-- Ints in a block that may be written, and what they are sorted by. -/
structure PRow (κ : Env) (w : World) (g : Nat) (xs : List Pl) : Prop where
  pairs : PairsAt κ w g 0 xs
  fz : ∀ i, w.frozen? ⟨g, i, none⟩ = false
  env : κ.ok w g
theorem PRow.later {w w' : World} {g : Nat} {xs : List Pl} (h : PRow κ w g xs) (hl : g < w.heap.size) (hb : Below w.heap.size w w') : PRow κ w' g xs :=
  ⟨h.pairs.later hb, fun i => (hb.frozen (p := ⟨g, i, none⟩) hl).trans (h.fz i), h.env.below hb⟩
theorem PRow.drew {w : World} {g : Nat} {xs : List Pl} (h : PRow κ w g xs) : PRow κ w.drew g xs := ⟨h.pairs, h.fz, h.env.drew⟩
theorem PRow.drewN {w : World} {g : Nat} {xs : List Pl} (h : PRow κ w g xs) (q : Nat) : PRow κ (w.drewN q) g xs := ⟨h.pairs, h.fz, h.env.drewN q⟩
theorem PRow.keys {w : World} {g : Nat} {xs : List Pl} (h : PRow κ w g xs) (p : Pl) (hp : p ∈ xs) : κ.key p := by
  obtain ⟨i, hi⟩ := List.mem_iff_getElem?.1 hp
  exact (h.pairs i p hi).2

/-- An int is laid at a place. -/
def putPair (w : World) (g i : Nat) (p : Pl) : World := w.setCell ⟨g, i, none⟩ (.int .i64 p.2)
theorem putPair_size (w : World) (g i : Nat) (p : Pl) : (putPair w g i p).heap.size = w.heap.size := by simp [putPair, World.setCell]
theorem grown_put (w : World) (g i : Nat) (p : Pl) : w.grownBy (putPair w g i p) (some g) :=
  ⟨rfl, rfl, rfl, by rw [putPair_size]; exact Nat.le_refl _, fun k _ hk => by
    have h : g ≠ k := fun e => hk (by rw [e])
    unfold putPair
    rw [Below.heap_setCell _ _ _ _ (by simpa using Ne.symm h)]⟩
theorem PRow.put {w : World} {g : Nat} {A B : List Pl} {q : Pl} (h : PRow κ w g (A ++ q :: B)) (p : Pl) (hk : κ.key p) : PRow κ (putPair w g A.length p) g (A ++ p :: B) := by
  have hq := h.pairs A.length q (by simp)
  simp only [Nat.zero_add] at hq
  refine ⟨fun i r hr => ?_, fun i => (World.frozen?_setCell _ _ _ _).trans (h.fz i), h.env.grown (grown_put w g A.length p)⟩
  simp only [Nat.zero_add]
  by_cases hi : i = A.length
  · subst hi
    have : r = p := by simpa using hr.symm
    subst this
    unfold putPair
    exact ⟨World.cell?_setCell_same _ _ _ hq.1, hk⟩
  · have hr' : (A ++ q :: B)[i]? = some r := by
      rcases Nat.lt_or_ge i A.length with hlt | hge
      · rw [List.getElem?_append_left hlt] at hr ⊢; exact hr
      · rw [List.getElem?_append_right hge] at hr ⊢
        obtain ⟨k, hk⟩ : ∃ k, i - A.length = k + 1 := ⟨i - A.length - 1, by omega⟩
        rw [hk] at hr ⊢; simpa using hr
    have hc := h.pairs i r hr'
    simp only [Nat.zero_add] at hc
    unfold putPair
    refine ⟨?_, hc.2⟩
    rw [World.cell?_setCell_other _ _ _ _ (by simp <;> omega)]; exact hc.1

/-- A pair that is put behind all that is not more. -/
def ins (S : List Pl) (p : Pl) : List Pl := (S.reverse.dropWhile (fun q => plt p.1 q.1)).reverse ++ p :: (S.reverse.takeWhile (fun q => plt p.1 q.1)).reverse
def isort (l : List Pl) : List Pl := l.foldl ins []
theorem ins_length (S : List Pl) (p : Pl) : (ins S p).length = S.length + 1 := by
  have h := congrArg List.length (List.takeWhile_append_dropWhile (p := fun q : Pl => plt p.1 q.1) (l := S.reverse))
  simp only [List.length_append, List.length_reverse] at h
  simp only [ins, List.length_append, List.length_reverse, List.length_cons]
  omega
theorem ins_of {A C : List Pl} {p : Pl} (hC : ∀ q ∈ C, plt p.1 q.1 = true) (hA : ∀ q, A.getLast? = some q → plt p.1 q.1 = false) : ins (A ++ C) p = A ++ p :: C := by
  have h1 : ∀ (C : List Pl) (A : List Pl), (∀ q ∈ C, plt p.1 q.1 = true) → (C ++ A).dropWhile (fun q => plt p.1 q.1) = A.dropWhile (fun q => plt p.1 q.1) ∧ (C ++ A).takeWhile (fun q => plt p.1 q.1) = C ++ A.takeWhile (fun q => plt p.1 q.1) := by
    intro C
    induction C with
    | nil => intro A _; exact ⟨rfl, rfl⟩
    | cons c C ih =>
      intro A h
      have hc := h c (by simp)
      have := ih A (fun q hq => h q (by simp [hq]))
      simp [hc, this]
  have h2 : (A.reverse.dropWhile fun q => plt p.1 q.1) = A.reverse ∧ (A.reverse.takeWhile fun q => plt p.1 q.1) = [] := by
    cases hr : A.reverse with
    | nil => exact ⟨rfl, rfl⟩
    | cons a B =>
      have : A.getLast? = some a := by rw [List.getLast?_eq_head?_reverse, hr]; rfl
      simp [hA a this]
  unfold ins
  rw [List.reverse_append]
  have h3 := h1 C.reverse A.reverse (fun q hq => hC q (by simpa using hq))
  rw [h3.1, h3.2, h2.1, h2.2]
  simp
/-- What stands behind an insertion. -/
def Sorts (κ : Env) (g : Nat) (ys : List Pl) (w : World) (w' : World) : Prop := PRow κ w' g ys ∧ w.grownBy w' (some g)
theorem isort_step (xs : List Pl) {i : Nat} {p : Pl} (h : xs[i]? = some p) : isort (xs.take (i + 1)) = ins (isort (xs.take i)) p := by
  have hlt := (List.getElem?_eq_some_iff.1 h).1
  have he := (List.getElem?_eq_some_iff.1 h).2
  rw [List.take_add_one, h]
  simp [isort, List.foldl_append]
theorem isort_length (l : List Pl) : (isort l).length = l.length := by
  have h : ∀ (l a : List Pl), (l.foldl ins a).length = a.length + l.length := by
    intro l
    induction l with
    | nil => intro a; simp
    | cons p l ih => intro a; rw [List.foldl_cons, ih, ins_length]; simp; omega
  rw [isort, h]; simp
theorem grown_of_below {w w1 w2 : World} {row : Option Nat} (h1 : w.grownBy w1 row) (h2 : Below w1.heap.size w1 w2) : w.grownBy w2 row :=
  ⟨h2.os.trans h1.os, h2.tape.trans h1.tape, h2.output.trans h1.output, Nat.le_trans h1.size h2.size, fun k hk hne => (h2.block k (Nat.lt_of_lt_of_le hk h1.size)).trans (h1.block k hk hne)⟩
end Go.Proofs.Ytdgnjalbpiciiaa
