/-
  Parts: what they are, plainly; a part in memory.
-/
import Derived.Test.YtcbgnmolfdhnfaaG3
namespace Go.Proofs.Ytcbgnmolfdhnfaa
set_option linter.unusedVariables false
set_option linter.unusedSimpArgs false
open Go.RowKit

/-- The digit by which a part of so many levels more is parted. -/
def dgt (n : Nat) (p : Pl) : Nat := p.1.1 / 16 ^ n % 16
def sub (n i : Nat) (S : List Pl) : List Pl := S.filter fun p => decide (dgt n p = i)
def rst (n i : Nat) (S : List Pl) : List Pl := S.filter fun p => decide (i ≤ dgt n p)
/-- By rising digits, of so many levels. -/
def Mon (n : Nat) (S : List Pl) : Prop := S.Pairwise fun p q => p.1.1 % 16 ^ n ≤ q.1.1 % 16 ^ n
theorem dgt_mod (n : Nat) (p : Pl) : dgt n p = p.1.1 % 16 ^ (n + 1) / 16 ^ n := by
  unfold dgt
  rw [Nat.pow_succ, Nat.mod_mul_right_div_self]
theorem mod_split (x n : Nat) : x % 16 ^ (n + 1) = x % 16 ^ n + 16 ^ n * (x / 16 ^ n % 16) := by
  rw [Nat.pow_succ, Nat.mod_mul]
theorem Mon.sub {n i : Nat} {S : List Pl} (h : Mon (n + 1) S) : Mon n (sub n i S) := by
  unfold Mon at *
  refine List.Pairwise.imp_of_mem ?_ (h.sublist List.filter_sublist)
  intro p q hp hq hpq
  have h1 := (List.mem_filter.1 hp).2
  have h2 := (List.mem_filter.1 hq).2
  simp only [decide_eq_true_eq] at h1 h2
  rw [mod_split, mod_split] at hpq
  unfold dgt at h1 h2
  rw [h1, h2] at hpq
  omega
theorem Mon.dgt {n : Nat} {S : List Pl} (h : Mon (n + 1) S) : S.Pairwise fun p q => dgt n p ≤ dgt n q := by
  refine List.Pairwise.imp ?_ h
  intro p q hpq
  rw [dgt_mod, dgt_mod]
  exact Nat.div_le_div_right hpq
theorem dgt_lt (n : Nat) (p : Pl) : dgt n p < 16 := Nat.mod_lt _ (by decide)
theorem rst_zero (n : Nat) (S : List Pl) : rst n 0 S = S := by simp [rst]
theorem rst_end (n : Nat) (S : List Pl) : rst n 16 S = [] := by
  refine List.filter_eq_nil_iff.2 fun p _ => ?_
  have := dgt_lt n p
  simp; omega
theorem rst_step {n : Nat} {S : List Pl} (h : S.Pairwise fun p q => dgt n p ≤ dgt n q) (i : Nat) : rst n i S = sub n i S ++ rst n (i + 1) S := by
  induction S with
  | nil => rfl
  | cons p S ih =>
    have hp := List.pairwise_cons.1 h
    have ih := ih hp.2
    unfold rst sub at *
    rcases Nat.lt_trichotomy (dgt n p) i with h1 | h1 | h1
    · rw [List.filter_cons_of_neg (by simp; omega), List.filter_cons_of_neg (by simp; omega), List.filter_cons_of_neg (by simp; omega)]
      exact ih
    · rw [List.filter_cons_of_pos (by simp; omega), List.filter_cons_of_pos (by simp; omega), List.filter_cons_of_neg (by simp; omega), ih]
      rfl
    · have e : S.filter (fun q => decide (dgt n q = i)) = [] := List.filter_eq_nil_iff.2 fun q hq => by
        have := hp.1 q hq
        simp; omega
      rw [e, List.nil_append] at ih
      rw [List.filter_cons_of_pos (by simp; omega), List.filter_cons_of_neg (by simp; omega), List.filter_cons_of_pos (by simp; omega), e, List.nil_append, ih]
/-- Where the search ends. -/
theorem cut_at {n i m : Nat} {A B : List Pl} (hA : ∀ p ∈ A, dgt n p = i) (hB : ∀ p ∈ B, i < dgt n p) (hm : m ≤ (A ++ B).length) (h1 : ∀ k p, k < m → (A ++ B)[k]? = some p → dgt n p ≤ i) (h2 : ∀ k p, m ≤ k → (A ++ B)[k]? = some p → i < dgt n p) : m = A.length := by
  rcases Nat.lt_trichotomy m A.length with h | h | h
  · have e : (A ++ B)[m]? = some A[m] := by rw [List.getElem?_append_left h, List.getElem?_eq_getElem h]
    have := h2 m _ (Nat.le_refl _) e
    have := hA A[m] (List.getElem_mem _)
    omega
  · exact h
  · have hb : 0 < B.length := by rw [List.length_append] at hm; omega
    have e : (A ++ B)[A.length]? = some B[0] := by rw [List.getElem?_append_right (Nat.le_refl _), Nat.sub_self, List.getElem?_eq_getElem hb]
    have := h1 A.length _ h e
    have := hB B[0] (List.getElem_mem _)
    omega
/-- The digest of a part. -/
noncomputable def Sd.tr (s : Sd) : Nat → List Pl → Nat
  | 0, S => if S.length = 0 then 0 else sumN s.a s.b (s.leafB S)
  | n + 1, S => if S.length = 0 then 0 else sumN s.a s.b ((List.range 16).flatMap fun i => Wi.be (s.tr n (sub n i S)) 8)
noncomputable def Sd.kidB (s : Sd) (n i : Nat) (S : List Pl) : List Int := (List.range i).flatMap fun j => Wi.be (s.tr n (sub n j S)) 8
theorem Sd.kidB_zero (s : Sd) (n : Nat) (S : List Pl) : s.kidB n 0 S = [] := rfl
theorem Sd.kidB_step (s : Sd) (n i : Nat) (S : List Pl) : s.kidB n (i + 1) S = s.kidB n i S ++ Wi.be (s.tr n (sub n i S)) 8 := by
  unfold Sd.kidB
  rw [List.range_succ, List.flatMap_append]
  simp
theorem Sd.kidB_len (s : Sd) (n : Nat) (S : List Pl) : ∀ i, (s.kidB n i S).length = 8 * i
  | 0 => rfl
  | i + 1 => by rw [s.kidB_step, List.length_append, s.kidB_len n S i, Wi.be_length]; omega
theorem Sd.oct_kid (s : Sd) (n i : Nat) (S : List Pl) : Oct (s.kidB n i S) := fun x hx => by
  obtain ⟨p, _, hp⟩ := List.mem_flatMap.1 hx
  exact oct_be _ _ x hp
theorem sub_len (n i : Nat) (S : List Pl) : (sub n i S).length ≤ S.length := List.length_filter_le _ _
theorem Sd.tr_nil (s : Sd) (n : Nat) : s.tr n [] = 0 := by cases n <;> rfl
theorem Sd.tr_leaf (s : Sd) {S : List Pl} (h : S ≠ []) : s.tr 0 S = sumN s.a s.b (s.leafB S) := by
  unfold Sd.tr
  rw [if_neg (fun e => h (List.eq_nil_of_length_eq_zero e))]
theorem Sd.tr_node (s : Sd) {n : Nat} {S : List Pl} (h : S ≠ []) : s.tr (n + 1) S = sumN s.a s.b (s.kidB n 16 S) := by
  rw [Sd.tr, if_neg (fun e => h (List.eq_nil_of_length_eq_zero e))]; rfl
theorem Sd.tr_lt {s : Sd} (h : s.Ok) (n : Nat) (S : List Pl) (hl : S.length ≤ 100000) : s.tr n S < 18446744073709551616 := by
  by_cases hS : S = []
  · subst hS; rw [s.tr_nil]; decide
  · cases n with
    | zero => rw [s.tr_leaf hS]; exact sumN_lt h.1 h.2 (s.oct_leaf S hl)
    | succ n => rw [s.tr_node hS]; exact sumN_lt h.1 h.2 (s.oct_kid n 16 S)

/-- A part in memory, in blocks that may be its own. -/
def PtIn (s : Sd) (w : World) (A : Nat → Prop) : Nat → Option Addr → List Pl → Prop
  | 0, q, S => (S = [] ∧ q = none) ∨ (S ≠ [] ∧ ∃ b av, q = some ⟨b, 0, none⟩ ∧ A b ∧ w.cell? ⟨b, 0, none⟩ = some (.int .u64 (s.tr 0 S)) ∧ w.cell? ⟨b, 1, none⟩ = some av ∧ w.cell? ⟨b, 2, none⟩ = some (.slice none 0 0) ∧
      ∃ g off c, av = .slice (some ⟨g, off, none⟩) S.length c ∧ S.length ≤ c ∧ c ≤ 9223372036854775807 ∧ A g ∧ PairsAt w g off S)
  | n + 1, q, S => (S = [] ∧ q = none) ∨ (S ≠ [] ∧ ∃ b av kg kc, q = some ⟨b, 0, none⟩ ∧ A b ∧ w.cell? ⟨b, 0, none⟩ = some (.int .u64 (s.tr (n + 1) S)) ∧ w.cell? ⟨b, 1, none⟩ = some av ∧ w.cell? ⟨b, 2, none⟩ = some (.slice (some ⟨kg, 0, none⟩) 16 kc) ∧ 16 ≤ kc ∧ A kg ∧
      (∃ g off c, av = .slice (some ⟨g, off, none⟩) S.length c ∧ S.length ≤ c ∧ c ≤ 9223372036854775807 ∧ A g ∧ PairsAt w g off S) ∧ ∀ i, i < 16 → ∃ r, w.cell? ⟨kg, i, none⟩ = some (.pointer r) ∧ PtIn s w A n r (sub n i S))
theorem PairsAt.block {w w' : World} {g off : Nat} {S : List Pl} (h : PairsAt w g off S) (hk : w'.heap[g]? = w.heap[g]?) : PairsAt w' g off S := fun i p hp =>
  ⟨(World.cell?_of_block (w := w) (w' := w') (a := ⟨g, _, none⟩) hk).trans (h i p hp).1, (World.cell?_of_block (w := w) (w' := w') (a := ⟨g, _, none⟩) hk).trans (h i p hp).2.1, (World.cell?_of_block (w := w) (w' := w') (a := ⟨g, _, none⟩) hk).trans (h i p hp).2.2⟩
theorem pairs_block {w : World} {g off : Nat} {S : List Pl} (h : PairsAt w g off S) (hS : S ≠ []) : g < w.heap.size := by
  obtain ⟨p, T, rfl⟩ := List.exists_cons_of_ne_nil hS
  exact World.block_lt_of_cell? w _ (h 0 p rfl).1
theorem PtIn.keep {s : Sd} {w w' : World} {A A' : Nat → Prop} (hA : ∀ k, A k → k < w.heap.size → A' k ∧ w'.heap[k]? = w.heap[k]?) : ∀ {n : Nat} {q : Option Addr} {S : List Pl}, PtIn s w A n q S → PtIn s w' A' n q S
  | 0, q, S, h => by
    rcases h with h | ⟨hS, b, av, hq, hb, c0, c1, c2, g, off, c, hv, h1, h2, hg, hp⟩
    · exact .inl h
    · have kb := hA b hb (World.block_lt_of_cell? w _ c0)
      have kg := hA g hg (pairs_block hp hS)
      exact .inr ⟨hS, b, av, hq, kb.1, (World.cell?_of_block (a := ⟨b, 0, none⟩) kb.2).trans c0, (World.cell?_of_block (a := ⟨b, 1, none⟩) kb.2).trans c1, (World.cell?_of_block (a := ⟨b, 2, none⟩) kb.2).trans c2, g, off, c, hv, h1, h2, kg.1, hp.block kg.2⟩
  | n + 1, q, S, h => by
    rcases h with h | ⟨hS, b, av, kg, kc, hq, hb, c0, c1, c2, hkc, hkg, ⟨g, off, c, hv, h1, h2, hg, hp⟩, hk⟩
    · exact .inl h
    · have kb := hA b hb (World.block_lt_of_cell? w _ c0)
      have kgg := hA g hg (pairs_block hp hS)
      obtain ⟨r0, hr0, _⟩ := hk 0 (by decide)
      have kkg := hA kg hkg (World.block_lt_of_cell? w _ hr0)
      refine .inr ⟨hS, b, av, kg, kc, hq, kb.1, (World.cell?_of_block (a := ⟨b, 0, none⟩) kb.2).trans c0, (World.cell?_of_block (a := ⟨b, 1, none⟩) kb.2).trans c1, (World.cell?_of_block (a := ⟨b, 2, none⟩) kb.2).trans c2, hkc, kkg.1, ⟨g, off, c, hv, h1, h2, kgg.1, hp.block kgg.2⟩, fun i hi => ?_⟩
      obtain ⟨r, hr, h⟩ := hk i hi
      exact ⟨r, (World.cell?_of_block (a := ⟨kg, i, none⟩) kkg.2).trans hr, h.keep hA⟩
theorem PtIn.later {s : Sd} {w w' : World} {A : Nat → Prop} {n : Nat} {q : Option Addr} {S : List Pl} (h : PtIn s w A n q S) (hb : Below w.heap.size w w') : PtIn s w' A n q S := h.keep fun k hk hl => ⟨hk, hb.block k hl⟩
theorem PtIn.nil {s : Sd} {w : World} {A : Nat → Prop} (n : Nat) : PtIn s w A n none [] := by cases n <;> exact .inl ⟨rfl, rfl⟩
end Go.Proofs.Ytcbgnmolfdhnfaa
