/-
  The document's Hint, of a log that is well made.
-/
import Derived.Test.YtcmfnokpbgfioaaRg
import Derived.Test.YtcmfnokpbgfioaaE5
import Derived.Test.YtcmfnokpbgfioaaA0
namespace Go.Proofs.Ytcmfnokpbgfioaa
set_option linter.unusedVariables false
set_option linter.unusedSimpArgs false
open Go.RowKit

theorem dn_spec (i t T : Int) (es : List Er) : ∀ n : Nat, ∃ m : Nat, m ≤ n ∧ dnH i t es T n = i + 1 + m ∧ (∀ j, m ≤ j → j < n → tm t es (j + 1) = T) ∧ (m = 0 ∨ tm t es m ≠ T)
  | 0 => ⟨0, Nat.le_refl _, by simp [dnH], (fun j _ h2 => absurd h2 (by omega)), .inl rfl⟩
  | n + 1 => by
    obtain ⟨m, hm, hd, ha, hb⟩ := dn_spec i t T es n
    by_cases h : tm t es (n + 1) = T
    · refine ⟨m, by omega, by rw [dnH, if_pos h]; exact hd, fun j h1 h2 => ?_, hb⟩
      by_cases e : j = n
      · rw [e]; exact h
      · exact ha j h1 (by omega)
    · exact ⟨n + 1, Nat.le_refl _, by rw [dnH, if_neg h], (fun j h1 h2 => absurd h2 (by omega)), .inr h⟩
/-- One row's word on whether the rows from an index up to another are of one term. -/
def smB (A T ei : Int) (y : Er) : Bool := decide (y.i < ei) || (decide (A < y.i) || y.t == T)
def smN (A T ei : Int) (es : List Er) (n : Nat) : Bool := (es.take n).all (smB A T ei)
theorem smN_step {A T ei : Int} {es : List Er} {n : Nat} {y : Er} (h : es[n]? = some y) : smN A T ei es (n + 1) = (smN A T ei es n && smB A T ei y) := by
  unfold smN
  rw [List.take_add_one, h, List.all_append]
  simp
theorem smN_all {A T ei : Int} {es : List Er} : smN A T ei es es.length = true ↔ ∀ y ∈ es, y.i < ei ∨ A < y.i ∨ y.t = T := by
  unfold smN
  rw [List.take_length, List.all_eq_true]
  exact forall_congr' fun y => forall_congr' fun _ => by simp [smB]
/-- The least row is of one term with all above it. -/
theorem hint_low {i t T : Int} {es : List Er} (hg : goR i t es = true) {n m : Nat} (hn : n < es.length) (hT : tm t es (n + 1) = T) (ha : ∀ j, m ≤ j → j < n → tm t es (j + 1) = T) {y : Er} (hy : es[m]? = some y) : smN (i + 1 + n) T y.i es es.length = true := by
  rw [smN_all]
  intro z hz
  obtain ⟨j, hj, rfl⟩ := List.getElem_of_mem hz
  have e1 : es[j]? = some es[j] := List.getElem?_eq_getElem hj
  have h1 := (goR_get hg e1).1
  have h2 := (goR_get hg hy).1
  by_cases c1 : j < m
  · exact .inl (by omega)
  · by_cases c2 : n < j
    · exact .inr (.inl (by omega))
    · refine .inr (.inr ?_)
      rw [← tm_at (t := t) e1]
      by_cases c3 : j = n
      · rw [c3]; exact hT
      · exact ha j (by omega) (by omega)
theorem hint_A {i t x : Int} {es : List Er} (h : okL i t es = true) (hx : x ≤ i + es.length) : ∃ n : Nat, max x (i + 1) = i + 1 + n ∧ hintL i t es x = dnH i t es ((atL i t es (max x (i + 1))).getD 0) n ∧ (es ≠ [] → n < es.length ∧ tm t es (n + 1) = (atL i t es (max x (i + 1))).getD 0) ∧ (es = [] → n = 0) := by
  refine ⟨(max x (i + 1) - i - 1).toNat, by omega, ?_, fun he => ?_, fun he => ?_⟩
  · unfold hintL; rw [h, if_pos rfl, if_neg (by omega)]
  · have hl : 0 < es.length := List.length_pos_iff.2 he
    refine ⟨by omega, ?_⟩
    unfold atL
    rw [if_pos (by omega), Option.getD_some]
    congr 1
    omega
  · subst he; simp only [List.length_nil] at hx; omega
theorem hint_ret {i t x : Int} {es : List Er} (h : okL i t es = true) (hx : x ≤ i + es.length) {k : Nat} {y : Er} (hy : es[k]? = some y) (hn : ∀ (j : Nat) (z : Er), j < k → es[j]? = some z → smN (max x (i + 1)) ((atL i t es (max x (i + 1))).getD 0) z.i es es.length = true → max x (i + 1) < z.i) (hs : smN (max x (i + 1)) ((atL i t es (max x (i + 1))).getD 0) y.i es es.length = true) (hle : y.i ≤ max x (i + 1)) : hintL i t es x = y.i := by
  have hg := (okL_iff.1 h).2.2
  obtain ⟨n, hA, hH, h1, _⟩ := hint_A h hx
  have hk := (List.getElem?_eq_some_iff.1 hy).1
  obtain ⟨hnl, hT⟩ := h1 (by intro e; rw [e] at hk; exact absurd hk (by simp))
  rw [hH]
  generalize (atL i t es (max x (i + 1))).getD 0 = T at *
  rw [hA] at hn hs hle
  obtain ⟨m, hm, hd, ha, hb⟩ := dn_spec i t T es n
  have hyi := (goR_get hg hy).1
  rw [hd, hyi]
  have e1 : es[m]? = some (es[m]'(by omega)) := List.getElem?_eq_getElem (by omega)
  have hmi := (goR_get hg e1).1
  have c1 : ¬ m < k := fun c => by
    have := hn m _ c e1 (hint_low hg hnl hT ha e1)
    omega
  have c2 : ¬ k < m := fun c => by
    rcases hb with hb | hb
    · omega
    · obtain ⟨q, rfl⟩ : ∃ q, m = q + 1 := ⟨m - 1, by omega⟩
      have e2 : es[q]? = some (es[q]'(by omega)) := List.getElem?_eq_getElem (by omega)
      have hqi := (goR_get hg e2).1
      rcases smN_all.1 hs _ (List.getElem_mem (by omega : q < es.length)) with c | c | c
      · omega
      · omega
      · exact hb (by rw [tm_at e2]; exact c)
  omega
theorem hint_end {i t x : Int} {es : List Er} (h : okL i t es = true) (hx : x ≤ i + es.length) (hn : ∀ (j : Nat) (z : Er), j < es.length → es[j]? = some z → smN (max x (i + 1)) ((atL i t es (max x (i + 1))).getD 0) z.i es es.length = true → max x (i + 1) < z.i) : hintL i t es x = max x (i + 1) := by
  have hg := (okL_iff.1 h).2.2
  obtain ⟨n, hA, hH, h1, h0⟩ := hint_A h hx
  rw [hH]
  by_cases he : es = []
  · rw [h0 he] at hA ⊢
    show i + 1 = _
    omega
  · obtain ⟨hnl, hT⟩ := h1 he
    generalize (atL i t es (max x (i + 1))).getD 0 = T at *
    rw [hA] at hn
    obtain ⟨m, hm, hd, ha, hb⟩ := dn_spec i t T es n
    have e1 : es[m]? = some (es[m]'(by omega)) := List.getElem?_eq_getElem (by omega)
    have hmi := (goR_get hg e1).1
    have := hn m _ (by omega) e1 (hint_low hg hnl hT ha e1)
    omega
end Go.Proofs.Ytcmfnokpbgfioaa
