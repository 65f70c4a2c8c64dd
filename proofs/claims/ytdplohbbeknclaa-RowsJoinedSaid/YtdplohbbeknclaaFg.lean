/-
  Plain facts of what was joined: what stands where, how many rows were kept, the same again.
-/
import Derived.Test.YtdplohbbeknclaaFf
import Derived.Test.YtdplohbbeknclaaE2
namespace Go.Proofs.Ytdplohbbeknclaa
set_option linter.unusedVariables false
set_option linter.unusedSimpArgs false
open Go.RowKit

theorem join_no {i t : Int} {es ms : List Er} {x u : Int} (h : okL i t es = true) (hn : (joinA i t es x u ms).ok = false) : joinA i t es x u ms = ⟨es, 0, [], false⟩ := by
  cases hm : meetB i t es x u ms with
  | false => exact join_unmet h hm
  | true =>
    cases hf : fstO i t es ms with
    | none => rw [join_same h hm hf] at hn; cases hn
    | some f =>
      obtain ⟨e, he, _⟩ := fstO_some hf
      by_cases hb : e.t < (atL i t es (e.i - 1)).getD 0
      · exact join_bad h hm hf he hb
      · rw [join_new h hm hf he hb] at hn; cases hn
/-- What stands where others went: a place, what stood ahead, and what was brought. -/
theorem join_yes {i t : Int} {es ms : List Er} {x u : Int} (h : okL i t es = true) (hy : (joinA i t es x u ms).ok = true) :
    meetB i t es x u ms = true ∧ ((joinA i t es x u ms = ⟨es, 0, [], true⟩ ∧ fstO i t es ms = none) ∨
      ∃ (f k : Nat) (e : Er), fstO i t es ms = some f ∧ ms[f]? = some e ∧ e.i = i + k + 1 ∧ k ≤ es.length ∧ joinA i t es x u ms = ⟨es.take k ++ ms.drop f, if e.i ≤ i + es.length then e.i else 0, ms.drop f, true⟩) := by
  cases hm : meetB i t es x u ms with
  | false => rw [join_unmet h hm] at hy; cases hy
  | true =>
    refine ⟨rfl, ?_⟩
    cases hf : fstO i t es ms with
    | none => exact .inl ⟨join_same h hm hf, rfl⟩
    | some f =>
      obtain ⟨e, he, _⟩ := fstO_some hf
      have ha := fst_ahead hm hf he
      by_cases hb : e.t < (atL i t es (e.i - 1)).getD 0
      · rw [join_bad h hm hf he hb] at hy; cases hy
      · refine .inr ⟨f, (e.i - 1 - i).toNat, e, rfl, he, by omega, by omega, join_new h hm hf he hb⟩
theorem atL_take {i t y : Int} {es ms : List Er} {k : Nat} (hk : k ≤ es.length) (hy : y ≤ i + k) : atL i t (es.take k ++ ms) y = atL i t es y := by
  have hl : (es.take k).length = k := by rw [List.length_take]; omega
  unfold atL
  by_cases h1 : i ≤ y
  · rw [if_pos ⟨h1, by rw [List.length_append, hl]; omega⟩, if_pos ⟨h1, by omega⟩]
    have e1 := tm_take t (es.take k ++ ms) k (y - i).toNat (by omega) (by rw [List.length_append, hl]; omega)
    rw [List.take_left' hl] at e1
    rw [← e1, tm_take t es k (y - i).toNat (by omega) hk]
  · rw [if_neg (by omega), if_neg (by omega)]
theorem join_has {i t : Int} {es ms : List Er} {x u : Int} (h : okL i t es = true) (hy : (joinA i t es x u ms).ok = true) : ∀ (n : Nat) (y : Er), ms[n]? = some y → i < y.i → atL i t (joinA i t es x u ms).l y.i = some y.t := by
  intro n y hn hi
  have hk := joinA_ok (ms := ms) (x := x) (u := u) h
  obtain ⟨hm, ⟨hJ, hf⟩ | ⟨f, k, e, hf, he, hei, hkl, hJ⟩⟩ := join_yes h hy
  · rw [hJ]; exact oth_false (fstO_none hf n y hn) hi
  · rw [hJ] at hk ⊢
    have hg := (meet_goR hm).1
    have h1 := (goR_get hg he).1
    have h2 := (goR_get hg hn).1
    obtain ⟨_, _, _, hbef⟩ := fstO_some hf
    by_cases hlt : n < f
    · rw [atL_take hkl (by omega)]
      exact oth_false (hbef n y hlt hn) hi
    · have hrow : (es.take k ++ ms.drop f)[k + (n - f)]? = some y := by
        have hl : (es.take k).length = k := by rw [List.length_take]; omega
        rw [List.getElem?_append_right (by omega), hl, List.getElem?_drop, show f + (k + (n - f) - k) = n by omega]
        exact hn
      exact atL_row (okL_iff.1 hk).2.2 hrow
theorem fstO_none_of {i t : Int} {l : List Er} : ∀ {m : List Er}, (∀ (j : Nat) (e : Er), m[j]? = some e → oth i t l e = false) → fstO i t l m = none
  | [], _ => rfl
  | x :: m, h => by
    unfold fstO
    rw [h 0 x rfl, if_neg (by decide), fstO_none_of (fun j e hj => h (j + 1) e (by rw [List.getElem?_cons_succ]; exact hj))]
    rfl
theorem join_again {i t : Int} {es ms : List Er} {x u : Int} (h : okL i t es = true) (hy : (joinA i t es x u ms).ok = true) : joinA i t (joinA i t es x u ms).l x u ms = ⟨(joinA i t es x u ms).l, 0, [], true⟩ := by
  have hk := joinA_ok (ms := ms) (x := x) (u := u) h
  have hh := join_has h hy
  obtain ⟨hm, hc⟩ := join_yes h hy
  have hx : (decide (x < i) || (atL i t (joinA i t es x u ms).l x == some u)) = true := by
    have hm2 := hm
    unfold meetB at hm2
    simp only [Bool.and_eq_true] at hm2
    rcases hc with ⟨hJ, _⟩ | ⟨f, k, e, hf, he, hei, hkl, hJ⟩
    · rw [hJ]; exact hm2.2
    · rw [hJ]
      have hg := (meet_goR hm).1
      have h1 := (goR_get hg he).1
      show (decide (x < i) || (atL i t (es.take k ++ ms.drop f) x == some u)) = true
      rw [atL_take hkl (by omega)]
      exact hm2.2
  have hm3 : meetB i t (joinA i t es x u ms).l x u ms = true := by
    unfold meetB at hm ⊢
    simp only [Bool.and_eq_true] at hm ⊢
    exact ⟨hm.1, hx⟩
  refine join_same hk hm3 (fstO_none_of fun j e hj => ?_)
  unfold oth
  by_cases hi : i < e.i
  · rw [hh j e hj hi]; simp
  · rw [decide_eq_false hi]; rfl
/-- How many rows were kept. -/
def keptN (i : Int) (es : List Er) (J : Jn) : Nat := if 0 < J.cut then (J.cut - i - 1).toNat else es.length
theorem join_kept {i t : Int} {es ms : List Er} {x u : Int} (h : okL i t es = true) (hy : (joinA i t es x u ms).ok = true) :
    keptN i es (joinA i t es x u ms) ≤ es.length ∧ keptN i es (joinA i t es x u ms) ≤ (joinA i t es x u ms).l.length ∧ (joinA i t es x u ms).l.take (keptN i es (joinA i t es x u ms)) = es.take (keptN i es (joinA i t es x u ms)) ∧
      (0 < (joinA i t es x u ms).cut → (joinA i t es x u ms).cut = i + keptN i es (joinA i t es x u ms) + 1) ∧ (joinA i t es x u ms).cut ≤ i + es.length := by
  have h0 := (okL_iff.1 h).1
  obtain ⟨hm, ⟨hJ, hf⟩ | ⟨f, k, e, hf, he, hei, hkl, hJ⟩⟩ := join_yes h hy
  · rw [hJ]
    refine ⟨?_, ?_, rfl, fun hc => absurd hc (Int.lt_irrefl 0), ?_⟩
    · show (if (0 : Int) < 0 then _ else es.length) ≤ _; rw [if_neg (by decide)]; exact Nat.le_refl _
    · show (if (0 : Int) < 0 then _ else es.length) ≤ es.length; rw [if_neg (by decide)]; exact Nat.le_refl _
    · show (0 : Int) ≤ _; omega
  · have hK : keptN i es (joinA i t es x u ms) = k := by
      rw [hJ]
      unfold keptN
      by_cases hin : e.i ≤ i + es.length
      · simp only [if_pos hin]
        rw [if_pos (by omega)]; omega
      · simp only [if_neg hin]
        rw [if_neg (by omega)]; omega
    rw [hK, hJ]
    have hl : (es.take k).length = k := by rw [List.length_take]; omega
    refine ⟨hkl, ?_, List.take_left' hl, fun hc => ?_, ?_⟩
    · show k ≤ (es.take k ++ ms.drop f).length
      rw [List.length_append, hl]; omega
    · by_cases hin : e.i ≤ i + es.length
      · show (if e.i ≤ i + es.length then e.i else 0) = _; rw [if_pos hin]; exact hei
      · exfalso; simp only [if_neg hin] at hc; omega
    · show (if e.i ≤ i + es.length then e.i else 0) ≤ _
      split <;> omega
theorem join_len {i t : Int} {es ms : List Er} {x u : Int} (h : okL i t es = true) (hy : (joinA i t es x u ms).ok = true) : (joinA i t es x u ms).l.length ≤ es.length + ms.length := by
  obtain ⟨hm, ⟨hJ, hf⟩ | ⟨f, k, e, hf, he, hei, hkl, hJ⟩⟩ := join_yes h hy
  · rw [hJ]; exact Nat.le_add_right _ _
  · rw [hJ]
    show (es.take k ++ ms.drop f).length ≤ _
    rw [List.length_append, List.length_take, List.length_drop]; omega
theorem join_term {i t : Int} {es ms : List Er} {x u : Int} (h : okL i t es = true) (hy : (joinA i t es x u ms).ok = true) (n : Nat) (y : Er) (hn : ms[n]? = some y) (hi : i < y.i) : termO i t (joinA i t es x u ms).l y.i = some y.t := by
  unfold termO
  rw [joinA_ok h, if_pos rfl]
  exact join_has h hy n y hn hi
end Go.Proofs.Ytdplohbbeknclaa
