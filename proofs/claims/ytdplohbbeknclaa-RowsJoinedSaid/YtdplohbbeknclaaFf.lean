/-
  Plain facts of what was joined: fresh ends, what stands where.
-/
import Derived.Test.YtdplohbbeknclaaE4
namespace Go.Proofs.Ytdplohbbeknclaa
set_option linter.unusedVariables false
set_option linter.unusedSimpArgs false
open Go.RowKit

theorem join_end {i t : Int} {es ms : List Er} (h : okL i t es = true) (hok : (joinA i t es (i + es.length) (tm t es es.length) ms).ok = true) : (joinA i t es (i + es.length) (tm t es es.length) ms).l = es ++ ms := by
  cases hm : meetB i t es (i + es.length) (tm t es es.length) ms with
  | false => rw [join_unmet h hm] at hok; cases hok
  | true =>
    have hg := (meet_goR hm).1
    cases hf : fstO i t es ms with
    | none =>
      rw [join_same h hm hf]
      match ms, hf, hg with
      | [], _, _ => simp
      | e :: l, hf, hg =>
        have ho := fstO_none hf 0 e rfl
        have hi := (goR_get hg (k := 0) (e := e) rfl).1
        have := oth_false ho (by omega)
        unfold atL at this
        rw [if_neg (by omega)] at this
        cases this
    | some f =>
      obtain ⟨e, he, _⟩ := fstO_some hf
      have ha := fst_ahead hm hf he
      have hi := (goR_get hg he).1
      have hf0 : f = 0 := by omega
      by_cases hb : e.t < (atL i t es (e.i - 1)).getD 0
      · rw [join_bad h hm hf he hb] at hok; cases hok
      · rw [join_new h hm hf he hb]
        show es.take (e.i - 1 - i).toNat ++ ms.drop f = es ++ ms
        rw [show (e.i - 1 - i).toNat = es.length by omega, List.take_length, hf0, List.drop_zero]
theorem joinA_ok {i t : Int} {es ms : List Er} {x u : Int} (h : okL i t es = true) : okL i t (joinA i t es x u ms).l = true := by
  unfold joinA
  rw [if_pos h]
  exact okL_join h
theorem tm_app (t : Int) (es ms : List Er) : tm t (es ++ ms) es.length = tm t es es.length := by
  have := tm_take t (es ++ ms) es.length es.length (Nat.le_refl _) (by simp)
  rw [List.take_left] at this
  exact this.symm
theorem fresh_own {i t : Int} {es : List Er} (h : okL i t es = true) : freshB i t es (i + es.length) (tm t es es.length) = true := by
  unfold freshB
  rw [h]
  simp
theorem fresh_two {i t j s : Int} {es fs : List Er} (ha : okL i t es = true) (hb : okL j s fs = true) (hf : freshB i t es (j + fs.length) (tm s fs fs.length) = false) : freshB j s fs (i + es.length) (tm t es es.length) = true := by
  unfold freshB at hf ⊢
  rw [ha] at hf
  rw [hb]
  simp only [Bool.true_and, Bool.or_eq_false_iff, decide_eq_false_iff_not, Bool.and_eq_false_iff, beq_eq_false_iff_ne] at hf
  simp only [Bool.true_and, Bool.or_eq_true, decide_eq_true_eq, Bool.and_eq_true, beq_iff_eq]
  omega
theorem fresh_joined {i t : Int} {es ms : List Er} (h : okL i t es = true) (hk : okL i t (es ++ ms) = true) : freshB i t es (i + (es ++ ms).length) (tm t (es ++ ms) (es ++ ms).length) = true := by
  have hm := tm_mono (okL_iff.1 hk).2.2 (j := es.length) (k := (es ++ ms).length) (by simp) (Nat.le_refl _)
  rw [tm_app] at hm
  unfold freshB
  rw [h]
  simp only [Bool.true_and, Bool.or_eq_true, decide_eq_true_eq, Bool.and_eq_true, beq_iff_eq]
  have hl : es.length ≤ (es ++ ms).length := by simp
  omega
end Go.Proofs.Ytdplohbbeknclaa
