/-
  Both readers, ask by ask: they stand alike before, answer alike, and stand alike behind.
-/
import Derived.Test.YtpdabpcdmenlaaaDoorRS5
import Derived.Test.YtpdabpcdmenlaaaDoorBackW
namespace Go.Proofs.YtpdabpcdmenlaaaDoor
set_option linter.unusedVariables false
set_option linter.unusedSimpArgs false
open Go.RowKit

def RC (f : FuncId) (args : Value → Array Value) (v : Value) (n : Nat) (xs : List Int) (i : Nat) (err : Int) (i' : Nat) (err' : Int) : Prop :=
  ∀ (w : World) (rb g cap : Nat), RS w rb g n cap xs i err → Calls Tryd.prog f (args (.pointer (some ⟨rb, 0, none⟩))) w (Out v w rb g n cap xs i' err')

def XC (f : FuncId) (args : Value → Array Value) (v : Value) (n : Nat) (xs : List Int) (i : Nat) (err : Int) (i' : Nat) (err' : Int) : Prop :=
  ∀ (w : World) (xb : Nat) (p : Option Addr) (c : Nat), XS w xb p n c xs i err → Calls Tryd.prog f (args (.pointer (some ⟨xb, 0, none⟩))) w (XOut v w xb p n c xs i' err')

theorem step_within (xs : List Int) (n i : Nat) (err : Int) (lo hi : Int) : ∃ (z : Int) (i' : Nat) (err' : Int),
    RC 33 (fun q => #[q, .int .i64 lo, .int .i64 hi]) (.int .i64 z) n xs i err i' err' ∧
    XC 34 (fun q => #[q, .int .i64 lo, .int .i64 hi]) (.int .i64 z) n xs i err i' err' := by
  by_cases he : err = 0
  · subst he
    obtain ⟨N, S, E, ht⟩ : ∃ N S E, numAt (xs.drop i) = (N, S, E) := ⟨_, _, _, rfl⟩
    by_cases hE : E = 0
    · subst hE
      by_cases h1 : (N : Int) < lo
      · exact ⟨0, i, 5, fun w rb g cap h => Within_range h lo hi N S ht (.inl h1), fun w xb p c h => XWithin_low h lo hi N S ht h1⟩
      by_cases h2 : hi < (N : Int)
      · exact ⟨0, i, 5, fun w rb g cap h => Within_range h lo hi N S ht (.inr h2), fun w xb p c h => XWithin_high h lo hi N S ht h1 h2⟩
      · exact ⟨N, i + S, 0, fun w rb g cap h => Within_ok h lo hi N S ht h1 h2 (numAt_size h N S ht).1, fun w xb p c h => XWithin_ok h lo hi N S ht h1 h2⟩
    · exact ⟨0, i, E, fun w rb g cap h => Within_bad h lo hi (N, S, E) ht hE, fun w xb p c h => XWithin_bad h lo hi N S E ht hE⟩
  · exact ⟨0, i, err, fun w rb g cap h => Within_err h lo hi he, fun w xb p c h => XWithin_err h lo hi he⟩

theorem step_number (xs : List Int) (n i : Nat) (err : Int) : ∃ (z : Int) (i' : Nat) (err' : Int),
    RC 31 (fun q => #[q]) (.int .i64 z) n xs i err i' err' ∧
    XC 32 (fun q => #[q]) (.int .i64 z) n xs i err i' err' := by
  by_cases he : err = 0
  · subst he
    obtain ⟨N, S, E, ht⟩ : ∃ N S E, numAt (xs.drop i) = (N, S, E) := ⟨_, _, _, rfl⟩
    by_cases hE : E = 0
    · subst hE
      refine ⟨N, i + S, 0, fun w rb g cap h => ?_, fun w xb p c h => XNumber_ok h N S ht⟩
      have h1 := Number_rs h
      have h2 := (numAt_size h N S ht).2
      rw [if_neg (by simp), ht] at h1
      have hw : withinOf 0 9223372036854775807 (N, S, 0) = (N, S, 0) := by unfold withinOf; rw [if_neg (by simp), if_neg (by simp only []; omega)]
      rw [hw] at h1
      exact h1
    · refine ⟨0, i, E, fun w rb g cap h => ?_, fun w xb p c h => XNumber_bad h N S E ht hE⟩
      have h1 := Number_rs h
      have hw : withinOf 0 9223372036854775807 (N, S, E) = (0, 0, E) := by unfold withinOf; rw [if_pos hE]
      rw [if_neg (by simp), ht, hw] at h1
      exact h1
  · refine ⟨0, i, err, fun w rb g cap h => ?_, fun w xb p c h => XNumber_err h he⟩
    have h1 := Number_rs h
    rw [if_pos he] at h1
    exact h1

theorem step_flag (xs : List Int) (n i : Nat) (err : Int) : ∃ (r : Bool) (i' : Nat) (err' : Int),
    RC 39 (fun q => #[q]) (.bool r) n xs i err i' err' ∧
    XC 40 (fun q => #[q]) (.bool r) n xs i err i' err' := by
  by_cases he : err = 0
  · subst he
    obtain ⟨N, S, E, ht⟩ : ∃ N S E, numAt (xs.drop i) = (N, S, E) := ⟨_, _, _, rfl⟩
    by_cases hE : E = 0
    · subst hE
      by_cases h1 : 1 < N
      · exact ⟨false, i, 11, fun w rb g cap h => Flag_bad h N S 0 11 ht (.inr ⟨rfl, h1, rfl⟩), fun w xb p c h => XFlag_more h N S ht (by omega)⟩
      · exact ⟨_, i + S, 0, fun w rb g cap h => Flag_ok h N S ht (by omega) _ rfl, fun w xb p c h => XFlag_ok h N S ht (by omega) _ rfl⟩
    · exact ⟨false, i, E, fun w rb g cap h => Flag_bad h N S E E ht (.inl ⟨hE, rfl⟩), fun w xb p c h => XFlag_bad h N S E ht hE⟩
  · exact ⟨false, i, err, fun w rb g cap h => Flag_err h he, fun w xb p c h => XFlag_err h he⟩

theorem step_signed (xs : List Int) (n i : Nat) (err : Int) : ∃ (z : Int) (i' : Nat) (err' : Int),
    RC 35 (fun q => #[q]) (.int .i64 z) n xs i err i' err' ∧
    XC 36 (fun q => #[q]) (.int .i64 z) n xs i err i' err' := by
  by_cases he : err = 0
  · subst he
    by_cases h8 : i + 8 ≤ n
    · exact ⟨_, i + 8, 0, fun w rb g cap h => Signed_ok h h8, fun w xb p c h => XSigned_ok h h8⟩
    · exact ⟨0, i, 2, fun w rb g cap h => Signed_short h (by omega), fun w xb p c h => XSigned_short h (by omega)⟩
  · exact ⟨0, i, err, fun w rb g cap h => Signed_err h he, fun w xb p c h => XSigned_err h he⟩

theorem step_text (xs : List Int) (n i : Nat) (err : Int) (most : Int) (hm0 : -9223372036854775808 ≤ most) (hm1 : most ≤ 9223372036854775807) (hi : i ≤ n) : ∃ (s : ByteArray) (i' : Nat) (err' : Int),
    RC 37 (fun q => #[q, .int .i64 most]) (.string s) n xs i err i' err' ∧
    XC 38 (fun q => #[q, .int .i64 most]) (.string s) n xs i err i' err' := by
  by_cases he : err = 0
  · subst he
    obtain ⟨N, S, E, ht⟩ : ∃ N S E, numAt (xs.drop i) = (N, S, E) := ⟨_, _, _, rfl⟩
    obtain ⟨M, hM⟩ : ∃ M : Nat, max most 0 = (M : Int) := ⟨(max most 0).toNat, by omega⟩
    by_cases hE : E = 0
    · subst hE
      by_cases h1 : 0 < (N : Int) ∧ most < (N : Int)
      · exact ⟨_, i, 4, fun w rb g cap h => Text_bad h most N S M 0 4 ht hM (.inl (by have := (numAt_size h N S ht).1; omega)) (by have := numAt_ok (xs.drop i) (fun x hx => h.rng x (List.mem_of_mem_drop hx)) (by rw [ht]); rw [ht] at this; exact this.2.1) (.inr (.inl ⟨rfl, by omega, rfl⟩)), fun w xb p c h => XText_long h most N S ht h1.1 h1.2⟩
      by_cases h2 : i + S + N ≤ n
      · refine ⟨_, i + S + N, 0, fun w rb g cap h => Text_good h most N S ht (by omega) h2, fun w xb p c h => ?_⟩
        by_cases h0 : 0 < (N : Int)
        · exact XText_ok h most N S ht h0 (fun hh => h1 ⟨h0, hh⟩) h2
        · obtain rfl : N = 0 := by omega
          by_cases hic : c = i + S
          · exact XText_full0 h most S ht hic
          · exact XText_ok0 h most 0 S ht (by omega) h2 hic
      · refine ⟨_, i, 2, fun w rb g cap h => Text_bad h most N S M 0 2 ht hM (.inl (by have := (numAt_size h N S ht).1; omega)) (by have := numAt_ok (xs.drop i) (fun x hx => h.rng x (List.mem_of_mem_drop hx)) (by rw [ht]); rw [ht] at this; exact this.2.1) (.inr (.inr ⟨rfl, by omega, by have := (numAt_size h N S ht).1; omega, rfl⟩)), fun w xb p c h => ?_⟩
        have hs := xs_ok h N S ht
        exact XText_short h most N S ht (by omega) (fun hh => h1 ⟨by omega, hh⟩) (by omega)
    · exact ⟨_, i, E, fun w rb g cap h => Text_bad h most N S M E E ht hM (.inr hE) (by have := numAt_err (xs.drop i); rw [ht] at this; rcases this with h | h; exact h; exact absurd h hE) (.inl ⟨hE, rfl⟩), fun w xb p c h => XText_bad h most N S E ht hE⟩
  · exact ⟨_, i, err, fun w rb g cap h => Text_err h most he, fun w xb p c h => XText_err h most he⟩

end Go.Proofs.YtpdabpcdmenlaaaDoor
