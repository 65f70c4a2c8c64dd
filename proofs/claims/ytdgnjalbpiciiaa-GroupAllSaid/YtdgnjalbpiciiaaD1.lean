/-
  Turns of words.
-/
import Derived.Test.YtdgnjalbpiciiaaRows
import Derived.Test.YtdgnjalbpiciiaaShelf
import Derived.WalkKit
import Derived.WalkSpells
import Derived.WalkLawsBesides
namespace Go.Proofs.Ytdgnjalbpiciiaa.Dg
open Go.Proofs.Ytdgnjalbpiciiaa
set_option linter.unusedVariables false
set_option linter.unusedSimpArgs false
open Go.RowKit

/-- A word turned left once. -/
def rot1 (x : Nat) : Nat := x % 2^63 * 2 + x / 2^63
/-- A word turned left n times. -/
theorem rot_is : ∃ f : Nat → Nat → Nat, ∀ n x, f n x = x % 2^(64-n) * 2^n + x / 2^(64-n) := ⟨_, fun _ _ => rfl⟩
/-- Chosen, so that no kernel reckons it out (it would go through 2^n steps). -/
noncomputable def rot : Nat → Nat → Nat := Classical.choose rot_is
theorem rot_eq (n x : Nat) : rot n x = x % 2^(64-n) * 2^n + x / 2^(64-n) := Classical.choose_spec rot_is n x
theorem rot_zero {x : Nat} (h : x < 2^64) : rot 0 x = x := by rw [rot_eq]; simp; omega
theorem rot_succ {n x : Nat} (h : x < 2^64) (hn : n < 32) : rot (n + 1) x = rot1 (rot n x) := by
  unfold rot1
  rw [rot_eq, rot_eq]
  rcases n with _|_|_|_|_|_|_|_|_|_|_|_|_|_|_|_|_|_|_|_|_|_|_|_|_|_|_|_|_|_|_|_|n <;> first | (exfalso; omega) | (simp only [Nat.reduceAdd, Nat.reduceSub, Nat.reducePow]; omega)
theorem rot_lt {n x : Nat} (h : x < 2^64) (hn : n ≤ 32) : rot n x < 2^64 := by
  rw [rot_eq]
  rcases n with _|_|_|_|_|_|_|_|_|_|_|_|_|_|_|_|_|_|_|_|_|_|_|_|_|_|_|_|_|_|_|_|_|n <;> first | (exfalso; omega) | (simp only [Nat.reduceAdd, Nat.reduceSub, Nat.reducePow]; omega)
/-- One word's bits and another's, apart from one another. -/
theorem or_add {a b n : Nat} (hb : b < 2^n) : a * 2^n ||| b = a * 2^n + b := by
  rw [Nat.mul_comm, Nat.two_pow_add_eq_or_of_lt hb]
end Go.Proofs.Ytdgnjalbpiciiaa.Dg
