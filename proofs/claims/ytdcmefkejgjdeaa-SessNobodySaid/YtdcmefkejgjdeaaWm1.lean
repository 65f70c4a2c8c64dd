/-
  Plain facts on numbers as bytes: no program in it.
-/
import Derived.Lib.BitFns
namespace Go.Proofs.Ytdcmefkejgjdeaa
set_option linter.unusedVariables false
set_option linter.unusedSimpArgs false

/-- The lowest k bytes of u, the highest one first. -/
def be (u : Nat) : Nat → List Int
  | 0 => []
  | k + 1 => (u : Int) / 2 ^ (8 * k) % 256 :: be u k

theorem be_length (u k : Nat) : (be u k).length = k := by induction k <;> simp [be, *]

/-- How many bytes a number has. -/
def wide (u : Nat) : Nat := (Lib.bitLen u + 7) / 8

/-- A number's bytes: how many, and these. -/
def num (u : Nat) : List Int := (wide u : Int) :: be u (wide u)

theorem be_byte (u k : Nat) : ∀ x ∈ be u k, 0 ≤ x ∧ x < 256 := by
  induction k with
  | zero => simp [be]
  | succ k ih =>
    intro x hx
    rcases List.mem_cons.1 hx with rfl | hx
    · omega
    · exact ih x hx

end Go.Proofs.Ytdcmefkejgjdeaa
