/-
  The example, reckoned.
-/
import Derived.Test.YtcbgnmolfdhnfaaHA
namespace Go.Proofs.Ytcbgnmolfdhnfaa
set_option linter.unusedVariables false
set_option linter.unusedSimpArgs false
open Go.RowKit

def rotC (n x : Nat) : Nat := x % 2^(64-n) * 2^n + x / 2^(64-n)
def mixC (s : W4) : W4 :=
  let a1 := (s.a + s.b) % 18446744073709551616
  let b1 := rotC 13 s.b ^^^ a1
  let a2 := rotC 32 a1
  let c1 := (s.c + s.d) % 18446744073709551616
  let d1 := rotC 16 s.d ^^^ c1
  let a3 := (a2 + d1) % 18446744073709551616
  let d2 := rotC 21 d1 ^^^ a3
  let c2 := (c1 + b1) % 18446744073709551616
  let b2 := rotC 17 b1 ^^^ c2
  let c3 := rotC 32 c2
  ⟨a3, b2, c3, d2⟩
theorem mix_C (s : W4) : s.mix = mixC s := by
  simp only [W4.mix, W4.s0, W4.s1, W4.s2, W4.s3, W4.s4, W4.s5, W4.s6, W4.s7, W4.s8, W4.s9, rot_eq, mixC, rotC]
def takeC (s : W4) (m : Nat) : W4 :=
  let t := mixC (mixC ⟨s.a, s.b, s.c, s.d ^^^ m⟩)
  ⟨t.a ^^^ m, t.b, t.c, t.d⟩
theorem take_C (s : W4) (m : Nat) : s.take m = takeC s m := by
  simp only [W4.take, W4.pre, W4.post, mix_C, takeC]
def eatsC (s : W4) (xs : List Int) : Nat → W4
  | 0 => s
  | n + 1 => takeC (eatsC s xs n) (oct xs n)
theorem eats_C (s : W4) (xs : List Int) : ∀ n, eats s xs n = eatsC s xs n
  | 0 => rfl
  | n + 1 => by rw [eats, eatsC, eats_C s xs n, take_C]
def sumC (a b : Nat) (xs : List Int) : Nat :=
  let s := takeC (eatsC ⟨a ^^^ k0, b ^^^ k1, a ^^^ k2, b ^^^ k3⟩ xs (xs.length / 8)) (lastW xs)
  let t := mixC (mixC (mixC (mixC ⟨s.a, s.b, s.c ^^^ 255, s.d⟩)))
  t.a ^^^ t.b ^^^ t.c ^^^ t.d
theorem sum_C (a b : Nat) (xs : List Int) : sumN a b xs = sumC a b xs := by
  simp only [sumN, fin4, W4.out, W4.flip, W4.seed, eats_C, take_C, mix_C, sumC]

/-- The example's seed, key and value. -/
def exS : Sd := ⟨506097522914230528, 1084818905618843912⟩
theorem exS_ok : exS.Ok := by unfold Sd.Ok exS; exact ⟨by decide, by decide⟩
def exK : ByteArray := ⟨#[97]⟩
def exV : ByteArray := ⟨#[49]⟩
theorem ex_bytes : sumN exS.a exS.b [0, 1, 2, 3, 4, 5, 6, 7, 8, 9, 10, 11, 12, 13, 14] = 11613035633349379557 := by
  rw [sum_C]; decide +kernel
end Go.Proofs.Ytcbgnmolfdhnfaa
