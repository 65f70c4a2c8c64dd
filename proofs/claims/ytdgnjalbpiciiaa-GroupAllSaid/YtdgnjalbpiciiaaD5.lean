/-
  The digest of bytes, plainly.
-/
import Derived.Test.YtdgnjalbpiciiaaD4
namespace Go.Proofs.Ytdgnjalbpiciiaa.Dg
open Go.Proofs.Ytdgnjalbpiciiaa
set_option linter.unusedVariables false
set_option linter.unusedSimpArgs false
open Go.RowKit

/-- Bytes as a number, the lowest first. -/
def wordOf : List Int → Nat
  | [] => 0
  | x :: xs => x.toNat + 256 * wordOf xs
def Oct (xs : List Int) : Prop := ∀ x ∈ xs, 0 ≤ x ∧ x < 256
theorem Oct.take {xs : List Int} (h : Oct xs) (n : Nat) : Oct (xs.take n) := fun x hx => h x (List.mem_of_mem_take hx)
theorem Oct.drop {xs : List Int} (h : Oct xs) (n : Nat) : Oct (xs.drop n) := fun x hx => h x (List.mem_of_mem_drop hx)
theorem wordOf_lt : ∀ {xs : List Int}, Oct xs → wordOf xs < 256 ^ xs.length
  | [], _ => by simp [wordOf]
  | x :: xs, h => by
    have ih := wordOf_lt (xs := xs) (fun y hy => h y (by simp [hy]))
    have hx := h x (by simp)
    simp only [wordOf, List.length_cons, Nat.pow_succ]
    omega
theorem wordOf_snoc : ∀ (xs : List Int) (y : Int), wordOf (xs ++ [y]) = wordOf xs + y.toNat * 256 ^ xs.length
  | [], y => by simp [wordOf]
  | x :: xs, y => by
    simp only [List.cons_append, wordOf, wordOf_snoc xs y, List.length_cons, Nat.pow_succ]
    have : 256 * (y.toNat * 256 ^ xs.length) = y.toNat * (256 ^ xs.length * 256) := by rw [Nat.mul_comm 256, Nat.mul_assoc]
    omega
theorem wordOf_step {xs : List Int} {i : Nat} (h : i < xs.length) : wordOf (xs.take (i + 1)) = wordOf (xs.take i) + (xs.getD i 0).toNat * 256 ^ i := by
  rw [List.take_add_one, List.getElem?_eq_getElem h, Option.toList_some, wordOf_snoc]
  simp [h, Nat.min_eq_left (Nat.le_of_lt h)]
/-- A word taken in. -/
noncomputable def W4.pre (s : W4) (m : Nat) : W4 := {s with d := s.d ^^^ m}
noncomputable def W4.post (s : W4) (m : Nat) : W4 := {s with a := s.a ^^^ m}
noncomputable def W4.take (s : W4) (m : Nat) : W4 := (s.pre m).mix.mix.post m
theorem W4.Ok.pre {s : W4} (h : s.Ok) {m : Nat} (hm : m < 18446744073709551616) : (s.pre m).Ok := ⟨h.1, h.2.1, h.2.2.1, xorw_lt h.2.2.2 hm⟩
theorem W4.Ok.post {s : W4} (h : s.Ok) {m : Nat} (hm : m < 18446744073709551616) : (s.post m).Ok := ⟨xorw_lt h.1 hm, h.2.1, h.2.2.1, h.2.2.2⟩
theorem W4.Ok.take {s : W4} (h : s.Ok) {m : Nat} (hm : m < 18446744073709551616) : (s.take m).Ok := (h.pre hm).mix.mix.post hm
/-- The n-th eight bytes. -/
def oct (xs : List Int) (n : Nat) : Nat := wordOf ((xs.drop (8 * n)).take 8)
theorem oct_lt {xs : List Int} (h : Oct xs) (n : Nat) : oct xs n < 18446744073709551616 := by
  have h1 := wordOf_lt ((h.drop (8 * n)).take 8)
  have h2 : ((xs.drop (8 * n)).take 8).length ≤ 8 := List.length_take_le _ _
  have h3 : (256 : Nat) ^ ((xs.drop (8 * n)).take 8).length ≤ 256 ^ 8 := Nat.pow_le_pow_right (by decide) h2
  unfold oct
  have : (256 : Nat) ^ 8 = 18446744073709551616 := by decide
  omega
noncomputable def eats (s : W4) (xs : List Int) : Nat → W4
  | 0 => s
  | n + 1 => (eats s xs n).take (oct xs n)
theorem eats_ok {s : W4} (h : s.Ok) {xs : List Int} (hx : Oct xs) : ∀ n, (eats s xs n).Ok
  | 0 => h
  | n + 1 => (eats_ok h hx n).take (oct_lt hx n)
def k0 : Nat := 0x736f6d6570736575
def k1 : Nat := 0x646f72616e646f6d
def k2 : Nat := 0x6c7967656e657261
def k3 : Nat := 0x7465646279746573
noncomputable def W4.seed (a b : Nat) : W4 := ⟨a ^^^ k0, b ^^^ k1, a ^^^ k2, b ^^^ k3⟩
theorem W4.seed_ok {a b : Nat} (ha : a < 18446744073709551616) (hb : b < 18446744073709551616) : (W4.seed a b).Ok :=
  ⟨xorw_lt ha (by decide), xorw_lt hb (by decide), xorw_lt ha (by decide), xorw_lt hb (by decide)⟩
/-- The last word: what is left, and how many there are. -/
def lastW (xs : List Int) : Nat := wordOf (xs.drop (8 * (xs.length / 8))) + xs.length % 256 * 72057594037927936
theorem rest_lt {xs : List Int} (h : Oct xs) : wordOf (xs.drop (8 * (xs.length / 8))) < 72057594037927936 := by
  have h1 := wordOf_lt (h.drop (8 * (xs.length / 8)))
  have h2 : (xs.drop (8 * (xs.length / 8))).length ≤ 7 := by simp; omega
  have h3 : (256 : Nat) ^ (xs.drop (8 * (xs.length / 8))).length ≤ 256 ^ 7 := Nat.pow_le_pow_right (by decide) h2
  have : (256 : Nat) ^ 7 = 72057594037927936 := by decide
  omega
theorem lastW_lt {xs : List Int} (h : Oct xs) : lastW xs < 18446744073709551616 := by
  have := rest_lt h
  unfold lastW
  omega
noncomputable def W4.flip (s : W4) : W4 := {s with c := s.c ^^^ 255}
theorem W4.Ok.flip {s : W4} (h : s.Ok) : s.flip.Ok := ⟨h.1, h.2.1, xorw_lt h.2.2.1 (by decide), h.2.2.2⟩
noncomputable def W4.out (s : W4) : Nat := s.a ^^^ s.b ^^^ s.c ^^^ s.d
theorem W4.Ok.out {s : W4} (h : s.Ok) : s.out < 18446744073709551616 := xorw_lt (xorw_lt (xorw_lt h.1 h.2.1) h.2.2.1) h.2.2.2
noncomputable def fin4 (s : W4) (xs : List Int) : W4 := (s.take (lastW xs)).flip.mix.mix.mix.mix
/-- The digest of bytes. -/
noncomputable def sumN (a b : Nat) (xs : List Int) : Nat := (fin4 (eats (W4.seed a b) xs (xs.length / 8)) xs).out
theorem sumN_lt {a b : Nat} {xs : List Int} (ha : a < 18446744073709551616) (hb : b < 18446744073709551616) (h : Oct xs) : sumN a b xs < 18446744073709551616 :=
  ((((((eats_ok (W4.seed_ok ha hb) h _).take (lastW_lt h)).flip).mix.mix.mix.mix))).out
end Go.Proofs.Ytdgnjalbpiciiaa.Dg
