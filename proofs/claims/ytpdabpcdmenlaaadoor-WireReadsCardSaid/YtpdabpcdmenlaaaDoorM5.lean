/-
  Plain facts: a frame of which one byte is another one is no frame of as many bytes.
-/
import Derived.Test.YtpdabpcdmenlaaaDoorM4
namespace Go.Proofs.YtpdabpcdmenlaaaDoor
set_option linter.unusedVariables false
set_option linter.unusedSimpArgs false

theorem tab_low : ∀ i j : Fin 16, tabAt i.val / 268435456 = tabAt j.val / 268435456 → i = j := by decide

theorem xor_cancel {a b c : Nat} (h : a ^^^ c = b ^^^ c) : a = b := by
  have := congrArg (· ^^^ c) h
  simpa [Nat.xor_assoc] using this

theorem div_xor (a b k : Nat) : (a ^^^ b) / 2 ^ k = a / 2 ^ k ^^^ b / 2 ^ k := by
  rw [← Nat.shiftRight_eq_div_pow, ← Nat.shiftRight_eq_div_pow, ← Nat.shiftRight_eq_div_pow, Nat.shiftRight_xor_distrib]

/-- Four bits of a sum may be undone. -/
theorem four_inj {a b : Nat} (ha : a < 4294967296) (hb : b < 4294967296) (h : four a = four b) : a = b := by
  unfold four at h
  have h2 := congrArg (· / 2 ^ 28) h
  simp only [div_xor] at h2
  have a0 : a / 16 / 2 ^ 28 = 0 := by omega
  have b0 : b / 16 / 2 ^ 28 = 0 := by omega
  rw [a0, b0] at h2
  simp only [Nat.zero_xor] at h2
  have e := tab_low ⟨a % 16, by omega⟩ ⟨b % 16, by omega⟩ h2
  have e' : a % 16 = b % 16 := congrArg Fin.val e
  rw [e'] at h
  have := xor_cancel h
  omega

theorem xor_lt (c : Nat) (x : Int) (hc : c < 4294967296) (hx : x < 256) : c ^^^ x.toNat < 4294967296 := xor_u32_lt _ _ hc (by omega)

theorem upd_inj {a b : Nat} {x : Int} (ha : a < 4294967296) (hb : b < 4294967296) (hx : x < 256) (h : upd a x = upd b x) : a = b :=
  xor_cancel (four_inj (xor_lt a x ha hx) (xor_lt b x hb hx) (four_inj (four_lt _ (xor_lt a x ha hx)) (four_lt _ (xor_lt b x hb hx)) h))

theorem upd_inj2 {a : Nat} {x y : Int} (ha : a < 4294967296) (hx : 0 ≤ x ∧ x < 256) (hy : 0 ≤ y ∧ y < 256) (h : upd a x = upd a y) : x = y := by
  have h1 := four_inj (xor_lt a x ha hx.2) (xor_lt a y ha hy.2) (four_inj (four_lt _ (xor_lt a x ha hx.2)) (four_lt _ (xor_lt a y ha hy.2)) h)
  rw [Nat.xor_comm a, Nat.xor_comm a] at h1
  have := xor_cancel h1
  omega

theorem fold_inj : ∀ (l : List Int) (a b : Nat), (∀ x ∈ l, x < 256) → a < 4294967296 → b < 4294967296 → l.foldl upd a = l.foldl upd b → a = b
  | [], _, _, _, _, _, h => h
  | x :: l, a, b, hl, ha, hb, h => by
    have hx := hl x (by simp)
    exact upd_inj ha hb hx (fold_inj l _ _ (fun y hy => hl y (by simp [hy])) (upd_lt a x ha hx) (upd_lt b x hb hx) h)

/-- The sum of bytes of which one is another one is another one. -/
theorem crc_turned (l r : List Int) (x y : Int) (hl : ∀ z ∈ l, 0 ≤ z ∧ z < 256) (hr : ∀ z ∈ r, 0 ≤ z ∧ z < 256) (hx : 0 ≤ x ∧ x < 256) (hy : 0 ≤ y ∧ y < 256) (h : crc (l ++ x :: r) = crc (l ++ y :: r)) : x = y := by
  unfold crc at h
  rw [List.foldl_append, List.foldl_append, List.foldl_cons, List.foldl_cons] at h
  have hc := fold_lt l (fun z hz => (hl z hz).2) 4294967295 (by decide)
  exact upd_inj2 hc hx hy (fold_inj r _ _ (fun z hz => (hr z hz).2) (upd_lt _ x hc hx.2) (upd_lt _ y hc hy.2) h)

theorem le4_sum4 (c : Nat) (hc : c < 4294967296) (r : List Int) : le4 (sum4 c ++ r) = c := by
  simp only [le4, sum4, List.cons_append, List.getD_cons_zero, List.getD_cons_succ]
  show ((c : Int) % 256).toNat + ((c : Int) / 256 % 256).toNat * 256 + ((c : Int) / 65536 % 256).toNat * 65536 + ((c : Int) / 16777216).toNat * 16777216 = c
  omega

end Go.Proofs.YtpdabpcdmenlaaaDoor
