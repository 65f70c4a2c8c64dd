/-
  A word of bytes, walked; a word taken in.
-/
import Derived.Test.YtdgnjalbpiciiaaD5
import Derived.IntWalk
import Derived.Test.YtdgnjalbpiciiaaWA
namespace Go.Proofs.Ytdgnjalbpiciiaa.Dg
open Go.Proofs.Ytdgnjalbpiciiaa
set_option linter.unusedVariables false
set_option linter.unusedSimpArgs false
open Go.RowKit

theorem shlw {x : Nat} (hx : x < 256) (i : Nat) (hi : i < 8) : IntKind.u64.wrap ((x : Int) * 2 ^ (8 * i)) = ((x * 256 ^ i : Nat) : Int) := by
  rw [IntKind.wrap_u64]
  have h : i = 0 ∨ i = 1 ∨ i = 2 ∨ i = 3 ∨ i = 4 ∨ i = 5 ∨ i = 6 ∨ i = 7 := by omega
  rcases h with rfl | rfl | rfl | rfl | rfl | rfl | rfl | rfl <;> simp <;> omega
theorem orw {a x i : Nat} (ha : a < 256 ^ i) (hx : x < 256) (hi : i < 8) : bits .or .u64 (a : Int) ((x * 256 ^ i : Nat) : Int) = ((a + x * 256 ^ i : Nat) : Int) := by
  have e : (256 : Nat) ^ i = 2 ^ (8 * i) := by rw [show (256 : Nat) = 2 ^ 8 from rfl, ← Nat.pow_mul]
  have h1 : (256 : Nat) ^ (i + 1) ≤ 256 ^ 8 := Nat.pow_le_pow_right (by decide) (by omega)
  have h2 : (256 : Nat) ^ 8 = 18446744073709551616 := by decide
  have h3 : x * 256 ^ i + 256 ^ i ≤ 256 ^ (i + 1) := by rw [Nat.pow_succ]; have := Nat.mul_le_mul_right (256 ^ i) (show x + 1 ≤ 256 by omega); rw [Nat.add_mul, Nat.one_mul] at this; omega
  rw [bits_or_u64_nat _ _ (by omega) (by omega), Nat.or_comm, e, or_add (by rw [← e]; exact ha), Nat.add_comm]

set_option maxRecDepth 100000 in
set_option maxHeartbeats 1600000 in
theorem word_any {w : World} {p : Option Addr} {n c : Nat} {xs : List Int} (hb : Lib.BytesIn w p n xs) (hx : xs.length = n) (ho : Oct xs) (h8 : n ≤ 8) : Calls Try.prog 97 #[.slice p n c] w fun e w' => e = .returned (.int .u64 (wordOf xs : Nat)) ∧ w = w' := by
  have HB := Lib.hid hb
  have HX := Lib.hid hx
  have HO := Lib.hid ho
  clear hb hx ho
  go_enter Try.func97, Try.ntmps97
  go_wp2_with fail
  go_loop [3, 8] (fun u v => ∃ i : Nat, v = .int .i64 i ∧ i ≤ n ∧ u = .int .u64 (wordOf (xs.take i) : Nat)) (fun _ v => n - (intOf v).toNat)
  case atStart => exact ⟨0, rfl, Nat.zero_le _, rfl⟩
  case round =>
    obtain ⟨i, rfl, hi, rfl⟩ := hrel
    by_cases hlt : i < n
    · obtain ⟨b, o, rfl, hc⟩ := HB.out (by omega)
      have hci := hc i hlt
      clear hc
      have hxi := HO.out (xs.getD i 0) (by have := HX.out; rw [List.getD_eq_getElem?_getD, List.getElem?_eq_getElem (by omega)]; exact List.getElem_mem _)
      obtain ⟨x, hxe⟩ : ∃ x : Nat, xs.getD i 0 = x := ⟨(xs.getD i 0).toNat, by omega⟩
      have HS := Lib.hid (wordOf_step (xs := xs) (i := i) (by have := HX.out; omega))
      rw [hxe] at hci hxi HS
      have hx2 : x < 256 := by omega
      have HW := Lib.hid (wordOf_lt (HO.out.take i))
      have HL : Hid ((xs.take i).length = i) := by show _ = _; have := HX.out; simp; omega
      clear hxe hxi
      go_wp2_with fail
      rw [shlw hx2 i (by omega), orw (by have h := HW.out; rwa [HL.out] at h) hx2 (by omega)]
      exact ⟨⟨i + 1, by push_cast; rfl, by omega, by rw [HS.out]; rfl⟩, by simp [intOf]; omega⟩
    · obtain rfl : i = n := by omega
      go_wp2_with fail
      rw [List.take_of_length_le (by have := HX.out; omega)]
      go_ret
      exact ⟨rfl, rfl⟩

theorem At4.base {w0 w : World} {g : Nat} {s : W4} (h : At4 w0 w g s) : At4 w w g s := ⟨h.a, h.b, h.c, h.d, h.fz, Below.refl _ _, fun _ _ => rfl⟩
theorem At4.trans {w0 w1 w2 : World} {g : Nat} {s t : W4} (h : At4 w0 w1 g s) (k : At4 w1 w2 g t) : At4 w0 w2 g t := ⟨k.a, k.b, k.c, k.d, k.fz, h.be.trans k.be, fun j hj => (k.ab j hj).trans (h.ab j hj)⟩

set_option maxRecDepth 100000 in
set_option maxHeartbeats 1600000 in
theorem take_any {w : World} {g : Nat} {s : W4} {m : Nat} (h : At4 w w g s) (ho : s.Ok) (hm : m < 18446744073709551616) : Calls Try.prog 96 #[.pointer (some ⟨g, 0, none⟩), .int .u64 m] w fun e w' => e = .returned (.tuple #[]) ∧ At4 w w' g (s.take m) := by
  have HA := Lib.hid h
  have HO := Lib.hid ho
  have HP := Lib.hid (ho.pre hm)
  have qd := h.d
  have qz := h.fz 3
  have qx := Lib.hid (show bits .xor .u64 (s.d : Int) (m : Int) = (((s.pre m).d : Nat) : Int) from xorw ho.2.2.2 hm)
  clear h ho
  go_enter Try.func96, Try.ntmps96
  go_upto_region 1 with fail
  rw [qx.out]
  have HB : Hid (At4 w (w.setCell ⟨g, 3, none⟩ (.int .u64 ((s.pre m).d : Nat))) g (s.pre m)) := Lib.hid (HA.out.putd _)
  clear HA qd qz qx
  generalize w.setCell ⟨g, 3, none⟩ (.int .u64 ((s.pre m).d : Nat)) = w1 at *
  go_wp2_with fail
  go_fit (mix_any HB.out.base HP.out)
  rintro e w2 ⟨rfl, h2⟩
  have H2 := Lib.hid (HB.out.trans h2)
  clear HB h2
  go_wp2_with fail
  go_fit (mix_any H2.out.base HP.out.mix)
  rintro e w3 ⟨rfl, h3⟩
  have H3 := Lib.hid (H2.out.trans h3)
  clear H2 h3
  have qa := H3.out.a
  have qz := H3.out.fz 0
  have qx := Lib.hid (show bits .xor .u64 ((s.pre m).mix.mix.a : Int) (m : Int) = (((s.take m).a : Nat) : Int) from xorw HP.out.mix.mix.1 hm)
  go_wp2_with fail
  try rw [qx.out]
  go_end0
  exact ⟨rfl, H3.out.puta _⟩
end Go.Proofs.Ytdgnjalbpiciiaa.Dg
