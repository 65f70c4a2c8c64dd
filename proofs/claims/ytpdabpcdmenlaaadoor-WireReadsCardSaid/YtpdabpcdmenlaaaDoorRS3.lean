/-
  Walks of the document's own reader: End, Signed.
-/
import Derived.Test.YtpdabpcdmenlaaaDoorRS2
namespace Go.Proofs.YtpdabpcdmenlaaaDoor
set_option linter.unusedVariables false
set_option linter.unusedSimpArgs false
open Go.RowKit
variable {w : World} {xb n c : Nat} {p : Option Addr} {xs : List Int} {i : Nat} {err : Int}

set_option maxHeartbeats 800000 in
theorem XEnd (h : XS w xb p n c xs i err) : Calls Tryd.prog 45 #[.pointer (some ⟨xb, 0, none⟩)] w
    (fun e w' => e = .returned (.int .i64 (if err ≠ 0 then err else if i < n then 3 else 0)) ∧ ∃ q, w' = w.drewN q) := by
  have c2 := h.c2
  by_cases he : err = 0
  · subst he
    have Hl := Lib.hid (XLeft h)
    clear h
    rw [if_neg (by simp)]
    by_cases hlt : i < n
    · rw [if_pos hlt]
      have hp : (0 : Int) < ((n - i : Nat) : Int) := by omega
      generalize n - i = m at *
      go_enter Tryd.func45, Tryd.ntmps45
      go_wp2_with fail
      go_fit Hl.out
      rintro e w' ⟨rfl, q, rfl⟩
      go_wp2_with fail
      go_ret
      exact ⟨rfl, _, rfl⟩
    · rw [if_neg hlt]
      have hp : ¬ (0 : Int) < ((n - i : Nat) : Int) := by omega
      generalize n - i = m at *
      go_enter Tryd.func45, Tryd.ntmps45
      go_wp2_with fail
      go_fit Hl.out
      rintro e w' ⟨rfl, q, rfl⟩
      go_wp2_with fail
      go_ret
      exact ⟨rfl, _, rfl⟩
  · rw [if_pos he]
    have t1 : (err == 0) = false := by simpa using he
    have t2 : (err != 0) = true := by simpa using he
    clear h he
    go_enter Tryd.func45, Tryd.ntmps45
    go_wp2_with fail
    go_ret
    exact ⟨rfl, 0, rfl⟩

set_option maxHeartbeats 800000 in
theorem XSigned_short (h : XS w xb p n c xs i 0) (h8 : n < i + 8) : Calls Tryd.prog 36 #[.pointer (some ⟨xb, 0, none⟩)] w (XOut (.int .i64 0) w xb p n c xs i 2) := by
  have H := Lib.hid h
  have c0 := h.c0
  have c1 := h.c1
  have c2 := h.c2
  have f2 := h.f2
  have hi := h.ile
  have hn := h.nb
  have hp : (n : Int) - (i : Int) < 8 := by omega
  have e1 : IntKind.i64.wrap ((n : Int) - (i : Int)) = (n : Int) - (i : Int) := wrap_i64 _ (by omega) (by omega)
  clear h h8
  go_enter Tryd.func36, Tryd.ntmps36
  go_wp2_with fail
  go_quiet (fail)
  go_wp2_with fail
  go_ret
  exact ⟨rfl, ((H.out).setErr 2).drewN _, grown_dset w _ xb 2 _⟩

set_option maxRecDepth 100000 in
set_option maxHeartbeats 1600000 in
theorem XSigned_ok (h : XS w xb p n c xs i 0) (h8 : i + 8 ≤ n) : Calls Tryd.prog 36 #[.pointer (some ⟨xb, 0, none⟩)] w (XOut (.int .i64 (s64 (ofBe ((xs.drop i).take 8)))) w xb p n c xs (i + 8) 0) := by
  obtain ⟨b, o, rfl, hbc⟩ := h.inn (by omega)
  have c0 := h.c0
  have c1 := h.c1
  have c2 := h.c2
  have f1 := h.f1
  have hn := h.nb
  have hnc := h.ncap
  have Hs := Lib.hid (h.setAt (i + 8) h8)
  rw [show ((i + 8 : Nat) : Int) = (i : Int) + 8 from by omega] at Hs
  have hp : ¬ (n : Int) - (i : Int) < 8 := by omega
  have e0 : IntKind.i64.wrap ((n : Int) - (i : Int)) = (n : Int) - (i : Int) := wrap_i64 _ (by omega) (by omega)
  have e1 : IntKind.i64.wrap ((i : Int) + 8) = (i : Int) + 8 := wrap_i64 _ (by omega) (by omega)
  have hy : ((xs.drop i).take 8).length = 8 := by simp only [List.length_take, List.length_drop, h.len]; omega
  have hcell : ∀ j, j < 8 → w.cell? ⟨b, o + (i + j), none⟩ = some (.int .u8 (((xs.drop i).take 8).getD j 0)) := fun j hj => by
    rw [hbc (i + j) (by omega), List.getD_eq_getElem?_getD, List.getD_eq_getElem?_getD, List.getElem?_take, if_pos hj, List.getElem?_drop]
  have hr : ∀ x ∈ (xs.drop i).take 8, 0 ≤ x ∧ x < 256 := fun x hx => h.rng x (List.mem_of_mem_drop (List.mem_of_mem_take hx))
  generalize (xs.drop i).take 8 = ys at *
  have Hy := Lib.hid hy
  have Hcell := Lib.hid hcell
  have Hr := Lib.hid hr
  clear h hy hcell hr hbc
  go_enter Tryd.func36, Tryd.ntmps36
  go_wp2_with fail
  go_quiet (fail)
  go_wp2_with fail
  go_loopw [3, 24] (fun v k wr => ∃ (j a q : Nat), j ≤ 8 ∧ k = .int .i64 j ∧ v = .int .u64 a ∧ Hid (a = ofBe (ys.take j)) ∧ wr = w.drewN q) (fun _ k _ => 8 - (intOf k).toNat)
  case atStart => exact ⟨0, 0, _, by omega, rfl, rfl, rfl, rfl⟩
  case round =>
    obtain ⟨j, a, q, hj, rfl, rfl, Ha, rfl⟩ := hrel
    by_cases hlt : j < 8
    · have hcell := Hcell.out j hlt
      have hjy : j < ys.length := by rw [Hy.out]; exact hlt
      have hx := Hr.out (ys.getD j 0) (by rw [List.getD_eq_getElem?_getD, List.getElem?_eq_getElem hjy]; simp)
      have hf := ofBe_front ys j hjy
      have hB := ofBe_lt ys (fun x hx => (Hr.out x hx).2)
      rw [Hy.out] at hB
      have Hs2 := Lib.hid (ofBe_snoc ys j hjy)
      rw [← Ha.out] at hf
      generalize ys.getD j 0 = x at *
      obtain ⟨y, rfl⟩ := Int.eq_ofNat_of_zero_le hx.1
      have hy2 : y < 256 := by omega
      have hay : a * 256 + y ≤ 18446744073709551615 := by simp only [Int.toNat_natCast] at hf; omega
      obtain ⟨D, hD⟩ : ∃ D : Nat, D = a * 256 := ⟨_, rfl⟩
      have e4 : IntKind.u64.wrap (256 * (a : Int)) = (D : Int) := by rw [IntKind.wrap_u64]; omega
      obtain ⟨C, hC⟩ : ∃ C : Nat, C = a * 256 + y := ⟨_, rfl⟩
      have e5 : IntKind.u64.wrap ((D : Int) + (y : Int)) = (C : Int) := by rw [IntKind.wrap_u64]; omega
      have e6 : IntKind.i64.wrap ((i : Int) + (j : Int)) = (i : Int) + (j : Int) := wrap_i64 _ (by omega) (by omega)
      have e7 : ((i : Int) + (j : Int)).toNat = i + j := by omega
      have HC := Lib.hid hC
      clear hC hD hf hB hx hjy hay
      go_wp2_with fail
      go_quiet (fail)
      go_wp2_with fail
      go_roundw
      case rel => exact ⟨j + 1, C, _, by omega, by go_num, rfl, by show C = _; rw [Hs2.out, ← Ha.out, HC.out]; simp, rfl⟩
      case measure => simp [intOf]; omega
    · have He : Hid (a = ofBe ys) := by show a = _; rw [Ha.out, List.take_of_length_le (by rw [Hy.out]; omega)]
      have f1q : ∀ q, (w.drewN q).frozen? ⟨xb, 1, none⟩ = false := fun _ => f1
      go_wp2_with fail
      go_ret
      unfold s64
      rw [← He.out]
      exact ⟨rfl, ((Hs.out).drewN q), grown_dset w q xb 1 _⟩

end Go.Proofs.YtpdabpcdmenlaaaDoor
