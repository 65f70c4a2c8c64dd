/-
  Walks of package wire's reader: flags, its end, numbers with a sign, texts.
-/
import Derived.Test.YtpdabpcdmenlaaaDoorRd2
namespace Go.Proofs.YtpdabpcdmenlaaaDoor
set_option linter.unusedVariables false
set_option linter.unusedSimpArgs false
open Go.RowKit

section
variable {w : World} {rb g n cap : Nat} {xs : List Int} {i : Nat} {err : Int}

set_option maxHeartbeats 400000 in
theorem End_rs (h : RS w rb g n cap xs i err) : Calls Tryd.prog 44 #[.pointer (some ⟨rb, 0, none⟩)] w
    (fun e w' => e = .returned (.int .i64 (if err ≠ 0 then err else if i < n then 3 else 0)) ∧ ∃ q, w' = w.drewN q) := by
  by_cases he : err = 0
  · subst he
    have Hc := Lib.hid (ready_rs h true rfl)
    have Hl := Lib.hid (Left_rs h)
    have hi := h.ile
    have hn := h.nb
    clear h
    rw [if_neg (by simp)]
    by_cases hlt : i < n
    · rw [if_pos hlt]
      have hp : (0 : Int) < ((n - i : Nat) : Int) := by omega
      generalize n - i = m at *
      go_enter Tryd.func44, Tryd.ntmps44
      go_wp2_with fail
      go_fit Hc.out
      rintro e w' ⟨rfl, rfl⟩
      go_wp2_with fail
      go_fit Hl.out
      rintro e w' ⟨rfl, q, rfl⟩
      go_wp2_with fail
      go_ret
      exact ⟨rfl, _, rfl⟩
    · rw [if_neg hlt]
      have hp : ¬ (0 : Int) < ((n - i : Nat) : Int) := by omega
      generalize n - i = m at *
      go_enter Tryd.func44, Tryd.ntmps44
      go_wp2_with fail
      go_fit Hc.out
      rintro e w' ⟨rfl, rfl⟩
      go_wp2_with fail
      go_fit Hl.out
      rintro e w' ⟨rfl, q, rfl⟩
      go_wp2_with fail
      go_ret
      exact ⟨rfl, _, rfl⟩
  · rw [if_pos he]
    have Hc := Lib.hid (ready_rs h false (by simpa using he))
    have He := Lib.hid (Err_rs h)
    clear h he
    go_enter Tryd.func44, Tryd.ntmps44
    go_wp2_with fail
    go_fit Hc.out
    rintro e w' ⟨rfl, rfl⟩
    go_wp2_with fail
    go_fit He.out
    rintro e w' ⟨rfl, rfl⟩
    go_wp2_with fail
    go_ret
    exact ⟨rfl, 0, rfl⟩

set_option maxHeartbeats 400000 in
theorem Flag_err (h : RS w rb g n cap xs i err) (he : err ≠ 0) : Calls Tryd.prog 39 #[.pointer (some ⟨rb, 0, none⟩)] w (Out (.bool false) w rb g n cap xs i err) := by
  have Hc := Lib.hid (ready_rs h false (by simpa using he))
  have H := Lib.hid h
  clear h
  go_enter Tryd.func39, Tryd.ntmps39
  go_wp2_with fail
  go_fit Hc.out
  rintro e w' ⟨rfl, rfl⟩
  go_wp2_with fail
  go_ret
  exact ⟨rfl, H.out, World.grownBy.refl _ _⟩

set_option maxHeartbeats 800000 in
theorem Flag_bad (h : RS w rb g n cap xs i 0) (N S : Nat) (E err : Int) (ht : numAt (xs.drop i) = (N, S, E)) (h0 : (E ≠ 0 ∧ err = E) ∨ (E = 0 ∧ 1 < N ∧ err = 11)) :
    Calls Tryd.prog 39 #[.pointer (some ⟨rb, 0, none⟩)] w (Out (.bool false) w rb g n cap xs i err) := by
  have Hc := Lib.hid (ready_rs h true rfl)
  have Hp := Lib.hid (peek_rs h)
  rw [ht] at Hp
  have H := Lib.hid h
  have c2 := h.c2
  have f2 := h.f2
  clear h ht
  rcases h0 with ⟨h0, rfl⟩ | ⟨rfl, h1, rfl⟩
  · have t1 : (err == 0) = false := by simpa using h0
    have t2 : (err != 0) = true := by simpa using h0
    go_enter Tryd.func39, Tryd.ntmps39
    go_wp2_with fail
    go_fit Hc.out
    rintro e w' ⟨rfl, rfl⟩
    go_wp2_with fail
    go_fit Hp.out
    rintro e w' ⟨rfl, q, rfl⟩
    go_wp2_with fail
    go_ret
    exact ⟨rfl, ((H.out).setErr err).drewN q, grown_dset w q rb 2 _⟩
  · go_enter Tryd.func39, Tryd.ntmps39
    go_wp2_with fail
    go_fit Hc.out
    rintro e w' ⟨rfl, rfl⟩
    go_wp2_with fail
    go_fit Hp.out
    rintro e w' ⟨rfl, q, rfl⟩
    go_wp2_with fail
    go_ret
    exact ⟨rfl, ((H.out).setErr 11).drewN q, grown_dset w q rb 2 _⟩

set_option maxHeartbeats 800000 in
theorem Flag_ok (h : RS w rb g n cap xs i 0) (N S : Nat) (ht : numAt (xs.drop i) = (N, S, 0)) (h0 : N ≤ 1) (r : Bool) (hr : ((N : Int) == 1) = r) :
    Calls Tryd.prog 39 #[.pointer (some ⟨rb, 0, none⟩)] w (Out (.bool r) w rb g n cap xs (i + S) 0) := by
  have Hc := Lib.hid (ready_rs h true rfl)
  have Hp := Lib.hid (peek_rs h)
  have hS := (numAt_size h N S ht).1
  rw [ht] at Hp
  have c1 := h.c1
  have f1 := h.f1
  have hn := h.nb
  have hi' := h.ile
  have Hs := Lib.hid (h.setAt (i + S) hS)
  rw [show ((i + S : Nat) : Int) = (i : Int) + (S : Int) from by omega] at Hs
  clear h ht
  go_enter Tryd.func39, Tryd.ntmps39
  go_wp2_with fail
  go_fit Hc.out
  rintro e w' ⟨rfl, rfl⟩
  go_wp2_with fail
  go_fit Hp.out
  rintro e w' ⟨rfl, q, rfl⟩
  go_wp2_with fail
  go_ret
  exact ⟨rfl, (Hs.out).drewN q, grown_dset w q rb 1 _⟩

theorem or_u64_8 (a y : Nat) (ha : a * 256 + y ≤ 18446744073709551615) (hy : y < 256) : bits .or .u64 ((a : Int) * 256) (y : Int) = ((a * 256 + y : Nat) : Int) := by
  have hx := or_add 8 y a hy
  rw [Nat.or_comm] at hx
  rw [show (a : Int) * 256 = ((a * 256 : Nat) : Int) by omega, bits_or_u64_nat _ _ (by omega) (by omega), hx]
  omega

/-- A number of 64 bits with its sign. -/
def s64 (u : Nat) : Int := wrap64 u

set_option maxHeartbeats 400000 in
theorem Signed_err (h : RS w rb g n cap xs i err) (he : err ≠ 0) : Calls Tryd.prog 35 #[.pointer (some ⟨rb, 0, none⟩)] w (Out (.int .i64 0) w rb g n cap xs i err) := by
  have Hc := Lib.hid (ready_rs h false (by simpa using he))
  have H := Lib.hid h
  clear h
  go_enter Tryd.func35, Tryd.ntmps35
  go_wp2_with fail
  go_fit Hc.out
  rintro e w' ⟨rfl, rfl⟩
  go_wp2_with fail
  go_ret
  exact ⟨rfl, H.out, World.grownBy.refl _ _⟩

set_option maxHeartbeats 800000 in
theorem Signed_short (h : RS w rb g n cap xs i 0) (h8 : n < i + 8) : Calls Tryd.prog 35 #[.pointer (some ⟨rb, 0, none⟩)] w (Out (.int .i64 0) w rb g n cap xs i 2) := by
  have Hc := Lib.hid (ready_rs h true rfl)
  have Hl := Lib.hid (Left_rs h)
  have H := Lib.hid h
  have c2 := h.c2
  have f2 := h.f2
  have hp : ((n - i : Nat) : Int) < 8 := by have := h.ile; omega
  generalize n - i = m at *
  clear h
  go_enter Tryd.func35, Tryd.ntmps35
  go_wp2_with fail
  go_fit Hc.out
  rintro e w' ⟨rfl, rfl⟩
  go_wp2_with fail
  go_fit Hl.out
  rintro e w' ⟨rfl, q, rfl⟩
  go_wp2_with fail
  go_ret
  exact ⟨rfl, ((H.out).setErr 2).drewN q, grown_dset w q rb 2 _⟩

set_option maxRecDepth 100000 in
set_option maxHeartbeats 1600000 in
theorem Signed_ok (h : RS w rb g n cap xs i 0) (h8 : i + 8 ≤ n) : Calls Tryd.prog 35 #[.pointer (some ⟨rb, 0, none⟩)] w (Out (.int .i64 (s64 (ofBe ((xs.drop i).take 8)))) w rb g n cap xs (i + 8) 0) := by
  have Hc := Lib.hid (ready_rs h true rfl)
  have Hl := Lib.hid (Left_rs h)
  have c0 := h.c0
  have c1 := h.c1
  have f1 := h.f1
  have hn := h.nb
  have hnc := h.ncap
  have Hs := Lib.hid (h.setAt (i + 8) h8)
  rw [show ((i + 8 : Nat) : Int) = (i : Int) + 8 from by omega] at Hs
  have hp : ¬ ((n - i : Nat) : Int) < 8 := by omega
  have hic : ¬ cap = i := by omega
  have hic2 : ¬ (cap : Int) = (i : Int) := by omega
  have e1 : IntKind.i64.wrap ((i : Int) + 8) = (i : Int) + 8 := wrap_i64 _ (by omega) (by omega)
  have e2 : ((i : Int) + 8).toNat = i + 8 := by omega
  have e3 : i + 8 - i = 8 := by omega
  have i1 : (0 : Int) ≤ (i : Int) := by omega
  have i2 : (i : Int) ≤ (i : Int) + 8 := by omega
  have i3 : (i : Int) + 8 ≤ (cap : Int) := by omega
  have hy : ((xs.drop i).take 8).length = 8 := by simp only [List.length_take, List.length_drop, h.len]; omega
  have hcell : ∀ j, j < 8 → w.cell? ⟨g, i + j, none⟩ = some (.int .u8 (((xs.drop i).take 8).getD j 0)) := fun j hj => by
    obtain ⟨b', o', hh, hc⟩ := h.inn.at (by omega)
    simp only [Option.some.injEq, Addr.mk.injEq] at hh
    obtain ⟨rfl, rfl, _⟩ := hh
    have := hc (i + j) (by omega)
    rw [Nat.zero_add] at this
    rw [this, List.getD_eq_getElem?_getD, List.getD_eq_getElem?_getD, List.getElem?_take, if_pos hj, List.getElem?_drop]
  have hr : ∀ x ∈ (xs.drop i).take 8, 0 ≤ x ∧ x < 256 := fun x hx => h.rng x (List.mem_of_mem_drop (List.mem_of_mem_take hx))
  generalize (xs.drop i).take 8 = ys at *
  have Hy := Lib.hid hy
  have Hcell := Lib.hid hcell
  have Hr := Lib.hid hr
  generalize hm : n - i = m at *
  clear h hy hcell hr hm
  go_enter Tryd.func35, Tryd.ntmps35
  go_wp2_with fail
  go_fit Hc.out
  rintro e w' ⟨rfl, rfl⟩
  go_wp2_with fail
  go_fit Hl.out
  rintro e w' ⟨rfl, q, rfl⟩
  go_wp2_with fail
  go_quiet (fail)
  go_wp2_with fail
  go_loop [3, 30] (fun v k => ∃ (j a : Nat), j ≤ 8 ∧ k = .int .i64 j ∧ v = .int .u64 a ∧ Hid (a = ofBe (ys.take j))) (fun _ k => 8 - (intOf k).toNat)
  case atStart => exact ⟨0, 0, by omega, rfl, rfl, rfl⟩
  case round =>
    obtain ⟨j, a, hj, rfl, rfl, Ha⟩ := hrel
    by_cases hlt : j < 8
    · have hcell := Hcell.out j hlt
      have hjy : j < ys.length := by rw [Hy.out]; exact hlt
      have hx := Hr.out (ys.getD j 0) (by rw [List.getD_eq_getElem?_getD, List.getElem?_eq_getElem hjy]; simp)
      have hf := ofBe_front ys j hjy
      have hB := ofBe_lt ys (fun x hx => (Hr.out x hx).2)
      rw [Hy.out] at hB
      have Hs2 := Lib.hid (ofBe_snoc ys j hjy)
      rw [← Ha.out] at hf
      generalize ys.getD j 0 = x at *
      obtain ⟨y, rfl⟩ := Int.eq_ofNat_of_zero_le hx.1
      have hy2 : y < 256 := by omega
      have hay : a * 256 + y ≤ 18446744073709551615 := by simp only [Int.toNat_natCast] at hf; omega
      have hw8 : IntKind.u64.wrap ((a : Int) * 256) = (a : Int) * 256 := by rw [IntKind.wrap_u64]; omega
      have e4 := or_u64_8 a y hay hy2
      obtain ⟨C, hC⟩ : ∃ C : Nat, C = a * 256 + y := ⟨_, rfl⟩
      rw [← hC] at e4
      have HC := Lib.hid hC
      clear hC hf hB hx hjy hay
      go_wp2_with fail
      go_round
      case rel => exact ⟨.int .u64 C, .int .u8 y, .int .i64 ((j : Int) + 1), ⟨j + 1, by omega, by go_num, C, rfl, by show C = _; rw [Hs2.out, ← Ha.out, HC.out]; simp⟩, rfl, rfl, rfl⟩
      case measure => simp [intOf]; omega
    · have He : Hid (a = ofBe ys) := by show a = _; rw [Ha.out, List.take_of_length_le (by rw [Hy.out]; omega)]
      have f1q : ∀ q, (w.drewN q).frozen? ⟨rb, 1, none⟩ = false := fun _ => f1
      go_wp2_with fail
      go_ret
      unfold s64
      rw [← He.out]
      exact ⟨rfl, ((Hs.out).drewN (q + nq)), grown_dset w (q + nq) rb 1 _⟩

end

end Go.Proofs.YtpdabpcdmenlaaaDoor
