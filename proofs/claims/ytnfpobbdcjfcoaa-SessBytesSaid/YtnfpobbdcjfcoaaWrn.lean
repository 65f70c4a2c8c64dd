/-
  Walks of the document's own number.
-/
import Derived.Test.YtnfpobbdcjfcoaaWrd2
namespace Go.Proofs.Ytnfpobbdcjfcoaa
set_option linter.unusedVariables false
set_option linter.unusedSimpArgs false
open Go.RowKit

set_option maxHeartbeats 800000 in
theorem rnumber_loop (b o n c k : Nat) (ys : List Int) (w : World) (hk : 1 ≤ k) (h8 : k ≤ 8) (hn : k < n) (hn2 : n ≤ 140737488355328) (_hnc : n ≤ c) (hy : ys.length = k) (h0 : w.cell? ⟨b, o, none⟩ = some (.int .u8 k))
    (hc : ∀ i, i < k → w.cell? ⟨b, o + 1 + i, none⟩ = some (.int .u8 (ys.getD i 0))) (hr : ∀ x ∈ ys, 0 ≤ x ∧ x < 256) (hz : ys.getD 0 0 ≠ 0) (h127 : k = 8 → ys.getD 0 0 ≤ 127) :
    Calls Try.prog 53 #[.slice (some ⟨b, o, none⟩) n c] w (Three (ofBe ys, 1 + k, 0) w) := by
  have hc1 := hc 0 (by omega)
  have hb := ofBe_bound ys hr (by omega) (fun h => h127 (by omega))
  have Hb := Lib.hid hb
  have Hc := Lib.hid hc
  have Hr := Lib.hid hr
  have Hy := Lib.hid hy
  obtain ⟨z, hzz⟩ : ∃ z : Int, z = ys.getD 0 0 := ⟨_, rfl⟩
  rw [← hzz] at hc1 hz h127
  simp only [Nat.add_zero] at hc1
  have t1 : (z == 0) = false := by simpa using hz
  have t2 : ((k : Int) == 8 && decide (127 < z)) = false := by
    by_cases e : k = 8
    · have := h127 e; simp [show ¬ 127 < z by omega]
    · have : ¬ (k : Int) = 8 := by omega
      simp [this]
  have hlen0 : ((n : Int) == 0) = false := by simp; omega
  clear hb hc hr hy hzz hz
  go_enter Try.func53, Try.ntmps53
  go_wp2_with fail
  all_goals
    go_loop [6, 7] (fun v i => ∃ (j a : Nat), j ≤ k ∧ i = .int .i64 ((j : Int) + 1) ∧ v = .int .i64 a ∧ Hid (a = ofBe (ys.take j))) (fun _ i => k + 1 - (intOf i).toNat)
    case atStart => exact ⟨0, 0, Nat.zero_le _, rfl, rfl, rfl⟩
    case round =>
      obtain ⟨j, a, hj, rfl, rfl, Ha⟩ := hrel
      by_cases hlt : j < k
      · have hcell := Hc.out j hlt
        have hjy : j < ys.length := by rw [Hy.out]; exact hlt
        have hx := Hr.out (ys.getD j 0) (by rw [List.getD_eq_getElem?_getD, List.getElem?_eq_getElem hjy]; simp)
        have hf := ofBe_front ys j hjy
        have Hs := Lib.hid (ofBe_snoc ys j hjy)
        have hB := Hb.out
        rw [← Ha.out] at hf
        generalize ys.getD j 0 = x at *
        obtain ⟨y, rfl⟩ := Int.eq_ofNat_of_zero_le hx.1
        have hy2 : y < 256 := by omega
        have hay : a * 256 + y ≤ 9223372036854775807 := by simp only [Int.toNat_natCast] at hf; omega
        obtain ⟨D, hD⟩ : ∃ D : Nat, D = a * 256 := ⟨_, rfl⟩
        have e1 : IntKind.i64.wrap (256 * (a : Int)) = (D : Int) := by rw [wrap_i64 _ (by omega) (by omega)]; omega
        obtain ⟨C, hC⟩ : ∃ C : Nat, C = a * 256 + y := ⟨_, rfl⟩
        have e2 : IntKind.i64.wrap ((D : Int) + (y : Int)) = (C : Int) := by rw [wrap_i64 _ (by omega) (by omega)]; omega
        have e3 : (((j : Int) + 1).toNat) = 1 + j := by omega
        rw [Nat.add_assoc] at hcell
        have HC := Lib.hid hC
        clear hC hD hf hB hx hjy hay
        go_wp2_with fail
        go_round
        case rel => exact ⟨j + 1, C, by omega, by go_num, rfl, by show C = _; rw [Hs.out, ← Ha.out, HC.out]; simp⟩
        case measure => simp [intOf]; omega
      · have He : Hid (a = ofBe ys) := by show a = _; rw [Ha.out, List.take_of_length_le (by rw [Hy.out]; omega)]
        go_wp2_with fail
        go_ret3
        rw [← He.out]
        exact ⟨three_ret rfl (by show _ = ((1 + k : Nat) : Int); omega) rfl, rfl⟩

set_option maxHeartbeats 400000 in
theorem rnumber_none (p : Option Addr) (c : Nat) (w : World) : Calls Try.prog 53 #[.slice p 0 c] w (Three (0, 0, 2) w) := by
  go_enter Try.func53, Try.ntmps53
  go_wp2_with fail
  go_ret3
  exact ⟨rfl, rfl⟩

set_option maxHeartbeats 400000 in
theorem rnumber_form (b o n c k : Nat) (w : World) (hn : 0 < n) (hk : 8 < k) (hk2 : k < 256) (h0 : w.cell? ⟨b, o, none⟩ = some (.int .u8 k)) : Calls Try.prog 53 #[.slice (some ⟨b, o, none⟩) n c] w (Three (0, 0, 11) w) := by
  have hlen0 : ((n : Int) == 0) = false := by simp; omega
  go_enter Try.func53, Try.ntmps53
  go_wp2_with fail
  go_ret3
  exact ⟨rfl, rfl⟩

set_option maxHeartbeats 400000 in
theorem rnumber_short (b o n c k : Nat) (w : World) (hn : 0 < n) (hk : k ≤ 8) (hnk : n ≤ k) (h0 : w.cell? ⟨b, o, none⟩ = some (.int .u8 k)) : Calls Try.prog 53 #[.slice (some ⟨b, o, none⟩) n c] w (Three (0, 0, 2) w) := by
  have hlen0 : ((n : Int) == 0) = false := by simp; omega
  go_enter Try.func53, Try.ntmps53
  go_wp2_with fail
  go_ret3
  exact ⟨rfl, rfl⟩

set_option maxHeartbeats 400000 in
theorem rnumber_zero (b o n c : Nat) (w : World) (hn : 0 < n) (hn2 : n ≤ 140737488355328) (_hnc : n ≤ c) (h0 : w.cell? ⟨b, o, none⟩ = some (.int .u8 0)) : Calls Try.prog 53 #[.slice (some ⟨b, o, none⟩) n c] w (Three (0, 1, 0) w) := by
  have hlen0 : ((n : Int) == 0) = false := by simp; omega
  go_enter Try.func53, Try.ntmps53
  go_wp2_with fail
  all_goals
    refine wp_loop_rounds 1 ?_
    rw [rounds_succ]
    go_wp2_with fail
    go_ret3
    exact ⟨rfl, rfl⟩

set_option maxHeartbeats 400000 in
theorem rnumber_nought (b o n c k : Nat) (w : World) (h1k : 1 ≤ k) (hk : k ≤ 8) (hnk : k < n) (h0 : w.cell? ⟨b, o, none⟩ = some (.int .u8 k)) (h1 : w.cell? ⟨b, o + 1, none⟩ = some (.int .u8 0)) : Calls Try.prog 53 #[.slice (some ⟨b, o, none⟩) n c] w (Three (0, 0, 11) w) := by
  have hlen0 : ((n : Int) == 0) = false := by simp; omega
  go_enter Try.func53, Try.ntmps53
  go_wp2_with fail
  go_ret3
  exact ⟨rfl, rfl⟩

set_option maxHeartbeats 400000 in
theorem rnumber_range (b o n c z : Nat) (w : World) (hnk : 8 < n) (hz : 127 < z) (hz2 : z < 256) (h0 : w.cell? ⟨b, o, none⟩ = some (.int .u8 8)) (h1 : w.cell? ⟨b, o + 1, none⟩ = some (.int .u8 z)) : Calls Try.prog 53 #[.slice (some ⟨b, o, none⟩) n c] w (Three (0, 0, 5) w) := by
  have hlen0 : ((n : Int) == 0) = false := by simp; omega
  have t1 : ((z : Int) == 0) = false := by simp; omega
  go_enter Try.func53, Try.ntmps53
  go_wp2_with fail
  go_ret3
  exact ⟨rfl, rfl⟩

theorem rnumber_any (p : Option Addr) (n c : Nat) (xs : List Int) (w : World) (hx : xs.length = n) (hb : Lib.BytesIn w p n xs) (hnc : n ≤ c) (hn2 : n ≤ 140737488355328) (hr : ∀ x ∈ xs, 0 ≤ x ∧ x < 256) :
    Calls Try.prog 53 #[.slice p n c] w (Three (numAt xs) w) := by
  unfold numAt
  rcases Nat.eq_zero_or_pos n with h0 | h0
  · subst h0
    rw [if_pos hx]
    exact rnumber_none p c w
  · obtain ⟨b, o, rfl, hc⟩ := hb h0
    rw [if_neg (by omega)]
    obtain ⟨k, ek, hk, hck⟩ := byte_at hc hx hr 0 h0
    simp only [Nat.add_zero] at hck
    simp only [ek]
    by_cases h8 : 8 < (k : Int)
    · rw [if_pos h8]; exact rnumber_form b o n c k w h0 (by omega) hk hck
    rw [if_neg h8]
    by_cases hs : (xs.length : Int) ≤ k
    · rw [if_pos hs]; exact rnumber_short b o n c k w h0 (by omega) (by omega) hck
    rw [if_neg hs]
    rcases Nat.eq_zero_or_pos k with hk0 | hk0
    · subst hk0
      rw [if_neg (by omega), if_neg (by omega)]
      have := rnumber_zero b o n c w h0 hn2 hnc hck
      simpa [ofBe] using this
    obtain ⟨z, ez, hz, hcz⟩ := byte_at hc hx hr 1 (by omega)
    simp only [ez]
    by_cases hz0 : z = 0
    · subst hz0
      rw [if_pos ⟨by omega, rfl⟩]; exact rnumber_nought b o n c k w hk0 (by omega) (by omega) hck hcz
    rw [if_neg (by omega)]
    by_cases h127 : (k : Int) = 8 ∧ 127 < (z : Int)
    · rw [if_pos h127]
      obtain rfl : k = 8 := by omega
      exact rnumber_range b o n c z w (by omega) (by omega) hz hck hcz
    rw [if_neg h127]
    have ey : ∀ i, i < k → ((xs.drop 1).take k).getD i 0 = xs.getD (i + 1) 0 := by
      intro i hi
      simp only [List.getD_eq_getElem?_getD, List.getElem?_take, hi, if_true, List.getElem?_drop, Nat.add_comm]
    refine rnumber_loop b o n c k ((xs.drop 1).take k) w hk0 (by omega) (by omega) hn2 hnc (by simp; omega) hck ?_ (fun x h => hr x (List.mem_of_mem_drop (List.mem_of_mem_take h))) ?_ ?_
    · intro i hi
      rw [ey i hi, ← hc (i + 1) (by omega)]; congr 2; omega
    · rw [ey 0 hk0]; simp only [Nat.zero_add]; rw [ez]; omega
    · intro e; rw [ey 0 hk0]; simp only [Nat.zero_add]; rw [ez]; omega

end Go.Proofs.Ytnfpobbdcjfcoaa
