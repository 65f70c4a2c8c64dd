/-
  Walks of package wire's other puts: Numbers, Signed, Text, Flag.
-/
import Derived.Test.YtdcmefkejgjdeaaWb1
import Derived.Lib.AppendStr
namespace Go.Proofs.Ytdcmefkejgjdeaa
set_option linter.unusedVariables false
set_option linter.unusedSimpArgs false
open Go.RowKit

/-- What numbers are as bytes, one behind the other. -/
def nums (l : List Int) : List Int := (l.map fun z => num z.toNat).flatten

theorem be_le (u k : Nat) : (be u k).length ≤ k := by rw [be_length]; exact Nat.le_refl _
theorem num_le (u : Nat) : u ≤ 9223372036854775807 → (num u).length ≤ 9 := by
  intro hu
  have hb := Lib.bitLen_le u 64 (by omega) (by omega)
  simp only [num, List.length_cons, be_length, wide]; omega
theorem nums_snoc (l : List Int) (k : Nat) (h : k < l.length) : nums (l.take (k + 1)) = nums (l.take k) ++ num (l.getD k 0).toNat := by
  unfold nums
  rw [List.take_succ_eq_append_getElem h]
  simp only [List.map_append, List.map_cons, List.map_nil, List.flatten_append, List.flatten_cons, List.flatten_nil, List.append_nil, List.getD_eq_getElem?_getD, List.getElem?_eq_getElem h, Option.getD_some]
theorem nums_le (l : List Int) (hl : ∀ z ∈ l, z ≤ 9223372036854775807) : (nums l).length ≤ 9 * l.length := by
  unfold nums
  induction l with
  | nil => simp
  | cons z l ih =>
    have h1 := num_le z.toNat (by have := hl z (by simp); omega)
    have h2 := ih (fun y hy => hl y (by simp [hy]))
    simp only [List.map_cons, List.flatten_cons, List.length_append, List.length_cons]; omega

/-- A slice of ints that reads so. -/
def IntsIn (w : World) (p : Option Addr) (n : Nat) (xs : List Int) : Prop := 0 < n → ∃ b o, p = some ⟨b, o, none⟩ ∧ ∀ i, i < n → w.cell? ⟨b, o + i, none⟩ = some (.int .i64 (xs.getD i 0))

set_option maxHeartbeats 400000 in
theorem Numbers_any (p q : Option Addr) (n c m d : Nat) (xs l : List Int) (w : World) (hx : xs.length = n) (hb : Lib.BytesIn w p n xs) (hp : p = none → n = 0 ∧ c = 0) (hl : l.length = m) (hq : IntsIn w q m l)
    (hr : ∀ z ∈ l, z ≤ 9223372036854775807) (h1 : n + 9 * m ≤ 140737488355328) :
    Calls Try.prog 41 #[.slice p n c, .slice q m d] w (Made w.heap.size w (xs ++ nums l)) := by
  have Hx : Hid (xs.length = n) := hx
  have Hl : Hid (l.length = m) := hl
  have Hc1 := Lib.hid (own_any p n c xs (2 * m) w hx hb hp (by omega) (by omega))
  have Hr := Lib.hid hr
  clear hr hx hl
  rcases Nat.eq_zero_or_pos m with h0 | h0
  · subst h0
    obtain rfl := List.eq_nil_of_length_eq_zero Hl.out
    have hz : Hid (nums [] = []) := rfl
    go_enter Try.func41, Try.ntmps41
    go_wp2_with fail
    go_fit Hc1.out
    rintro e w1 ⟨g1, n1, c1, rfl, hown1, hb1⟩
    go_wp2_with fail
    refine wp_loop_rounds 1 ?_
    rw [rounds_succ]
    go_wp2_with fail
    go_ret
    rw [hz.out, List.append_nil]
    exact ⟨g1, n1, c1, rfl, hown1, hb1⟩
  · obtain ⟨b, o, rfl, hc⟩ := hq h0
    have Hc := Lib.hid hc
    clear hc
    go_enter Try.func41, Try.ntmps41
    go_wp2_with fail
    go_fit Hc1.out
    rintro e w1 ⟨g1, n1, c1, rfl, hown1, hb1⟩
    go_wp2_with fail
    go_loopw [5, 15] (fun v i wr => ∃ (k g n' c' : Nat), k ≤ m ∧ i = .int .i64 k ∧ v = .slice (some ⟨g, 0, none⟩) n' c' ∧ wr.ownsRow w.heap.size 5 1 (.slice (some ⟨g, 0, none⟩) n' c') n' ((xs ++ nums (l.take k)).map (Value.int .u8)) ∧ Below w.heap.size w wr)
      (fun _ i _ => (m - (intOf i).toNat))
    case atStart => exact ⟨0, g1, n1, c1, Nat.zero_le _, rfl, rfl, by simpa [nums] using hown1, hb1⟩
    case round =>
      obtain ⟨k, g, n', c', hk, rfl, rfl, hown, hbel⟩ := hrel
      by_cases hlt : k < m
      · have hcell : wr.cell? ⟨b, o + k, none⟩ = some (.int .i64 (l.getD k 0)) := (hbel.cell (World.block_lt_of_cell? w _ (Hc.out k hlt))).trans (Hc.out k hlt)
        have hz : l.getD k 0 ≤ 9223372036854775807 := Hr.out _ (by rw [List.getD_eq_getElem?_getD, List.getElem?_eq_getElem (by rw [Hl.out]; exact hlt)]; simp)
        have hn' : n' ≤ n + 9 * k := by
          rw [← owns_len hown, List.length_append, Hx.out]
          have := nums_le (l.take k) (fun z h => Hr.out z (List.mem_of_mem_take h))
          have := List.length_take_le k l
          omega
        have hs := nums_snoc l k (by rw [Hl.out]; exact hlt)
        have Hc2 := Lib.hid (add_int w.heap.size g n' c' _ (l.getD k 0) wr hown hz (by omega) hbel.size)
        have Hs := Lib.hid hs
        clear hs
        generalize l.getD k 0 = z at *
        go_wp2_with fail
        go_fit Hc2.out
        rintro e w2 ⟨g2, n2, c2, rfl, hown2, hb2⟩
        go_wp2_with fail
        go_roundw
        case rel => exact ⟨k + 1, g2, n2, c2, by omega, by go_num, rfl, by rw [Hs.out, ← List.append_assoc]; exact hown2, hbel.trans hb2⟩
        case measure => simp [intOf]; omega
      · go_wp2_with fail
        go_ret
        exact ⟨g, n', c', rfl, by rw [List.take_of_length_le (by rw [Hl.out]; omega)] at hown; exact hown, hbel⟩
end Go.Proofs.Ytdcmefkejgjdeaa
