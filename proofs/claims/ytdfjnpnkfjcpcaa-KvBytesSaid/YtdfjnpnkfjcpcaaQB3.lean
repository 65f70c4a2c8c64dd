/-
  Walks: the reference's many, Key, Value, Name; the text package's Key, Value, Name.
-/
import Derived.Test.YtdfjnpnkfjcpcaaQB2
namespace Go.Proofs.Ytdfjnpnkfjcpcaa.Tx
open Go.Proofs.Ytdfjnpnkfjcpcaa
set_option linter.unusedVariables false
set_option linter.unusedSimpArgs false
open Go.RowKit

theorem rune_cell (l : List (Nat × Nat)) (k : Nat) (h : k < l.length) : (runeVals l).getD k undef = .int .i32 ((l.getD k (0, 0)).2 : Int) := by
  unfold runeVals
  simp [List.getD_eq_getElem?_getD, List.getElem?_eq_getElem h]

theorem take_all (l : List (Nat × Nat)) (p : Nat → Bool) (k : Nat) (h : k < l.length) : (l.take (k + 1)).all (fun x => p x.2) = ((l.take k).all (fun x => p x.2) && p (l.getD k (0, 0)).2) := by
  rw [List.take_succ_eq_append_getElem h, List.all_append]
  simp [List.getD_eq_getElem?_getD, List.getElem?_eq_getElem h]

theorem rune_le (s : ByteArray) (k : Nat) (h : k < (steps s s.size 0).length) : ((steps s s.size 0).getD k (0, 0)).2 ≤ 2147483647 := by
  rw [List.getD_eq_getElem?_getD, List.getElem?_eq_getElem h]
  exact steps_rune_le s s.size 0 _ (List.getElem_mem h)

def acc (s : ByteArray) (lo hi k : Nat) : Bool := decide (lo ≤ (steps s s.size 0).length) && decide ((steps s s.size 0).length ≤ hi) && ((steps s s.size 0).take k).all (fun x => plainB x.2)
theorem acc_zero (s : ByteArray) (lo hi n : Nat) (hn : n = (steps s s.size 0).length) : acc s lo hi 0 = (decide (lo ≤ n) && decide (n ≤ hi)) := by simp [acc, hn]
theorem acc_succ (s : ByteArray) (lo hi k : Nat) (h : k < (steps s s.size 0).length) : acc s lo hi (k + 1) = (acc s lo hi k && plainB ((steps s s.size 0).getD k (0, 0)).2) := by
  unfold acc; rw [take_all _ _ _ h]; simp only [Bool.and_assoc]
theorem acc_all (s : ByteArray) (lo hi k : Nat) (h : k = (steps s s.size 0).length) : acc s lo hi k = madeB s lo hi plainB := by
  unfold acc madeB runesOf
  rw [h, List.take_length]
  simp only [List.length_map, List.all_map]
  rfl

def ManyP (s : ByteArray) (lo hi : Nat) (w : World) (e : Ending) (w' : World) : Prop := e = .returned (.bool (madeB s lo hi plainB)) ∧ Below w.heap.size w w'

set_option maxHeartbeats 800000 in
theorem many_any (s : ByteArray) (lo hi : Nat) (w : World) (hs : s.size ≤ 1073741824) (hlo : lo ≤ 1000) (hhi : hi ≤ 1000) :
    Calls Try.prog 94 #[.string s, .int .i64 lo, .int .i64 hi] w (ManyP s lo hi w) := by
  have hr := Lib.hid (Runes_any s w hs)
  have hlen := steps_length s s.size 0
  go_enter Try.func94, Try.ntmps94
  go_wp2_with fail
  go_fit hr.out
  rintro e w1 ⟨v, n, rfl, hn, hown, hbel⟩
  have hnb : n ≤ 1073741824 := by omega
  have Hn := Lib.hid hn
  have Hb := Lib.hid hbel
  have Hown := Lib.hid hown
  have H0 := Lib.hid (acc_zero s lo hi n hn)
  have Hend := Lib.hid (acc_all s lo hi n hn)
  have Hsucc : Hid (∀ k, k < n → acc s lo hi (k + 1) = (acc s lo hi k && plainB ((steps s s.size 0).getD k (0, 0)).2)) := fun k hk => acc_succ s lo hi k (by omega)
  have Hle : Hid (∀ k, k < n → ((steps s s.size 0).getD k (0, 0)).2 ≤ 2147483647) := fun k hk => rune_le s k (by omega)
  have Hcell : Hid (∀ k, k < n → ∀ g cap, v = .slice (some ⟨g, 0, none⟩) n cap → w1.cell? ⟨g, k, none⟩ = some (.int .i32 (((steps s s.size 0).getD k (0, 0)).2 : Int))) := by
    intro k hk g cap hv
    subst hv
    rw [owns_cell hown k hk, rune_cell _ _ (by omega)]
  clear hr hn hown hbel hlen
  rcases Nat.eq_zero_or_pos n with hz | hz
  · have hv : ∃ a cap, v = .slice a 0 cap := by
      rcases Hown.out.2 with ⟨rfl, _⟩ | ⟨g, cap, cur, rfl, _⟩
      · exact ⟨_, _, rfl⟩
      · exact ⟨_, _, by rw [hz]⟩
    obtain ⟨a, cap, rfl⟩ := hv
    subst hz
    clear Hown Hsucc Hle Hcell
    by_cases h1 : lo = 0
    · subst h1
      go_wp2_with fail
      refine wp_loop_rounds 1 ?_
      rw [rounds_succ]
      go_wp2_with fail
      go_ret
      refine ⟨?_, Hb.out⟩
      rw [← Hend.out, H0.out]
      simp
    · go_wp2_with fail
      refine wp_loop_rounds 1 ?_
      rw [rounds_succ]
      go_wp2_with fail
      go_ret
      refine ⟨?_, Hb.out⟩
      rw [← Hend.out, H0.out]
      simp; omega
  · obtain ⟨g, cap, rfl⟩ := owns_open Hown.out hz
    clear Hown
    by_cases h1 : lo ≤ n
    all_goals by_cases h2 : n ≤ hi
    all_goals
      go_wp2_with fail
      go_loopw [8, 25] (fun ok i wr => ∃ k, k ≤ n ∧ i = .int .i64 k ∧ ok = .bool (acc s lo hi k) ∧ wr = w1) (fun _ i _ => n - (intOf i).toNat)
      case atStart => exact ⟨0, Nat.zero_le _, rfl, by rw [H0.out]; simp <;> omega, rfl⟩
      case round =>
        obtain ⟨k, hk, rfl, rfl, rfl⟩ := hrel
        by_cases hlt : k < n
        · have hc := Hcell.out k hlt g cap rfl
          have hl := Hle.out k hlt
          have Hs := Lib.hid (Hsucc.out k hlt)
          generalize ((steps s s.size 0).getD k (0, 0)).2 = r at *
          cases hA : acc s lo hi k with
          | true =>
            rw [hA] at Hs
            clear hA
            go_wp2_with (go_at_call 110; refine (rplain_any r _ hl).mono ?_; rintro e w' ⟨rfl, rfl⟩)
            go_roundw
            case rel => exact ⟨k + 1, by omega, by go_num, by rw [Hs.out]; rfl, by first | rfl | trivial⟩
            case measure => simp [intOf]; omega
          | false =>
            rw [hA] at Hs
            clear hA
            go_wp2_with fail
            go_roundw
            case rel => exact ⟨k + 1, by omega, by go_num, by rw [Hs.out]; rfl, by first | rfl | trivial⟩
            case measure => simp [intOf]; omega
        · have e : k = n := by omega
          have E := Lib.hid (show acc s lo hi k = madeB s lo hi plainB by rw [e]; exact Hend.out)
          go_wp2_with fail
          go_ret
          exact ⟨by rw [← E.out]; rfl, Hb.out⟩

end Go.Proofs.Ytdfjnpnkfjcpcaa.Tx
