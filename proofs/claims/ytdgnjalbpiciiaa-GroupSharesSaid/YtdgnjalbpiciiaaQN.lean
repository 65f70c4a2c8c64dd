/-
  A field's name, whatever its length.
-/
import Derived.Test.YtdgnjalbpiciiaaQA
import Derived.Laws.RangeAny
namespace Go.Proofs.Ytdgnjalbpiciiaa.Tx
open Go.Proofs.Ytdgnjalbpiciiaa
set_option linter.unusedVariables false
set_option linter.unusedSimpArgs false
open Go.RowKit

theorem Name_big (s : ByteArray) (b : Bool) (n : Int) (h : madeB s 1 8 letterB = b) (hn : errOf b 22 = n) (w : World) (hs : s.size ≤ 9223372036854775807) :
    Calls Try.prog 72 #[.string s] w fun e w' => e = .returned (.int .i64 n) ∧ Below w.heap.size w w' := by
  subst hn
  have hc : Hid (Calls Try.prog 90 #[.string s, .int .i64 1, .int .i64 8, .func (.func 91) #[] #[]] w fun e w' => e = .returned (.bool (madeB s 1 8 letterB)) ∧ Below w.heap.size w w') := madeOf_letter s 1 8 w (by omega) (by omega) (by omega)
  rw [h] at hc
  clear h
  cases b
  all_goals
    go_enter Try.func72, Try.ntmps72
    go_wp2_with fail
    go_fit hc.out
    rintro e w1 ⟨rfl, hb1⟩
    have Hb := Lib.hid hb1
    clear hb1
    go_wp2_with fail
    go_ret
    exact ⟨rfl, Hb.out⟩

set_option maxHeartbeats 800000 in
theorem rName_big (s : ByteArray) (w : World) (hs : s.size ≤ 4611686018427387904) : Calls Try.prog 73 #[.string s] w (ErrP (madeB s 1 8 letterB) 22 w) := by
  have Hend := Lib.hid (nacc_all s)
  have H0 := Lib.hid (nacc_zero s)
  by_cases h1 : 1 ≤ s.size
  all_goals by_cases h2 : s.size ≤ 8
  all_goals try (exfalso; omega)
  all_goals
    go_enter Try.func73, Try.ntmps73
    go_wp2_with fail
    go_loopw [3, 15] (fun ok i wr => ∃ k, k ≤ s.size ∧ i = .int .i64 k ∧ ok = .bool (nacc s k) ∧ wr = w) (fun _ i _ => s.size - (intOf i).toNat)
    case atStart => exact ⟨0, Nat.zero_le _, rfl, by rw [H0.out]; first | (simp [h1, h2]; done) | (simp [h1, h2]; omega), rfl⟩
    case round =>
      obtain ⟨k, hk, rfl, rfl, rfl⟩ := hrel
      by_cases hlt : k < s.size
      · have Hs := Lib.hid (nacc_succ s k)
        have he : s.get! k = s[k]'hlt := get_at s k hlt
        rw [he] at Hs
        clear he
        cases hA : nacc s k with
        | true =>
          rw [hA] at Hs
          clear hA
          go_wp2_with fail
          all_goals
            go_roundw
            case rel => exact ⟨k + 1, by omega, by go_num, by rw [Hs.out]; first | (rw [letter_hi _ ‹_›]; rfl) | (rw [letter_lo _ (by omega)]; rfl), by first | rfl | trivial⟩
            case measure => simp [intOf]; omega
        | false =>
          rw [hA] at Hs
          clear hA
          go_wp2_with fail
          go_roundw
          case rel => exact ⟨k + 1, by omega, by go_num, by rw [Hs.out]; rfl, by first | rfl | trivial⟩
          case measure => simp [intOf]; omega
      · have e : k = s.size := by omega
        have E := Lib.hid (show nacc s k = madeB s 1 8 letterB by rw [e]; exact Hend.out)
        clear H0 Hend
        cases hA : nacc s k with
        | true =>
          have E' := Lib.hid (show madeB s 1 8 letterB = true by rw [← E.out, hA])
          clear e E
          go_wp2_with fail
          go_ret
          rw [E'.out]
          exact ErrP.yes rfl (Below.refl _ _)
        | false =>
          have E' := Lib.hid (show madeB s 1 8 letterB = false by rw [← E.out, hA])
          clear e E
          go_wp2_with fail
          go_ret
          rw [E'.out]
          exact ErrP.no rfl (Below.refl _ _)
end Go.Proofs.Ytdgnjalbpiciiaa.Tx
