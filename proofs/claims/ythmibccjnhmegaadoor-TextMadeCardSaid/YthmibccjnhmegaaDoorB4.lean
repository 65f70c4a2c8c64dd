/-
  Walks: Key, Value and Name, of the package and of the reference.
-/
import Derived.Test.YthmibccjnhmegaaDoorM2
namespace Go.Proofs.YthmibccjnhmegaaDoor
set_option linter.unusedVariables false
set_option linter.unusedSimpArgs false
open Go.RowKit

def errOf (b : Bool) (e : Int) : Int := if b = true then 0 else e
def ErrP (b : Bool) (n : Int) (w : World) (e : Ending) (w' : World) : Prop := e = .returned (.int .i64 (errOf b n)) ∧ Below w.heap.size w w'
theorem ErrP.yes {n : Int} {w w' : World} {e : Ending} (h : e = .returned (.int .i64 0)) (hb : Below w.heap.size w w') : ErrP true n w e w' := ⟨h, hb⟩
theorem ErrP.no {n : Int} {w w' : World} {e : Ending} (h : e = .returned (.int .i64 n)) (hb : Below w.heap.size w w') : ErrP false n w e w' := ⟨h, hb⟩

theorem Key_any (s : ByteArray) (w : World) (hs : s.size ≤ 1073741824) : Calls Tryd.prog 15 #[.string s] w (ErrP (madeB s 1 24 plainB) 20 w) := by
  have hc : Hid (Calls Tryd.prog 35 #[.string s, .int .i64 1, .int .i64 24, .func (.func 36) #[] #[]] w fun e w' => e = .returned (.bool (madeB s 1 24 plainB)) ∧ Below w.heap.size w w') := madeOf_plain s 1 24 w (by omega) (by omega) (by omega)
  cases hb : madeB s 1 24 plainB with
  | true =>
    rw [hb] at hc
    clear hb
    go_enter Tryd.func15, Tryd.ntmps15
    go_wp2_with fail
    go_fit hc.out
    rintro e w1 ⟨rfl, hb1⟩
    have Hb := Lib.hid hb1
    clear hb1
    go_wp2_with fail
    go_ret
    exact ErrP.yes rfl Hb.out
  | false =>
    rw [hb] at hc
    clear hb
    go_enter Tryd.func15, Tryd.ntmps15
    go_wp2_with fail
    go_fit hc.out
    rintro e w1 ⟨rfl, hb1⟩
    have Hb := Lib.hid hb1
    clear hb1
    go_wp2_with fail
    go_ret
    exact ErrP.no rfl Hb.out

theorem Value_any (s : ByteArray) (w : World) (hs : s.size ≤ 1073741824) : Calls Tryd.prog 17 #[.string s] w (ErrP (madeB s 0 48 plainB) 21 w) := by
  have hc : Hid (Calls Tryd.prog 35 #[.string s, .int .i64 0, .int .i64 48, .func (.func 36) #[] #[]] w fun e w' => e = .returned (.bool (madeB s 0 48 plainB)) ∧ Below w.heap.size w w') := madeOf_plain s 0 48 w (by omega) (by omega) (by omega)
  cases hb : madeB s 0 48 plainB with
  | true =>
    rw [hb] at hc
    clear hb
    go_enter Tryd.func17, Tryd.ntmps17
    go_wp2_with fail
    go_fit hc.out
    rintro e w1 ⟨rfl, hb1⟩
    have Hb := Lib.hid hb1
    clear hb1
    go_wp2_with fail
    go_ret
    exact ErrP.yes rfl Hb.out
  | false =>
    rw [hb] at hc
    clear hb
    go_enter Tryd.func17, Tryd.ntmps17
    go_wp2_with fail
    go_fit hc.out
    rintro e w1 ⟨rfl, hb1⟩
    have Hb := Lib.hid hb1
    clear hb1
    go_wp2_with fail
    go_ret
    exact ErrP.no rfl Hb.out

theorem Name_any (s : ByteArray) (w : World) (hs : s.size ≤ 1073741824) : Calls Tryd.prog 19 #[.string s] w (ErrP (madeB s 1 8 letterB) 22 w) := by
  have hc : Hid (Calls Tryd.prog 35 #[.string s, .int .i64 1, .int .i64 8, .func (.func 38) #[] #[]] w fun e w' => e = .returned (.bool (madeB s 1 8 letterB)) ∧ Below w.heap.size w w') := madeOf_letter s 1 8 w (by omega) (by omega) (by omega)
  cases hb : madeB s 1 8 letterB with
  | true =>
    rw [hb] at hc
    clear hb
    go_enter Tryd.func19, Tryd.ntmps19
    go_wp2_with fail
    go_fit hc.out
    rintro e w1 ⟨rfl, hb1⟩
    have Hb := Lib.hid hb1
    clear hb1
    go_wp2_with fail
    go_ret
    exact ErrP.yes rfl Hb.out
  | false =>
    rw [hb] at hc
    clear hb
    go_enter Tryd.func19, Tryd.ntmps19
    go_wp2_with fail
    go_fit hc.out
    rintro e w1 ⟨rfl, hb1⟩
    have Hb := Lib.hid hb1
    clear hb1
    go_wp2_with fail
    go_ret
    exact ErrP.no rfl Hb.out

theorem rKey_any (s : ByteArray) (w : World) (hs : s.size ≤ 1073741824) : Calls Tryd.prog 16 #[.string s] w (ErrP (madeB s 1 24 plainB) 20 w) := by
  have hc : Hid (Calls Tryd.prog 37 #[.string s, .int .i64 1, .int .i64 24] w fun e w' => e = .returned (.bool (madeB s 1 24 plainB)) ∧ Below w.heap.size w w') := many_any s 1 24 w hs (by omega) (by omega)
  cases hb : madeB s 1 24 plainB with
  | true =>
    rw [hb] at hc
    clear hb
    go_enter Tryd.func16, Tryd.ntmps16
    go_wp2_with fail
    go_fit hc.out
    rintro e w1 ⟨rfl, hb1⟩
    have Hb := Lib.hid hb1
    clear hb1
    go_wp2_with fail
    go_ret
    exact ErrP.yes rfl Hb.out
  | false =>
    rw [hb] at hc
    clear hb
    go_enter Tryd.func16, Tryd.ntmps16
    go_wp2_with fail
    go_fit hc.out
    rintro e w1 ⟨rfl, hb1⟩
    have Hb := Lib.hid hb1
    clear hb1
    go_wp2_with fail
    go_ret
    exact ErrP.no rfl Hb.out

theorem rValue_any (s : ByteArray) (w : World) (hs : s.size ≤ 1073741824) : Calls Tryd.prog 18 #[.string s] w (ErrP (madeB s 0 48 plainB) 21 w) := by
  have hc : Hid (Calls Tryd.prog 37 #[.string s, .int .i64 0, .int .i64 48] w fun e w' => e = .returned (.bool (madeB s 0 48 plainB)) ∧ Below w.heap.size w w') := many_any s 0 48 w hs (by omega) (by omega)
  cases hb : madeB s 0 48 plainB with
  | true =>
    rw [hb] at hc
    clear hb
    go_enter Tryd.func18, Tryd.ntmps18
    go_wp2_with fail
    go_fit hc.out
    rintro e w1 ⟨rfl, hb1⟩
    have Hb := Lib.hid hb1
    clear hb1
    go_wp2_with fail
    go_ret
    exact ErrP.yes rfl Hb.out
  | false =>
    rw [hb] at hc
    clear hb
    go_enter Tryd.func18, Tryd.ntmps18
    go_wp2_with fail
    go_fit hc.out
    rintro e w1 ⟨rfl, hb1⟩
    have Hb := Lib.hid hb1
    clear hb1
    go_wp2_with fail
    go_ret
    exact ErrP.no rfl Hb.out

theorem letter_hi (c : Nat) (h : (97 : Int) ≤ (c : Int)) : letterB c = decide ((c : Int) ≤ 122) := by
  unfold letterB
  rw [decide_eq_true (show 97 ≤ c by omega), Bool.true_and, decide_eq_decide]
  omega
theorem letter_lo (c : Nat) (h : ¬ (97 : Int) ≤ (c : Int)) : letterB c = false := by
  unfold letterB
  rw [decide_eq_false (show ¬ 97 ≤ c by omega), Bool.false_and]

set_option maxHeartbeats 800000 in
theorem rName_any (s : ByteArray) (w : World) (hs : s.size ≤ 1073741824) : Calls Tryd.prog 20 #[.string s] w (ErrP (madeB s 1 8 letterB) 22 w) := by
  have Hend := Lib.hid (nacc_all s)
  have H0 := Lib.hid (nacc_zero s)
  by_cases h1 : 1 ≤ s.size
  all_goals by_cases h2 : s.size ≤ 8
  all_goals try (exfalso; omega)
  all_goals
    go_enter Tryd.func20, Tryd.ntmps20
    go_wp2_with fail
    go_loopw [3, 15] (fun ok i wr => ∃ k, k ≤ s.size ∧ i = .int .i64 k ∧ ok = .bool (nacc s k) ∧ wr = w) (fun _ i _ => s.size - (intOf i).toNat)
    case atStart => exact ⟨0, Nat.zero_le _, rfl, by rw [H0.out]; first | (simp [h1, h2]; done) | (simp [h1, h2]; omega), rfl⟩
    case round =>
      obtain ⟨k, hk, rfl, rfl, rfl⟩ := hrel
      by_cases hlt : k < s.size
      · have Hs := Lib.hid (nacc_succ s k)
        have he : s.get! k = s[k]'hlt := get_at s k hlt
        rw [he] at Hs
        clear he
        cases hA : nacc s k with
        | true =>
          rw [hA] at Hs
          clear hA
          go_wp2_with fail
          all_goals
            go_roundw
            case rel => exact ⟨k + 1, by omega, by go_num, by rw [Hs.out]; first | (rw [letter_hi _ ‹_›]; rfl) | (rw [letter_lo _ (by omega)]; rfl), by first | rfl | trivial⟩
            case measure => simp [intOf]; omega
        | false =>
          rw [hA] at Hs
          clear hA
          go_wp2_with fail
          go_roundw
          case rel => exact ⟨k + 1, by omega, by go_num, by rw [Hs.out]; rfl, by first | rfl | trivial⟩
          case measure => simp [intOf]; omega
      · have e : k = s.size := by omega
        have E := Lib.hid (show nacc s k = madeB s 1 8 letterB by rw [e]; exact Hend.out)
        clear H0 Hend
        cases hA : nacc s k with
        | true =>
          have E' := Lib.hid (show madeB s 1 8 letterB = true by rw [← E.out, hA])
          clear e E
          go_wp2_with fail
          go_ret
          rw [E'.out]
          exact ErrP.yes rfl (Below.refl _ _)
        | false =>
          have E' := Lib.hid (show madeB s 1 8 letterB = false by rw [← E.out, hA])
          clear e E
          go_wp2_with fail
          go_ret
          rw [E'.out]
          exact ErrP.no rfl (Below.refl _ _)
end Go.Proofs.YthmibccjnhmegaaDoor
