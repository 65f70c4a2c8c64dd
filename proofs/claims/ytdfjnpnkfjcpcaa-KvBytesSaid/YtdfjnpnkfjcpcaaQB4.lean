/-
  Walks: Key, Value and Name, of the package and of the reference.
-/
import Derived.Test.YtdfjnpnkfjcpcaaQM2
namespace Go.Proofs.Ytdfjnpnkfjcpcaa.Tx
open Go.Proofs.Ytdfjnpnkfjcpcaa
set_option linter.unusedVariables false
set_option linter.unusedSimpArgs false
open Go.RowKit

def errOf (b : Bool) (e : Int) : Int := if b = true then 0 else e
def ErrP (b : Bool) (n : Int) (w : World) (e : Ending) (w' : World) : Prop := e = .returned (.int .i64 (errOf b n)) ∧ Below w.heap.size w w'
theorem ErrP.yes {n : Int} {w w' : World} {e : Ending} (h : e = .returned (.int .i64 0)) (hb : Below w.heap.size w w') : ErrP true n w e w' := ⟨h, hb⟩
theorem ErrP.no {n : Int} {w w' : World} {e : Ending} (h : e = .returned (.int .i64 n)) (hb : Below w.heap.size w w') : ErrP false n w e w' := ⟨h, hb⟩

theorem Key_any (s : ByteArray) (w : World) (hs : s.size ≤ 1073741824) : Calls Try.prog 78 #[.string s] w (ErrP (madeB s 1 24 plainB) 20 w) := by
  have hc : Hid (Calls Try.prog 99 #[.string s, .int .i64 1, .int .i64 24, .func (.func 100) #[] #[]] w fun e w' => e = .returned (.bool (madeB s 1 24 plainB)) ∧ Below w.heap.size w w') := madeOf_plain s 1 24 w (by omega) (by omega) (by omega)
  cases hb : madeB s 1 24 plainB with
  | true =>
    rw [hb] at hc
    clear hb
    go_enter Try.func78, Try.ntmps78
    go_wp2_with fail
    go_fit hc.out
    rintro e w1 ⟨rfl, hb1⟩
    have Hb := Lib.hid hb1
    clear hb1
    go_wp2_with fail
    go_ret
    exact ErrP.yes rfl Hb.out
  | false =>
    rw [hb] at hc
    clear hb
    go_enter Try.func78, Try.ntmps78
    go_wp2_with fail
    go_fit hc.out
    rintro e w1 ⟨rfl, hb1⟩
    have Hb := Lib.hid hb1
    clear hb1
    go_wp2_with fail
    go_ret
    exact ErrP.no rfl Hb.out

theorem Value_any (s : ByteArray) (w : World) (hs : s.size ≤ 1073741824) : Calls Try.prog 79 #[.string s] w (ErrP (madeB s 0 48 plainB) 21 w) := by
  have hc : Hid (Calls Try.prog 99 #[.string s, .int .i64 0, .int .i64 48, .func (.func 100) #[] #[]] w fun e w' => e = .returned (.bool (madeB s 0 48 plainB)) ∧ Below w.heap.size w w') := madeOf_plain s 0 48 w (by omega) (by omega) (by omega)
  cases hb : madeB s 0 48 plainB with
  | true =>
    rw [hb] at hc
    clear hb
    go_enter Try.func79, Try.ntmps79
    go_wp2_with fail
    go_fit hc.out
    rintro e w1 ⟨rfl, hb1⟩
    have Hb := Lib.hid hb1
    clear hb1
    go_wp2_with fail
    go_ret
    exact ErrP.yes rfl Hb.out
  | false =>
    rw [hb] at hc
    clear hb
    go_enter Try.func79, Try.ntmps79
    go_wp2_with fail
    go_fit hc.out
    rintro e w1 ⟨rfl, hb1⟩
    have Hb := Lib.hid hb1
    clear hb1
    go_wp2_with fail
    go_ret
    exact ErrP.no rfl Hb.out

theorem rKey_any (s : ByteArray) (w : World) (hs : s.size ≤ 1073741824) : Calls Try.prog 69 #[.string s] w (ErrP (madeB s 1 24 plainB) 20 w) := by
  have hc : Hid (Calls Try.prog 94 #[.string s, .int .i64 1, .int .i64 24] w fun e w' => e = .returned (.bool (madeB s 1 24 plainB)) ∧ Below w.heap.size w w') := many_any s 1 24 w hs (by omega) (by omega)
  cases hb : madeB s 1 24 plainB with
  | true =>
    rw [hb] at hc
    clear hb
    go_enter Try.func69, Try.ntmps69
    go_wp2_with fail
    go_fit hc.out
    rintro e w1 ⟨rfl, hb1⟩
    have Hb := Lib.hid hb1
    clear hb1
    go_wp2_with fail
    go_ret
    exact ErrP.yes rfl Hb.out
  | false =>
    rw [hb] at hc
    clear hb
    go_enter Try.func69, Try.ntmps69
    go_wp2_with fail
    go_fit hc.out
    rintro e w1 ⟨rfl, hb1⟩
    have Hb := Lib.hid hb1
    clear hb1
    go_wp2_with fail
    go_ret
    exact ErrP.no rfl Hb.out

theorem rValue_any (s : ByteArray) (w : World) (hs : s.size ≤ 1073741824) : Calls Try.prog 70 #[.string s] w (ErrP (madeB s 0 48 plainB) 21 w) := by
  have hc : Hid (Calls Try.prog 94 #[.string s, .int .i64 0, .int .i64 48] w fun e w' => e = .returned (.bool (madeB s 0 48 plainB)) ∧ Below w.heap.size w w') := many_any s 0 48 w hs (by omega) (by omega)
  cases hb : madeB s 0 48 plainB with
  | true =>
    rw [hb] at hc
    clear hb
    go_enter Try.func70, Try.ntmps70
    go_wp2_with fail
    go_fit hc.out
    rintro e w1 ⟨rfl, hb1⟩
    have Hb := Lib.hid hb1
    clear hb1
    go_wp2_with fail
    go_ret
    exact ErrP.yes rfl Hb.out
  | false =>
    rw [hb] at hc
    clear hb
    go_enter Try.func70, Try.ntmps70
    go_wp2_with fail
    go_fit hc.out
    rintro e w1 ⟨rfl, hb1⟩
    have Hb := Lib.hid hb1
    clear hb1
    go_wp2_with fail
    go_ret
    exact ErrP.no rfl Hb.out

theorem letter_hi (c : Nat) (h : (97 : Int) ≤ (c : Int)) : letterB c = decide ((c : Int) ≤ 122) := by
  unfold letterB
  rw [decide_eq_true (show 97 ≤ c by omega), Bool.true_and, decide_eq_decide]
  omega
theorem letter_lo (c : Nat) (h : ¬ (97 : Int) ≤ (c : Int)) : letterB c = false := by
  unfold letterB
  rw [decide_eq_false (show ¬ 97 ≤ c by omega), Bool.false_and]

end Go.Proofs.Ytdfjnpnkfjcpcaa.Tx
