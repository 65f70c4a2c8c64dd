/-
  Walks: whether a part may be.
-/
import Derived.Test.YtdeknkfhlmkabaaF3
namespace Go.Proofs.Ytdeknkfhlmkabaa
set_option linter.unusedVariables false
set_option linter.unusedSimpArgs false
open Go.RowKit

def MayP (b : Bool) (w : World) (e : Ending) (w' : World) : Prop := e = .returned (.bool b) ∧ Below w.heap.size w w'
theorem MayP.of {b c : Bool} {w w' : World} (h : c = b) (hb : Below w.heap.size w w') : MayP b w (.returned (.bool c)) w' := ⟨by rw [h], hb⟩
theorem nat_zero (m : Nat) : decide ((m : Int) = 0) = decide (m = 0) := by congr 1; simp
theorem nat_zero' (m : Nat) : ((m : Int) == 0) = decide (m = 0) := by rw [← nat_zero]; rfl
theorem nat_one' (m : Nat) : ((m : Int) == 1) = decide (m = 1) := by
  by_cases h : m = 1
  · subst h; rfl
  · rw [decide_eq_false h]; simp; omega

set_option maxRecDepth 100000 in
set_option maxHeartbeats 1600000 in
theorem may_0 (n t : ByteArray) (m : Nat) (a : Option Addr) (c : Nat) (w : World) : Calls Try.prog 65 #[.agg #[.int .i64 0, .string n, .string t, .slice a m c]] w (MayP (mayF 0 n t m) w) := by
  have HB := Lib.hid (lay_alloc w (.cells #[.int .i64 0, .string n, .string t, .slice a m c] 24))
  have e0 := nat_zero' m
  have e1 := nat_one' m
  go_enter Try.func65, Try.ntmps65
  go_wp2_with fail
  all_goals
    go_ret
    refine MayP.of ?_ HB.out
    simp_all [mayF, nilB]

set_option maxRecDepth 100000 in
set_option maxHeartbeats 1600000 in
theorem may_3 (n t : ByteArray) (m : Nat) (a : Option Addr) (c : Nat) (w : World) : Calls Try.prog 65 #[.agg #[.int .i64 3, .string n, .string t, .slice a m c]] w (MayP (mayF 3 n t m) w) := by
  have HB := Lib.hid (lay_alloc w (.cells #[.int .i64 3, .string n, .string t, .slice a m c] 24))
  have e0 := nat_zero' m
  have e1 := nat_one' m
  go_enter Try.func65, Try.ntmps65
  go_wp2_with fail
  all_goals
    go_ret
    refine MayP.of ?_ HB.out
    simp_all [mayF, nilB]

set_option maxRecDepth 100000 in
set_option maxHeartbeats 1600000 in
theorem may_4 (n t : ByteArray) (m : Nat) (a : Option Addr) (c : Nat) (w : World) : Calls Try.prog 65 #[.agg #[.int .i64 4, .string n, .string t, .slice a m c]] w (MayP (mayF 4 n t m) w) := by
  have HB := Lib.hid (lay_alloc w (.cells #[.int .i64 4, .string n, .string t, .slice a m c] 24))
  have e0 := nat_zero' m
  have e1 := nat_one' m
  go_enter Try.func65, Try.ntmps65
  go_wp2_with fail
  all_goals
    go_ret
    refine MayP.of ?_ HB.out
    simp_all [mayF, nilB]

set_option maxRecDepth 100000 in
set_option maxHeartbeats 1600000 in
theorem may_5 (n t : ByteArray) (m : Nat) (a : Option Addr) (c : Nat) (w : World) : Calls Try.prog 65 #[.agg #[.int .i64 5, .string n, .string t, .slice a m c]] w (MayP (mayF 5 n t m) w) := by
  have HB := Lib.hid (lay_alloc w (.cells #[.int .i64 5, .string n, .string t, .slice a m c] 24))
  have e0 := nat_zero' m
  have e1 := nat_one' m
  go_enter Try.func65, Try.ntmps65
  go_wp2_with fail
  all_goals
    go_ret
    refine MayP.of ?_ HB.out
    simp_all [mayF, nilB]

set_option maxRecDepth 100000 in
set_option maxHeartbeats 1600000 in
theorem may_6 (n t : ByteArray) (m : Nat) (a : Option Addr) (c : Nat) (w : World) : Calls Try.prog 65 #[.agg #[.int .i64 6, .string n, .string t, .slice a m c]] w (MayP (mayF 6 n t m) w) := by
  have HB := Lib.hid (lay_alloc w (.cells #[.int .i64 6, .string n, .string t, .slice a m c] 24))
  have e0 := nat_zero' m
  have e1 := nat_one' m
  go_enter Try.func65, Try.ntmps65
  go_wp2_with fail
  all_goals
    go_ret
    refine MayP.of ?_ HB.out
    simp_all [mayF, nilB]

theorem errZ (b : Bool) (e : Int) (he : e ≠ 0) : (Tx.errOf b e == 0) = b := by
  cases b
  · simp [Tx.errOf]; exact he
  · rfl
set_option maxRecDepth 100000 in
set_option maxHeartbeats 1600000 in
theorem may_1 (n t : ByteArray) (m : Nat) (a : Option Addr) (c : Nat) (w : World) (ht : t.size ≤ 1073741824) : Calls Try.prog 65 #[.agg #[.int .i64 1, .string n, .string t, .slice a m c]] w (MayP (mayF 1 n t m) w) := by
  have hb := lay_alloc w (.cells #[.int .i64 1, .string n, .string t, .slice a m c] 24)
  have HB := Lib.hid hb
  have HK := Lib.hid (Tx.Key_any t (w.alloc (.cells #[.int .i64 1, .string n, .string t, .slice a m c] 24)) ht)
  have e0 := nat_zero' m
  clear hb ht
  by_cases hn : n.toList.isEmpty = true
  · by_cases hm : m = 0
    · have hmi : ((m : Int) == 0) = true := by rw [e0]; simpa using hm
      have hz := errZ (Tx.madeB t 1 24 Tx.plainB) 20 (by decide)
      have HM : Hid (mayF 1 n t m = Tx.madeB t 1 24 Tx.plainB) := by show _ = _; simp [mayF, nilB, hn, hm, keyOk]
      clear e0 hm
      go_enter Try.func65, Try.ntmps65
      go_wp2_with fail
      all_goals
        go_fit HK.out
        rintro e w1 ⟨rfl, hb1⟩
        have HB1 := Lib.hid (HB.out.trans (hb1.mono HB.out.size))
        clear hb1
        go_wp2_with fail
        go_ret
        exact MayP.of HM.out.symm HB1.out
    · have hmi : ((m : Int) == 0) = false := by rw [e0]; simpa using hm
      go_enter Try.func65, Try.ntmps65
      go_wp2_with fail
      all_goals
        go_ret
        refine MayP.of ?_ HB.out
        simp_all [mayF, nilB]
  · go_enter Try.func65, Try.ntmps65
    go_wp2_with fail
    all_goals
      go_ret
      refine MayP.of ?_ HB.out
      simp_all [mayF, nilB]

set_option maxRecDepth 100000 in
set_option maxHeartbeats 1600000 in
theorem may_2 (n t : ByteArray) (m : Nat) (a : Option Addr) (c : Nat) (w : World) (hn : n.size ≤ 1073741824) (ht : t.size ≤ 1073741824) : Calls Try.prog 65 #[.agg #[.int .i64 2, .string n, .string t, .slice a m c]] w (MayP (mayF 2 n t m) w) := by
  have hb := lay_alloc w (.cells #[.int .i64 2, .string n, .string t, .slice a m c] 24)
  have HB := Lib.hid hb
  have HN := Lib.hid (Tx.Name_any n (w.alloc (.cells #[.int .i64 2, .string n, .string t, .slice a m c] 24)) hn)
  have HT := Lib.hid (fun W => Tx.Value_any t W ht)
  have e0 := nat_zero' m
  have y2 := (DC.alloc w [.int .i64 2, .string n, .string t, .slice a m c] 24)
  have HY := Lib.hid y2
  clear hb ht hn y2
  by_cases hm : m = 0
  · have hmi : ((m : Int) == 0) = true := by rw [e0]; simpa using hm
    have hz := errZ (Tx.madeB n 1 8 Tx.letterB) 22 (by decide)
    have hz2 := errZ (Tx.madeB t 0 48 Tx.plainB) 21 (by decide)
    have HM : Hid (mayF 2 n t m = (Tx.madeB n 1 8 Tx.letterB && Tx.madeB t 0 48 Tx.plainB)) := by show _ = _; simp [mayF, nilB, hm, nameOk, valOk]
    clear e0 hm
    generalize Tx.madeB n 1 8 Tx.letterB = bn at *
    generalize Tx.madeB t 0 48 Tx.plainB = bt at *
    cases bn
    · go_enter Try.func65, Try.ntmps65
      go_wp2_with fail
      all_goals
        go_fit HN.out
        rintro e w1 ⟨rfl, hb1⟩
        have HB1 := Lib.hid (HB.out.trans (hb1.mono HB.out.size))
        clear hb1
        go_wp2_with fail
        go_ret
        exact MayP.of HM.out.symm HB1.out
    · go_enter Try.func65, Try.ntmps65
      go_wp2_with fail
      all_goals
        go_fit HN.out
        rintro e w1 ⟨rfl, hb1⟩
        have HB1 := Lib.hid (HB.out.trans (hb1.mono HB.out.size))
        have z2 := (HY.out.below hb1).cells 2 _ rfl
        clear hb1
        go_wp2_with fail
        go_fit (HT.out _)
        rintro e w2 ⟨rfl, hb2⟩
        have HB2 := Lib.hid (HB1.out.trans (hb2.mono HB1.out.size))
        clear hb2
        go_wp2_with fail
        go_ret
        exact MayP.of (by rw [HM.out]; rfl) HB2.out
  · have hmi : ((m : Int) == 0) = false := by rw [e0]; simpa using hm
    go_enter Try.func65, Try.ntmps65
    go_wp2_with fail
    all_goals
      go_ret
      refine MayP.of ?_ HB.out
      simp_all [mayF, nilB]

set_option maxRecDepth 100000 in
set_option maxHeartbeats 1600000 in
theorem may_x (k : Int) (n t : ByteArray) (m : Nat) (a : Option Addr) (c : Nat) (w : World) (h0 : k ≠ 0) (h1 : k ≠ 1) (h2 : k ≠ 2) (h3 : k ≠ 3) (h4 : k ≠ 4) (h5 : k ≠ 5) (h6 : k ≠ 6) : Calls Try.prog 65 #[.agg #[.int .i64 k, .string n, .string t, .slice a m c]] w (MayP (mayF k n t m) w) := by
  have HB := Lib.hid (lay_alloc w (.cells #[.int .i64 k, .string n, .string t, .slice a m c] 24))
  have q0 : (k == 0) = false := by simpa using h0
  have q1 : (k == 1) = false := by simpa using h1
  have q2 : (k == 2) = false := by simpa using h2
  have q3 : (k == 3) = false := by simpa using h3
  have q4 : (k == 4) = false := by simpa using h4
  have q5 : (k == 5) = false := by simpa using h5
  have q6 : (k == 6) = false := by simpa using h6
  have HM : Hid (mayF k n t m = false) := by show _ = _; simp [mayF, h0, h1, h2, h3, h4, h5, h6]
  go_enter Try.func65, Try.ntmps65
  go_wp2_with fail
  all_goals
    go_ret
    exact MayP.of HM.out.symm HB.out

theorem may_any (f : Fl) {u : Value} {w : World} {B : Nat} (hu : KidsIn w B u f.kids) (hn : f.name.size ≤ 1073741824) (ht : f.text.size ≤ 1073741824) : Calls Try.prog 65 #[flV f u] w (MayP (mayF f.kind f.name f.text f.kids.length) w) := by
  obtain ⟨a, c, rfl, _, _⟩ := hu.slice
  unfold flV
  generalize f.kind = k
  by_cases h0 : k = 0
  · subst h0; exact may_0 _ _ _ _ _ _
  by_cases h1 : k = 1
  · subst h1; exact may_1 _ _ _ _ _ _ ht
  by_cases h2 : k = 2
  · subst h2; exact may_2 _ _ _ _ _ _ hn ht
  by_cases h3 : k = 3
  · subst h3; exact may_3 _ _ _ _ _ _
  by_cases h4 : k = 4
  · subst h4; exact may_4 _ _ _ _ _ _
  by_cases h5 : k = 5
  · subst h5; exact may_5 _ _ _ _ _ _
  by_cases h6 : k = 6
  · subst h6; exact may_6 _ _ _ _ _ _
  exact may_x k _ _ _ _ _ _ h0 h1 h2 h3 h4 h5 h6
end Go.Proofs.Ytdeknkfhlmkabaa
