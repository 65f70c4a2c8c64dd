/-
  Walks: the example.
-/
import Derived.Test.YtdcmefkejgjdeaaB7
namespace Go.Proofs.Ytdcmefkejgjdeaa
set_option linter.unusedVariables false
set_option linter.unusedSimpArgs false
open Go.RowKit
variable {w : World} {B b : Nat} {L : List Nat} {t : Tb} {v : Value}

def T1 : Tb := ⟨1, [⟨1, 0, 0, 0⟩]⟩
def T2 : Tb := ⟨1, [⟨1, 1, 0, 5⟩]⟩
theorem ex1 : T0.opn = (1, 0, T1) := by simp [Tb.opn, T0, T1]
theorem ex2 : ask T1.seats 1 1 = ⟨0, 0, true, 0⟩ := by simp [ask, plc, Se.ask, T1]
theorem ex3 : T1.keep 1 1 0 5 = (0, T2) := by simp [Tb.keep, ask, plc, Se.ask, T1, T2]
theorem ex4 : ask T2.seats 1 1 = ⟨0, 5, false, 0⟩ := by simp [ask, plc, Se.ask, T2]
theorem ex5 : ask T2.seats 1 3 = ⟨0, 0, false, 92⟩ := by simp [ask, plc, Se.ask, T2]
theorem ex6 : ask T2.seats 2 1 = ⟨0, 0, false, 90⟩ := by simp [ask, plc, Se.ask, T2]
theorem T1_ok : T1.Ok 0 := by have := opn_ok (T0_ok 0); rw [ex1] at this; exact this
theorem T2_ok : T2.Ok 1 := by have := keep_ok T1_ok 1 1 0 5; rw [ex3] at this; exact this

def Yes (w : World) (e : Ending) (w' : World) : Prop := e = .returned (.bool true) ∧ Below w.heap.size w w'

set_option maxRecDepth 100000 in
set_option maxHeartbeats 6400000 in
theorem awake_any (w : World) : Calls Try.prog 11 #[] w (Yes w) := by
  go_enter Try.func11, Try.ntmps11
  go_wp2_with fail
  go_fit (New_any w)
  rintro e w1 ⟨rfl, hd, hb⟩
  have HS1 : Hid (Sk w w1 w.heap.size [w.heap.size] T0 0) := ⟨hd, T0_ok 0, hb⟩
  clear hd hb
  have HC' := Open_any HS1.out.tab HS1.out.ok
  rw [ex1] at HC'
  have HC := Lib.hid HC'
  clear HC'
  go_wp2_with fail
  go_fit HC.out
  rintro e w2 ⟨L2, rfl, hd, he⟩
  have HS2 : Hid (Sk w w2 w.heap.size L2 T1 0) := HS1.out.ext hd he T1_ok
  clear hd he HC
  have HC' := Ask_any 1 1 HS2.out.tab (fun s hs => by have := HS2.out.ok.seq s hs; omega)
  rw [ex2] at HC'
  have HC := Lib.hid HC'
  clear HC'
  go_wp2_with fail
  go_fit HC.out
  rintro e w3 ⟨rfl, hb⟩
  have HS3 := Lib.hid ((HS2.out.later hb).later (below_alloc w3 (.cells #[.int .i64 0, .int .i64 0] 32)))
  clear hb HC
  have HC' := Keep_any 1 1 0 5 HS3.out.tab HS3.out.ok (by omega)
  rw [ex3] at HC'
  have HC := Lib.hid HC'
  clear HC'
  go_wp2_with fail
  go_fit HC.out
  rintro e w4 ⟨L4, rfl, hd, he⟩
  have HS4 : Hid (Sk w w4 w.heap.size L4 T2 1) := HS3.out.ext hd he T2_ok
  clear hd he HC
  have HC' := Ask_any 1 1 HS4.out.tab (fun s hs => by have := HS4.out.ok.seq s hs; omega)
  rw [ex4] at HC'
  have HC := Lib.hid HC'
  clear HC'
  go_wp2_with fail
  go_fit HC.out
  rintro e w5 ⟨rfl, hb⟩
  have HS5 := Lib.hid ((HS4.out.later hb).later (below_alloc w5 (.cells #[.int .i64 0, .int .i64 5] 32)))
  have HR5 := Lib.hid (DC.alloc w5 [.int .i64 0, .int .i64 5] 32)
  clear hb HC
  have HC' := Ask_any 1 3 HS5.out.tab (fun s hs => by have := HS5.out.ok.seq s hs; omega)
  rw [ex5] at HC'
  have HC := Lib.hid HC'
  clear HC'
  go_wp2_with fail
  go_fit HC.out
  rintro e w6 ⟨rfl, hb⟩
  have HS6 := Lib.hid ((HS5.out.later hb).later (below_alloc w6 (.cells #[.int .i64 0, .int .i64 0] 32)))
  have HR6 := Lib.hid ((HR5.out.below hb).below (below_alloc w6 (.cells #[.int .i64 0, .int .i64 0] 32)))
  clear hb HC
  have HC' := Ask_any 2 1 HS6.out.tab (fun s hs => by have := HS6.out.ok.seq s hs; omega)
  rw [ex6] at HC'
  have HC := Lib.hid HC'
  clear HC'
  go_wp2_with fail
  go_fit HC.out
  rintro e w7 ⟨rfl, hb⟩
  have HS7 := Lib.hid ((HS6.out.later hb).later (below_alloc w7 (.cells #[.int .i64 0, .int .i64 0] 32)))
  have HR7 := Lib.hid ((HR6.out.below hb).below (below_alloc w7 (.cells #[.int .i64 0, .int .i64 0] 32)))
  clear hb HC
  have r1 := HR7.out.cells 1 _ rfl
  go_wp2_with fail
  go_ret
  exact ⟨rfl, HS7.out.below⟩
end Go.Proofs.Ytdcmefkejgjdeaa
