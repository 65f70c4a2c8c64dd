/-
  The walk of the statements' own examples (awake).
-/
import Derived.Test.YthmibccjnhmegaaDoorB10
namespace Go.Proofs.YthmibccjnhmegaaDoor
set_option linter.unusedVariables false
set_option linter.unusedSimpArgs false
open Go.RowKit

/-- True, and nothing that was there has turned. -/
def Yes (w : World) (e : Ending) (w' : World) : Prop := e = .returned (.bool true) ∧ Below w.heap.size w w'

theorem ex1 : fieldOf ⟨#[97]⟩ (partsOf ⟨#[97, 58, 49, 32, 98, 58, 50, 32, 97, 58, 51]⟩ 32) = (⟨#[49]⟩, true) := by decide +kernel
theorem ex2 : numV ⟨#[45, 55]⟩ = -7 ∧ numE ⟨#[45, 55]⟩ = 0 := by decide +kernel
theorem ex3 : numV ⟨#[48, 55]⟩ = 0 ∧ numE ⟨#[48, 55]⟩ = 23 := by decide +kernel
theorem ex4 : madeB ⟨#[107]⟩ 1 24 plainB = true := by decide +kernel
theorem ex5 : madeB ⟨#[]⟩ 1 24 plainB = false := by decide +kernel
theorem ex6 : (partsOf ⟨#[97, 44, 44, 98]⟩ 44).length = 3 := by decide +kernel

set_option maxHeartbeats 800000 in
theorem awake_any (w : World) (hT : TabIn w) : Calls Tryd.prog 14 #[] w (Yes w) := by
  have HT := Lib.hid hT
  clear hT
  have c1 : ∀ w, TabIn w → Calls Tryd.prog 24 #[.string ⟨#[97, 58, 49, 32, 98, 58, 50, 32, 97, 58, 51]⟩, .string ⟨#[97]⟩] w fun e w' => e = .returned (.tuple #[.string ⟨#[49]⟩, .bool true]) ∧ Below w.heap.size w w' := fun w h => by
    have := Field_any ⟨#[97, 58, 49, 32, 98, 58, 50, 32, 97, 58, 51]⟩ ⟨#[97]⟩ w (by decide) h
    unfold FieldP at this; rw [ex1] at this; exact this
  have c2 : ∀ w, Calls Tryd.prog 26 #[.string ⟨#[45, 55]⟩] w fun e w' => e = .returned (.tuple #[.int .i64 (-7), .int .i64 0]) ∧ Below w.heap.size w w' := fun w => by
    have := Number_any ⟨#[45, 55]⟩ w (by decide)
    unfold NumP at this; rw [ex2.1, ex2.2] at this; exact this
  have c3 : ∀ w, Calls Tryd.prog 26 #[.string ⟨#[48, 55]⟩] w fun e w' => e = .returned (.tuple #[.int .i64 0, .int .i64 23]) ∧ Below w.heap.size w w' := fun w => by
    have := Number_any ⟨#[48, 55]⟩ w (by decide)
    unfold NumP at this; rw [ex3.1, ex3.2] at this; exact this
  have c4 : ∀ w, Calls Tryd.prog 15 #[.string ⟨#[107]⟩] w fun e w' => e = .returned (.int .i64 0) ∧ Below w.heap.size w w' := fun w => by
    have := Key_any ⟨#[107]⟩ w (by decide)
    unfold ErrP at this; rw [ex4] at this; exact this
  have c5 : ∀ w, Calls Tryd.prog 15 #[.string ⟨#[]⟩] w fun e w' => e = .returned (.int .i64 20) ∧ Below w.heap.size w w' := fun w => by
    have := Key_any ⟨#[]⟩ w (by decide)
    unfold ErrP at this; rw [ex5] at this; exact this
  have c6 : ∀ w, TabIn w → Calls Tryd.prog 22 #[.string ⟨#[97, 44, 44, 98]⟩, .int .i32 44] w fun e w' => (∃ a c, e = .returned (.slice a 3 c)) ∧ Below w.heap.size w w' := fun w h => by
    refine (Parts_any ⟨#[97, 44, 44, 98]⟩ 44 w (by decide) (by decide) (by decide) h).mono fun e w' ⟨g, n, c, he, hn, _, hb⟩ => ?_
    rw [ex6] at hn
    subst hn
    exact ⟨⟨_, _, he⟩, hb⟩
  have C1 := Lib.hid c1
  have C2 := Lib.hid c2
  have C3 := Lib.hid c3
  have C4 := Lib.hid c4
  have C5 := Lib.hid c5
  have C6 := Lib.hid c6
  clear c1 c2 c3 c4 c5 c6
  go_enter Tryd.func14, Tryd.ntmps14
  go_wp2_with fail
  go_fit (C1.out _ HT.out)
  rintro e w1 ⟨rfl, hb1⟩
  have H1 := Lib.hid hb1
  clear hb1
  go_wp2_with fail
  go_fit (C2.out _)
  rintro e w2 ⟨rfl, hb2⟩
  have H2 := Lib.hid (H1.out.trans (hb2.mono H1.out.size))
  clear hb2
  go_wp2_with fail
  go_fit (C3.out _)
  rintro e w3 ⟨rfl, hb3⟩
  have H3 := Lib.hid (H2.out.trans (hb3.mono H2.out.size))
  clear hb3
  go_wp2_with fail
  go_fit (C4.out _)
  rintro e w4 ⟨rfl, hb4⟩
  have H4 := Lib.hid (H3.out.trans (hb4.mono H3.out.size))
  clear hb4
  go_wp2_with fail
  go_fit (C5.out _)
  rintro e w5 ⟨rfl, hb5⟩
  have H5 := Lib.hid (H4.out.trans (hb5.mono H4.out.size))
  clear hb5
  go_wp2_with fail
  go_fit (C6.out _ (HT.out.later H5.out))
  rintro e w6 ⟨⟨a, c, rfl⟩, hb6⟩
  have H6 := Lib.hid (H5.out.trans (hb6.mono H5.out.size))
  clear hb6
  go_wp2_with fail
  go_ret
  exact ⟨rfl, H6.out⟩

end Go.Proofs.YthmibccjnhmegaaDoor
