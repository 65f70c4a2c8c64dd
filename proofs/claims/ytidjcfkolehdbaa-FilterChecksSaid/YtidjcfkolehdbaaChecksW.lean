/-
  FilterChecks walked. (Written by genchecks.py.)
-/
import Derived.Test.YtidjcfkolehdbaaFw
namespace Go.Proofs.Ytidjcfkolehdbaa
set_option linter.unusedVariables false
set_option linter.unusedSimpArgs false
open Go.RowKit

set_option maxRecDepth 100000 in
set_option maxHeartbeats 3200000 in
theorem Checks_any {w : World} {u : Value} (f : Fl) (hk : KidsIn w w.heap.size u f.kids) (hfit : Fits f) : Calls Try.prog 3 #[flV f u] w (HoldP true w) := by
  obtain ⟨a, cap, rfl, _, _⟩ := hk.slice
  have hb0 := lay_alloc w (.cells #[.int .i64 f.kind, .string f.name, .string f.text, .slice a f.kids.length cap] 24)
  have hD := DC.alloc w [.int .i64 f.kind, .string f.name, .string f.text, .slice a f.kids.length cap] 24
  have hk0 := hk.on hb0
  unfold flV
  go_enter Try.func3, Try.ntmps3
  go_wp2_with fail
  generalize w.alloc (.cells #[.int .i64 f.kind, .string f.name, .string f.text, .slice a f.kids.length cap] 24) = W at *
  generalize hfb : w.heap.size = fb at *
  have y0 := hD.cells 0 _ rfl
  have y1 := hD.cells 1 _ rfl
  have y2 := hD.cells 2 _ rfl
  have y3 := hD.cells 3 _ rfl
  have hdr : Below W.heap.size W W.drew := lay_drew (Below.refl _ _)
  have HB0 := Lib.hid (hb0.trans (hdr.mono (Nat.le_of_lt hD.lt)))
  have HF0 := Lib.hid (hD.below hdr)
  have HL := Lib.hid (lightB_any f hfit (hk0.on hdr))
  have HK := Lib.hid (hk0.on hdr)
  unfold flV at HL
  clear hk hfit hb0 hD hk0 hdr
  cases hlb : lightB f
  · go_region_with (first
        | (go_at_call 13; (with_reducible refine HL.out.mono ?_); rintro e w1 ⟨he, hli, hb1⟩; rw [hlb] at he; subst he; have HF1 := Lib.hid (HF0.out.below hb1); have z0 := HF1.out.cells 0 _ rfl; have z1 := HF1.out.cells 1 _ rfl; have z2 := HF1.out.cells 2 _ rfl; have z3 := HF1.out.cells 3 _ rfl; have HB1 := Lib.hid (HB0.out.trans (hb1.mono (Nat.le_of_lt HF0.out.lt))); clear hli hb1)
        | (go_at_call 16; (with_reducible refine (awake_any _).mono ?_); rintro e w4 ⟨rfl, hb4⟩; have HF4 := Lib.hid (HF1.out.below hb4); have z0 := HF4.out.cells 0 _ rfl; have z1 := HF4.out.cells 1 _ rfl; have z2 := HF4.out.cells 2 _ rfl; have z3 := HF4.out.cells 3 _ rfl; have HB4 := Lib.hid (HB1.out.trans (hb4.mono (Nat.le_of_lt HF1.out.lt))); clear hb4))
    all_goals
      go_wp2_with fail
      go_ret
      exact ⟨rfl, by rw [hfb]; exact HB4.out⟩
  · go_region_held3 (fun V => V.cell? ⟨fb, 0, none⟩ = some (.int .i64 f.kind) ∧ V.cell? ⟨fb, 1, none⟩ = some (.string f.name) ∧ V.cell? ⟨fb, 2, none⟩ = some (.string f.text) ∧ V.cell? ⟨fb, 3, none⟩ = some (.slice a f.kids.length cap)) (go_keep)
      (first
        | (go_at_call 13; (with_reducible refine HL.out.mono ?_); rintro e w1 ⟨he, hli, hb1⟩; rw [hlb] at he; subst he; have HLi := Lib.hid (hli hlb); have HC1 := Lib.hid (Check_any f HLi.out (HK.out.on hb1)); have HK1 := Lib.hid (HK.out.on hb1); unfold flV at HC1; have HF1 := Lib.hid (HF0.out.below hb1); have z0 := HF1.out.cells 0 _ rfl; have z1 := HF1.out.cells 1 _ rfl; have z2 := HF1.out.cells 2 _ rfl; have z3 := HF1.out.cells 3 _ rfl; have HB1 := Lib.hid (HB0.out.trans (hb1.mono (Nat.le_of_lt HF0.out.lt))); clear hli hb1)
        | (go_at_call 14; (with_reducible refine HC1.out.mono ?_); rintro e w2 ⟨rfl, hb2⟩; have HC2 := Lib.hid (rCheck_any f HLi.out (HK1.out.on hb2)); unfold flV at HC2; have HF2 := Lib.hid (HF1.out.below hb2); have z0 := HF2.out.cells 0 _ rfl; have z1 := HF2.out.cells 1 _ rfl; have z2 := HF2.out.cells 2 _ rfl; have z3 := HF2.out.cells 3 _ rfl; have HB2 := Lib.hid (HB1.out.trans (hb2.mono (Nat.le_of_lt HF1.out.lt))); clear hb2)
        | (go_at_call 15; (with_reducible refine HC2.out.mono ?_); rintro e w3 ⟨rfl, hb3⟩; have HF3 := Lib.hid (HF2.out.below hb3); have z0 := HF3.out.cells 0 _ rfl; have z1 := HF3.out.cells 1 _ rfl; have z2 := HF3.out.cells 2 _ rfl; have z3 := HF3.out.cells 3 _ rfl; have HB3 := Lib.hid (HB2.out.trans (hb3.mono (Nat.le_of_lt HF2.out.lt))); clear hb3)
        | (go_at_call 16; (with_reducible refine (awake_any _).mono ?_); rintro e w4 ⟨rfl, hb4⟩; have HF4 := Lib.hid (HF3.out.below hb4); have z0 := HF4.out.cells 0 _ rfl; have z1 := HF4.out.cells 1 _ rfl; have z2 := HF4.out.cells 2 _ rfl; have z3 := HF4.out.cells 3 _ rfl; have HB4 := Lib.hid (HB3.out.trans (hb4.mono (Nat.le_of_lt HF3.out.lt))); clear hb4))
    all_goals
      go_wp2_with fail
      go_ret
      exact ⟨rfl, by rw [hfb]; exact HB4.out⟩
end Go.Proofs.Ytidjcfkolehdbaa
