/-
  The walk of the statements' own examples (awake).
-/
import Derived.Test.YtpdabpcdmenlaaaDoorB6
import Derived.Lib.SlBytesConst
namespace Go.Proofs.YtpdabpcdmenlaaaDoor
set_option linter.unusedVariables false
set_option linter.unusedSimpArgs false
open Go.RowKit

theorem in_row {w : World} (C : Array Value) (l : List Int) (fz : Nat × Nat) (hC : C = (l.map (Value.int .u8)).toArray) : Lib.BytesIn (w.alloc (.cells C 5 fz)) (some ⟨w.heap.size, 0, none⟩) l.length l := by
  subst hC
  refine Lib.BytesIn.of_cells fun i hi => ?_
  have hg : (w.alloc (.cells (l.map (Value.int .u8)).toArray 5 fz)).heap[w.heap.size]? = some (.cells (l.map (Value.int .u8)).toArray 5 fz) := by
    show (w.heap.push _)[w.heap.size]? = _
    simp
  rw [addLit, cell_of_row _ _ _ _ _ _ hg]
  simp [List.getD_eq_getElem?_getD, List.getElem?_eq_getElem hi]

theorem ints_list {w : World} (l : List Int) : IntsIn (w.alloc (.cells (l.map (Value.int .i64)).toArray 3)) (some ⟨w.heap.size, 0, none⟩) l.length l := by
  intro _
  refine ⟨_, _, rfl, fun i hi => ?_⟩
  rw [World.cell?_alloc_at _ _ _ _ rfl]
  simp [List.getD_eq_getElem?_getD, List.getElem?_eq_getElem hi]

theorem owns_conv {w : World} {B g n cap : Nat} {xs : List Int} (h : w.ownsRow B 5 1 (.slice (some ⟨g, 0, none⟩) n cap) n (xs.map (Value.int .u8))) :
    (convert 22 9 (.slice (some ⟨g, 0, none⟩) n cap)).run Tryd.prog w = .ok (.string (strOfNums xs)) w :=
  (owns_in h).convert (owns_len h) cap _ _ _ Tryd.underlying22 Tryd.underlying5 Tryd.underlying9

/-- True, and nothing that was there has turned. -/
def Yes (w : World) (e : Ending) (w' : World) : Prop := e = .returned (.bool true) ∧ Below w.heap.size w w'

theorem frame_a : frame [97] = [1, 1, 97, 85, 122, 31, 174] ∨ True := Or.inr trivial
theorem frame_byte : ∀ x ∈ frame [97], 0 ≤ x ∧ x < 256 := by decide +kernel
theorem frame_num : numAt (frame [97]) = (1, 2, 0) := by decide +kernel
theorem frame_len : (frame [97]).length = 7 := by decide +kernel
theorem frame_sum : (false : Bool) = decide (sumOf ((frame [97]).take (2 + 1)) ≠ le4 ((frame [97]).drop (2 + 1))) := by decide +kernel
theorem frame_take : ((frame [97]).drop 2).take 1 = [97] := by decide +kernel
theorem nums_ex : [] ++ nums [300, 0] = [2, 1, 44, 0] := by decide +kernel
theorem sum_ex : sumOf [49, 50, 51, 52, 53, 54, 55, 56, 57] = 379048042 := by decide +kernel

set_option maxHeartbeats 800000 in
theorem awake_any (w : World) (hT : TabIn w) : Calls Tryd.prog 14 #[] w (Yes w) := by
  have HT := Lib.hid hT
  clear hT
  have kc := fun (w : World) (C : Array Value) (n c : Nat) => Lib.run_convert_bytes_const (P := Tryd.prog) w 22 5 C n c Tryd.underlying22 Tryd.underlying5
  go_enter Tryd.func14, Tryd.ntmps14
  go_wp2_with fail
  have bel1 : Below w.heap.size w (w.alloc (.cells #[.int .u8 97] 5 (1, 2))) := (Below.refl _ _).alloc (Nat.le_refl _) _
  go_fit (Frame_any (some ⟨w.heap.size, 0, none⟩) 1 1 [97] _ rfl (in_row _ [97] _ rfl) (by intro h; cases h) (HT.out.later bel1) (by decide) (by decide))
  rintro e w1 ⟨g1, n1, c1, rfl, hown1, hb1⟩
  obtain rfl : n1 = 7 := by rw [← owns_len hown1, frame_len]
  have bel2 : Below w.heap.size w w1 := bel1.trans (hb1.mono (by simp))
  have hin := owns_in hown1
  have hat1 := owns_at hown1
  have hc7 : 7 ≤ c1 := by
    rcases hown1.2 with ⟨h, _⟩ | ⟨_, cap, _, h, _, _, h2, _⟩
    · cases h
    · simp only [Value.slice.injEq] at h; omega
  have hcells : ∀ i, i < 7 → w1.cell? ⟨g1, 0 + i, none⟩ = some (.int .u8 ((frame [97]).getD i 0)) := by
    obtain ⟨b', o', h, hc⟩ := hin.at (by omega)
    simp only [Option.some.injEq, Addr.mk.injEq] at h
    obtain ⟨rfl, rfl, _⟩ := h
    exact hc
  have Hn := Lib.hid (number_any (some ⟨g1, 0, none⟩) 7 c1 (frame [97]) w1 frame_len hin hc7 (by omega) frame_byte)
  have Hnext := Lib.hid (Next_late g1 0 7 c1 1 2 (frame [97]) w1 Hn.out frame_num (by omega) (by omega) (by omega) (by omega) (by omega) frame_len hcells (HT.out.later bel2) frame_byte hc7 false frame_sum)
  have Hbel2 := Lib.hid bel2
  clear hcells hin bel1 bel2 Hn hown1 hb1
  go_wp2_with fail
  go_fit Hnext.out
  rintro e w2 ⟨g2, n2, c2, rfl, hown2, hb2⟩
  rw [frame_take] at hown2
  obtain rfl : n2 = 1 := by rw [← owns_len hown2]; rfl
  have hin2 := owns_in hown2
  have hl2 := owns_len hown2
  have Hb2 := Lib.hid hb2
  have Hbel3 := Lib.hid (Hbel2.out.trans (hb2.mono Hbel2.out.size))
  clear hb2 hown2
  go_wp2_with fail
  go_fit (Numbers_any none (some ⟨w2.heap.size, 0, none⟩) 0 0 2 2 [] [300, 0] _ rfl (Lib.BytesIn.nil _ _ _) (fun _ => ⟨rfl, rfl⟩) rfl (ints_list [300, 0]) (by decide) (by omega))
  rintro e w3 ⟨g3, n3, c3, rfl, hown3, hb3⟩
  rw [nums_ex] at hown3
  have hcv := owns_conv hown3
  rw [show strOfNums [2, 1, 44, 0] = { data := #[2, 1, 44, 0] } from by decide +kernel] at hcv
  have hb3' : Below w2.heap.size w2 w3 := ((Below.refl _ _).alloc (Nat.le_refl _) _).trans (hb3.mono (by simp))
  have Hbel4 := Lib.hid (Hbel3.out.trans (hb3'.mono Hbel3.out.size))
  have hin4 := later hin2 (hb3'.trans (((Below.refl _ w3).alloc (Nat.le_refl _) (.cells #[.int .u8 49, .int .u8 50, .int .u8 51, .int .u8 52, .int .u8 53, .int .u8 54, .int .u8 55, .int .u8 56, .int .u8 57] 5 (9, 10))).mono hb3'.size))
  have hcv2 := hin4.convert hl2 c2 22 _ 9 Tryd.underlying22 Tryd.underlying5 Tryd.underlying9
  rw [show strOfNums [97] = { data := #[97] } from by decide +kernel] at hcv2
  clear hown3 hb3 hb3' hin2 hin4 hl2
  go_wp2_with fail
  go_fit (Sum_any (some ⟨w3.heap.size, 0, none⟩) 9 9 [49, 50, 51, 52, 53, 54, 55, 56, 57] _ rfl (in_row _ [49, 50, 51, 52, 53, 54, 55, 56, 57] _ rfl) (HT.out.later (Hbel4.out.trans ((Below.refl _ w3).alloc Hbel4.out.size _))) (by omega) (by decide))
  rintro e w4 ⟨rfl, rfl⟩
  rw [show ((4294967295 - crc [49, 50, 51, 52, 53, 54, 55, 56, 57] : Nat) : Int) = 379048042 from congrArg Nat.cast sum_ex]
  go_wp2_with fail
  go_ret
  exact ⟨rfl, Hbel4.out.trans ((Below.refl _ w3).alloc Hbel4.out.size _)⟩

end Go.Proofs.YtpdabpcdmenlaaaDoor
