/-
  A disk that is made; any call of it by its number.
-/
import Derived.Test.YtlfknldgfeicmaaG10
namespace Go.Proofs.Ytlfknldgfeicmaa
set_option linter.unusedVariables false
set_option linter.unusedSimpArgs false
open Go.RowKit
variable {w : World} {B b : Nat} {L : List Nat} {d : Ds}

def Ds.new (room : Int) : Ds := ⟨room, true, ⟨[], [], []⟩, ⟨[], [], []⟩, [], 0, 0, 0⟩
theorem dk_new (w : World) (room : Int) (hr : 0 < room ∧ room ≤ 16777216) :
    Dk (w.alloc (.cells #[.int .i64 room, .bool true, .slice none 0 0, .slice none 0 0, .slice none 0 0, .slice none 0 0, .slice none 0 0, .slice none 0 0, .slice none 0 0, .int .i64 0, .int .i64 0, .int .i64 0] 72)) w.heap.size w.heap.size [w.heap.size] (Ds.new room) := by
  refine ⟨.slice none 0 0, .slice none 0 0, .slice none 0 0, .slice none 0 0, .slice none 0 0, .slice none 0 0, .slice none 0 0, [], [], [], ?_⟩
  constructor
  · exact DC.alloc w [.int .i64 room, .bool true, .slice none 0 0, .slice none 0 0, .slice none 0 0, .slice none 0 0, .slice none 0 0, .slice none 0 0, .slice none 0 0, .int .i64 0, .int .i64 0, .int .i64 0] _
  · rfl
  · exact Byt.nil _ _
  · exact Byt.nil _ _
  · exact Tp.nil _ _
  · exact Byt.nil _ _
  · exact Byt.nil _ _
  · exact ⟨⟨none, rfl⟩, .inl (Byt.nil _ _)⟩
  · exact ⟨World.ownsRow_nil _ _ _ _, .inl ⟨rfl, rfl, rfl⟩, (fun p hp => absurd hp (by simp)), (fun p hp => absurd hp (by simp))⟩
  · rfl
  · simp
  · simp
  · exact hr
  · rfl
  · intro k
    simp [Ds.new, acts, Fc.size]
    omega

set_option maxHeartbeats 800000 in
theorem New_room (room : Int) (hr : 0 < room ∧ room ≤ 16777216) (w : World) : Calls Try.prog 12 #[.int .i64 room] w fun e w' => e = .returned (.tuple #[.pointer (some ⟨w.heap.size, 0, none⟩), .int .i64 0]) ∧ Dk w' w.heap.size w.heap.size [w.heap.size] (Ds.new room) ∧ Below w.heap.size w w' := by
  have HR := Lib.hid hr
  have h1 : ¬ room < 1 := by omega
  have h2 : ¬ 16777216 < room := by omega
  go_enter Try.func12, Try.ntmps12
  go_wp2_with fail
  go_ret2
  exact ⟨rfl, dk_new w room HR.out, (Below.refl _ _).alloc (Nat.le_refl _) _⟩
set_option maxHeartbeats 800000 in
theorem New_none (room : Int) (hr : ¬ (0 < room ∧ room ≤ 16777216)) (w : World) : Calls Try.prog 12 #[.int .i64 room] w fun e w' => e = .returned (.tuple #[.pointer none, .int .i64 1]) ∧ w = w' := by
  have h1 : room < 1 ∨ 16777216 < room := by omega
  clear hr
  rcases h1 with h1 | h1
  · go_enter Try.func12, Try.ntmps12
    go_wp2_with fail
    go_ret2
    exact ⟨rfl, rfl⟩
  · have h2 : ¬ room < 1 := by omega
    go_enter Try.func12, Try.ntmps12
    go_wp2_with fail
    go_ret2
    exact ⟨rfl, rfl⟩

/-- A disk with few acts waiting. -/
structure Ds.Few (d : Ds) (n : Nat) : Prop where
  waits : d.waits.length ≤ n
  left : 0 ≤ d.left ∧ d.left ≤ 9223372036854775807
/-- A call. -/
structure Kd where
  op : Int
  i : Int
  keep : Int
  tear : Int
  b : List Int

def opc (op : Int) : Int := wrap64 ((IntKind.u64.wrap op).tmod 9)
def Ds.does (d : Ds) (op i k t : Int) (xs : List Int) : Int × Ds :=
  if opc op = 2 then d.slot i xs else if opc op = 3 then d.slot i xs else if opc op = 4 then d.clear else if opc op = 5 then d.sync else if opc op = 6 then d.crash k t else if opc op = 7 then d.start else if opc op = 8 then d.arm i k t else d.append xs

set_option maxRecDepth 100000 in
set_option maxHeartbeats 6400000 in
theorem does_any (op i k t : Int) {x : Value} {xs : List Int} (h : Dk w B b L d) (hx : Byt w [] x xs) (hl : xs.length ≤ 65536) (hf : d.Few 900000) :
    Calls Try.prog 17 #[.pointer (some ⟨b, 0, none⟩), .agg #[.int .i64 op, .int .i64 i, .int .i64 k, .int .i64 t, x]] w (Did' w B b L (d.does op i k t xs).2 (.int .i64 (d.does op i k t xs).1)) := by
  have Hb : Hid (Below w.heap.size w (w.alloc (.cells #[.int .i64 op, .int .i64 i, .int .i64 k, .int .i64 t, x] 34))) := (Below.refl _ _).alloc (Nat.le_refl _) _
  have H := Lib.hid (h.below Hb.out)
  have HX := Lib.hid (hx.below Hb.out)
  have HL := Lib.hid hl
  have HF := Lib.hid hf
  clear h hx hl hf
  by_cases n2 : wrap64 ((IntKind.u64.wrap op).tmod 9) = 2
  · have HE : Hid (d.does op i k t xs = d.slot i xs) := by show _ = _; unfold Ds.does; rw [if_pos (show opc op = 2 from n2)]
    go_enter Try.func17, Try.ntmps17
    go_wp2_with fail
    go_fit (Slot_any i H.out HX.out (by have := HL.out; omega) HF.out.waits HF.out.left)
    rintro e w1 ⟨L1, rfl, hd, he⟩
    have HD1 := Lib.hid hd
    have HE1 := Lib.hid he
    clear hd he
    go_wp2_with fail
    go_ret
    rw [HE.out]
    exact ⟨L1, rfl, HD1.out, (Ext.of_below Hb.out).trans HE1.out⟩
  by_cases n3 : wrap64 ((IntKind.u64.wrap op).tmod 9) = 3
  · have HE : Hid (d.does op i k t xs = d.slot i xs) := by show _ = _; unfold Ds.does; rw [if_neg (show ¬ opc op = 2 from n2)]; rw [if_pos (show opc op = 3 from n3)]
    go_enter Try.func17, Try.ntmps17
    go_wp2_with fail
    go_fit (Slot_any i H.out HX.out (by have := HL.out; omega) HF.out.waits HF.out.left)
    rintro e w1 ⟨L1, rfl, hd, he⟩
    have HD1 := Lib.hid hd
    have HE1 := Lib.hid he
    clear hd he
    go_wp2_with fail
    go_ret
    rw [HE.out]
    exact ⟨L1, rfl, HD1.out, (Ext.of_below Hb.out).trans HE1.out⟩
  by_cases n4 : wrap64 ((IntKind.u64.wrap op).tmod 9) = 4
  · have HE : Hid (d.does op i k t xs = d.clear) := by show _ = _; unfold Ds.does; rw [if_neg (show ¬ opc op = 2 from n2)]; rw [if_neg (show ¬ opc op = 3 from n3)]; rw [if_pos (show opc op = 4 from n4)]
    go_enter Try.func17, Try.ntmps17
    go_wp2_with fail
    go_fit (Clear_any H.out HF.out.waits HF.out.left)
    rintro e w1 ⟨L1, rfl, hd, he⟩
    have HD1 := Lib.hid hd
    have HE1 := Lib.hid he
    clear hd he
    go_wp2_with fail
    go_ret
    rw [HE.out]
    exact ⟨L1, rfl, HD1.out, (Ext.of_below Hb.out).trans HE1.out⟩
  by_cases n5 : wrap64 ((IntKind.u64.wrap op).tmod 9) = 5
  · have HE : Hid (d.does op i k t xs = d.sync) := by show _ = _; unfold Ds.does; rw [if_neg (show ¬ opc op = 2 from n2)]; rw [if_neg (show ¬ opc op = 3 from n3)]; rw [if_neg (show ¬ opc op = 4 from n4)]; rw [if_pos (show opc op = 5 from n5)]
    go_enter Try.func17, Try.ntmps17
    go_wp2_with fail
    go_fit (Sync_any H.out HF.out.left)
    rintro e w1 ⟨L1, rfl, hd, he⟩
    have HD1 := Lib.hid hd
    have HE1 := Lib.hid he
    clear hd he
    go_wp2_with fail
    go_ret
    rw [HE.out]
    exact ⟨L1, rfl, HD1.out, (Ext.of_below Hb.out).trans HE1.out⟩
  by_cases n6 : wrap64 ((IntKind.u64.wrap op).tmod 9) = 6
  · have HE : Hid (d.does op i k t xs = d.crash k t) := by show _ = _; unfold Ds.does; rw [if_neg (show ¬ opc op = 2 from n2)]; rw [if_neg (show ¬ opc op = 3 from n3)]; rw [if_neg (show ¬ opc op = 4 from n4)]; rw [if_neg (show ¬ opc op = 5 from n5)]; rw [if_pos (show opc op = 6 from n6)]
    go_enter Try.func17, Try.ntmps17
    go_wp2_with fail
    go_fit (Crash_any k t H.out HF.out.waits)
    rintro e w1 ⟨L1, rfl, hd, he⟩
    have HD1 := Lib.hid hd
    have HE1 := Lib.hid he
    clear hd he
    go_wp2_with fail
    go_ret
    rw [HE.out]
    exact ⟨L1, rfl, HD1.out, (Ext.of_below Hb.out).trans HE1.out⟩
  by_cases n7 : wrap64 ((IntKind.u64.wrap op).tmod 9) = 7
  · have HE : Hid (d.does op i k t xs = d.start) := by show _ = _; unfold Ds.does; rw [if_neg (show ¬ opc op = 2 from n2)]; rw [if_neg (show ¬ opc op = 3 from n3)]; rw [if_neg (show ¬ opc op = 4 from n4)]; rw [if_neg (show ¬ opc op = 5 from n5)]; rw [if_neg (show ¬ opc op = 6 from n6)]; rw [if_pos (show opc op = 7 from n7)]
    go_enter Try.func17, Try.ntmps17
    go_wp2_with fail
    go_fit (Start_any H.out)
    rintro e w1 ⟨L1, rfl, hd, he⟩
    have HD1 := Lib.hid hd
    have HE1 := Lib.hid he
    clear hd he
    go_wp2_with fail
    go_ret
    rw [HE.out]
    exact ⟨L1, rfl, HD1.out, (Ext.of_below Hb.out).trans HE1.out⟩
  by_cases n8 : wrap64 ((IntKind.u64.wrap op).tmod 9) = 8
  · have HE : Hid (d.does op i k t xs = d.arm i k t) := by show _ = _; unfold Ds.does; rw [if_neg (show ¬ opc op = 2 from n2)]; rw [if_neg (show ¬ opc op = 3 from n3)]; rw [if_neg (show ¬ opc op = 4 from n4)]; rw [if_neg (show ¬ opc op = 5 from n5)]; rw [if_neg (show ¬ opc op = 6 from n6)]; rw [if_neg (show ¬ opc op = 7 from n7)]; rw [if_pos (show opc op = 8 from n8)]
    go_enter Try.func17, Try.ntmps17
    go_wp2_with fail
    go_fit (Arm_any i k t H.out)
    rintro e w1 ⟨L1, rfl, hd, he⟩
    have HD1 := Lib.hid hd
    have HE1 := Lib.hid he
    clear hd he
    go_wp2_with fail
    go_ret
    rw [HE.out]
    exact ⟨L1, rfl, HD1.out, (Ext.of_below Hb.out).trans HE1.out⟩
  have HE : Hid (d.does op i k t xs = d.append xs) := by show _ = _; unfold Ds.does; rw [if_neg (show ¬ opc op = 2 from n2)]; rw [if_neg (show ¬ opc op = 3 from n3)]; rw [if_neg (show ¬ opc op = 4 from n4)]; rw [if_neg (show ¬ opc op = 5 from n5)]; rw [if_neg (show ¬ opc op = 6 from n6)]; rw [if_neg (show ¬ opc op = 7 from n7)]; rw [if_neg (show ¬ opc op = 8 from n8)]
  go_enter Try.func17, Try.ntmps17
  go_wp2_with fail
  go_fit (Append_any H.out HX.out (by have := HL.out; omega) HF.out.waits HF.out.left)
  rintro e w1 ⟨L1, rfl, hd, he⟩
  have HD1 := Lib.hid hd
  have HE1 := Lib.hid he
  clear hd he
  go_wp2_with fail
  go_ret
  rw [HE.out]
  exact ⟨L1, rfl, HD1.out, (Ext.of_below Hb.out).trans HE1.out⟩
end Go.Proofs.Ytlfknldgfeicmaa
