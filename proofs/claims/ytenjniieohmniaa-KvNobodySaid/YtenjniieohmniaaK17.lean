/-
  Walks: a map that no call made.
-/
import Derived.Test.YtenjniieohmniaaK11
namespace Go.Proofs.Ytenjniieohmniaa
set_option linter.unusedVariables false
set_option linter.unusedSimpArgs false
open Go.RowKit

/-- Nobody's map: nil, or one without pairs. -/
def NoM (w : World) (v : Option Addr) : Prop := v = none ∨ ∃ b, v = some ⟨b, 0, none⟩ ∧ w.cell? ⟨b, 0, none⟩ = some (.pointer none)
theorem NoM.later {w w' : World} {v : Option Addr} (h : NoM w v) (hb : Below w.heap.size w w') : NoM w' v := h.imp id fun ⟨b, e, hc⟩ => ⟨b, e, lay_later hb hc⟩
set_option maxHeartbeats 800000 in
theorem made_no {w : World} {v : Option Addr} (h : NoM w v) : Calls Try.prog 49 #[.pointer v] w fun e w' => e = .returned (.bool false) ∧ w = w' := by
  rcases h with rfl | ⟨b, rfl, hc⟩
  · go_enter Try.func49, Try.ntmps49
    go_wp2_with fail
    go_ret
    exact ⟨rfl, rfl⟩
  · go_enter Try.func49, Try.ntmps49
    go_wp2_with fail
    go_ret
    exact ⟨rfl, rfl⟩
set_option maxHeartbeats 800000 in
theorem all_no {w : World} {v : Option Addr} (h : NoM w v) : Calls Try.prog 56 #[.pointer v] w fun e w' => e = .returned (.pointer none) ∧ w = w' := by
  rcases h with rfl | ⟨b, rfl, hc⟩
  · go_enter Try.func56, Try.ntmps56
    go_wp2_with fail
    go_ret
    exact ⟨rfl, rfl⟩
  · go_enter Try.func56, Try.ntmps56
    go_wp2_with fail
    go_ret
    exact ⟨rfl, rfl⟩
theorem tr_nil (w : World) : Tr w w.heap.size .nil none := .inl ⟨rfl, rfl⟩
set_option maxHeartbeats 800000 in
theorem Len_no {w : World} {v : Option Addr} (h : NoM w v) : Calls Try.prog 29 #[.pointer v] w fun e w' => e = .returned (.int .i64 0) ∧ w = w' := by
  have HA := Lib.hid (all_no h)
  clear h
  have HT : Hid (Calls Try.prog 60 #[.pointer none] w fun e w' => e = .returned (.int .i64 0) ∧ w = w') := Len_any (tr_nil w)
  go_enter Try.func29, Try.ntmps29
  go_wp2_with fail
  go_fit HA.out
  rintro e w' ⟨rfl, rfl⟩
  go_wp2_with fail
  go_fit HT.out
  rintro e w' ⟨rfl, rfl⟩
  go_wp2_with fail
  go_ret
  exact ⟨rfl, rfl⟩
set_option maxHeartbeats 800000 in
theorem Get_no {w : World} {v : Option Addr} (k : ByteArray) (h : NoM w v) : Calls Try.prog 30 #[.pointer v, .string k] w fun e w' => e = .returned (.tuple #[.string ByteArray.empty, .bool false]) ∧ Below w.heap.size w w' := by
  have HA := Lib.hid (all_no h)
  clear h
  have HT : Hid (Calls Try.prog 61 #[.pointer none, .string k] w fun e w' => e = .returned (.tuple #[.string ByteArray.empty, .bool false]) ∧ Below w.heap.size w w') := Get_any k (tr_nil w) trivial
  go_enter Try.func30, Try.ntmps30
  go_wp2_with fail
  go_fit HA.out
  rintro e w' ⟨rfl, rfl⟩
  go_wp2_with fail
  go_fit HT.out
  rintro e w' ⟨rfl, hb⟩
  have HB := Lib.hid hb
  clear hb
  go_wp2_with fail
  go_ret2
  exact ⟨rfl, HB.out⟩
set_option maxHeartbeats 800000 in
theorem Take_no {w : World} {v : Option Addr} (a : Option Addr) (n c : Nat) (h : NoM w v) : Calls Try.prog 24 #[.pointer v, .slice a n c] w fun e w' => e = .returned (.tuple #[]) ∧ w = w' := by
  have HA := Lib.hid (made_no h)
  clear h
  go_enter Try.func24, Try.ntmps24
  go_wp2_with fail
  go_fit HA.out
  rintro e w' ⟨rfl, rfl⟩
  go_wp2_with fail
  (try simp only [Exit.inBlock, Exit.then])
  refine bodyPost_ret (results_none rfl _ _ _) rfl ?_
  exact ⟨rfl, rfl⟩
def NoP (w : World) (e : Ending) (w' : World) : Prop := e = .returned (.tuple #[.slice none 0 0, .int .i64 6]) ∧ w = w'
set_option maxHeartbeats 800000 in
theorem Plan_no {w : World} {v : Option Addr} (p : Int) (a : Option Addr) (n c : Nat) (a2 : Option Addr) (n2 c2 : Nat) (h : NoM w v) : Calls Try.prog 17 #[.pointer v, .int .i64 p, .slice a n c, .slice a2 n2 c2] w (NoP w) := by
  have HA := Lib.hid (made_no h)
  clear h
  go_enter Try.func17, Try.ntmps17
  go_wp2_with fail
  go_fit HA.out
  rintro e w' ⟨rfl, rfl⟩
  go_wp2_with fail
  go_ret2
  exact ⟨rfl, rfl⟩
set_option maxHeartbeats 800000 in
theorem Do_no {w : World} {v : Option Addr} (p : Int) (a : Option Addr) (n c : Nat) (a2 : Option Addr) (n2 c2 : Nat) (h : NoM w v) : Calls Try.prog 26 #[.pointer v, .int .i64 p, .slice a n c, .slice a2 n2 c2] w (NoP w) := by
  have HA := Lib.hid (Plan_no p a n c a2 n2 c2 h)
  clear h
  go_enter Try.func26, Try.ntmps26
  go_wp2_with fail
  go_fit HA.out
  rintro e w' ⟨rfl, rfl⟩
  go_wp2_with fail
  go_ret2
  exact ⟨rfl, rfl⟩
set_option maxHeartbeats 800000 in
theorem Set_no {w : World} {v : Option Addr} (a : Option Addr) (n c : Nat) (h : NoM w v) : Calls Try.prog 19 #[.pointer v, .slice a n c] w fun e w' => e = .returned (.int .i64 6) ∧ w = w' := by
  have HA := Lib.hid (made_no h)
  clear h
  go_enter Try.func19, Try.ntmps19
  go_wp2_with fail
  go_fit HA.out
  rintro e w' ⟨rfl, rfl⟩
  go_wp2_with fail
  go_ret
  exact ⟨rfl, rfl⟩
set_option maxHeartbeats 800000 in
theorem Clone_no {w : World} {v : Option Addr} (h : NoM w v) : Calls Try.prog 36 #[.pointer v] w fun e w' => e = .returned (.pointer none) ∧ w = w' := by
  have HA := Lib.hid (made_no h)
  clear h
  go_enter Try.func36, Try.ntmps36
  go_wp2_with fail
  go_fit HA.out
  rintro e w' ⟨rfl, rfl⟩
  go_wp2_with fail
  go_ret
  exact ⟨rfl, rfl⟩
def ScanN (w : World) (e : Ending) (w' : World) : Prop := e = .returned (.slice none 0 0) ∧ Below w.heap.size w w'
set_option maxRecDepth 100000 in
set_option maxHeartbeats 1600000 in
theorem Scan_no {w : World} {v : Option Addr} (x y : ByteArray) (h : NoM w v) : Calls Try.prog 22 #[.pointer v, .string x, .string y] w (ScanN w) := by
  have HA := Lib.hid (all_no h)
  have HN := Lib.hid (Len_no h)
  clear h
  have HS := Lib.hid (Scan_any (w := w) x y 0 (tr_nil w) (good_of (t := .nil) (L := []) rfl trivial trivial (by decide)))
  go_enter Try.func22, Try.ntmps22
  go_wp2_with fail
  go_fit HA.out
  rintro e w' ⟨rfl, rfl⟩
  go_wp2_with fail
  go_fit HN.out
  rintro e w' ⟨rfl, rfl⟩
  go_wp2_with fail
  go_fit HS.out
  rintro e w1 ⟨v1, rfl, hown, hg1, _⟩
  have HB1 : Hid (Below w.heap.size w w1) := ⟨hg1.os, hg1.tape, hg1.output, hg1.size, fun k hk => hg1.block k hk (by simp [Value.ownBlock])⟩
  obtain ⟨a, c, rfl⟩ : ∃ a c, v1 = .slice a 0 c := by
    have hn : (scn T.nil.list x y (0 : Int).toNat).length = 0 := rfl
    rw [hn] at hown
    exact row_slice1 hown
  clear hown hg1 HS HN
  go_wp2_with fail
  go_loopw [7, 18] (fun u v wr => u = .slice none 0 0 ∧ v = .int .i64 0 ∧ w1 = wr)
    (fun _ _ _ => 0)
  case atStart => exact ⟨rfl, rfl, rfl⟩
  case round =>
    obtain ⟨rfl, rfl, rfl⟩ := hrel
    go_wp2_with fail
    go_ret
    exact ⟨rfl, HB1.out⟩
end Go.Proofs.Ytenjniieohmniaa
