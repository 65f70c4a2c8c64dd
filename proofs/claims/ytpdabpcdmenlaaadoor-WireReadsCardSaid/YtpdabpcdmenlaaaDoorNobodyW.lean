/-
  The walk of WireNobody: a reader that no call made.
-/
import Derived.Test.YtpdabpcdmenlaaaDoorAw
namespace Go.Proofs.YtpdabpcdmenlaaaDoor
set_option linter.unusedVariables false
set_option linter.unusedSimpArgs false
open Go.RowKit

/-- A reader that no call made: nil, or a plain one. -/
def NoR (w : World) (v : Value) : Prop := v = .pointer none ∨ ∃ b, v = .pointer (some ⟨b, 0, none⟩) ∧ w.cell? ⟨b, 0, none⟩ = some (.slice none 0 0) ∧ w.cell? ⟨b, 1, none⟩ = some (.int .i64 0) ∧ w.cell? ⟨b, 2, none⟩ = some (.int .i64 0) ∧ w.cell? ⟨b, 3, none⟩ = some (.bool false)

/-- This answer; no more than draws. -/
def Told (r : Value) (w : World) (e : Ending) (w' : World) : Prop := e = .returned r ∧ ∃ q, w' = w.drewN q

theorem told_same {r : Value} {w : World} : Told r w (.returned r) w := ⟨rfl, 0, rfl⟩

set_option maxHeartbeats 400000 in
theorem Err_no (v : Value) (w : World) (h : NoR w v) : Calls Tryd.prog 43 #[v] w fun e w' => e = .returned (.int .i64 6) ∧ w = w' := by
  rcases h with rfl | ⟨b, rfl, h0, h1, h2, h3⟩
  · go_enter Tryd.func43, Tryd.ntmps43
    go_wp2_with fail
    go_ret
    exact ⟨rfl, rfl⟩
  · go_enter Tryd.func43, Tryd.ntmps43
    go_wp2_with fail
    go_ret
    exact ⟨rfl, rfl⟩

set_option maxHeartbeats 400000 in
theorem ready_no (v : Value) (w : World) (h : NoR w v) : Calls Tryd.prog 58 #[v] w fun e w' => e = .returned (.bool false) ∧ w = w' := by
  have Hc := Lib.hid (Err_no v w h)
  clear h
  go_enter Tryd.func58, Tryd.ntmps58
  go_wp2_with fail
  go_fit Hc.out
  rintro e w' ⟨rfl, rfl⟩
  go_wp2_with fail
  go_ret
  exact ⟨rfl, rfl⟩

set_option maxHeartbeats 400000 in
theorem Within_no (v : Value) (lo hi : Int) (w : World) (h : NoR w v) : Calls Tryd.prog 33 #[v, .int .i64 lo, .int .i64 hi] w fun e w' => e = .returned (.int .i64 0) ∧ w = w' := by
  have Hc := Lib.hid (ready_no v w h)
  clear h
  go_enter Tryd.func33, Tryd.ntmps33
  go_wp2_with fail
  go_fit Hc.out
  rintro e w' ⟨rfl, rfl⟩
  go_wp2_with fail
  go_ret
  exact ⟨rfl, rfl⟩

set_option maxHeartbeats 400000 in
theorem Number_no (v : Value) (w : World) (h : NoR w v) : Calls Tryd.prog 31 #[v] w fun e w' => e = .returned (.int .i64 0) ∧ w = w' := by
  have Hc := Lib.hid (fun lo hi => Within_no v lo hi w h)
  clear h
  go_enter Tryd.func31, Tryd.ntmps31
  go_wp2_with fail
  go_fit (Hc.out _ _)
  rintro e w' ⟨rfl, rfl⟩
  go_wp2_with fail
  go_ret
  exact ⟨rfl, rfl⟩

set_option maxHeartbeats 400000 in
theorem Signed_no (v : Value) (w : World) (h : NoR w v) : Calls Tryd.prog 35 #[v] w fun e w' => e = .returned (.int .i64 0) ∧ w = w' := by
  have Hc := Lib.hid (ready_no v w h)
  clear h
  go_enter Tryd.func35, Tryd.ntmps35
  go_wp2_with fail
  go_fit Hc.out
  rintro e w' ⟨rfl, rfl⟩
  go_wp2_with fail
  go_ret
  exact ⟨rfl, rfl⟩

set_option maxHeartbeats 400000 in
theorem Text_no (v : Value) (most : Int) (w : World) (h : NoR w v) : Calls Tryd.prog 37 #[v, .int .i64 most] w fun e w' => e = .returned (.string ⟨#[]⟩) ∧ w = w' := by
  have Hc := Lib.hid (ready_no v w h)
  clear h
  go_enter Tryd.func37, Tryd.ntmps37
  go_wp2_with fail
  go_fit Hc.out
  rintro e w' ⟨rfl, rfl⟩
  go_wp2_with fail
  go_ret
  exact ⟨rfl, rfl⟩

set_option maxHeartbeats 400000 in
theorem Flag_no (v : Value) (w : World) (h : NoR w v) : Calls Tryd.prog 39 #[v] w fun e w' => e = .returned (.bool false) ∧ w = w' := by
  have Hc := Lib.hid (ready_no v w h)
  clear h
  go_enter Tryd.func39, Tryd.ntmps39
  go_wp2_with fail
  go_fit Hc.out
  rintro e w' ⟨rfl, rfl⟩
  go_wp2_with fail
  go_ret
  exact ⟨rfl, rfl⟩

set_option maxHeartbeats 400000 in
theorem Left_no (v : Value) (w : World) (h : NoR w v) : Calls Tryd.prog 41 #[v] w (Told (.int .i64 0) w) := by
  rcases h with rfl | ⟨b, rfl, h0, h1, h2, h3⟩
  · go_enter Tryd.func41, Tryd.ntmps41
    go_wp2_with fail
    go_ret
    exact ⟨rfl, 0, rfl⟩
  · go_enter Tryd.func41, Tryd.ntmps41
    go_wp2_with fail
    go_quiet (fail)
    go_wp2_with fail
    go_ret
    exact ⟨rfl, _, rfl⟩

set_option maxHeartbeats 400000 in
theorem End_no (v : Value) (w : World) (h : NoR w v) : Calls Tryd.prog 44 #[v] w fun e w' => e = .returned (.int .i64 6) ∧ w = w' := by
  have Hc := Lib.hid (ready_no v w h)
  have He := Lib.hid (Err_no v w h)
  clear h
  go_enter Tryd.func44, Tryd.ntmps44
  go_wp2_with fail
  go_fit Hc.out
  rintro e w' ⟨rfl, rfl⟩
  go_wp2_with fail
  go_fit He.out
  rintro e w' ⟨rfl, rfl⟩
  go_wp2_with fail
  go_ret
  exact ⟨rfl, rfl⟩

theorem bdrew {B : Nat} {w w1 : World} {q : Nat} (h : Below B w w1) : Below B w (w1.drewN q) := ⟨h.os, h.tape, h.output, h.size, h.block⟩

theorem nor_drewN {w : World} {v : Value} (q : Nat) (h : NoR w v) : NoR (w.drewN q) v := h

set_option maxHeartbeats 1600000 in
theorem Nobody_any (op lo hi : Int) (w : World) (hT : TabIn w) : Calls Tryd.prog 13 #[.agg #[.int .i64 op, .int .i64 lo, .int .i64 hi]] w (Yes w) := by
  have HT := Lib.hid hT
  clear hT
  go_enter Tryd.func13, Tryd.ntmps13
  go_wp2_with fail
  obtain ⟨W3, hW3⟩ : ∃ W3 : World, W3 = ((w.alloc (.cells #[.int .i64 op, .int .i64 lo, .int .i64 hi] 47)).alloc (.cells #[.slice none 0 0, .int .i64 0, .int .i64 0, .bool false] 67)).alloc (.cells #[.pointer none, .pointer (some ⟨w.heap.size + 1, 0, none⟩)] 41) := ⟨_, rfl⟩
  have hbel : Below w.heap.size w W3 := by rw [hW3]; exact (((Below.refl _ w).alloc (Nat.le_refl _) _).alloc (by simp) _).alloc (by simp; omega) _
  have a1 : W3.cell? ⟨w.heap.size, 1, none⟩ = some (.int .i64 lo) := by rw [hW3, World.cell?_alloc_past _ _ _ (by simp; omega), World.cell?_alloc_past _ _ _ (by simp), World.cell?_alloc_at _ _ _ _ rfl]; rfl
  have a2 : W3.cell? ⟨w.heap.size, 2, none⟩ = some (.int .i64 hi) := by rw [hW3, World.cell?_alloc_past _ _ _ (by simp; omega), World.cell?_alloc_past _ _ _ (by simp), World.cell?_alloc_at _ _ _ _ rfl]; rfl
  have r0 : W3.cell? ⟨w.heap.size + 1, 0, none⟩ = some (.slice none 0 0) := by rw [hW3, World.cell?_alloc_past _ _ _ (by simp), World.cell?_alloc_at _ _ _ _ (by simp)]; rfl
  have r1 : W3.cell? ⟨w.heap.size + 1, 1, none⟩ = some (.int .i64 0) := by rw [hW3, World.cell?_alloc_past _ _ _ (by simp), World.cell?_alloc_at _ _ _ _ (by simp)]; rfl
  have r2 : W3.cell? ⟨w.heap.size + 1, 2, none⟩ = some (.int .i64 0) := by rw [hW3, World.cell?_alloc_past _ _ _ (by simp), World.cell?_alloc_at _ _ _ _ (by simp)]; rfl
  have r3 : W3.cell? ⟨w.heap.size + 1, 3, none⟩ = some (.bool false) := by rw [hW3, World.cell?_alloc_past _ _ _ (by simp), World.cell?_alloc_at _ _ _ _ (by simp)]; rfl
  have s0 : W3.cell? ⟨w.heap.size + 1 + 1, 0, none⟩ = some (.pointer none) := by rw [hW3, World.cell?_alloc_at _ _ _ _ (by simp)]; rfl
  have s1 : W3.cell? ⟨w.heap.size + 1 + 1, 1, none⟩ = some (.pointer (some ⟨w.heap.size + 1, 0, none⟩)) := by rw [hW3, World.cell?_alloc_at _ _ _ _ (by simp)]; rfl
  have HN : Hid (∀ q, NoR (W3.drewN q) (.pointer (some ⟨w.heap.size + 1, 0, none⟩))) := fun q => .inr ⟨_, rfl, r0, r1, r2, r3⟩
  have HN0 : Hid (NoR W3 (.pointer (some ⟨w.heap.size + 1, 0, none⟩))) := .inr ⟨_, rfl, r0, r1, r2, r3⟩
  rw [← hW3]
  have Hbel := Lib.hid hbel
  clear hW3 hbel r0 r1 r2 r3
  refine wp_loop_rounds 3 ?_
  rw [rounds_succ]
  go_wp2_with fail
  go_fit (Number_no (.pointer none) _ (.inl rfl))
  rintro e w' ⟨rfl, rfl⟩
  go_wp2_with fail
  go_fit (Within_no (.pointer none) lo hi _ (.inl rfl))
  rintro e w' ⟨rfl, rfl⟩
  go_wp2_with fail
  go_fit (Signed_no (.pointer none) _ (.inl rfl))
  rintro e w' ⟨rfl, rfl⟩
  go_wp2_with fail
  go_fit (Text_no (.pointer none) hi _ (.inl rfl))
  rintro e w' ⟨rfl, rfl⟩
  go_wp2_with fail
  go_fit (Flag_no (.pointer none) _ (.inl rfl))
  rintro e w' ⟨rfl, rfl⟩
  go_wp2_with fail
  go_fit (Left_no (.pointer none) _ (.inl rfl))
  rintro e w' ⟨rfl, q1, rfl⟩
  go_wp2_with fail
  go_fit (Err_no (.pointer none) _ (.inl rfl))
  rintro e w' ⟨rfl, rfl⟩
  go_wp2_with fail
  go_fit (End_no (.pointer none) _ (.inl rfl))
  rintro e w' ⟨rfl, rfl⟩
  go_wp2_with fail
  rw [rounds_succ]
  go_wp2_with fail
  go_fit (Number_no (.pointer (some ⟨w.heap.size + 1, 0, none⟩)) _ (HN.out _))
  rintro e w' ⟨rfl, rfl⟩
  go_wp2_with fail
  go_fit (Within_no (.pointer (some ⟨w.heap.size + 1, 0, none⟩)) lo hi _ (HN.out _))
  rintro e w' ⟨rfl, rfl⟩
  go_wp2_with fail
  go_fit (Signed_no (.pointer (some ⟨w.heap.size + 1, 0, none⟩)) _ (HN.out _))
  rintro e w' ⟨rfl, rfl⟩
  go_wp2_with fail
  go_fit (Text_no (.pointer (some ⟨w.heap.size + 1, 0, none⟩)) hi _ (HN.out _))
  rintro e w' ⟨rfl, rfl⟩
  go_wp2_with fail
  go_fit (Flag_no (.pointer (some ⟨w.heap.size + 1, 0, none⟩)) _ (HN.out _))
  rintro e w' ⟨rfl, rfl⟩
  go_wp2_with fail
  go_fit (Left_no (.pointer (some ⟨w.heap.size + 1, 0, none⟩)) _ (HN.out _))
  rintro e w' ⟨rfl, q2, rfl⟩
  go_wp2_with fail
  go_fit (Err_no (.pointer (some ⟨w.heap.size + 1, 0, none⟩)) _ (HN.out _))
  rintro e w' ⟨rfl, rfl⟩
  go_wp2_with fail
  go_fit (End_no (.pointer (some ⟨w.heap.size + 1, 0, none⟩)) _ (HN.out _))
  rintro e w' ⟨rfl, rfl⟩
  go_wp2_with fail
  rw [rounds_succ]
  go_wp2_with fail
  go_fit (awake_any _ (HT.out.later (bdrew Hbel.out)))
  rintro e w' ⟨rfl, hb⟩
  go_wp2_with fail
  go_ret
  exact ⟨rfl, (bdrew Hbel.out).trans (hb.mono (bdrew Hbel.out).size)⟩

end Go.Proofs.YtpdabpcdmenlaaaDoor
