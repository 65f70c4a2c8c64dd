/-
  Calls of a disk: Clear, Sync, Crash, Start, Arm, Look, Tape, Used, Slot. (Written by gendk.py.)
-/
import Derived.Test.YtlfknldgfeicmaaG8
namespace Go.Proofs.Ytlfknldgfeicmaa
set_option linter.unusedVariables false
set_option linter.unusedSimpArgs false
open Go.RowKit
variable {w : World} {B b : Nat} {L : List Nat} {d : Ds} {t0 t1 t2 l0 l1 l2 wt : Value} {ps : List Pa} {Lt Lw : List Nat} {room left keep tear : Int} {on : Bool} {told lasts : Fc}

set_option maxRecDepth 100000 in
set_option maxHeartbeats 3200000 in
theorem Crash_any (keep tear : Int) (h : Dk w B b L d) (hn : d.waits.length ≤ 900000) : Calls Try.prog 37 #[.pointer (some ⟨b, 0, none⟩), .int .i64 keep, .int .i64 tear] w (Did' w B b L (d.crash keep tear).2 (.int .i64 (d.crash keep tear).1)) := by
  have HK := Lib.hid h
  have Hc := Lib.hid (ready_dk h)
  have HN := Lib.hid hn
  clear h hn
  cases hon : d.on
  · have HE : Hid (d.crash keep tear = (30, d)) := by show _ = _; unfold Ds.crash; rw [if_pos hon]
    have hr : rdy d = 0 ∨ rdy d = 30 := .inr (by unfold rdy; rw [hon]; rfl)
    have hr2 : rdy d = 30 := by unfold rdy; rw [hon]; rfl
    rw [hr2] at Hc
    clear hon hr hr2
    go_enter Try.func37, Try.ntmps37
    go_wp2_with fail
    go_fit Hc.out
    rintro e w' ⟨rfl, rfl⟩
    go_wp2_with fail
    go_ret
    rw [HE.out]
    exact ⟨L, rfl, HK.out, Ext.refl w L⟩
  · have HE : Hid (d.crash keep tear = (0, d.fall keep tear)) := by show _ = _; unfold Ds.crash; rw [if_neg (by rw [hon]; simp)]
    have hr2 : rdy d = 0 := by unfold rdy; rw [hon]; rfl
    rw [hr2] at Hc
    clear hr2
    clear hon
    go_enter Try.func37, Try.ntmps37
    go_wp2_with fail
    go_fit Hc.out
    rintro e w' ⟨rfl, rfl⟩
    go_wp2_with fail
    go_fit (fall_any keep tear HK.out (by have := HN.out; omega))
    rintro e w1 ⟨L1, rfl, hd, he⟩
    have HD1 := Lib.hid hd
    have HE1 := Lib.hid he
    clear hd he
    go_wp2_with fail
    go_ret
    rw [HE.out]
    exact ⟨L1, rfl, HD1.out, HE1.out⟩

set_option maxRecDepth 100000 in
set_option maxHeartbeats 3200000 in
theorem Clear_any (h : Dk w B b L d) (hn : d.waits.length ≤ 900000) (hl : 0 ≤ d.left ∧ d.left ≤ 9223372036854775807) : Calls Try.prog 44 #[.pointer (some ⟨b, 0, none⟩)] w (Did' w B b L (d.clear).2 (.int .i64 (d.clear).1)) := by
  have HK := Lib.hid h
  have Hc := Lib.hid (ready_dk h)
  have HN := Lib.hid hn
  have HLeft := Lib.hid hl
  have hfit : ((Ac.does ⟨3, 0, []⟩ d.told).size : Int) ≤ d.room := by
    obtain ⟨_, _, _, _, _, _, _, _, _, _, h⟩ := h
    have := h.told
    simp only [Ac.does, Fc.size] at *
    simp
    omega
  have HFit := Lib.hid hfit
  clear h hn hl hfit
  cases hon : d.on
  · have HE : Hid (d.clear = (30, d)) := by show _ = _; unfold Ds.clear; rw [if_pos hon]
    have hr : rdy d = 0 ∨ rdy d = 30 := .inr (by unfold rdy; rw [hon]; rfl)
    have hr2 : rdy d = 30 := by unfold rdy; rw [hon]; rfl
    rw [hr2] at Hc
    clear hon hr hr2
    go_enter Try.func44, Try.ntmps44
    go_wp2_with fail
    go_fit Hc.out
    rintro e w' ⟨rfl, rfl⟩
    go_wp2_with fail
    go_ret
    rw [HE.out]
    exact ⟨L, rfl, HK.out, Ext.refl w L⟩
  · have HE : Hid (d.clear = d.wait ⟨3, 0, []⟩) := by show _ = _; unfold Ds.clear; rw [if_neg (by rw [hon]; simp)]
    have HW := Lib.hid (wait_any ⟨3, 0, []⟩ HK.out (Byt.nil w L) ⟨.inr (.inr (.inr rfl)), .inl rfl, by simp⟩ HFit.out HN.out HLeft.out)
    have HW' : Hid (Calls Try.prog 58 #[.pointer (some ⟨b, 0, none⟩), .agg #[.int .i64 3, .int .i64 0, .slice none 0 0]] w (Did' w B b L (d.wait ⟨3, 0, []⟩).2 (.int .i64 (d.wait ⟨3, 0, []⟩).1))) := HW.out
    have hr2 : rdy d = 0 := by unfold rdy; rw [hon]; rfl
    rw [hr2] at Hc
    clear hr2
    clear hon HW
    go_enter Try.func44, Try.ntmps44
    go_wp2_with fail
    go_fit Hc.out
    rintro e w' ⟨rfl, rfl⟩
    go_wp2_with fail
    go_fit HW'.out
    rintro e w1 ⟨L1, rfl, hd, he⟩
    have HD1 := Lib.hid hd
    have HE1 := Lib.hid he
    clear hd he
    go_wp2_with fail
    go_ret
    rw [HE.out]
    exact ⟨L1, rfl, HD1.out, HE1.out⟩

set_option maxRecDepth 100000 in
set_option maxHeartbeats 3200000 in
theorem Start_any (h : Dk w B b L d) : Calls Try.prog 33 #[.pointer (some ⟨b, 0, none⟩)] w (Did' w B b L (d.start).2 (.int .i64 (d.start).1)) := by
  have HbL := Lib.hid h.bL
  have Hc := Lib.hid (made_dk h)
  obtain ⟨t0, t1, t2, l0, l1, l2, wt, ps, Lt, Lw, h⟩ := h
  have x1 := h.cells.cells 1 _ rfl
  have y1 := h.cells.fz 1
  have s := h.cells.set 1 (.bool true) (by simp)
  simp only [List.set_cons_zero, List.set_cons_succ] at s
  have hdv := (h.mem.set 1 (.bool true) s).dv h.room (by rw [← h.ws]; exact h.tw) (by rw [← h.ws]; exact h.pre)
  rw [← h.ws] at hdv
  have HDV : Hid (Dk (w.setCell ⟨b, 1, none⟩ (.bool true)) B b L { d with on := true }) := ⟨_, _, _, _, _, _, _, _, _, _, hdv⟩
  clear h s hdv
  go_enter Try.func33, Try.ntmps33
  go_wp2_with fail
  go_fit Hc.out
  rintro e w' ⟨rfl, rfl⟩
  go_wp2_with fail
  go_ret
  exact ⟨L, rfl, HDV.out, Ext.put HbL.out _ _⟩

set_option maxRecDepth 100000 in
set_option maxHeartbeats 3200000 in
theorem Arm_any (n keep tear : Int) (h : Dk w B b L d) : Calls Try.prog 34 #[.pointer (some ⟨b, 0, none⟩), .int .i64 n, .int .i64 keep, .int .i64 tear] w (Did' w B b L (d.arm n keep tear).2 (.int .i64 (d.arm n keep tear).1)) := by
  have HbL := Lib.hid h.bL
  have HK := Lib.hid h
  have Hc := Lib.hid (ready_dk h)
  obtain ⟨t0, t1, t2, l0, l1, l2, wt, ps, Lt, Lw, h⟩ := h
  have x9 := h.cells.cells 9 _ rfl
  have x10 := h.cells.cells 10 _ rfl
  have x11 := h.cells.cells 11 _ rfl
  have y9 := h.cells.fz 9
  have y10 := h.cells.fz 10
  have y11 := h.cells.fz 11
  have s := h.cells.set 9 (.int .i64 n) (by simp)
  simp only [List.set_cons_zero, List.set_cons_succ] at s
  have m1 := h.mem.set 9 (.int .i64 n) s
  have s := s.set 10 (.int .i64 keep) (by simp)
  simp only [List.set_cons_zero, List.set_cons_succ] at s
  have m2 := m1.set 10 (.int .i64 keep) s
  have s := s.set 11 (.int .i64 tear) (by simp)
  simp only [List.set_cons_zero, List.set_cons_succ] at s
  have hdv := (m2.set 11 (.int .i64 tear) s).dv h.room (by rw [← h.ws]; exact h.tw) (by rw [← h.ws]; exact h.pre)
  rw [← h.ws] at hdv
  have HDV : Hid (Dk (((w.setCell ⟨b, 9, none⟩ (.int .i64 n)).setCell ⟨b, 10, none⟩ (.int .i64 keep)).setCell ⟨b, 11, none⟩ (.int .i64 tear)) B b L { d with left := n, keep := keep, tear := tear }) := ⟨_, _, _, _, _, _, _, _, _, _, hdv⟩
  clear h s hdv m1 m2
  cases hon : d.on
  · have HE : Hid (d.arm n keep tear = (30, d)) := by show _ = _; unfold Ds.arm; rw [if_pos hon]
    have hr : rdy d = 0 ∨ rdy d = 30 := .inr (by unfold rdy; rw [hon]; rfl)
    have hr2 : rdy d = 30 := by unfold rdy; rw [hon]; rfl
    rw [hr2] at Hc
    clear hon hr hr2
    go_enter Try.func34, Try.ntmps34
    go_wp2_with fail
    go_fit Hc.out
    rintro e w' ⟨rfl, rfl⟩
    go_wp2_with fail
    go_ret
    rw [HE.out]
    exact ⟨L, rfl, HK.out, Ext.refl w L⟩
  · have hr2 : rdy d = 0 := by unfold rdy; rw [hon]; rfl
    rw [hr2] at Hc
    clear hr2
    by_cases hneg : n < 0
    · have HE : Hid (d.arm n keep tear = (1, d)) := by show _ = _; unfold Ds.arm; rw [if_neg (by rw [hon]; simp), if_pos hneg]
      clear hon
      go_enter Try.func34, Try.ntmps34
      go_wp2_with fail
      go_fit Hc.out
      rintro e w' ⟨rfl, rfl⟩
      go_wp2_with fail
      go_ret
      rw [HE.out]
      exact ⟨L, rfl, HK.out, Ext.refl w L⟩
    · have HE : Hid (d.arm n keep tear = (0, { d with left := n, keep := keep, tear := tear })) := by show _ = _; unfold Ds.arm; rw [if_neg (by rw [hon]; simp), if_neg hneg]
      have hneg2 : 0 ≤ n := by omega
      clear hon
      go_enter Try.func34, Try.ntmps34
      go_wp2_with fail
      go_fit Hc.out
      rintro e w' ⟨rfl, rfl⟩
      go_wp2_with fail
      go_ret
      rw [HE.out]
      exact ⟨L, rfl, HDV.out, ((Ext.put HbL.out _ _).trans (Ext.put HbL.out _ _)).trans (Ext.put HbL.out _ _)⟩

def rdys (d : Ds) (i : Int) : Int := if d.on = true then (if i < 0 ∨ 2 ≤ i then 31 else 0) else 30
set_option maxRecDepth 100000 in
set_option maxHeartbeats 3200000 in
theorem readySlot_dk (i : Int) (h : Dk w B b L d) : Calls Try.prog 50 #[.pointer (some ⟨b, 0, none⟩), .int .i64 i] w fun e w' => e = .returned (.int .i64 (rdys d i)) ∧ w = w' := by
  have Hc := Lib.hid (ready_dk h)
  clear h
  cases hon : d.on
  · have HE : Hid (rdys d i = 30) := by show _ = _; unfold rdys; rw [hon]; rfl
    have hr2 : rdy d = 30 := by unfold rdy; rw [hon]; rfl
    rw [hr2] at Hc
    clear hon hr2
    go_enter Try.func50, Try.ntmps50
    go_wp2_with fail
    go_fit Hc.out
    rintro e w' ⟨rfl, rfl⟩
    go_wp2_with fail
    go_ret
    rw [HE.out]
    exact ⟨rfl, rfl⟩
  · have hr2 : rdy d = 0 := by unfold rdy; rw [hon]; rfl
    rw [hr2] at Hc
    clear hr2
    by_cases hi0 : i < 0
    · have HE : Hid (rdys d i = 31) := by show _ = _; unfold rdys; rw [if_pos hon, if_pos (.inl hi0)]
      clear hon
      go_enter Try.func50, Try.ntmps50
      go_wp2_with fail
      go_fit Hc.out
      rintro e w' ⟨rfl, rfl⟩
      go_wp2_with fail
      go_ret
      rw [HE.out]
      exact ⟨rfl, rfl⟩
    · have hi0' : ¬ i < 0 := hi0
      by_cases hi1 : 2 ≤ i
      · have HE : Hid (rdys d i = 31) := by show _ = _; unfold rdys; rw [if_pos hon, if_pos (.inr hi1)]
        clear hon
        go_enter Try.func50, Try.ntmps50
        go_wp2_with fail
        go_fit Hc.out
        rintro e w' ⟨rfl, rfl⟩
        go_wp2_with fail
        go_ret
        rw [HE.out]
        exact ⟨rfl, rfl⟩
      · have hi1' : ¬ 2 ≤ i := hi1
        have HE : Hid (rdys d i = 0) := by show _ = _; unfold rdys; rw [if_pos hon, if_neg (by omega)]
        have hj : i < 2 := by omega
        have hj2 : 0 ≤ i := by omega
        clear hon
        go_enter Try.func50, Try.ntmps50
        go_wp2_with fail
        go_fit Hc.out
        rintro e w' ⟨rfl, rfl⟩
        go_wp2_with fail
        go_ret
        rw [HE.out]
        exact ⟨rfl, rfl⟩

/-- What is told: bytes, of its own. -/
def Seen (L : List Nat) (xs : List Int) (c : Int) (w : World) (e : Ending) (w' : World) : Prop := ∃ v, e = .returned (.tuple #[v, .int .i64 c]) ∧ w'.ownsRow w.heap.size 5 1 v xs.length (u8s xs) ∧ Below w.heap.size w w'
def Ds.look (d : Ds) (i : Int) : List Int × Int := if d.on = false then ([], 30) else if i < 0 ∨ 2 ≤ i then ([], 31) else (if i = 0 then d.told.s0 else d.told.s1, 0)
def Ds.tape (d : Ds) : List Int × Int := if d.on = false then ([], 30) else (d.told.tp, 0)
set_option maxRecDepth 100000 in
set_option maxHeartbeats 3200000 in
theorem Tape_any (h : Dk w B b L d) : Calls Try.prog 27 #[.pointer (some ⟨b, 0, none⟩)] w (Seen L d.tape.1 d.tape.2 w) := by
  have Hc := Lib.hid (ready_dk h)
  obtain ⟨t0, t1, t2, l0, l1, l2, wt, ps, Lt, Lw, h⟩ := h
  obtain ⟨a2, c2, hq, hc1, hc2⟩ := h.ta.slice
  subst hq
  have x4 := h.cells.cells 4 _ rfl
  have HBy : Hid (Byt w [b] (.slice a2 d.told.tp.length c2) d.told.tp) := by
    rcases h.ta with ⟨_, h1, _⟩ | ⟨g, c, e, hg, hv, ho⟩
    · exact h1.sub (by simp)
    · simp only [Value.slice.injEq] at hv
      obtain ⟨rfl, _, rfl⟩ := hv
      exact byt_row ho rfl (fun g' hg' => by simp [Value.ownBlock] at hg'; subst hg'; simp at hg ⊢; exact hg.1)
  have hsz : d.told.tp.length ≤ 140737488355328 := by have := h.told; have := h.room.2; unfold Fc.size at *; omega
  have HSz := Lib.hid hsz
  clear h hsz
  cases hon : d.on
  · have HE : Hid (d.tape = ([], 30)) := by show _ = _; unfold Ds.tape; rw [if_pos hon]
    have hr2 : rdy d = 30 := by unfold rdy; rw [hon]; rfl
    rw [hr2] at Hc
    clear hon hr2
    go_enter Try.func27, Try.ntmps27
    go_wp2_with fail
    go_fit Hc.out
    rintro e w' ⟨rfl, rfl⟩
    go_wp2_with fail
    go_ret2
    rw [HE.out]
    exact ⟨_, rfl, World.ownsRow_nil _ _ _ _, Below.refl _ _⟩
  · have HE : Hid (d.tape = (d.told.tp, 0)) := by show _ = _; unfold Ds.tape; rw [if_neg (by rw [hon]; simp)]
    have hr2 : rdy d = 0 := by unfold rdy; rw [hon]; rfl
    rw [hr2] at Hc
    clear hr2
    clear hon
    go_enter Try.func27, Try.ntmps27
    go_wp2_with fail
    go_fit Hc.out
    rintro e w' ⟨rfl, rfl⟩
    go_wp2_with fail
    go_fit (Clone_byt HBy.out HSz.out)
    rintro e w2 ⟨v2, rfl, hown, hb2⟩
    have HO := Lib.hid hown
    have HB := Lib.hid hb2
    clear hown hb2
    go_wp2_with fail
    go_ret2
    rw [HE.out]
    exact ⟨_, rfl, HO.out, HB.out⟩

set_option maxRecDepth 100000 in
set_option maxHeartbeats 3200000 in
theorem Look_any (i : Int) (h : Dk w B b L d) : Calls Try.prog 25 #[.pointer (some ⟨b, 0, none⟩), .int .i64 i] w (Seen L (d.look i).1 (d.look i).2 w) := by
  have Hc := Lib.hid (readySlot_dk i h)
  obtain ⟨t0, t1, t2, l0, l1, l2, wt, ps, Lt, Lw, h⟩ := h
  obtain ⟨a0, c0, hq, _, _⟩ := h.a0.slice
  subst hq
  obtain ⟨a1, c1, hq, _, _⟩ := h.a1.slice
  subst hq
  have x2 := h.cells.cells 2 _ rfl
  have x3 := h.cells.cells 3 _ rfl
  have HB0 := Lib.hid h.a0
  have HB1 := Lib.hid h.a1
  have hs0 : d.told.s0.length ≤ 140737488355328 := by have := h.told; have := h.room.2; unfold Fc.size at *; omega
  have hs1 : d.told.s1.length ≤ 140737488355328 := by have := h.told; have := h.room.2; unfold Fc.size at *; omega
  have HS0 := Lib.hid hs0
  have HS1 := Lib.hid hs1
  clear h hs0 hs1
  by_cases hbad : rdys d i = 0
  · have hon : d.on = true := by unfold rdys at hbad; split at hbad <;> simp_all
    have hi : ¬ (i < 0 ∨ 2 ≤ i) := by unfold rdys at hbad; rw [if_pos hon] at hbad; split at hbad <;> simp_all
    rw [hbad] at Hc
    have hcase : i = 0 ∨ i = 1 := by omega
    rcases hcase with rfl | rfl
    · have HE : Hid (d.look 0 = (d.told.s0, 0)) := by show _ = _; unfold Ds.look; rw [if_neg (by rw [hon]; simp), if_neg hi]; rfl
      clear hon hi hbad
      go_enter Try.func25, Try.ntmps25
      go_wp2_with fail
      go_fit Hc.out
      rintro e w' ⟨rfl, rfl⟩
      go_wp2_with fail
      go_fit (Clone_byt HB0.out HS0.out)
      rintro e w2 ⟨v2, rfl, hown, hb2⟩
      have HO := Lib.hid hown
      have HB := Lib.hid hb2
      clear hown hb2
      go_wp2_with fail
      go_ret2
      rw [HE.out]
      exact ⟨_, rfl, HO.out, HB.out⟩
    · have HE : Hid (d.look 1 = (d.told.s1, 0)) := by show _ = _; unfold Ds.look; rw [if_neg (by rw [hon]; simp), if_neg hi]; rfl
      clear hon hi hbad
      go_enter Try.func25, Try.ntmps25
      go_wp2_with fail
      go_fit Hc.out
      rintro e w' ⟨rfl, rfl⟩
      go_wp2_with fail
      go_fit (Clone_byt HB1.out HS1.out)
      rintro e w2 ⟨v2, rfl, hown, hb2⟩
      have HO := Lib.hid hown
      have HB := Lib.hid hb2
      clear hown hb2
      go_wp2_with fail
      go_ret2
      rw [HE.out]
      exact ⟨_, rfl, HO.out, HB.out⟩
  · have HE : Hid (d.look i = ([], rdys d i)) := by
      show _ = _
      unfold Ds.look
      unfold rdys at hbad ⊢
      cases hon : d.on
      · simp
      · rw [hon] at hbad
        by_cases hi : i < 0 ∨ 2 ≤ i
        · simp [hi]
        · simp [hi] at hbad
    generalize rdys d i = r at *
    have hr : (r == 0) = false := by simp [hbad]
    have hr1 : ¬ r = 0 := hbad
    clear hbad
    go_enter Try.func25, Try.ntmps25
    go_wp2_with fail
    go_fit Hc.out
    rintro e w' ⟨rfl, rfl⟩
    go_wp2_with fail
    go_ret2
    rw [HE.out]
    exact ⟨_, rfl, World.ownsRow_nil _ _ _ _, Below.refl _ _⟩

set_option maxRecDepth 100000 in
set_option maxHeartbeats 3200000 in
theorem Used_any (h : Dk w B b L d) : Calls Try.prog 30 #[.pointer (some ⟨b, 0, none⟩)] w fun e w' => e = .returned (.int .i64 (d.told.size : Nat)) ∧ Below w.heap.size w w' := by
  obtain ⟨t0, t1, t2, l0, l1, l2, wt, ps, Lt, Lw, h⟩ := h
  obtain ⟨a0, c0, hq, _, _⟩ := h.a0.slice
  subst hq
  obtain ⟨a1, c1, hq, _, _⟩ := h.a1.slice
  subst hq
  obtain ⟨a2, c2, hq, _, _⟩ := h.ta.slice
  subst hq
  have hts := h.told
  have hrm := h.room
  have hsz : d.told.size = d.told.tp.length + d.told.s0.length + d.told.s1.length := rfl
  have HS := Lib.hid (size_any a0 a1 a2 d.told.s0.length d.told.s1.length d.told.tp.length c0 c1 c2 w (by omega) (by omega) (by omega))
  have HZ := Lib.hid hsz
  have x2 := h.cells.cells 2 _ rfl
  have x3 := h.cells.cells 3 _ rfl
  have x4 := h.cells.cells 4 _ rfl
  clear h hts hrm hsz
  go_enter Try.func30, Try.ntmps30
  go_wp2_with fail
  go_fit HS.out
  rintro e w1 ⟨rfl, hb⟩
  have HB := Lib.hid hb
  clear hb
  go_wp2_with fail
  go_ret
  rw [HZ.out]
  exact ⟨rfl, HB.out⟩
end Go.Proofs.Ytlfknldgfeicmaa
