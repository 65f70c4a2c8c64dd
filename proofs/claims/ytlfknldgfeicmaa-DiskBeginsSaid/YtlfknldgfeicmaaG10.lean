/-
  Calls of a disk: Sync, Slot. (Written by gendk2.py.)
-/
import Derived.Test.YtlfknldgfeicmaaG9
namespace Go.Proofs.Ytlfknldgfeicmaa
set_option linter.unusedVariables false
set_option linter.unusedSimpArgs false
open Go.RowKit
variable {w : World} {B b : Nat} {L : List Nat} {d : Ds} {t0 t1 t2 l0 l1 l2 wt : Value} {ps : List Pa} {Lt Lw : List Nat} {room left keep tear : Int} {on : Bool} {told lasts : Fc}

/-- What lasts, behind a Sync. -/
theorem Dm.syncStep {a2 : Option Addr} {c2 : Nat} (h : Dm w B b L room on told lasts left keep tear t0 t1 (.slice a2 told.tp.length c2) l0 l1 l2 wt ps Lt Lw) :
    Dm ((((w.setCell ⟨b, 5, none⟩ t0).setCell ⟨b, 6, none⟩ t1).setCell ⟨b, 7, none⟩ (.slice a2 told.tp.length told.tp.length)).setCell ⟨b, 8, none⟩ (.slice none 0 0)) B b ((b :: []) ++ Lt) room on told told left keep tear t0 t1 (.slice a2 told.tp.length c2) t0 t1 (.slice a2 told.tp.length told.tp.length) (.slice none 0 0) [] Lt [] ∧
    Ext w L ((((w.setCell ⟨b, 5, none⟩ t0).setCell ⟨b, 6, none⟩ t1).setCell ⟨b, 7, none⟩ (.slice a2 told.tp.length told.tp.length)).setCell ⟨b, 8, none⟩ (.slice none 0 0)) ((b :: []) ++ Lt) := by
  have hL := h.hL
  subst hL
  have hsub : ∀ k ∈ (b :: []) ++ Lt, k ∈ (b :: Lw) ++ Lt := fun k hk => by
    simp at hk ⊢
    rcases hk with h | h
    · exact .inl h
    · exact .inr (.inr h)
  have c := (((h.cells.set 5 t0 (by simp)).set 6 t1 (by simp)).set 7 (.slice a2 told.tp.length told.tp.length) (by simp)).set 8 (.slice none 0 0) (by simp)
  simp only [List.set_cons_zero, List.set_cons_succ] at c
  have hk2 : ∀ k, k ≠ b → ((((w.setCell ⟨b, 5, none⟩ t0).setCell ⟨b, 6, none⟩ t1).setCell ⟨b, 7, none⟩ (.slice a2 told.tp.length told.tp.length)).setCell ⟨b, 8, none⟩ (.slice none 0 0)).heap[k]? = w.heap[k]? := fun k hk => by
    rw [Below.heap_setCell _ _ _ _ hk, Below.heap_setCell _ _ _ _ hk, Below.heap_setCell _ _ _ _ hk, Below.heap_setCell _ _ _ _ hk]
  have hs2 : ((((w.setCell ⟨b, 5, none⟩ t0).setCell ⟨b, 6, none⟩ t1).setCell ⟨b, 7, none⟩ (.slice a2 told.tp.length told.tp.length)).setCell ⟨b, 8, none⟩ (.slice none 0 0)).heap.size = w.heap.size := by simp [World.setCell]
  have ta : Tp w (b :: []) (.slice a2 told.tp.length c2) told.tp Lt := h.ta.sub (fun k hk => by simp at hk; simp [hk])
  have hm : b ∈ b :: ([] : List Nat) := by simp
  have ta2 := (((ta.put (o := 5) (x := t0) hm).put (o := 6) (x := t1) hm).put (o := 7) (x := .slice a2 told.tp.length told.tp.length) hm).put (o := 8) (x := .slice none 0 0) hm
  have ea : Lp w ((b :: []) ++ Lt) (.slice a2 told.tp.length told.tp.length) told.tp (.slice a2 told.tp.length c2) told.tp Lt := by
    refine ⟨⟨a2, rfl⟩, ?_⟩
    rcases ta with ⟨e, h1, a', hv⟩ | ⟨g, c', e, hg, hv, ho⟩
    · simp only [Value.slice.injEq] at hv
      obtain ⟨rfl, _, rfl⟩ := hv
      exact .inl (h1.sub (fun k hk => by rw [e] at hk; simpa using hk))
    · have hv2 := hv
      simp only [Value.slice.injEq] at hv2
      obtain ⟨rfl, _, _⟩ := hv2
      exact .inr ⟨g, c', e, hv, rfl, by simp⟩
  generalize hV : (((w.setCell ⟨b, 5, none⟩ t0).setCell ⟨b, 6, none⟩ t1).setCell ⟨b, 7, none⟩ (.slice a2 told.tp.length told.tp.length)).setCell ⟨b, 8, none⟩ (.slice none 0 0) = V at *
  have ho : V.os = w.os ∧ V.tape = w.tape ∧ V.output = w.output := by rw [← hV]; exact ⟨rfl, rfl, rfl⟩
  have hs3 : w.heap.size ≤ V.heap.size := by rw [hs2]; exact Nat.le_refl _
  have hk3 : ∀ k, k < w.heap.size → k ∉ (b :: Lw) ++ Lt → V.heap[k]? = w.heap[k]? := fun k _ hn => hk2 k (fun e => hn (by rw [e]; simp))
  have hk4 : ∀ k, k < w.heap.size → k ∉ (b :: []) ++ Lt → V.heap[k]? = w.heap[k]? := fun k _ hn => hk2 k (fun e => hn (by rw [e]; simp))
  have hnew : ∀ k ∈ (b :: []) ++ Lt, k ∈ (b :: Lw) ++ Lt ∨ w.heap.size ≤ k := fun k hk => .inl (hsub k hk)
  exact ⟨⟨c, rfl, h.a0.keep hs3 hk3 hnew, h.a1.keep hs3 hk3 hnew, ta2, h.a0.keep hs3 hk3 hnew, h.a1.keep hs3 hk3 hnew, ea.hold hs3 hk4 (fun k hk => .inl hk), ⟨World.ownsRow_nil _ _ _ _, .inl ⟨rfl, rfl, rfl⟩, (fun p hp => absurd hp (by simp)), (fun p hp => absurd hp (by simp))⟩, by simp, fun k hk => h.low k (hsub k hk)⟩,
    ⟨ho.1, ho.2.1, ho.2.2, hs3, hk3, hnew⟩⟩

set_option maxRecDepth 100000 in
set_option maxHeartbeats 3200000 in
theorem Sync_any (h : Dk w B b L d) (hl : 0 ≤ d.left ∧ d.left ≤ 9223372036854775807) : Calls Try.prog 35 #[.pointer (some ⟨b, 0, none⟩)] w (Did' w B b L (d.sync).2 (.int .i64 (d.sync).1)) := by
  have HK := Lib.hid h
  have Hc := Lib.hid (ready_dk h)
  have HLeft := Lib.hid hl
  obtain ⟨t0, t1, t2, l0, l1, l2, wt, ps, Lt, Lw, h⟩ := h
  obtain ⟨a0, c0, hq, _, _⟩ := h.a0.slice
  subst hq
  obtain ⟨a1, c1, hq, _, _⟩ := h.a1.slice
  subst hq
  obtain ⟨a2, c2, hq, hc2, hc3⟩ := h.ta.slice
  subst hq
  have x2 := h.cells.cells 2 _ rfl
  have x3 := h.cells.cells 3 _ rfl
  have x4 := h.cells.cells 4 _ rfl
  have H := Lib.hid h
  clear h hl
  cases hon : d.on
  · have HE : Hid (d.sync = (30, d)) := by show _ = _; unfold Ds.sync; rw [if_pos hon]
    have hr : rdy d = 0 ∨ rdy d = 30 := .inr (by unfold rdy; rw [hon]; rfl)
    have hr2 : rdy d = 30 := by unfold rdy; rw [hon]; rfl
    rw [hr2] at Hc
    clear hon hr hr2
    go_enter Try.func35, Try.ntmps35
    go_wp2_with fail
    go_fit Hc.out
    rintro e w' ⟨rfl, rfl⟩
    go_wp2_with fail
    go_ret
    rw [HE.out]
    exact ⟨L, rfl, HK.out, Ext.refl w L⟩
  · have HE : Hid (d.sync = Ds.burn { d with lasts := d.told, waits := [] }) := by show _ = _; unfold Ds.sync; rw [if_neg (by rw [hon]; simp)]
    have hr2 : rdy d = 0 := by unfold rdy; rw [hon]; rfl
    rw [hr2] at Hc
    clear hr2
    clear hon
    go_enter Try.func35, Try.ntmps35
    go_wp2_with fail
    go_fit Hc.out
    rintro e w' ⟨rfl, rfl⟩
    go_wp2_with fail
    go_fit (shut_any a0 a1 a2 d.told.s0.length c0 d.told.s1.length c1 d.told.tp.length c2 hc2 hc3 _)
    rintro e w1 ⟨rfl, hb⟩
    have HB := Lib.hid hb
    have HM := Lib.hid (H.out.mem.below hb)
    have y5 := HM.out.cells.cells 5 _ rfl
    have y6 := HM.out.cells.cells 6 _ rfl
    have y7 := HM.out.cells.cells 7 _ rfl
    have y8 := HM.out.cells.cells 8 _ rfl
    have z5 := HM.out.cells.fz 5
    have z6 := HM.out.cells.fz 6
    have z7 := HM.out.cells.fz 7
    have z8 := HM.out.cells.fz 8
    have HS := Lib.hid HM.out.syncStep
    have hdv := HS.out.1.dv H.out.room rfl (fun k => by simp [acts]; exact H.out.told)
    have HDV : Hid (Dk ((((w1.setCell ⟨b, 5, none⟩ (.slice a0 d.told.s0.length c0)).setCell ⟨b, 6, none⟩ (.slice a1 d.told.s1.length c1)).setCell ⟨b, 7, none⟩ (.slice a2 d.told.tp.length d.told.tp.length)).setCell ⟨b, 8, none⟩ (.slice none 0 0)) B b ((b :: []) ++ _) { d with lasts := d.told, waits := [] }) := ⟨_, _, _, _, _, _, _, _, _, _, hdv⟩
    clear hb hdv
    go_wp2_with fail
    go_fit (burn_any HDV.out (by simp) HLeft.out)
    rintro e w2 ⟨L2, rfl, hd, he⟩
    have HD2 := Lib.hid hd
    have HE2 := Lib.hid he
    clear hd he
    go_wp2_with fail
    go_ret
    rw [HE.out]
    exact ⟨L2, rfl, HD2.out, (Ext.of_below HB.out).trans (HS.out.2.trans HE2.out)⟩

set_option maxRecDepth 100000 in
set_option maxHeartbeats 3200000 in
theorem Slot_any (i : Int) {v : Value} {xs : List Int} (h : Dk w B b L d) (hv : Byt w [] v xs) (hx : xs.length ≤ 65536) (hn : d.waits.length ≤ 900000) (hl : 0 ≤ d.left ∧ d.left ≤ 9223372036854775807) :
    Calls Try.prog 45 #[.pointer (some ⟨b, 0, none⟩), .int .i64 i, v] w (Did' w B b L (d.slot i xs).2 (.int .i64 (d.slot i xs).1)) := by
  have HK := Lib.hid h
  have Hc := Lib.hid (readySlot_dk i h)
  have HV := Lib.hid hv
  have HLt := Lib.hid h.llt
  obtain ⟨pa, pc, hvv, hpc1, hpc2⟩ := hv.slice
  subst hvv
  have HD : Hid (Below w.heap.size w w.drew) := ⟨rfl, rfl, rfl, Nat.le_refl _, fun _ _ => rfl⟩
  by_cases hbad : rdys d i = 0
  · obtain ⟨t0, t1, t2, l0, l1, l2, wt, ps, Lt, Lw, h⟩ := h
    have hon : d.on = true := by unfold rdys at hbad; split at hbad <;> simp_all
    have hi : ¬ (i < 0 ∨ 2 ≤ i) := by unfold rdys at hbad; rw [if_pos hon] at hbad; split at hbad <;> simp_all
    have hcase : i = 0 ∨ i = 1 := by omega
    clear hbad
    rcases hcase with rfl | rfl
    · have HE7 : d.room < (d.told.size : Int) - d.told.s0.length + xs.length → d.slot 0 xs = (7, d) := fun h => by unfold Ds.slot; rw [if_neg (by rw [hon]; simp), if_neg (by omega), if_pos (by simpa using h)]
      have HEw : ¬ d.room < (d.told.size : Int) - d.told.s0.length + xs.length → d.slot 0 xs = d.wait ⟨1, 0, xs⟩ := fun h => by unfold Ds.slot; rw [if_neg (by rw [hon]; simp), if_neg (by omega), if_neg (by simpa using h)]
      have hr : rdys d 0 = 0 := by unfold rdys; rw [if_pos hon, if_neg (by omega)]
      rw [hr] at Hc
      obtain ⟨a0, c0, hq, _, _⟩ := h.a0.slice
      subst hq
      obtain ⟨a1, c1, hq, _, _⟩ := h.a1.slice
      subst hq
      obtain ⟨a2, c2, hq, _, _⟩ := h.ta.slice
      subst hq
      have hts := h.told
      have hrm := h.room
      have hsz : (d.told.size : Int) = (d.told.tp.length : Int) + d.told.s0.length + d.told.s1.length := by unfold Fc.size; omega
      have HS := Lib.hid (fun W => size_any a0 a1 a2 d.told.s0.length d.told.s1.length d.told.tp.length c0 c1 c2 W (by omega) (by omega) (by omega))
      have H := Lib.hid h
      have x0 := h.cells.cells 0 _ rfl
      have x2 := h.cells.cells 2 _ rfl
      have x3 := h.cells.cells 3 _ rfl
      have x4 := h.cells.cells 4 _ rfl
      have hwr1 : IntKind.i64.wrap ((d.told.tp.length : Int) + d.told.s0.length + d.told.s1.length - d.told.s0.length) = (d.told.tp.length : Int) + d.told.s0.length + d.told.s1.length - d.told.s0.length := IntWalk.i64_in _ (by omega)
      have hwr : IntKind.i64.wrap ((d.told.tp.length : Int) + d.told.s0.length + d.told.s1.length - d.told.s0.length + xs.length) = (d.told.tp.length : Int) + d.told.s0.length + d.told.s1.length - d.told.s0.length + xs.length := IntWalk.i64_in _ (by omega)
      have HX := Lib.hid hx
      have HN := Lib.hid hn
      have HLeft := Lib.hid hl
      by_cases hfull : d.room < (d.told.size : Int) - d.told.s0.length + xs.length
      · have HE := Lib.hid (HE7 hfull)
        have hcmp : d.room < (d.told.tp.length : Int) + d.told.s0.length + d.told.s1.length - d.told.s0.length + xs.length := by omega
        clear h hv hon hr hts hrm hsz hx hn hl hfull HE7 HEw
        go_enter Try.func45, Try.ntmps45
        go_wp2_with fail
        go_fit Hc.out
        rintro e w' ⟨rfl, rfl⟩
        go_wp2_with fail
        go_region_held3 (fun W => W.cell? ⟨b, 0, none⟩ = some (.int .i64 d.room) ∧ W.cell? ⟨b, 2, none⟩ = some (.slice a0 d.told.s0.length c0) ∧ W.cell? ⟨b, 3, none⟩ = some (.slice a1 d.told.s1.length c1) ∧ W.cell? ⟨b, 4, none⟩ = some (.slice a2 d.told.tp.length c2)) (go_keep)
          (first | (go_at_call 53; refine (HS.out _).mono ?_; rintro e w1 ⟨rfl, hb1⟩; have hb := HD.out.trans hb1; have hc := H.out.cells.below hb; have g0 := hc.cells 0 _ rfl; have g2 := hc.cells 2 _ rfl; have g3 := hc.cells 3 _ rfl; have g4 := hc.cells 4 _ rfl; have HB1 := Lib.hid hb; clear hb1 hb hc))
        go_wp2_with fail
        go_ret
        rw [HE.out]
        exact ⟨L, rfl, HK.out.below HB1.out, Ext.of_below HB1.out⟩
      · have HE := Lib.hid (HEw hfull)
        have hcmp : ¬ d.room < (d.told.tp.length : Int) + d.told.s0.length + d.told.s1.length - d.told.s0.length + xs.length := by omega
        have HFit : Hid (((Ac.does ⟨1, 0, xs⟩ d.told).size : Int) ≤ d.room) := by
          show _ ≤ _
          simp only [Ac.does, Fc.size] at *
          simp
          omega
        clear h hv hon hr hts hrm hsz hx hn hl hfull HE7 HEw
        go_enter Try.func45, Try.ntmps45
        go_wp2_with fail
        go_fit Hc.out
        rintro e w' ⟨rfl, rfl⟩
        go_wp2_with fail
        go_region_held3 (fun W => W.cell? ⟨b, 0, none⟩ = some (.int .i64 d.room) ∧ W.cell? ⟨b, 2, none⟩ = some (.slice a0 d.told.s0.length c0) ∧ W.cell? ⟨b, 3, none⟩ = some (.slice a1 d.told.s1.length c1) ∧ W.cell? ⟨b, 4, none⟩ = some (.slice a2 d.told.tp.length c2)) (go_keep)
          (first | (go_at_call 53; refine (HS.out _).mono ?_; rintro e w1 ⟨rfl, hb1⟩; have hb := HD.out.trans hb1; have hc := H.out.cells.below hb; have g0 := hc.cells 0 _ rfl; have g2 := hc.cells 2 _ rfl; have g3 := hc.cells 3 _ rfl; have g4 := hc.cells 4 _ rfl; have HB1 := Lib.hid hb; clear hb1 hb hc))
        go_wp2_with fail
        go_fit (Clone_byt (HV.out.below HB1.out) (by have := HX.out; omega))
        rintro e w2 ⟨v2, rfl, hown, hb2⟩
        have HB2 := Lib.hid (HB1.out.trans (hb2.mono HB1.out.size))
        have HBy : Hid (Byt w2 L v2 xs) := Copied.byt hown (fun k hk => Nat.lt_of_lt_of_le (HLt.out k hk) HB1.out.size)
        obtain ⟨pv, cv, hq, _, _⟩ := HBy.out.slice
        subst hq
        have HK2 := Lib.hid (HK.out.below HB2.out)
        have HW := Lib.hid (wait_any ⟨1, 0, xs⟩ HK2.out HBy.out ⟨.inr (.inl rfl), .inl rfl, by have := HX.out; simp only; omega⟩ HFit.out HN.out HLeft.out)
        have HW' : Hid (Calls Try.prog 58 #[.pointer (some ⟨b, 0, none⟩), .agg #[.int .i64 1, .int .i64 0, .slice pv xs.length cv]] w2 (Did' w2 B b L (d.wait ⟨1, 0, xs⟩).2 (.int .i64 (d.wait ⟨1, 0, xs⟩).1))) := HW.out
        clear hown hb2 g0 g2 g3 g4 HW hwr hwr1
        go_wp2_with fail
        go_fit HW'.out
        rintro e w3 ⟨L3, rfl, hd3, he3⟩
        have HD3 := Lib.hid hd3
        have HE3 := Lib.hid he3
        clear hd3 he3
        go_wp2_with fail
        go_ret
        rw [HE.out]
        exact ⟨L3, rfl, HD3.out, (Ext.of_below HB2.out).trans HE3.out⟩
    · have HE7 : d.room < (d.told.size : Int) - d.told.s1.length + xs.length → d.slot 1 xs = (7, d) := fun h => by unfold Ds.slot; rw [if_neg (by rw [hon]; simp), if_neg (by omega), if_pos (by simpa using h)]
      have HEw : ¬ d.room < (d.told.size : Int) - d.told.s1.length + xs.length → d.slot 1 xs = d.wait ⟨1, 1, xs⟩ := fun h => by unfold Ds.slot; rw [if_neg (by rw [hon]; simp), if_neg (by omega), if_neg (by simpa using h)]
      have hr : rdys d 1 = 0 := by unfold rdys; rw [if_pos hon, if_neg (by omega)]
      rw [hr] at Hc
      obtain ⟨a0, c0, hq, _, _⟩ := h.a0.slice
      subst hq
      obtain ⟨a1, c1, hq, _, _⟩ := h.a1.slice
      subst hq
      obtain ⟨a2, c2, hq, _, _⟩ := h.ta.slice
      subst hq
      have hts := h.told
      have hrm := h.room
      have hsz : (d.told.size : Int) = (d.told.tp.length : Int) + d.told.s0.length + d.told.s1.length := by unfold Fc.size; omega
      have HS := Lib.hid (fun W => size_any a0 a1 a2 d.told.s0.length d.told.s1.length d.told.tp.length c0 c1 c2 W (by omega) (by omega) (by omega))
      have H := Lib.hid h
      have x0 := h.cells.cells 0 _ rfl
      have x2 := h.cells.cells 2 _ rfl
      have x3 := h.cells.cells 3 _ rfl
      have x4 := h.cells.cells 4 _ rfl
      have hwr1 : IntKind.i64.wrap ((d.told.tp.length : Int) + d.told.s0.length) = (d.told.tp.length : Int) + d.told.s0.length := IntWalk.i64_in _ (by omega)
      have hwr : IntKind.i64.wrap ((d.told.tp.length : Int) + d.told.s0.length + xs.length) = (d.told.tp.length : Int) + d.told.s0.length + xs.length := IntWalk.i64_in _ (by omega)
      have HX := Lib.hid hx
      have HN := Lib.hid hn
      have HLeft := Lib.hid hl
      by_cases hfull : d.room < (d.told.size : Int) - d.told.s1.length + xs.length
      · have HE := Lib.hid (HE7 hfull)
        have hcmp : d.room < (d.told.tp.length : Int) + d.told.s0.length + xs.length := by omega
        clear h hv hon hr hts hrm hsz hx hn hl hfull HE7 HEw
        go_enter Try.func45, Try.ntmps45
        go_wp2_with fail
        go_fit Hc.out
        rintro e w' ⟨rfl, rfl⟩
        go_wp2_with fail
        go_region_held3 (fun W => W.cell? ⟨b, 0, none⟩ = some (.int .i64 d.room) ∧ W.cell? ⟨b, 2, none⟩ = some (.slice a0 d.told.s0.length c0) ∧ W.cell? ⟨b, 3, none⟩ = some (.slice a1 d.told.s1.length c1) ∧ W.cell? ⟨b, 4, none⟩ = some (.slice a2 d.told.tp.length c2)) (go_keep)
          (first | (go_at_call 53; refine (HS.out _).mono ?_; rintro e w1 ⟨rfl, hb1⟩; have hb := HD.out.trans hb1; have hc := H.out.cells.below hb; have g0 := hc.cells 0 _ rfl; have g2 := hc.cells 2 _ rfl; have g3 := hc.cells 3 _ rfl; have g4 := hc.cells 4 _ rfl; have HB1 := Lib.hid hb; clear hb1 hb hc))
        go_wp2_with fail
        go_ret
        rw [HE.out]
        exact ⟨L, rfl, HK.out.below HB1.out, Ext.of_below HB1.out⟩
      · have HE := Lib.hid (HEw hfull)
        have hcmp : ¬ d.room < (d.told.tp.length : Int) + d.told.s0.length + xs.length := by omega
        have HFit : Hid (((Ac.does ⟨1, 1, xs⟩ d.told).size : Int) ≤ d.room) := by
          show _ ≤ _
          simp only [Ac.does, Fc.size] at *
          simp
          omega
        clear h hv hon hr hts hrm hsz hx hn hl hfull HE7 HEw
        go_enter Try.func45, Try.ntmps45
        go_wp2_with fail
        go_fit Hc.out
        rintro e w' ⟨rfl, rfl⟩
        go_wp2_with fail
        go_region_held3 (fun W => W.cell? ⟨b, 0, none⟩ = some (.int .i64 d.room) ∧ W.cell? ⟨b, 2, none⟩ = some (.slice a0 d.told.s0.length c0) ∧ W.cell? ⟨b, 3, none⟩ = some (.slice a1 d.told.s1.length c1) ∧ W.cell? ⟨b, 4, none⟩ = some (.slice a2 d.told.tp.length c2)) (go_keep)
          (first | (go_at_call 53; refine (HS.out _).mono ?_; rintro e w1 ⟨rfl, hb1⟩; have hb := HD.out.trans hb1; have hc := H.out.cells.below hb; have g0 := hc.cells 0 _ rfl; have g2 := hc.cells 2 _ rfl; have g3 := hc.cells 3 _ rfl; have g4 := hc.cells 4 _ rfl; have HB1 := Lib.hid hb; clear hb1 hb hc))
        go_wp2_with fail
        go_fit (Clone_byt (HV.out.below HB1.out) (by have := HX.out; omega))
        rintro e w2 ⟨v2, rfl, hown, hb2⟩
        have HB2 := Lib.hid (HB1.out.trans (hb2.mono HB1.out.size))
        have HBy : Hid (Byt w2 L v2 xs) := Copied.byt hown (fun k hk => Nat.lt_of_lt_of_le (HLt.out k hk) HB1.out.size)
        obtain ⟨pv, cv, hq, _, _⟩ := HBy.out.slice
        subst hq
        have HK2 := Lib.hid (HK.out.below HB2.out)
        have HW := Lib.hid (wait_any ⟨1, 1, xs⟩ HK2.out HBy.out ⟨.inr (.inl rfl), .inr rfl, by have := HX.out; simp only; omega⟩ HFit.out HN.out HLeft.out)
        have HW' : Hid (Calls Try.prog 58 #[.pointer (some ⟨b, 0, none⟩), .agg #[.int .i64 1, .int .i64 1, .slice pv xs.length cv]] w2 (Did' w2 B b L (d.wait ⟨1, 1, xs⟩).2 (.int .i64 (d.wait ⟨1, 1, xs⟩).1))) := HW.out
        clear hown hb2 g0 g2 g3 g4 HW hwr hwr1
        go_wp2_with fail
        go_fit HW'.out
        rintro e w3 ⟨L3, rfl, hd3, he3⟩
        have HD3 := Lib.hid hd3
        have HE3 := Lib.hid he3
        clear hd3 he3
        go_wp2_with fail
        go_ret
        rw [HE.out]
        exact ⟨L3, rfl, HD3.out, (Ext.of_below HB2.out).trans HE3.out⟩
  · have HE : Hid (d.slot i xs = (rdys d i, d)) := by
      show _ = _
      unfold Ds.slot
      unfold rdys at hbad ⊢
      cases hon : d.on
      · simp
      · rw [hon] at hbad
        by_cases hi : i < 0 ∨ 2 ≤ i
        · simp [hi]
        · simp [hi] at hbad
    generalize rdys d i = r at *
    have hr : (r == 0) = false := by simp [hbad]
    have hr1 : ¬ r = 0 := hbad
    clear hbad h hv
    go_enter Try.func45, Try.ntmps45
    go_wp2_with fail
    go_fit Hc.out
    rintro e w' ⟨rfl, rfl⟩
    go_wp2_with fail
    go_ret
    rw [HE.out]
    exact ⟨L, rfl, HK.out, Ext.refl w L⟩
end Go.Proofs.Ytlfknldgfeicmaa
