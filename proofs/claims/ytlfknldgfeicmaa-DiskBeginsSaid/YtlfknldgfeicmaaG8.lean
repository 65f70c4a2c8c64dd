/-
  Calls of a disk: what is appended.
-/
import Derived.Test.YtlfknldgfeicmaaG7
import Derived.Shelf.Bytes.SlClone
namespace Go.Proofs.Ytlfknldgfeicmaa
set_option linter.unusedVariables false
set_option linter.unusedSimpArgs false
open Go.RowKit
variable {w : World} {B b : Nat} {L : List Nat} {d : Ds} {t0 t1 t2 l0 l1 l2 wt : Value} {ps : List Pa} {Lt Lw : List Nat} {room left keep tear : Int} {on : Bool} {told lasts : Fc}

theorem Dm.llt (h : Dm w B b L room on told lasts left keep tear t0 t1 t2 l0 l1 l2 wt ps Lt Lw) : ∀ k ∈ L, k < w.heap.size := by
  intro k hk
  rw [h.hL] at hk
  rcases List.mem_append.1 hk with hk | hk
  · rcases List.mem_cons.1 hk with rfl | hk
    · exact h.cells.lt
    · exact (h.wlt k hk).1
  · exact (h.ta.lt k hk).1
theorem Dk.llt (h : Dk w B b L d) : ∀ k ∈ L, k < w.heap.size := by
  obtain ⟨_, _, _, _, _, _, _, _, _, _, h⟩ := h
  exact h.mem.llt
theorem Dk.low (h : Dk w B b L d) : ∀ k ∈ L, B ≤ k := by
  obtain ⟨_, _, _, _, _, _, _, _, _, _, h⟩ := h
  exact h.low
theorem Dk.bL (h : Dk w B b L d) : b ∈ L := by
  obtain ⟨_, _, _, _, _, _, _, _, _, _, h⟩ := h
  rw [h.hL]; simp
/-- What a copy of bytes leaves. -/
def Copied (xs : List Int) (w : World) (e : Ending) (w' : World) : Prop := ∃ v, e = .returned v ∧ w'.ownsRow w.heap.size 5 1 v xs.length (u8s xs) ∧ Below w.heap.size w w'
theorem Clone_byt {v : Value} {xs : List Int} (h : Byt w L v xs) (hl : xs.length ≤ 140737488355328) : Calls Try.prog 51 #[v] w (Copied xs w) := by
  obtain ⟨a, c, rfl, h1, h2, h3⟩ := h
  cases a with
  | none =>
    have hx : xs = [] := h3.resolve_right (by rintro ⟨p, hp, _⟩; cases hp)
    subst hx
    exact (Try.bytes_Clone_nil 0 c w).mono fun e w' ⟨he, hw⟩ => ⟨_, he, by rw [hw]; exact World.ownsRow_nil _ _ _ _, by rw [hw]; exact Below.refl _ _⟩
  | some p =>
    refine (Try.bytes_Clone_at p xs.length c xs w rfl hl ?_).mono fun e w' ⟨v', he, ho, _, hb⟩ => ⟨v', he, ho, hb⟩
    intro i hi
    rcases h3 with rfl | ⟨p', hp, _, _, hr⟩
    · simp at hi
    · cases hp
      exact hr.at hi
theorem Copied.byt {v : Value} {xs : List Int} {w' : World} (ho : w'.ownsRow w.heap.size 5 1 v xs.length (u8s xs)) (hL : ∀ k ∈ L, k < w.heap.size) : Byt w' L v xs :=
  byt_row ho rfl (fun g hg hm => by have := (ho.lt g hg).1; have := hL g hm; omega)

def Ds.append (d : Ds) (xs : List Int) : Int × Ds := if d.on = false then (30, d) else if d.room < (d.told.size : Int) + xs.length then (7, d) else d.wait ⟨2, 0, xs⟩
def Ds.slot (d : Ds) (i : Int) (xs : List Int) : Int × Ds :=
  if d.on = false then (30, d) else if i < 0 ∨ 2 ≤ i then (31, d) else if d.room < (d.told.size : Int) - (if i = 0 then d.told.s0.length else d.told.s1.length) + xs.length then (7, d) else d.wait ⟨1, i, xs⟩
def Ds.clear (d : Ds) : Int × Ds := if d.on = false then (30, d) else d.wait ⟨3, 0, []⟩
def Ds.sync (d : Ds) : Int × Ds := if d.on = false then (30, d) else Ds.burn { d with lasts := d.told, waits := [] }
def Ds.crash (d : Ds) (keep tear : Int) : Int × Ds := if d.on = false then (30, d) else (0, d.fall keep tear)
def Ds.start (d : Ds) : Int × Ds := (0, { d with on := true })
def Ds.arm (d : Ds) (n keep tear : Int) : Int × Ds := if d.on = false then (30, d) else if n < 0 then (1, d) else (0, { d with left := n, keep := keep, tear := tear })

set_option maxHeartbeats 800000 in
theorem made_dk (h : Dk w B b L d) : Calls Try.prog 54 #[.pointer (some ⟨b, 0, none⟩)] w fun e w' => e = .returned (.bool true) ∧ w = w' := by
  obtain ⟨_, _, _, _, _, _, _, _, _, _, h⟩ := h
  have h0 := h.cells.cells 0 _ rfl
  have hr := h.room.1
  clear h
  go_enter Try.func54, Try.ntmps54
  go_wp2_with fail
  go_ret
  exact ⟨rfl, rfl⟩
def rdy (d : Ds) : Int := if d.on = true then 0 else 30
set_option maxHeartbeats 800000 in
theorem ready_dk (h : Dk w B b L d) : Calls Try.prog 52 #[.pointer (some ⟨b, 0, none⟩)] w fun e w' => e = .returned (.int .i64 (rdy d)) ∧ w = w' := by
  have Hc := Lib.hid (made_dk h)
  obtain ⟨_, _, _, _, _, _, _, _, _, _, h⟩ := h
  have h1 := h.cells.cells 1 _ rfl
  clear h
  cases hon : d.on
  · have HE : Hid (rdy d = 30) := by show _ = _; unfold rdy; rw [hon]; rfl
    rw [hon] at h1
    clear hon
    go_enter Try.func52, Try.ntmps52
    go_wp2_with fail
    go_fit Hc.out
    rintro e w' ⟨rfl, rfl⟩
    go_wp2_with fail
    go_ret
    rw [HE.out]
    exact ⟨rfl, rfl⟩
  · have HE : Hid (rdy d = 0) := by show _ = _; unfold rdy; rw [hon]; rfl
    rw [hon] at h1
    clear hon
    go_enter Try.func52, Try.ntmps52
    go_wp2_with fail
    go_fit Hc.out
    rintro e w' ⟨rfl, rfl⟩
    go_wp2_with fail
    go_ret
    rw [HE.out]
    exact ⟨rfl, rfl⟩

set_option maxRecDepth 100000 in
set_option maxHeartbeats 3200000 in
theorem Append_any {v : Value} {xs : List Int} (h : Dk w B b L d) (hv : Byt w [] v xs) (hx : xs.length ≤ 65536) (hn : d.waits.length ≤ 900000) (hl : 0 ≤ d.left ∧ d.left ≤ 9223372036854775807) :
    Calls Try.prog 40 #[.pointer (some ⟨b, 0, none⟩), v] w (Did' w B b L (d.append xs).2 (.int .i64 (d.append xs).1)) := by
  have HK := Lib.hid h
  have Hc := Lib.hid (ready_dk h)
  have HV := Lib.hid hv
  have HLt := Lib.hid h.llt
  obtain ⟨pa, pc, hvv, hpc1, hpc2⟩ := hv.slice
  subst hvv
  obtain ⟨t0, t1, t2, l0, l1, l2, wt, ps, Lt, Lw, h⟩ := h
  have HD : Hid (Below w.heap.size w w.drew) := ⟨rfl, rfl, rfl, Nat.le_refl _, fun _ _ => rfl⟩
  cases hon : d.on
  · have HE : Hid (d.append xs = (30, d)) := by show _ = _; unfold Ds.append; rw [if_pos hon]
    have hr : rdy d = 30 := by unfold rdy; rw [hon]; rfl
    rw [hr] at Hc
    clear h hv hon hr
    go_enter Try.func40, Try.ntmps40
    go_wp2_with fail
    go_fit Hc.out
    rintro e w' ⟨rfl, rfl⟩
    go_wp2_with fail
    go_ret
    rw [HE.out]
    exact ⟨L, rfl, HK.out, Ext.refl w L⟩
  · have hr : rdy d = 0 := by unfold rdy; rw [hon]; rfl
    rw [hr] at Hc
    obtain ⟨a0, c0, hq, _, _⟩ := h.a0.slice
    subst hq
    obtain ⟨a1, c1, hq, _, _⟩ := h.a1.slice
    subst hq
    obtain ⟨a2, c2, hq, _, _⟩ := h.ta.slice
    subst hq
    have hts := h.told
    have hrm := h.room
    have hsz : (d.told.size : Int) = (d.told.tp.length : Int) + d.told.s0.length + d.told.s1.length := by unfold Fc.size; omega
    have HS := Lib.hid (fun W => size_any a0 a1 a2 d.told.s0.length d.told.s1.length d.told.tp.length c0 c1 c2 W (by omega) (by omega) (by omega))
    have H := Lib.hid h
    have x0 := h.cells.cells 0 _ rfl
    have x2 := h.cells.cells 2 _ rfl
    have x3 := h.cells.cells 3 _ rfl
    have x4 := h.cells.cells 4 _ rfl
    have hwr : IntKind.i64.wrap ((d.told.tp.length : Int) + d.told.s0.length + d.told.s1.length + xs.length) = (d.told.tp.length : Int) + d.told.s0.length + d.told.s1.length + xs.length := IntWalk.i64_in _ (by omega)
    have HX := Lib.hid hx
    have HN := Lib.hid hn
    have HLeft := Lib.hid hl
    by_cases hfull : d.room < (d.told.size : Int) + xs.length
    · have HE : Hid (d.append xs = (7, d)) := by show _ = _; unfold Ds.append; rw [if_neg (by rw [hon]; simp), if_pos hfull]
      have hcmp : d.room < (d.told.tp.length : Int) + d.told.s0.length + d.told.s1.length + xs.length := by omega
      clear h hv hon hr hts hrm hsz hx hn hl hfull
      go_enter Try.func40, Try.ntmps40
      go_wp2_with fail
      go_fit Hc.out
      rintro e w' ⟨rfl, rfl⟩
      go_wp2_with fail
      go_region_held3 (fun W => W.cell? ⟨b, 0, none⟩ = some (.int .i64 d.room) ∧ W.cell? ⟨b, 2, none⟩ = some (.slice a0 d.told.s0.length c0) ∧ W.cell? ⟨b, 3, none⟩ = some (.slice a1 d.told.s1.length c1) ∧ W.cell? ⟨b, 4, none⟩ = some (.slice a2 d.told.tp.length c2)) (go_keep)
        (first | (go_at_call 53; refine (HS.out _).mono ?_; rintro e w1 ⟨rfl, hb1⟩; have hb := HD.out.trans hb1; have hc := H.out.cells.below hb; have g0 := hc.cells 0 _ rfl; have g2 := hc.cells 2 _ rfl; have g3 := hc.cells 3 _ rfl; have g4 := hc.cells 4 _ rfl; have HB1 := Lib.hid hb; clear hb1 hb hc))
      go_wp2_with fail
      go_ret
      rw [HE.out]
      exact ⟨L, rfl, HK.out.below HB1.out, Ext.of_below HB1.out⟩
    · have HE : Hid (d.append xs = d.wait ⟨2, 0, xs⟩) := by show _ = _; unfold Ds.append; rw [if_neg (by rw [hon]; simp), if_neg hfull]
      have hcmp : ¬ d.room < (d.told.tp.length : Int) + d.told.s0.length + d.told.s1.length + xs.length := by omega
      have HFit : Hid (((Ac.does ⟨2, 0, xs⟩ d.told).size : Int) ≤ d.room) := by
        show _ ≤ _
        simp only [Ac.does, Fc.size] at *
        simp
        omega
      clear h hv hon hr hts hrm hsz hx hn hl hfull
      go_enter Try.func40, Try.ntmps40
      go_wp2_with fail
      go_fit Hc.out
      rintro e w' ⟨rfl, rfl⟩
      go_wp2_with fail
      go_region_held3 (fun W => W.cell? ⟨b, 0, none⟩ = some (.int .i64 d.room) ∧ W.cell? ⟨b, 2, none⟩ = some (.slice a0 d.told.s0.length c0) ∧ W.cell? ⟨b, 3, none⟩ = some (.slice a1 d.told.s1.length c1) ∧ W.cell? ⟨b, 4, none⟩ = some (.slice a2 d.told.tp.length c2)) (go_keep)
        (first | (go_at_call 53; refine (HS.out _).mono ?_; rintro e w1 ⟨rfl, hb1⟩; have hb := HD.out.trans hb1; have hc := H.out.cells.below hb; have g0 := hc.cells 0 _ rfl; have g2 := hc.cells 2 _ rfl; have g3 := hc.cells 3 _ rfl; have g4 := hc.cells 4 _ rfl; have HB1 := Lib.hid hb; clear hb1 hb hc))
      go_wp2_with fail
      go_fit (Clone_byt (HV.out.below HB1.out) (by have := HX.out; omega))
      rintro e w2 ⟨v2, rfl, hown, hb2⟩
      have HB2 := Lib.hid (HB1.out.trans (hb2.mono HB1.out.size))
      have HBy : Hid (Byt w2 L v2 xs) := Copied.byt hown (fun k hk => Nat.lt_of_lt_of_le (HLt.out k hk) HB1.out.size)
      obtain ⟨pv, cv, hq, _, _⟩ := HBy.out.slice
      subst hq
      have HK2 := Lib.hid (HK.out.below HB2.out)
      have HW := Lib.hid (wait_any ⟨2, 0, xs⟩ HK2.out HBy.out ⟨.inr (.inr (.inl rfl)), .inl rfl, by have := HX.out; simp only; omega⟩ HFit.out HN.out HLeft.out)
      have HW' : Hid (Calls Try.prog 58 #[.pointer (some ⟨b, 0, none⟩), .agg #[.int .i64 2, .int .i64 0, .slice pv xs.length cv]] w2 (Did' w2 B b L (d.wait ⟨2, 0, xs⟩).2 (.int .i64 (d.wait ⟨2, 0, xs⟩).1))) := HW.out
      clear hown hb2 g0 g2 g3 g4 HW hwr
      go_wp2_with fail
      go_fit HW'.out
      rintro e w3 ⟨L3, rfl, hd3, he3⟩
      have HD3 := Lib.hid hd3
      have HE3 := Lib.hid he3
      clear hd3 he3
      go_wp2_with fail
      go_ret
      rw [HE.out]
      exact ⟨L3, rfl, HD3.out, (Ext.of_below HB2.out).trans HE3.out⟩
end Go.Proofs.Ytlfknldgfeicmaa
