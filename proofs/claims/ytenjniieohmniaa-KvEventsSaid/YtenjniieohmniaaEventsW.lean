/-
  KvEvents: the walk. To do is to plan, and to take what was planned. (Written by genkv.py.)
-/
import Derived.Test.YtenjniieohmniaaK16
namespace Go.Proofs.Ytenjniieohmniaa
set_option linter.unusedVariables false
set_option linter.unusedSimpArgs false
open Go.RowKit

set_option maxRecDepth 100000 in
set_option maxHeartbeats 25600000 in
theorem Events_any {w : World} (l : List Kd) {v0 : Value} (h0 : KdsIn w v0 l) (k : Kd) {x y : Value} (hx : opL.In w x k.conds) (hy : opL.In w y k.ops) (zl : l.length * 168 ≤ 140737488351232) :
    Calls Try.prog 5 #[v0, .agg #[.int .i64 k.op, .int .i64 k.pos, x, y, .string k.fr, .string k.to, .int .i64 k.ev.pos, .string k.ev.key, .bool k.ev.had, .string k.ev.old, .bool k.ev.has, .string k.ev.now]] w (Yes w) := by
  obtain ⟨a0, c0, rfl⟩ := h0.slice
  obtain ⟨ua, uc, rfl, _, _⟩ := hx.slice
  obtain ⟨va, vc, rfl, _, _⟩ := hy.slice
  have HK0 := Lib.hid h0
  have HU := Lib.hid hx
  have HV := Lib.hid hy
  obtain ⟨rs, hrs, hri, hr0⟩ := h0.raw
  have hlen : rs.length = l.length := by rw [← hrs, List.length_map]
  have HRs := Lib.hid hrs
  have HRi := Lib.hid hri
  have HLb : Hid (([(⟨k, ua, uc, va, vc⟩ : Kr)].length + rs.length) * 168 ≤ 140737488355328) := by show (1 + rs.length) * 168 ≤ _; rw [hlen]; omega
  have HLc : Hid ([(⟨k, ua, uc, va, vc⟩ : Kr)].length + rs.length ≤ 140737488355328) := by show 1 + rs.length ≤ _; rw [hlen]; omega
  have hB2 : Below w.heap.size w ((w.alloc (.cells #[.int .i64 k.op, .int .i64 k.pos, .slice ua k.conds.length uc, .slice va k.ops.length vc, .string k.fr, .string k.to, .int .i64 k.ev.pos, .string k.ev.key, .bool k.ev.had, .string k.ev.old, .bool k.ev.has, .string k.ev.now] 34)).alloc (.cells #[.int .i64 k.op, .int .i64 k.pos, .slice ua k.conds.length uc, .slice va k.ops.length vc, .string k.fr, .string k.to, .int .i64 k.ev.pos, .string k.ev.key, .bool k.ev.had, .string k.ev.old, .bool k.ev.has, .string k.ev.now] 34)) := below_of (lay_alloc w _) (lay_alloc _ _)
  have HR2 : Hid (krL.In0 ((w.alloc (.cells #[.int .i64 k.op, .int .i64 k.pos, .slice ua k.conds.length uc, .slice va k.ops.length vc, .string k.fr, .string k.to, .int .i64 k.ev.pos, .string k.ev.key, .bool k.ev.had, .string k.ev.old, .bool k.ev.has, .string k.ev.now] 34)).alloc (.cells #[.int .i64 k.op, .int .i64 k.pos, .slice ua k.conds.length uc, .slice va k.ops.length vc, .string k.fr, .string k.to, .int .i64 k.ev.pos, .string k.ev.key, .bool k.ev.had, .string k.ev.old, .bool k.ev.has, .string k.ev.now] 34)) (.slice a0 l.length c0) rs) := by
    show Lay.In0 _ _ _ _
    obtain ⟨a, c, hv, h⟩ := hr0
    exact ⟨a, c, hv, h.imp id (fun ⟨g, off, ha, h⟩ => ⟨g, off, ha, h.later hB2⟩)⟩
  have HKb : Hid (∀ (j : Nat) v, #[.int .i64 k.op, .int .i64 k.pos, .slice ua k.conds.length uc, .slice va k.ops.length vc, .string k.fr, .string k.to, .int .i64 k.ev.pos, .string k.ev.key, .bool k.ev.had, .string k.ev.old, .bool k.ev.has, .string k.ev.now][j]? = some v → ((w.alloc (.cells #[.int .i64 k.op, .int .i64 k.pos, .slice ua k.conds.length uc, .slice va k.ops.length vc, .string k.fr, .string k.to, .int .i64 k.ev.pos, .string k.ev.key, .bool k.ev.had, .string k.ev.old, .bool k.ev.has, .string k.ev.now] 34)).alloc (.cells #[.int .i64 k.op, .int .i64 k.pos, .slice ua k.conds.length uc, .slice va k.ops.length vc, .string k.fr, .string k.to, .int .i64 k.ev.pos, .string k.ev.key, .bool k.ev.had, .string k.ev.old, .bool k.ev.has, .string k.ev.now] 34)).cell? ⟨w.heap.size, j, none⟩ = some v) := fun j v h => lay_later (lay_alloc _ _) (kd_box w _ _ j v h)
  have HOwn : Hid (((w.alloc (.cells #[.int .i64 k.op, .int .i64 k.pos, .slice ua k.conds.length uc, .slice va k.ops.length vc, .string k.fr, .string k.to, .int .i64 k.ev.pos, .string k.ev.key, .bool k.ev.had, .string k.ev.old, .bool k.ev.has, .string k.ev.now] 34)).alloc (.cells #[.int .i64 k.op, .int .i64 k.pos, .slice ua k.conds.length uc, .slice va k.ops.length vc, .string k.fr, .string k.to, .int .i64 k.ev.pos, .string k.ev.key, .bool k.ev.had, .string k.ev.old, .bool k.ev.has, .string k.ev.now] 34)).ownsRow (w.heap.size + 1) 34 krL.sz (.slice (some ⟨w.heap.size + 1, 0, none⟩) 1 1) [(⟨k, ua, uc, va, vc⟩ : Kr)].length (krL.all [(⟨k, ua, uc, va, vc⟩ : Kr)])) := by
    show World.ownsRow _ _ _ _ _ _ _
    have h := World.ownsRow_lit (base := w.heap.size + 1) (e := 34) (size := 12) (w.alloc (.cells #[.int .i64 k.op, .int .i64 k.pos, .slice ua k.conds.length uc, .slice va k.ops.length vc, .string k.fr, .string k.to, .int .i64 k.ev.pos, .string k.ev.key, .bool k.ev.had, .string k.ev.old, .bool k.ev.has, .string k.ev.now] 34)) #[.int .i64 k.op, .int .i64 k.pos, .slice ua k.conds.length uc, .slice va k.ops.length vc, .string k.fr, .string k.to, .int .i64 k.ev.pos, .string k.ev.key, .bool k.ev.had, .string k.ev.old, .bool k.ev.has, .string k.ev.now] 1 (by simp) (by decide) rfl
    simp only [World.size_alloc] at h
    exact h
  have HB2 := Lib.hid hB2
  have HZ2 : Hid (w.heap.size + 1 ≤ ((w.alloc (.cells #[.int .i64 k.op, .int .i64 k.pos, .slice ua k.conds.length uc, .slice va k.ops.length vc, .string k.fr, .string k.to, .int .i64 k.ev.pos, .string k.ev.key, .bool k.ev.had, .string k.ev.old, .bool k.ev.has, .string k.ev.now] 34)).alloc (.cells #[.int .i64 k.op, .int .i64 k.pos, .slice ua k.conds.length uc, .slice va k.ops.length vc, .string k.fr, .string k.to, .int .i64 k.ev.pos, .string k.ev.key, .bool k.ev.had, .string k.ev.old, .bool k.ev.has, .string k.ev.now] 34)).heap.size) := by show _ ≤ _; simp
  clear h0 hx hy hrs hri hr0 hlen zl hB2
  go_enter Try.func5, Try.ntmps5
  go_wp2_with (at_builtin; refine wpList_catI0 (I := krL) rfl _ _ 22 34 rfl Try.underlying22 Try.infoDo rfl (by decide) HOwn.out HR2.out HLc.out HLb.out HZ2.out rfl rfl ?_; intro v2 w2 hown hgrow; have HO := Lib.hid hown; have HG := Lib.hid hgrow; clear hown hgrow)
  have HB3 : Hid (Below w.heap.size w w2) := ⟨HG.out.os.trans HB2.out.os, HG.out.tape.trans HB2.out.tape, HG.out.output.trans HB2.out.output, Nat.le_trans HB2.out.size HG.out.size, fun j hj => (HG.out.block j (Nat.lt_of_lt_of_le hj HB2.out.size) (fun e => by simp [Value.ownBlock] at e; omega)).trans (HB2.out.block j hj)⟩
  have HC : Hid (∀ (j : Nat) v, #[.int .i64 k.op, .int .i64 k.pos, .slice ua k.conds.length uc, .slice va k.ops.length vc, .string k.fr, .string k.to, .int .i64 k.ev.pos, .string k.ev.key, .bool k.ev.had, .string k.ev.old, .bool k.ev.has, .string k.ev.now][j]? = some v → w2.cell? ⟨w.heap.size, j, none⟩ = some v) := fun j v h => HG.out.cell (HKb.out j v h) (by simp [Value.ownBlock])
  have HKk : Hid (KdsIn w2 v2 (k :: l)) := kds_ahead (r0 := ⟨k, ua, uc, va, vc⟩) (w := w) (w0 := w) (v := v2) HRs.out ⟨HU.out.later HB3.out, HV.out.later HB3.out⟩ (fun r hr => (HRi.out r hr).later HB3.out) HO.out
  obtain ⟨a2, c2, hv2⟩ := HKk.out.slice
  subst hv2
  clear HO HG HOwn HR2 HLc HLb HZ2 HRs HRi HB2 HKb
  go_fit (short_any HKk.out)
  rintro e w3 ⟨sb, rfl, hsb, hq⟩
  have HB4 : Hid (Below w.heap.size w w3) := by obtain ⟨m, rfl⟩ := hq; exact below_drewN HB3.out _
  have HC4 : Hid (∀ (j : Nat) v, #[.int .i64 k.op, .int .i64 k.pos, .slice ua k.conds.length uc, .slice va k.ops.length vc, .string k.fr, .string k.to, .int .i64 k.ev.pos, .string k.ev.key, .bool k.ev.had, .string k.ev.old, .bool k.ev.has, .string k.ev.now][j]? = some v → w3.cell? ⟨w.heap.size, j, none⟩ = some v) := fun j v h => drew_cell hq (HC.out j v h)
  have HZ4 : Hid (w.heap.size < w3.heap.size) := World.block_lt_of_cell? w3 _ (HC4.out 0 _ rfl)
  cases sb
  · clear hsb hq
    go_wp2_with fail
    go_fit (awake_any _)
    rintro e wz ⟨rfl, hbz⟩
    have HZ := Lib.hid (below_of HB4.out hbz)
    clear hbz
    go_wp2_with fail
    go_ret
    exact ⟨rfl, HZ.out⟩
  obtain ⟨hl, ho⟩ := hsb rfl
  have HL1 : Hid (l.length ≤ 100) := by show _ ≤ _; simp at hl; omega
  have HO1 : Hid (∀ x ∈ l, x.Ok) := fun x hx => ho x (by simp [hx])
  have HOk := Lib.hid (ho k (by simp))
  clear hsb hq hl ho HKk HC HB3
  go_wp2_with fail
  go_fit (made_any (HK0.out.later HB4.out) HL1.out HO1.out)
  rintro e w4 ⟨b, u, rfl, hms⟩
  obtain ⟨ht, hch, hso⟩ := mades_told l
  have hl1 := mades_24 l
  have hrow := hms.row
  have hmap := hms.map
  have hbel := hms.below
  have hlo := hms.lo
  generalize mades l = s at *
  obtain ⟨L, es⟩ := s
  have HSo : Hid (Sorted L) := hso
  have HL : Hid (L.length ≤ 1000000) := by show _ ≤ _; simp only at hl1; omega
  have HL2 : Hid (L.length ≤ 24) := hl1
  have HM4 := Lib.hid hmap
  have HB5 := Lib.hid (below_of HB4.out hbel)
  have HLo : Hid (w.heap.size < b) := Nat.lt_of_lt_of_le HZ4.out hlo
  have HC5 : Hid (∀ (j : Nat) v, #[.int .i64 k.op, .int .i64 k.pos, .slice ua k.conds.length uc, .slice va k.ops.length vc, .string k.fr, .string k.to, .int .i64 k.ev.pos, .string k.ev.key, .bool k.ev.had, .string k.ev.old, .bool k.ev.has, .string k.ev.now][j]? = some v → w4.cell? ⟨w.heap.size, j, none⟩ = some v) := fun j v h => lay_later hbel (HC4.out j v h)
  obtain ⟨ra, rc, hru⟩ := row_slice1 hrow
  subst hru
  clear hms ht hch hso hl1 hrow hmap hbel hlo
  go_wp2_with fail
  go_fit (Clone_mp HM4.out)
  rintro e w5 ⟨c, rfl, hlo, hm, hb⟩
  have HN5 := Lib.hid hm
  have HM5 := Lib.hid (HM4.out.below hb)
  have HB6 := Lib.hid (below_of HB5.out hb)
  have HLc : Hid (w.heap.size < c) := by show _ < _; have := HLo.out; have := HM4.out.lt; omega
  have HNe : Hid (c ≠ b) := fun e => by have := HM4.out.lt; omega
  have HC6 : Hid (∀ (j : Nat) v, #[.int .i64 k.op, .int .i64 k.pos, .slice ua k.conds.length uc, .slice va k.ops.length vc, .string k.fr, .string k.to, .int .i64 k.ev.pos, .string k.ev.key, .bool k.ev.had, .string k.ev.old, .bool k.ev.has, .string k.ev.now][j]? = some v → w5.cell? ⟨w.heap.size, j, none⟩ = some v) := fun j v h => lay_later hb (HC5.out j v h)
  clear hlo hm hb HM4
  have d1 := id (HC6.out 1 _ rfl)
  have d2 := id (HC6.out 2 _ rfl)
  have d3 := id (HC6.out 3 _ rfl)
  have HDo := Lib.hid (Do_mp k.pos HM5.out (HU.out.later HB6.out) (HV.out.later HB6.out) HOk.out.1.2 HOk.out.2.2 (by have := HOk.out.1.1; omega) (by have := HOk.out.2.1; omega) HL.out)
  go_wp2_with fail
  go_fit HDo.out
  rintro e w6 ⟨v6, rfl, hrow, hm, hg⟩
  have HM6 := Lib.hid hm
  have HN6 := Lib.hid (HN5.out.other hg HM5.out.mb HNe.out)
  have HB7 := Lib.hid (grown_below1 hg HB6.out (Nat.le_of_lt HLo.out))
  have HC7 : Hid (∀ (j : Nat) v, #[.int .i64 k.op, .int .i64 k.pos, .slice ua k.conds.length uc, .slice va k.ops.length vc, .string k.fr, .string k.to, .int .i64 k.ev.pos, .string k.ev.key, .bool k.ev.had, .string k.ev.old, .bool k.ev.has, .string k.ev.now][j]? = some v → w6.cell? ⟨w.heap.size, j, none⟩ = some v) := fun j v h => hg.cell (HC6.out j v h) (by have := HLo.out; simp; omega)
  have HR6 := Lib.hid hrow
  have HZc : Hid (c < w5.heap.size) := HN5.out.lt
  have HZ56 := Lib.hid hg.size
  obtain ⟨v6a, v6c, rfl⟩ := row_slice1 hrow
  clear hrow hm hg HDo d1 d2 d3 HM5 HN5
  have d1 := id (HC7.out 1 _ rfl)
  have d2 := id (HC7.out 2 _ rfl)
  have d3 := id (HC7.out 3 _ rfl)
  have HPl := Lib.hid (Plan_mp k.pos HN6.out (HU.out.later HB7.out) (HV.out.later HB7.out) HOk.out.1.2 HOk.out.2.2 (by have := HOk.out.1.1; omega) (by have := HOk.out.2.1; omega) HL.out)
  have HP6 := Lib.hid (plan_len6 L k.pos k.conds k.ops)
  have HTk := Lib.hid (doo_takes L k.pos k.conds k.ops)
  have HAg := Lib.hid (plan_again (pos := k.pos) HSo.out k.pos (conds := k.conds) (ops := k.ops))
  have HD24 : Hid ((doo L k.pos k.conds k.ops).length ≤ 24) := doo_24 HSo.out HL2.out _ _ _
  unfold PlanP at HPl
  generalize plan L k.pos k.conds k.ops = pl at *
  obtain ⟨pes, pe⟩ := pl
  simp only at HPl HP6 HTk HR6 HAg
  generalize doo L k.pos k.conds k.ops = M at *
  go_wp2_with fail
  go_fit HPl.out
  rintro e w7 ⟨v7, rfl, hrw⟩
  have HM7 := Lib.hid (HM6.out.below hrw.grown)
  have HN7 := Lib.hid (HN6.out.below hrw.grown)
  have HB8 := Lib.hid (below_of HB7.out hrw.grown)
  have HI7 := Lib.hid hrw.told
  have HI6 := Lib.hid (Lay.in_own (I := evL) (row_later HR6.out hrw.grown) rfl)
  have HOf : Hid (Off c v7) := hrw.off (Nat.lt_of_lt_of_le HZc.out HZ56.out)
  have HOfB : Hid (c < w6.heap.size) := Nat.lt_of_lt_of_le HZc.out HZ56.out
  have HC8 : Hid (∀ (j : Nat) v, #[.int .i64 k.op, .int .i64 k.pos, .slice ua k.conds.length uc, .slice va k.ops.length vc, .string k.fr, .string k.to, .int .i64 k.ev.pos, .string k.ev.key, .bool k.ev.had, .string k.ev.old, .bool k.ev.has, .string k.ev.now][j]? = some v → w7.cell? ⟨w.heap.size, j, none⟩ = some v) := fun j v h => lay_later hrw.grown (HC7.out j v h)
  have HR7 := Lib.hid hrw
  have HR67 := Lib.hid (row_later HR6.out hrw.grown)
  obtain ⟨v7a, v7c, rfl, _, _⟩ := hrw.slice
  clear hrw HPl d1 d2 d3 HM6 HN6 HR6
  have HTake := Lib.hid (Take_mp HN7.out HI7.out HOf.out (by have := HP6.out; omega) HL.out)
  go_wp2_with fail
  go_fit HTake.out
  rintro e w8 ⟨rfl, hm, hg⟩
  have HN8 : Hid (Mp w8 c M) := by show Mp _ _ _; rw [HTk.out]; exact hm
  have HM8 := Lib.hid (HM7.out.other hg HN7.out.mb (Ne.symm HNe.out))
  have HB9 := Lib.hid (grown_below1 hg HB8.out (Nat.le_of_lt HLc.out))
  have HC9 : Hid (∀ (j : Nat) v, #[.int .i64 k.op, .int .i64 k.pos, .slice ua k.conds.length uc, .slice va k.ops.length vc, .string k.fr, .string k.to, .int .i64 k.ev.pos, .string k.ev.key, .bool k.ev.had, .string k.ev.old, .bool k.ev.has, .string k.ev.now][j]? = some v → w8.cell? ⟨w.heap.size, j, none⟩ = some v) := fun j v h => hg.cell (HC8.out j v h) (by have := HLc.out; simp; omega)
  have HI7' := Lib.hid (Lay.in_own (I := evL) (row_grown HR7.out.own hg HOfB.out) rfl)
  have HI6' := Lib.hid (Lay.in_own (I := evL) (row_grown HR67.out hg HZc.out) rfl)
  clear hm hg HTake HN7 HM7 HI7 HI6 HR7 HR67
  have HEe := Lib.hid (EqualE HI6'.out HI7'.out)
  have HM1 : Hid (M.length ≤ 1000000) := Nat.le_trans HD24.out (by decide)
  go_wp2_with fail
  go_fit HEe.out
  rintro e w9 ⟨rfl, hb9⟩
  have HN9 := Lib.hid (HN8.out.below hb9)
  have HM9 := Lib.hid (HM8.out.below hb9)
  have HB10 := Lib.hid (below_of HB9.out hb9)
  have HC10 : Hid (∀ (j : Nat) v, #[.int .i64 k.op, .int .i64 k.pos, .slice ua k.conds.length uc, .slice va k.ops.length vc, .string k.fr, .string k.to, .int .i64 k.ev.pos, .string k.ev.key, .bool k.ev.had, .string k.ev.old, .bool k.ev.has, .string k.ev.now][j]? = some v → w9.cell? ⟨w.heap.size, j, none⟩ = some v) := fun j v h => lay_later hb9 (HC9.out j v h)
  clear hb9 HEe HN8 HM8
  go_wp2_with fail
  go_fit (Scan_mp ByteArray.empty ByteArray.empty HM9.out HM1.out)
  rintro e w10 ⟨v10, rfl, hr⟩
  have HS10 := Lib.hid hr.told
  have HN10 := Lib.hid (HN9.out.below hr.grown)
  have HM10 := Lib.hid (HM9.out.below hr.grown)
  have HB11 := Lib.hid (below_of HB10.out hr.grown)
  have HC11 : Hid (∀ (j : Nat) v, #[.int .i64 k.op, .int .i64 k.pos, .slice ua k.conds.length uc, .slice va k.ops.length vc, .string k.fr, .string k.to, .int .i64 k.ev.pos, .string k.ev.key, .bool k.ev.had, .string k.ev.old, .bool k.ev.has, .string k.ev.now][j]? = some v → w10.cell? ⟨w.heap.size, j, none⟩ = some v) := fun j v h => lay_later hr.grown (HC10.out j v h)
  obtain ⟨v10a, v10c, rfl, _, _⟩ := hr.slice
  clear hr HM9 HN9
  go_wp2_with fail
  go_fit (Scan_mp ByteArray.empty ByteArray.empty HN10.out HM1.out)
  rintro e w11 ⟨v11, rfl, hr⟩
  have HE := Lib.hid (EqualO (HS10.out.later hr.grown) hr.told)
  have HM11 := Lib.hid (HM10.out.below hr.grown)
  have HB12 := Lib.hid (below_of HB11.out hr.grown)
  have HC12 : Hid (∀ (j : Nat) v, #[.int .i64 k.op, .int .i64 k.pos, .slice ua k.conds.length uc, .slice va k.ops.length vc, .string k.fr, .string k.to, .int .i64 k.ev.pos, .string k.ev.key, .bool k.ev.had, .string k.ev.old, .bool k.ev.has, .string k.ev.now][j]? = some v → w11.cell? ⟨w.heap.size, j, none⟩ = some v) := fun j v h => lay_later hr.grown (HC11.out j v h)
  obtain ⟨v11a, v11c, rfl, _, _⟩ := hr.slice
  clear hr HM10 HN10
  go_wp2_with fail
  go_fit HE.out
  rintro e w12 ⟨rfl, hb12⟩
  have HM12 := Lib.hid (HM11.out.below hb12)
  have HB13 := Lib.hid (below_of HB12.out hb12)
  have HC13 : Hid (∀ (j : Nat) v, #[.int .i64 k.op, .int .i64 k.pos, .slice ua k.conds.length uc, .slice va k.ops.length vc, .string k.fr, .string k.to, .int .i64 k.ev.pos, .string k.ev.key, .bool k.ev.had, .string k.ev.old, .bool k.ev.has, .string k.ev.now][j]? = some v → w12.cell? ⟨w.heap.size, j, none⟩ = some v) := fun j v h => lay_later hb12 (HC12.out j v h)
  clear hb12 HE HM11
  by_cases hpe : pe = 0
  ·
    have hag := HAg.out hpe
    subst hpe
    have d1 := id (HC13.out 1 _ rfl)
    have d2 := id (HC13.out 2 _ rfl)
    have d3 := id (HC13.out 3 _ rfl)
    have hDo := Do_mp k.pos HM12.out (Lay.In.nil (I := opL) _) (HV.out.later HB13.out) (fun o ho => by cases ho) HOk.out.2.2 (by decide) (by have := HOk.out.2.1; omega) HM1.out
    unfold DoP at hDo
    rw [hag] at hDo
    have HDo := Lib.hid hDo
    clear hDo hag HAg
    go_wp2_with fail
    go_fit HDo.out
    rintro e w13 ⟨v13, rfl, hrow, hm, hg⟩
    have HB14 := Lib.hid (grown_below1 hg HB13.out (Nat.le_of_lt HLo.out))
    obtain ⟨v13a, v13c, hv⟩ := row_slice1 hrow
    obtain rfl : v13 = .slice v13a 0 v13c := hv
    clear hrow hm hg HDo d1 d2 d3
    go_wp2_with fail
    go_fit (awake_any _)
    rintro e wz ⟨rfl, hbz⟩
    have HZ := Lib.hid (below_of HB14.out hbz)
    clear hbz
    go_wp2_with fail
    go_ret
    exact ⟨rfl, HZ.out⟩
  ·
    have hpe2 : (pe == 0) = false := by simpa using hpe
    clear HAg
    go_wp2_with fail
    go_fit (awake_any _)
    rintro e wz ⟨rfl, hbz⟩
    have HZ := Lib.hid (below_of HB13.out hbz)
    clear hbz
    go_wp2_with fail
    go_ret
    exact ⟨rfl, HZ.out⟩
end Go.Proofs.Ytenjniieohmniaa
