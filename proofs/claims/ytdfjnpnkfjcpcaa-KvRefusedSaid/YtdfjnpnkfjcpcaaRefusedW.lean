/-
  KvRefused: the walk. What has an error changes nothing. (Written by genkv.py.)
-/
import Derived.Test.YtdfjnpnkfjcpcaaK16
import Derived.Test.YtdfjnpnkfjcpcaaK19
namespace Go.Proofs.Ytdfjnpnkfjcpcaa
set_option linter.unusedVariables false
set_option linter.unusedSimpArgs false
open Go.RowKit

set_option maxRecDepth 100000 in
set_option maxHeartbeats 25600000 in
theorem Refused_any {w : World} (l : List Kd) {v0 : Value} (h0 : KdsIn w v0 l) (k : Kd) {x y : Value} (hx : opL.In w x k.conds) (hy : opL.In w y k.ops) (zl : l.length * 168 ≤ 140737488351232) :
    Calls Try.prog 7 #[v0, .agg #[.int .i64 k.op, .int .i64 k.pos, x, y, .string k.fr, .string k.to, .int .i64 k.ev.pos, .string k.ev.key, .bool k.ev.had, .string k.ev.old, .bool k.ev.has, .string k.ev.now]] w (Yes w) := by
  obtain ⟨a0, c0, rfl⟩ := h0.slice
  obtain ⟨ua, uc, rfl, _, _⟩ := hx.slice
  obtain ⟨va, vc, rfl, _, _⟩ := hy.slice
  have HK0 := Lib.hid h0
  have HU := Lib.hid hx
  have HV := Lib.hid hy
  obtain ⟨rs, hrs, hri, hr0⟩ := h0.raw
  have hlen : rs.length = l.length := by rw [← hrs, List.length_map]
  have HRs := Lib.hid hrs
  have HRi := Lib.hid hri
  have HLb : Hid (([(⟨k, ua, uc, va, vc⟩ : Kr)].length + rs.length) * 168 ≤ 140737488355328) := by show (1 + rs.length) * 168 ≤ _; rw [hlen]; omega
  have HLc : Hid ([(⟨k, ua, uc, va, vc⟩ : Kr)].length + rs.length ≤ 140737488355328) := by show 1 + rs.length ≤ _; rw [hlen]; omega
  have hB2 : Below w.heap.size w ((w.alloc (.cells #[.int .i64 k.op, .int .i64 k.pos, .slice ua k.conds.length uc, .slice va k.ops.length vc, .string k.fr, .string k.to, .int .i64 k.ev.pos, .string k.ev.key, .bool k.ev.had, .string k.ev.old, .bool k.ev.has, .string k.ev.now] 34)).alloc (.cells #[.int .i64 k.op, .int .i64 k.pos, .slice ua k.conds.length uc, .slice va k.ops.length vc, .string k.fr, .string k.to, .int .i64 k.ev.pos, .string k.ev.key, .bool k.ev.had, .string k.ev.old, .bool k.ev.has, .string k.ev.now] 34)) := below_of (lay_alloc w _) (lay_alloc _ _)
  have HR2 : Hid (krL.In0 ((w.alloc (.cells #[.int .i64 k.op, .int .i64 k.pos, .slice ua k.conds.length uc, .slice va k.ops.length vc, .string k.fr, .string k.to, .int .i64 k.ev.pos, .string k.ev.key, .bool k.ev.had, .string k.ev.old, .bool k.ev.has, .string k.ev.now] 34)).alloc (.cells #[.int .i64 k.op, .int .i64 k.pos, .slice ua k.conds.length uc, .slice va k.ops.length vc, .string k.fr, .string k.to, .int .i64 k.ev.pos, .string k.ev.key, .bool k.ev.had, .string k.ev.old, .bool k.ev.has, .string k.ev.now] 34)) (.slice a0 l.length c0) rs) := by
    show Lay.In0 _ _ _ _
    obtain ⟨a, c, hv, h⟩ := hr0
    exact ⟨a, c, hv, h.imp id (fun ⟨g, off, ha, h⟩ => ⟨g, off, ha, h.later hB2⟩)⟩
  have HKb : Hid (∀ (j : Nat) v, #[.int .i64 k.op, .int .i64 k.pos, .slice ua k.conds.length uc, .slice va k.ops.length vc, .string k.fr, .string k.to, .int .i64 k.ev.pos, .string k.ev.key, .bool k.ev.had, .string k.ev.old, .bool k.ev.has, .string k.ev.now][j]? = some v → ((w.alloc (.cells #[.int .i64 k.op, .int .i64 k.pos, .slice ua k.conds.length uc, .slice va k.ops.length vc, .string k.fr, .string k.to, .int .i64 k.ev.pos, .string k.ev.key, .bool k.ev.had, .string k.ev.old, .bool k.ev.has, .string k.ev.now] 34)).alloc (.cells #[.int .i64 k.op, .int .i64 k.pos, .slice ua k.conds.length uc, .slice va k.ops.length vc, .string k.fr, .string k.to, .int .i64 k.ev.pos, .string k.ev.key, .bool k.ev.had, .string k.ev.old, .bool k.ev.has, .string k.ev.now] 34)).cell? ⟨w.heap.size, j, none⟩ = some v) := fun j v h => lay_later (lay_alloc _ _) (kd_box w _ _ j v h)
  have HOwn : Hid (((w.alloc (.cells #[.int .i64 k.op, .int .i64 k.pos, .slice ua k.conds.length uc, .slice va k.ops.length vc, .string k.fr, .string k.to, .int .i64 k.ev.pos, .string k.ev.key, .bool k.ev.had, .string k.ev.old, .bool k.ev.has, .string k.ev.now] 34)).alloc (.cells #[.int .i64 k.op, .int .i64 k.pos, .slice ua k.conds.length uc, .slice va k.ops.length vc, .string k.fr, .string k.to, .int .i64 k.ev.pos, .string k.ev.key, .bool k.ev.had, .string k.ev.old, .bool k.ev.has, .string k.ev.now] 34)).ownsRow (w.heap.size + 1) 34 krL.sz (.slice (some ⟨w.heap.size + 1, 0, none⟩) 1 1) [(⟨k, ua, uc, va, vc⟩ : Kr)].length (krL.all [(⟨k, ua, uc, va, vc⟩ : Kr)])) := by
    show World.ownsRow _ _ _ _ _ _ _
    have h := World.ownsRow_lit (base := w.heap.size + 1) (e := 34) (size := 12) (w.alloc (.cells #[.int .i64 k.op, .int .i64 k.pos, .slice ua k.conds.length uc, .slice va k.ops.length vc, .string k.fr, .string k.to, .int .i64 k.ev.pos, .string k.ev.key, .bool k.ev.had, .string k.ev.old, .bool k.ev.has, .string k.ev.now] 34)) #[.int .i64 k.op, .int .i64 k.pos, .slice ua k.conds.length uc, .slice va k.ops.length vc, .string k.fr, .string k.to, .int .i64 k.ev.pos, .string k.ev.key, .bool k.ev.had, .string k.ev.old, .bool k.ev.has, .string k.ev.now] 1 (by simp) (by decide) rfl
    simp only [World.size_alloc] at h
    exact h
  have HB2 := Lib.hid hB2
  have HZ2 : Hid (w.heap.size + 1 ≤ ((w.alloc (.cells #[.int .i64 k.op, .int .i64 k.pos, .slice ua k.conds.length uc, .slice va k.ops.length vc, .string k.fr, .string k.to, .int .i64 k.ev.pos, .string k.ev.key, .bool k.ev.had, .string k.ev.old, .bool k.ev.has, .string k.ev.now] 34)).alloc (.cells #[.int .i64 k.op, .int .i64 k.pos, .slice ua k.conds.length uc, .slice va k.ops.length vc, .string k.fr, .string k.to, .int .i64 k.ev.pos, .string k.ev.key, .bool k.ev.had, .string k.ev.old, .bool k.ev.has, .string k.ev.now] 34)).heap.size) := by show _ ≤ _; simp
  clear h0 hx hy hrs hri hr0 hlen zl hB2
  go_enter Try.func7, Try.ntmps7
  go_wp2_with (at_builtin; refine wpList_catI0 (I := krL) rfl _ _ 22 34 rfl Try.underlying22 Try.infoDo rfl (by decide) HOwn.out HR2.out HLc.out HLb.out HZ2.out rfl rfl ?_; intro v2 w2 hown hgrow; have HO := Lib.hid hown; have HG := Lib.hid hgrow; clear hown hgrow)
  have HB3 : Hid (Below w.heap.size w w2) := ⟨HG.out.os.trans HB2.out.os, HG.out.tape.trans HB2.out.tape, HG.out.output.trans HB2.out.output, Nat.le_trans HB2.out.size HG.out.size, fun j hj => (HG.out.block j (Nat.lt_of_lt_of_le hj HB2.out.size) (fun e => by simp [Value.ownBlock] at e; omega)).trans (HB2.out.block j hj)⟩
  have HC : Hid (∀ (j : Nat) v, #[.int .i64 k.op, .int .i64 k.pos, .slice ua k.conds.length uc, .slice va k.ops.length vc, .string k.fr, .string k.to, .int .i64 k.ev.pos, .string k.ev.key, .bool k.ev.had, .string k.ev.old, .bool k.ev.has, .string k.ev.now][j]? = some v → w2.cell? ⟨w.heap.size, j, none⟩ = some v) := fun j v h => HG.out.cell (HKb.out j v h) (by simp [Value.ownBlock])
  have HKk : Hid (KdsIn w2 v2 (k :: l)) := kds_ahead (r0 := ⟨k, ua, uc, va, vc⟩) (w := w) (w0 := w) (v := v2) HRs.out ⟨HU.out.later HB3.out, HV.out.later HB3.out⟩ (fun r hr => (HRi.out r hr).later HB3.out) HO.out
  obtain ⟨a2, c2, hv2⟩ := HKk.out.slice
  subst hv2
  clear HO HG HOwn HR2 HLc HLb HZ2 HRs HRi HB2 HKb
  go_fit (short_any HKk.out)
  rintro e w3 ⟨sb, rfl, hsb, hq⟩
  have HB4 : Hid (Below w.heap.size w w3) := by obtain ⟨m, rfl⟩ := hq; exact below_drewN HB3.out _
  have HC4 : Hid (∀ (j : Nat) v, #[.int .i64 k.op, .int .i64 k.pos, .slice ua k.conds.length uc, .slice va k.ops.length vc, .string k.fr, .string k.to, .int .i64 k.ev.pos, .string k.ev.key, .bool k.ev.had, .string k.ev.old, .bool k.ev.has, .string k.ev.now][j]? = some v → w3.cell? ⟨w.heap.size, j, none⟩ = some v) := fun j v h => drew_cell hq (HC.out j v h)
  have HZ4 : Hid (w.heap.size < w3.heap.size) := World.block_lt_of_cell? w3 _ (HC4.out 0 _ rfl)
  cases sb
  · clear hsb hq
    go_wp2_with fail
    go_fit (awake_any _)
    rintro e wz ⟨rfl, hbz⟩
    have HZ := Lib.hid (below_of HB4.out hbz)
    clear hbz
    go_wp2_with fail
    go_ret
    exact ⟨rfl, HZ.out⟩
  obtain ⟨hl, ho⟩ := hsb rfl
  have HL1 : Hid (l.length ≤ 100) := by show _ ≤ _; simp at hl; omega
  have HO1 : Hid (∀ x ∈ l, x.Ok) := fun x hx => ho x (by simp [hx])
  have HOk := Lib.hid (ho k (by simp))
  clear hsb hq hl ho HKk HC HB3
  go_wp2_with fail
  go_fit (made_any (HK0.out.later HB4.out) HL1.out HO1.out)
  rintro e w4 ⟨b, u, rfl, hms⟩
  obtain ⟨ht, hch, hso⟩ := mades_told l
  have hl1 := mades_24 l
  have hrow := hms.row
  have hmap := hms.map
  have hbel := hms.below
  have hlo := hms.lo
  generalize mades l = s at *
  obtain ⟨L, es⟩ := s
  have HSo : Hid (Sorted L) := hso
  have HL : Hid (L.length ≤ 1000000) := by show _ ≤ _; simp only at hl1; omega
  have HL2 : Hid (L.length ≤ 24) := hl1
  have HM4 := Lib.hid hmap
  have HB5 := Lib.hid (below_of HB4.out hbel)
  have HLo : Hid (w.heap.size < b) := Nat.lt_of_lt_of_le HZ4.out hlo
  have HC5 : Hid (∀ (j : Nat) v, #[.int .i64 k.op, .int .i64 k.pos, .slice ua k.conds.length uc, .slice va k.ops.length vc, .string k.fr, .string k.to, .int .i64 k.ev.pos, .string k.ev.key, .bool k.ev.had, .string k.ev.old, .bool k.ev.has, .string k.ev.now][j]? = some v → w4.cell? ⟨w.heap.size, j, none⟩ = some v) := fun j v h => lay_later hbel (HC4.out j v h)
  obtain ⟨ra, rc, hru⟩ := row_slice1 hrow
  subst hru
  clear hms ht hch hso hl1 hrow hmap hbel hlo
  go_wp2_with fail
  go_fit (Scan_mp ByteArray.empty ByteArray.empty HM4.out HL.out)
  rintro e w5 ⟨v5, rfl, hr⟩
  have HZ4b := Lib.hid HM4.out.lt
  have HS5 := Lib.hid hr
  have HM5 := Lib.hid (HM4.out.below hr.grown)
  have HB6 := Lib.hid (below_of HB5.out hr.grown)
  have HC6 : Hid (∀ (j : Nat) v, #[.int .i64 k.op, .int .i64 k.pos, .slice ua k.conds.length uc, .slice va k.ops.length vc, .string k.fr, .string k.to, .int .i64 k.ev.pos, .string k.ev.key, .bool k.ev.had, .string k.ev.old, .bool k.ev.has, .string k.ev.now][j]? = some v → w5.cell? ⟨w.heap.size, j, none⟩ = some v) := fun j v h => lay_later hr.grown (HC5.out j v h)
  obtain ⟨v5a, v5c, rfl, _, _⟩ := hr.slice
  clear hr HM4
  have d1 := id (HC6.out 1 _ rfl)
  have d2 := id (HC6.out 2 _ rfl)
  have d3 := id (HC6.out 3 _ rfl)
  have HDo := Lib.hid (Do_mp k.pos HM5.out (HU.out.later HB6.out) (HV.out.later HB6.out) HOk.out.1.2 HOk.out.2.2 (by have := HOk.out.1.1; omega) (by have := HOk.out.2.1; omega) HL.out)
  have HPe := Lib.hid (plan_err L k.pos k.conds k.ops)
  have HD24 : Hid ((doo L k.pos k.conds k.ops).length ≤ 24) := doo_24 HSo.out HL2.out _ _ _
  have HSl : Hid ((scO L ByteArray.empty ByteArray.empty).length ≤ 1000000) := by show _ ≤ _; unfold scO; rw [List.length_map]; exact Nat.le_trans (List.length_filter_le _ _) HL.out
  unfold DoP at HDo
  generalize doo L k.pos k.conds k.ops = M at *
  rcases hpl : plan L k.pos k.conds k.ops with ⟨es, pe⟩
  rw [hpl] at HDo HPe
  simp only at HDo HPe
  clear hpl
  go_wp2_with fail
  go_fit HDo.out
  rintro e w6 ⟨v6, rfl, hrow, hm, hg⟩
  have HM6 := Lib.hid hm
  have HB7 := Lib.hid (grown_below1 hg HB6.out (Nat.le_of_lt HLo.out))
  have HC7 : Hid (∀ (j : Nat) v, #[.int .i64 k.op, .int .i64 k.pos, .slice ua k.conds.length uc, .slice va k.ops.length vc, .string k.fr, .string k.to, .int .i64 k.ev.pos, .string k.ev.key, .bool k.ev.had, .string k.ev.old, .bool k.ev.has, .string k.ev.now][j]? = some v → w6.cell? ⟨w.heap.size, j, none⟩ = some v) := fun j v h => hg.cell (HC6.out j v h) (by have := HLo.out; simp; omega)
  have HI6 := Lib.hid (Lay.in_own (I := opL) (row_grown HS5.out.own hg HZ4b.out) rfl)
  obtain ⟨v6a, v6c, rfl⟩ := row_slice1 hrow
  have HM1 : Hid (M.length ≤ 1000000) := Nat.le_trans HD24.out (by decide)
  clear hrow hm hg HDo d1 d2 d3 HM5 HS5
  generalize hSc : scO L ByteArray.empty ByteArray.empty = S at *
  have HSc := Lib.hid hSc
  clear hSc
  by_cases hpe : pe = 0
  ·
    subst hpe
    have HMx := HM6
    have HBx := HB7
    have HCx := HC7
    clear HPe HI6
    go_wp2_with fail
    go_fit (Scan_mp ByteArray.empty ByteArray.empty HMx.out HM1.out)
    rintro e w9 ⟨v9, rfl, hr9⟩
    have HZx := Lib.hid HMx.out.lt
    have HS9 := Lib.hid hr9
    have HM9 := Lib.hid (HMx.out.below hr9.grown)
    have HB9 := Lib.hid (below_of HBx.out hr9.grown)
    have HC9 : Hid (∀ (j : Nat) v, #[.int .i64 k.op, .int .i64 k.pos, .slice ua k.conds.length uc, .slice va k.ops.length vc, .string k.fr, .string k.to, .int .i64 k.ev.pos, .string k.ev.key, .bool k.ev.had, .string k.ev.old, .bool k.ev.has, .string k.ev.now][j]? = some v → w9.cell? ⟨w.heap.size, j, none⟩ = some v) := fun j v h => lay_later hr9.grown (HCx.out j v h)
    obtain ⟨v9a, v9c, rfl, _, _⟩ := hr9.slice
    clear hr9 HMx HBx HCx
    have d3 := HC9.out 3 _ rfl
    have HSet := Lib.hid (Set_mp HM9.out (HV.out.later HB9.out) HOk.out.2.2 (by have := HOk.out.2.1; omega))
    unfold SetP setL at HSet
    generalize setE k.ops = n at *
    go_wp2_with fail
    go_fit HSet.out
    rintro e w10 ⟨rfl, hn, hg⟩
    have HB10 := Lib.hid (grown_below1 hg HB9.out (Nat.le_of_lt HLo.out))
    have HI10 := Lib.hid (Lay.in_own (I := opL) (row_grown HS9.out.own hg HZx.out) rfl)
    clear hg HSet d3
    by_cases hn0 : n = 0
    ·
      subst hn0
      clear hn
      go_wp2_with fail
      go_fit (awake_any _)
      rintro e wz ⟨rfl, hbz⟩
      have HZ := Lib.hid (below_of HB10.out hbz)
      clear hbz
      go_wp2_with fail
      go_ret
      exact ⟨rfl, HZ.out⟩
    ·
      rw [if_neg hn0] at hn
      have HM10 := Lib.hid hn
      have hn1 : (n == 0) = false := by simpa using hn0
      clear hn
      go_wp2_with fail
      go_fit (Scan_mp ByteArray.empty ByteArray.empty HM10.out HM1.out)
      rintro e w11 ⟨v11, rfl, hr11⟩
      have HE := Lib.hid (EqualO (HI10.out.later hr11.grown) hr11.told)
      have HB11 := Lib.hid (below_of HB10.out hr11.grown)
      obtain ⟨v11a, v11c, rfl, _, _⟩ := hr11.slice
      clear hr11 HM10
      go_wp2_with fail
      go_fit HE.out
      rintro e w12 ⟨rfl, hb12⟩
      have HB12 := Lib.hid (below_of HB11.out hb12)
      clear hb12 HE
      go_wp2_with fail
      go_fit (awake_any _)
      rintro e wz ⟨rfl, hbz⟩
      have HZ := Lib.hid (below_of HB12.out hbz)
      clear hbz
      go_wp2_with fail
      go_ret
      exact ⟨rfl, HZ.out⟩
  ·
    obtain ⟨hes, hML⟩ := HPe.out hpe
    have hpe2 : (pe == 0) = false := by simpa using hpe
    subst hes
    have HML := Lib.hid hML
    clear hML HPe
    go_wp2_with fail
    go_fit (Scan_mp ByteArray.empty ByteArray.empty HM6.out HM1.out)
    rintro e w7 ⟨v7, rfl, hr⟩
    have hto := hr.told
    rw [HML.out, HSc.out] at hto
    have HE := Lib.hid (EqualO (HI6.out.later hr.grown) hto)
    have HM7 := Lib.hid (HM6.out.below hr.grown)
    have HB8 := Lib.hid (below_of HB7.out hr.grown)
    have HC8 : Hid (∀ (j : Nat) v, #[.int .i64 k.op, .int .i64 k.pos, .slice ua k.conds.length uc, .slice va k.ops.length vc, .string k.fr, .string k.to, .int .i64 k.ev.pos, .string k.ev.key, .bool k.ev.had, .string k.ev.old, .bool k.ev.has, .string k.ev.now][j]? = some v → w7.cell? ⟨w.heap.size, j, none⟩ = some v) := fun j v h => lay_later hr.grown (HC7.out j v h)
    obtain ⟨v7a, v7c, hv7, _, _⟩ := Lay.In.slice hto
    subst hv7
    clear hr hto HM6 HI6
    go_wp2_with fail
    go_fit HE.out
    rintro e w8 ⟨rfl, hb8⟩
    have HMx := Lib.hid (HM7.out.below hb8)
    have HBx := Lib.hid (below_of HB8.out hb8)
    have HCx : Hid (∀ (j : Nat) v, #[.int .i64 k.op, .int .i64 k.pos, .slice ua k.conds.length uc, .slice va k.ops.length vc, .string k.fr, .string k.to, .int .i64 k.ev.pos, .string k.ev.key, .bool k.ev.had, .string k.ev.old, .bool k.ev.has, .string k.ev.now][j]? = some v → w8.cell? ⟨w.heap.size, j, none⟩ = some v) := fun j v h => lay_later hb8 (HC8.out j v h)
    clear hb8 HE HM7
    go_wp2_with fail
    go_fit (Scan_mp ByteArray.empty ByteArray.empty HMx.out HM1.out)
    rintro e w9 ⟨v9, rfl, hr9⟩
    have HZx := Lib.hid HMx.out.lt
    have HS9 := Lib.hid hr9
    have HM9 := Lib.hid (HMx.out.below hr9.grown)
    have HB9 := Lib.hid (below_of HBx.out hr9.grown)
    have HC9 : Hid (∀ (j : Nat) v, #[.int .i64 k.op, .int .i64 k.pos, .slice ua k.conds.length uc, .slice va k.ops.length vc, .string k.fr, .string k.to, .int .i64 k.ev.pos, .string k.ev.key, .bool k.ev.had, .string k.ev.old, .bool k.ev.has, .string k.ev.now][j]? = some v → w9.cell? ⟨w.heap.size, j, none⟩ = some v) := fun j v h => lay_later hr9.grown (HCx.out j v h)
    obtain ⟨v9a, v9c, rfl, _, _⟩ := hr9.slice
    clear hr9 HMx HBx HCx
    have d3 := HC9.out 3 _ rfl
    have HSet := Lib.hid (Set_mp HM9.out (HV.out.later HB9.out) HOk.out.2.2 (by have := HOk.out.2.1; omega))
    unfold SetP setL at HSet
    generalize setE k.ops = n at *
    go_wp2_with fail
    go_fit HSet.out
    rintro e w10 ⟨rfl, hn, hg⟩
    have HB10 := Lib.hid (grown_below1 hg HB9.out (Nat.le_of_lt HLo.out))
    have HI10 := Lib.hid (Lay.in_own (I := opL) (row_grown HS9.out.own hg HZx.out) rfl)
    clear hg HSet d3
    by_cases hn0 : n = 0
    ·
      subst hn0
      clear hn
      go_wp2_with fail
      go_fit (awake_any _)
      rintro e wz ⟨rfl, hbz⟩
      have HZ := Lib.hid (below_of HB10.out hbz)
      clear hbz
      go_wp2_with fail
      go_ret
      exact ⟨rfl, HZ.out⟩
    ·
      rw [if_neg hn0] at hn
      have HM10 := Lib.hid hn
      have hn1 : (n == 0) = false := by simpa using hn0
      clear hn
      go_wp2_with fail
      go_fit (Scan_mp ByteArray.empty ByteArray.empty HM10.out HM1.out)
      rintro e w11 ⟨v11, rfl, hr11⟩
      have HE := Lib.hid (EqualO (HI10.out.later hr11.grown) hr11.told)
      have HB11 := Lib.hid (below_of HB10.out hr11.grown)
      obtain ⟨v11a, v11c, rfl, _, _⟩ := hr11.slice
      clear hr11 HM10
      go_wp2_with fail
      go_fit HE.out
      rintro e w12 ⟨rfl, hb12⟩
      have HB12 := Lib.hid (below_of HB11.out hb12)
      clear hb12 HE
      go_wp2_with fail
      go_fit (awake_any _)
      rintro e wz ⟨rfl, hbz⟩
      have HZ := Lib.hid (below_of HB12.out hbz)
      clear hbz
      go_wp2_with fail
      go_ret
      exact ⟨rfl, HZ.out⟩
end Go.Proofs.Ytdfjnpnkfjcpcaa
