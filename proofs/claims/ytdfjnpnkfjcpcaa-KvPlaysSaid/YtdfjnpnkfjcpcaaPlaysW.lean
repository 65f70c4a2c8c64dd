/-
  KvPlays: the walk. A map answers as the document's does. (Written by genkv.py.)
-/
import Derived.Test.YtdfjnpnkfjcpcaaK16
import Derived.Test.YtdfjnpnkfjcpcaaK18
import Derived.Test.YtdfjnpnkfjcpcaaKRB
import Derived.Deep.CutRange
import Derived.Deep.CutBlock
namespace Go.Proofs.Ytdfjnpnkfjcpcaa
set_option linter.unusedVariables false
set_option linter.unusedSimpArgs false
open Go.RowKit

theorem setL_len {L : List Pr} {l : List Kop} {i : Nat} (h : L.length ≤ 24 + i) : (setL L l).length ≤ 24 + (i + 1) := by
  unfold setL
  split
  · rename_i h0
    have h1 := un_len (oprs l) []
    have h2 : l.length ≤ 24 := by
      unfold setE at h0
      split at h0
      · cases h0
      · omega
    have h3 : (oprs l).length = l.length := by unfold oprs; rw [List.length_map]
    simp only [List.length_nil] at h1
    omega
  · omega
theorem doo_len24 {L : List Pr} (hs : Sorted L) {i : Nat} {pos : Int} {conds ops : List Kop} (h : L.length ≤ 24 + i) : (doo L pos conds ops).length ≤ 24 + (i + 1) := by
  unfold doo
  split
  · rename_i h0
    obtain ⟨h1, h2, h3⟩ := plan_ok h0
    rw [h2]
    have := chain_len (chg L pos ops) hs (chg_chain hs pos (ck_unlike h1).1)
    simp only
    omega
  · omega
theorem scO_all (L : List Pr) : scO L ByteArray.empty ByteArray.empty = opsOf L := by
  unfold scO opsOf
  rw [List.filter_eq_self.2]
  intro p _
  unfold within
  rw [klt_empty]; simp
theorem scan_all {w : World} {b : Nat} {L : List Pr} (h : Mp w b L) (hL : L.length ≤ 1000000) : Calls Try.prog 22 #[.pointer (some ⟨b, 0, none⟩), .string ⟨#[]⟩, .string ⟨#[]⟩] w (ScanP (opsOf L) w) := by
  have h := Scan_mp ByteArray.empty ByteArray.empty h hL
  rw [scO_all] at h; exact h
set_option maxRecDepth 100000 in
set_option maxHeartbeats 25600000 in
theorem Plays_any {w : World} (l : List Kd) {v0 : Value} (h0 : KdsIn w v0 l) :
    Calls Try.prog 3 #[v0] w (Yes w) := by
  obtain ⟨a0, c0, rfl⟩ := h0.slice
  have HK0 := Lib.hid h0
  clear h0
  go_enter Try.func3, Try.ntmps3
  go_wp2_with fail
  go_fit (short_any HK0.out)
  rintro e w1 ⟨sb, rfl, hsb, hq⟩
  have HB0 : Hid (Below w.heap.size w w1) := by obtain ⟨m, rfl⟩ := hq; exact below_drewN (Below.refl _ _) _
  cases sb
  · clear hsb hq
    go_wp2_with fail
    go_fit (awake_any _)
    rintro e wz ⟨rfl, hbz⟩
    have HZ := Lib.hid (below_of HB0.out hbz)
    clear hbz
    go_wp2_with fail
    go_ret
    exact ⟨rfl, HZ.out⟩
  obtain ⟨hl, ho⟩ := hsb rfl
  have HL0 := Lib.hid hl
  have HO0 := Lib.hid ho
  clear hsb hq hl ho
  go_wp2_with fail
  go_fit (New_map _)
  rintro e w2 ⟨b, rfl, hlo, hm, hb⟩
  have HB2 := Lib.hid (below_of (below_of HB0.out hb) (lay_alloc w2 (.cells #[.slice none 0 0] 30)))
  have HM2 := Lib.hid (hm.below (lay_alloc w2 (.cells #[.slice none 0 0] 30)))
  have HR2 : Hid (Mr (w2.alloc (.cells #[.slice none 0 0] 30)) w2.heap.size []) := ⟨_, Go.heap_alloc_new w2 _, Lay.In.nil (I := opL) _, trivial⟩
  have HLo : Hid (w.heap.size ≤ b) := Nat.le_trans HB0.out.size hlo
  have HLx : Hid (w.heap.size ≤ w2.heap.size) := (below_of HB0.out hb).size
  clear hlo hm hb
  go_wp2_with fail
  generalize w2.alloc (.cells #[.slice none 0 0] 30) = w3 at *
  generalize w2.heap.size = x at *
  go_loopw [26] (fun v wr => ∃ (i : Nat) (L : List Pr), v = .int .i64 i ∧ i ≤ l.length ∧ Hid (L.length ≤ 24 + i) ∧ Hid (Mp wr b L) ∧ Hid (Mr wr x L) ∧ Hid (Below w.heap.size w wr))
    (fun v _ => l.length - (intOf v).toNat)
  case atStart => exact ⟨0, [], rfl, Nat.zero_le _, by show _ ≤ _; simp, HM2, HR2, HB2⟩
  case round =>
    obtain ⟨i, L, rfl, hin, hL, hM, hR, hB⟩ := hrel
    have ei : IntKind.i64.wrap ((i : Int) + 1) = (i : Int) + 1 := IntWalk.i64_in _ (by have := HL0.out; omega)
    by_cases hlt : i < l.length
    ·
      obtain ⟨k, hk⟩ : ∃ k, l[i]? = some k := ⟨l[i], List.getElem?_eq_getElem hlt⟩
      obtain ⟨g, off, rfl, hat⟩ := HK0.out.at hk
      obtain ⟨u, v, h0, h1, h2, h3, h4, h5, h6, h7, h8, h9, h10, h11, hu0, hv0⟩ := hat
      have h0 := lay_later hB.out h0
      have h1 := lay_later hB.out h1
      have h2 := lay_later hB.out h2
      have h3 := lay_later hB.out h3
      have h4 := lay_later hB.out h4
      have h5 := lay_later hB.out h5
      have h6 := lay_later hB.out h6
      have h7 := lay_later hB.out h7
      have h8 := lay_later hB.out h8
      have h9 := lay_later hB.out h9
      have h10 := lay_later hB.out h10
      have h11 := lay_later hB.out h11
      have hu := hu0.later hB.out
      have hv := hv0.later hB.out
      have HU0 := Lib.hid hu0
      have HV0 := Lib.hid hv0
      clear hu0 hv0
      have hI1 : (i : Int) < ((l.length : Nat) : Int) := by omega
      have hI0 : (0 : Int) ≤ (i : Int) := by omega
      obtain ⟨ua, uc, rfl, _, _⟩ := hu.slice
      obtain ⟨va, vc, rfl, _, _⟩ := hv.slice
      have hA := lay_alloc wr (.cells #[.int .i64 k.op, .int .i64 k.pos, .slice ua k.conds.length uc, .slice va k.ops.length vc, .string k.fr, .string k.to, .int .i64 k.ev.pos, .string k.ev.key, .bool k.ev.had, .string k.ev.old, .bool k.ev.has, .string k.ev.now] 34)
      obtain ⟨oc, oo⟩ := HO0.out k (List.mem_of_getElem? hk)
      have HMa := Lib.hid (hM.out.below hA)
      have HRa := Lib.hid (hR.out.below hA)
      have HBa := Lib.hid (below_of hB.out hA)
      have HCO := Lib.hid oc
      have HOO := Lib.hid oo
      have HNb : Hid (b < wr.heap.size) := hM.out.lt
      have HNx : Hid (x < wr.heap.size) := hR.out.lt
      have HCa : Hid (∀ (j : Nat) v, #[.int .i64 k.op, .int .i64 k.pos, .slice ua k.conds.length uc, .slice va k.ops.length vc, .string k.fr, .string k.to, .int .i64 k.ev.pos, .string k.ev.key, .bool k.ev.had, .string k.ev.old, .bool k.ev.has, .string k.ev.now][j]? = some v → (wr.alloc (.cells #[.int .i64 k.op, .int .i64 k.pos, .slice ua k.conds.length uc, .slice va k.ops.length vc, .string k.fr, .string k.to, .int .i64 k.ev.pos, .string k.ev.key, .bool k.ev.had, .string k.ev.old, .bool k.ev.has, .string k.ev.now] 34)).cell? ⟨wr.heap.size, j, none⟩ = some v) := fun j v h => kd_box wr _ _ j v h
      clear hA hM hR hB hu hv oc oo hk
      go_upto_region 7 with fail
      generalize wr.alloc (.cells #[.int .i64 k.op, .int .i64 k.pos, .slice ua k.conds.length uc, .slice va k.ops.length vc, .string k.fr, .string k.to, .int .i64 k.ev.pos, .string k.ev.key, .bool k.ev.had, .string k.ev.old, .bool k.ev.has, .string k.ev.now] 34) = w4 at *
      generalize wr.heap.size = bb at *
      clear h0 h1 h2 h3 h4 h5 h6 h7 h8 h9 h10 h11
      go_cut [7, 8, 26] from 26 to 185 (fun s7 s8 s26 wx => s26 = .int .i64 i ∧ (∃ a c, s7 = .slice a k.conds.length c) ∧ (∃ a c, s8 = .slice a k.ops.length c) ∧ Hid (opL.In wx s7 k.conds) ∧ Hid (opL.In wx s8 k.ops) ∧ Hid (Below w4.heap.size w4 wx))
      case first =>
        as_aux_lemma =>
          have d2 := HCa.out 2 _ rfl
          have d3 := HCa.out 3 _ rfl
          have HX1 := Lib.hid (CloneO (HU0.out.later (lay_drew HBa.out)) (by have := HCO.out.1; omega))
          have HX2 := Lib.hid (CloneO (HV0.out.later (lay_drew HBa.out)) (by have := HOO.out.1; omega))
          go_region_held3 (fun V => V.cell? ⟨bb, 2, none⟩ = some (.slice ua k.conds.length uc) ∧ V.cell? ⟨bb, 3, none⟩ = some (.slice va k.ops.length vc)) (go_keep)
            (first
              | (go_at_call 16; (with_reducible refine HX1.out.mono ?_); rintro e w5 ⟨ku, rfl, hr5⟩; have HF := Lib.hid hr5; obtain ⟨kua, kuc, hku, _, _⟩ := hr5.slice; subst hku; have e2 := lay_later (w := w4.drew) hr5.grown d2; have e3 := lay_later (w := w4.drew) hr5.grown d3; have HY2 := Lib.hid (CloneO (HV0.out.later (below_of (lay_drew HBa.out) hr5.grown)) (by have := HOO.out.1; omega)); clear hr5)
              | (go_at_call 16; (with_reducible refine HX2.out.mono ?_); rintro e w5 ⟨kv, rfl, hr5⟩; have HF := Lib.hid hr5; obtain ⟨kva, kvc, hkv, _, _⟩ := hr5.slice; subst hkv; have e2 := lay_later (w := w4.drew) hr5.grown d2; have e3 := lay_later (w := w4.drew) hr5.grown d3; have HZ1 := Lib.hid (CloneO (HU0.out.later (below_of (lay_drew HBa.out) hr5.grown)) (by have := HCO.out.1; omega)); clear hr5)
              | (go_at_call 16; (with_reducible refine HY2.out.mono ?_); rintro e w6 ⟨kv, rfl, hr6⟩; obtain ⟨kva, kvc, hkv, _, _⟩ := hr6.slice; subst hkv; have HI1 := Lib.hid (HF.out.told.later hr6.grown); have HI2 := Lib.hid (hr6.told); have HB6 : Hid (Below w4.heap.size w4 w6) := below_of (w1 := w4.drew) (lay_drew (Below.refl _ _)) (below_of HF.out.grown hr6.grown); have f2 := lay_later hr6.grown e2; have f3 := lay_later hr6.grown e3; clear hr6)
              | (go_at_call 16; (with_reducible refine HZ1.out.mono ?_); rintro e w6 ⟨ku, rfl, hr6⟩; obtain ⟨kua, kuc, hku, _, _⟩ := hr6.slice; subst hku; have HI1 := Lib.hid (hr6.told); have HI2 := Lib.hid (HF.out.told.later hr6.grown); have HB6 : Hid (Below w4.heap.size w4 w6) := below_of (w1 := w4.drew) (lay_drew (Below.refl _ _)) (below_of HF.out.grown hr6.grown); have f2 := lay_later hr6.grown e2; have f3 := lay_later hr6.grown e3; clear hr6))
          all_goals
            go_wp2_with fail
            go_meet
            exact ⟨rfl, ⟨_, _, rfl⟩, ⟨_, _, rfl⟩, HI1, HI2, HB6⟩
      case rest =>
        obtain ⟨rfl, ⟨ka, kc, rfl⟩, ⟨ja, jc, rfl⟩, HI1, HI2, hB1⟩ := hcut
        have HM1 := Lib.hid (HMa.out.below hB1.out)
        have HR1 := Lib.hid (HRa.out.below hB1.out)
        have HB1 := Lib.hid (below_of HBa.out hB1.out)
        have HC1 : Hid (∀ (j : Nat) v, #[.int .i64 k.op, .int .i64 k.pos, .slice ua k.conds.length uc, .slice va k.ops.length vc, .string k.fr, .string k.to, .int .i64 k.ev.pos, .string k.ev.key, .bool k.ev.had, .string k.ev.old, .bool k.ev.has, .string k.ev.now][j]? = some v → wc.cell? ⟨bb, j, none⟩ = some v) := fun j v h => lay_later hB1.out (HCa.out j v h)
        generalize wc = w5 at *
        clear HMa HRa HBa HCa hB1
        have d0 := HC1.out 0 _ rfl
        go_upto_block 2 with fail
        clear d0
        generalize wrap64 ((IntKind.u64.wrap k.op).tmod 8) = cd at *
        go_cut [9, 10, 11, 12, 26] from 26 to 185 (fun s9 s10 s11 s12 s26 wx => ∃ (M : List Pr) (es : List Kev) (n : Int) (ea : Option Addr) (ec : Nat) (fa : Option Addr) (fc : Nat), s26 = .int .i64 i ∧ s9 = .slice ea es.length ec ∧ s10 = .slice fa es.length fc ∧ s11 = .int .i64 n ∧ s12 = .int .i64 n ∧ Hid (evL.In wx (.slice ea es.length ec) es) ∧ Hid (evL.In wx (.slice fa es.length fc) es) ∧ Hid (M.length ≤ 24 + (i + 1)) ∧ Hid (Mp wx b M) ∧ Hid (Mr wx x M) ∧ Hid (Below w.heap.size w wx) ∧ Hid (opL.In wx (.slice ka k.conds.length kc) k.conds) ∧ Hid (opL.In wx (.slice ja k.ops.length jc) k.ops) ∧ Hid (∀ (j : Nat) v, #[.int .i64 k.op, .int .i64 k.pos, .slice ua k.conds.length uc, .slice va k.ops.length vc, .string k.fr, .string k.to, .int .i64 k.ev.pos, .string k.ev.key, .bool k.ev.had, .string k.ev.old, .bool k.ev.has, .string k.ev.now][j]? = some v → wx.cell? ⟨bb, j, none⟩ = some v))
        case first =>
          by_cases h4 : cd = 4
          ·
            subst h4
            have d1 := HC1.out 1 _ rfl
            have d2 := HC1.out 2 _ rfl
            have d3 := HC1.out 3 _ rfl
            have HP := Lib.hid (Plan_mp k.pos HM1.out HI1.out HI2.out HCO.out.2 HOO.out.2 (by have := HCO.out.1; omega) (by have := HOO.out.1; omega) (by have := hL.out; have := HL0.out; omega))
            unfold PlanP at HP
            rcases hpl : plan L k.pos k.conds k.ops with ⟨es, n⟩
            rw [hpl] at HP
            have HPL := Lib.hid hpl
            clear hpl
            go_wp2_with fail
            go_fit HP.out
            rintro e w6 ⟨v6, rfl, hr6⟩
            have hr6 : Rw evL 32 w5 w6 v6 es := hr6
            obtain ⟨ea, ec, hv6, _, _⟩ := hr6.slice
            subst hv6
            have HR6 := Lib.hid hr6
            have HC6 : Hid (∀ (j : Nat) v, #[.int .i64 k.op, .int .i64 k.pos, .slice ua k.conds.length uc, .slice va k.ops.length vc, .string k.fr, .string k.to, .int .i64 k.ev.pos, .string k.ev.key, .bool k.ev.had, .string k.ev.old, .bool k.ev.has, .string k.ev.now][j]? = some v → w6.cell? ⟨bb, j, none⟩ = some v) := fun j v h => lay_later hr6.grown (HC1.out j v h)
            clear hr6 HP d1 d2 d3
            have HB6 := Lib.hid (below_of HB1.out HR6.out.grown)
            have d1 := HC6.out 1 _ rfl
            have d2 := HC6.out 2 _ rfl
            have d3 := HC6.out 3 _ rfl
            have HP := Lib.hid (RPlan k.pos (HR1.out.below HR6.out.grown) (HU0.out.later HB6.out) (HV0.out.later HB6.out) HCO.out.2 HOO.out.2 (by have := HCO.out.1; omega) (by have := HOO.out.1; omega) (by have := hL.out; have := HL0.out; omega))
            unfold PlanP at HP
            rw [HPL.out] at HP
            go_wp2_with fail
            go_fit HP.out
            rintro e w7 ⟨v7, rfl, hr7⟩
            have hr7 : Rw evL 32 w6 w7 v7 es := hr7
            obtain ⟨fa, fc, hv7, _, _⟩ := hr7.slice
            subst hv7
            have HR7 := Lib.hid hr7
            have HC7 : Hid (∀ (j : Nat) v, #[.int .i64 k.op, .int .i64 k.pos, .slice ua k.conds.length uc, .slice va k.ops.length vc, .string k.fr, .string k.to, .int .i64 k.ev.pos, .string k.ev.key, .bool k.ev.had, .string k.ev.old, .bool k.ev.has, .string k.ev.now][j]? = some v → w7.cell? ⟨bb, j, none⟩ = some v) := fun j v h => lay_later hr7.grown (HC6.out j v h)
            clear hr7 HP d1 d2 d3
            have HBB := Lib.hid (below_of HR6.out.grown HR7.out.grown)
            go_wp2_with fail
            go_meet
            exact ⟨L, es, n, ea, ec, fa, fc, rfl, rfl, rfl, rfl, rfl, HR6.out.told.later HR7.out.grown, HR7.out.told, by have := hL.out; show _ ≤ _; omega, HM1.out.below HBB.out, HR1.out.below HBB.out, below_of HB1.out HBB.out, HI1.out.later HBB.out, HI2.out.later HBB.out, HC7⟩
          have h4b : (cd == 4) = false := by simpa using h4
          by_cases h5 : cd = 5
          ·
            as_aux_lemma =>
              subst h5
              have d3 := HC1.out 3 _ rfl
              have HS1 := Lib.hid (Set_mp (HM1.out.below (lay_drew (Below.refl _ _))) (HI2.out.later (lay_drew (Below.refl _ _))) HOO.out.2 (by have := HOO.out.1; omega))
              have HS2 := Lib.hid (RSet (HR1.out.below (lay_drew (Below.refl _ _))) (HV0.out.later (lay_drew HB1.out)) HOO.out.2 (by have := HOO.out.1; omega))
              have HSL : Hid ((setL L k.ops).length ≤ 24 + (i + 1)) := setL_len hL.out
              unfold SetP at HS1
              unfold RSetP at HS2
              have HT1 := Lib.hid (fun (W : World) (hM : Mp W b L) (hI : opL.In W (.slice ja k.ops.length jc) k.ops) => Set_mp hM hI HOO.out.2 (by have := HOO.out.1; omega))
              have HT2 := Lib.hid (fun (W : World) (hR : Mr W x L) (hB : Below w.heap.size w W) => RSet hR (HV0.out.later hB) HOO.out.2 (by have := HOO.out.1; omega))
              unfold SetP at HT1
              unfold RSetP at HT2
              generalize setL L k.ops = M at *
              generalize setE k.ops = n at *
              go_wp2_with fail
              go_region_held3 (fun V => V.cell? ⟨bb, 3, none⟩ = some (.slice va k.ops.length vc)) (go_keep)
                (first
                  | (go_at_call 19; (with_reducible refine HS1.out.mono ?_); rintro e w6 ⟨rfl, hm6, hg6⟩; have HM6 := Lib.hid hm6; have HR6 := Lib.hid ((HR1.out.below (lay_drew (Below.refl _ _))).other (HM1.out.below (lay_drew (Below.refl _ _))) hg6); have HB6 := Lib.hid (grown_below1 hg6 (lay_drew HB1.out) HLo.out); have HIa := Lib.hid ((HM1.out.below (lay_drew (Below.refl _ _))).keepO (HI1.out.later (lay_drew (Below.refl _ _))) hg6); have HIb := Lib.hid ((HM1.out.below (lay_drew (Below.refl _ _))).keepO (HI2.out.later (lay_drew (Below.refl _ _))) hg6); have e3 := hg6.cell (w := w5.drew) d3 (by have := HNb.out; simp; omega); have HCc : Hid (∀ (j : Nat) v, #[.int .i64 k.op, .int .i64 k.pos, .slice ua k.conds.length uc, .slice va k.ops.length vc, .string k.fr, .string k.to, .int .i64 k.ev.pos, .string k.ev.key, .bool k.ev.had, .string k.ev.old, .bool k.ev.has, .string k.ev.now][j]? = some v → w6.cell? ⟨bb, j, none⟩ = some v) := fun j v h => hg6.cell (w := w5.drew) (HC1.out j v h) (by have := HNb.out; simp; omega); have HY := Lib.hid (HT2.out w6 HR6.out HB6.out); clear hm6 hg6)
                  | (go_at_call 20; (with_reducible refine HS2.out.mono ?_); rintro e w6 ⟨rfl, hr6, hg6⟩; have HR6 := Lib.hid hr6; have HM6 := Lib.hid ((HM1.out.below (lay_drew (Below.refl _ _))).writes (HR1.out.below (lay_drew (Below.refl _ _))) hg6); have HB6 := Lib.hid (grown_below1 hg6 (lay_drew HB1.out) HLx.out); have HIa := Lib.hid ((HR1.out.below (lay_drew (Below.refl _ _))).keepO (HI1.out.later (lay_drew (Below.refl _ _))) hg6); have HIb := Lib.hid ((HR1.out.below (lay_drew (Below.refl _ _))).keepO (HI2.out.later (lay_drew (Below.refl _ _))) hg6); have e3 := hg6.cell (w := w5.drew) d3 (by have := HNx.out; simp; omega); have HCc : Hid (∀ (j : Nat) v, #[.int .i64 k.op, .int .i64 k.pos, .slice ua k.conds.length uc, .slice va k.ops.length vc, .string k.fr, .string k.to, .int .i64 k.ev.pos, .string k.ev.key, .bool k.ev.had, .string k.ev.old, .bool k.ev.has, .string k.ev.now][j]? = some v → w6.cell? ⟨bb, j, none⟩ = some v) := fun j v h => hg6.cell (w := w5.drew) (HC1.out j v h) (by have := HNx.out; simp; omega); have HZ := Lib.hid (HT1.out w6 HM6.out HIb.out); clear hr6 hg6)
                  | (go_at_call 20; (with_reducible refine HY.out.mono ?_); rintro e w7 ⟨rfl, hr7, hg7⟩; have HR7 := Lib.hid hr7; have HM7 := Lib.hid (HM6.out.writes HR6.out hg7); have HB7 := Lib.hid (grown_below1 hg7 HB6.out HLx.out); have HIa7 := Lib.hid (HR6.out.keepO HIa.out hg7); have HIb7 := Lib.hid (HR6.out.keepO HIb.out hg7); have f3 := hg7.cell e3 (by have := HNx.out; simp; omega); have HC7 : Hid (∀ (j : Nat) v, #[.int .i64 k.op, .int .i64 k.pos, .slice ua k.conds.length uc, .slice va k.ops.length vc, .string k.fr, .string k.to, .int .i64 k.ev.pos, .string k.ev.key, .bool k.ev.had, .string k.ev.old, .bool k.ev.has, .string k.ev.now][j]? = some v → w7.cell? ⟨bb, j, none⟩ = some v) := fun j v h => hg7.cell (HCc.out j v h) (by have := HNx.out; simp; omega); clear hr7 hg7)
                  | (go_at_call 19; (with_reducible refine HZ.out.mono ?_); rintro e w7 ⟨rfl, hm7, hg7⟩; have HM7 := Lib.hid hm7; have HR7 := Lib.hid (HR6.out.other HM6.out hg7); have HB7 := Lib.hid (grown_below1 hg7 HB6.out HLo.out); have HIa7 := Lib.hid (HM6.out.keepO HIa.out hg7); have HIb7 := Lib.hid (HM6.out.keepO HIb.out hg7); have f3 := hg7.cell e3 (by have := HNb.out; simp; omega); have HC7 : Hid (∀ (j : Nat) v, #[.int .i64 k.op, .int .i64 k.pos, .slice ua k.conds.length uc, .slice va k.ops.length vc, .string k.fr, .string k.to, .int .i64 k.ev.pos, .string k.ev.key, .bool k.ev.had, .string k.ev.old, .bool k.ev.has, .string k.ev.now][j]? = some v → w7.cell? ⟨bb, j, none⟩ = some v) := fun j v h => hg7.cell (HCc.out j v h) (by have := HNb.out; simp; omega); clear hm7 hg7))
              all_goals
                go_wp2_with fail
                go_meet
                exact ⟨M, [], n, none, 0, none, 0, rfl, rfl, rfl, rfl, rfl, Lay.In.nil (I := evL) _, Lay.In.nil (I := evL) _, HSL, HM7, HR7, HB7, HIa7, HIb7, HC7⟩
          have h5b : (cd == 5) = false := by simpa using h5
          by_cases h6 : cd = 6
          ·
            as_aux_lemma =>
              subst h6
              have d4 := HC1.out 4 _ rfl
              have d5 := HC1.out 5 _ rfl
              have HS1 := Lib.hid (Scan_mp k.fr k.to (HM1.out.below (lay_drew (Below.refl _ _))) (by have := hL.out; have := HL0.out; omega))
              have HS2 := Lib.hid (RScan k.fr k.to (HR1.out.below (lay_drew (Below.refl _ _))) (by have := hL.out; have := HL0.out; omega))
              have HT1 := Lib.hid (fun (W : World) (hM : Mp W b L) => Scan_mp k.fr k.to hM (by have := hL.out; have := HL0.out; omega))
              have HT2 := Lib.hid (fun (W : World) (hR : Mr W x L) => RScan k.fr k.to hR (by have := hL.out; have := HL0.out; omega))
              unfold ScanP at HS1 HS2 HT1 HT2
              generalize scO L k.fr k.to = S at *
              go_wp2_with fail
              go_region_held3 (fun V => V.cell? ⟨bb, 4, none⟩ = some (.string k.fr) ∧ V.cell? ⟨bb, 5, none⟩ = some (.string k.to)) (go_keep)
                (first
                  | (go_at_call 22; (with_reducible refine HS1.out.mono ?_); rintro e w6 ⟨vm, rfl, hr6⟩; have HF := Lib.hid hr6; obtain ⟨vma, vmc, hvm, _, _⟩ := hr6.slice; subst hvm; have e4 := lay_later (w := w5.drew) hr6.grown d4; have e5 := lay_later (w := w5.drew) hr6.grown d5; have HY := Lib.hid (HT2.out w6 ((HR1.out.below (lay_drew (Below.refl _ _))).below hr6.grown)); clear hr6)
                  | (go_at_call 23; (with_reducible refine HS2.out.mono ?_); rintro e w6 ⟨vx, rfl, hr6⟩; have HF := Lib.hid hr6; obtain ⟨vxa, vxc, hvx, _, _⟩ := hr6.slice; subst hvx; have e4 := lay_later (w := w5.drew) hr6.grown d4; have e5 := lay_later (w := w5.drew) hr6.grown d5; have HZ := Lib.hid (HT1.out w6 ((HM1.out.below (lay_drew (Below.refl _ _))).below hr6.grown)); clear hr6)
                  | (go_at_call 23; (with_reducible refine HY.out.mono ?_); rintro e w7 ⟨vx, rfl, hr7⟩; obtain ⟨vxa, vxc, hvx, _, _⟩ := hr7.slice; subst hvx; have f4 := lay_later hr7.grown e4; have f5 := lay_later hr7.grown e5; have HQ := Lib.hid (EqualO (HF.out.told.later hr7.grown) hr7.told); have HG7 : Hid (Below w5.heap.size w5 w7) := below_of (w1 := w5.drew) (lay_drew (Below.refl _ _)) (below_of HF.out.grown hr7.grown); clear hr7)
                  | (go_at_call 22; (with_reducible refine HZ.out.mono ?_); rintro e w7 ⟨vm, rfl, hr7⟩; obtain ⟨vma, vmc, hvm, _, _⟩ := hr7.slice; subst hvm; have f4 := lay_later hr7.grown e4; have f5 := lay_later hr7.grown e5; have HQ := Lib.hid (EqualO hr7.told (HF.out.told.later hr7.grown)); have HG7 : Hid (Below w5.heap.size w5 w7) := below_of (w1 := w5.drew) (lay_drew (Below.refl _ _)) (below_of HF.out.grown hr7.grown); clear hr7)
                  | (go_at_call 21; (with_reducible refine HQ.out.mono ?_); rintro e w8 ⟨rfl, hb8⟩; have HG8 := Lib.hid (below_of HG7.out hb8); have g4 := lay_later hb8 f4; have g5 := lay_later hb8 f5; clear hb8))
              all_goals
                go_wp2_with fail
                go_meet
                exact ⟨L, [], 0, none, 0, none, 0, rfl, rfl, rfl, rfl, rfl, Lay.In.nil (I := evL) _, Lay.In.nil (I := evL) _, by have := hL.out; show _ ≤ _; omega, HM1.out.below HG8.out, HR1.out.below HG8.out, below_of HB1.out HG8.out, HI1.out.later HG8.out, HI2.out.later HG8.out, fun j v h => lay_later HG8.out (HC1.out j v h)⟩
          have h6b : (cd == 6) = false := by simpa using h6
          by_cases h7 : cd = 7
          ·
            subst h7
            have d6 := HC1.out 6 _ rfl
            have d7 := HC1.out 7 _ rfl
            have d8 := HC1.out 8 _ rfl
            have d9 := HC1.out 9 _ rfl
            have d10 := HC1.out 10 _ rfl
            have d11 := HC1.out 11 _ rfl
            have hA := lay_alloc w5 (.cells #[.int .i64 k.ev.pos, .string k.ev.key, .bool k.ev.had, .string k.ev.old, .bool k.ev.has, .string k.ev.now] 32)
            have hin1 : evL.In (w5.alloc (.cells #[.int .i64 k.ev.pos, .string k.ev.key, .bool k.ev.had, .string k.ev.old, .bool k.ev.has, .string k.ev.now] 32)) (.slice (some ⟨w5.heap.size, 0, none⟩) 1 1) [k.ev] := block_in evL w5 [k.ev] #[.int .i64 k.ev.pos, .string k.ev.key, .bool k.ev.had, .string k.ev.old, .bool k.ev.has, .string k.ev.now] _ 1 rfl rfl (by decide)
            have hof : Off b (.slice (some ⟨w5.heap.size, 0, none⟩) 1 1) := fun g off n c hv => by have := HM1.out.lt; simp only [Value.slice.injEq, Option.some.injEq, Addr.mk.injEq] at hv; omega
            have HT := Lib.hid (Take_mp (HM1.out.below hA) hin1 hof (by simp) (by have := hL.out; have := HL0.out; omega))
            have HMA := Lib.hid (HM1.out.below hA)
            have HRA := Lib.hid (HR1.out.below hA)
            have HBA := Lib.hid (below_of HB1.out hA)
            have HIA1 := Lib.hid (HI1.out.later hA)
            have HIA2 := Lib.hid (HI2.out.later hA)
            have HCA : Hid (∀ (j : Nat) v, #[.int .i64 k.op, .int .i64 k.pos, .slice ua k.conds.length uc, .slice va k.ops.length vc, .string k.fr, .string k.to, .int .i64 k.ev.pos, .string k.ev.key, .bool k.ev.had, .string k.ev.old, .bool k.ev.has, .string k.ev.now][j]? = some v → (w5.alloc (.cells #[.int .i64 k.ev.pos, .string k.ev.key, .bool k.ev.had, .string k.ev.old, .bool k.ev.has, .string k.ev.now] 32)).cell? ⟨bb, j, none⟩ = some v) := fun j v h => lay_later hA (HC1.out j v h)
            clear hA hin1 hof
            have HTL : Hid ((takes L [k.ev]).length ≤ 24 + (i + 1)) := by show _ ≤ _; have h1 := takes_len [k.ev] L; have h2 := hL.out; simp only [List.length_singleton] at h1; omega
            unfold TakeP at HT
            go_wp2_with fail
            go_fit HT.out
            rintro e w6 ⟨rfl, hm6, hg6⟩
            have HM6 := Lib.hid hm6
            have HR6 := Lib.hid (HRA.out.other HMA.out hg6)
            have HB6 := Lib.hid (grown_below1 hg6 HBA.out HLo.out)
            have HIa := Lib.hid (HMA.out.keepO HIA1.out hg6)
            have HIb := Lib.hid (HMA.out.keepO HIA2.out hg6)
            have HC6 : Hid (∀ (j : Nat) v, #[.int .i64 k.op, .int .i64 k.pos, .slice ua k.conds.length uc, .slice va k.ops.length vc, .string k.fr, .string k.to, .int .i64 k.ev.pos, .string k.ev.key, .bool k.ev.had, .string k.ev.old, .bool k.ev.has, .string k.ev.now][j]? = some v → w6.cell? ⟨bb, j, none⟩ = some v) := fun j v h => hg6.cell (HCA.out j v h) (by have := HNb.out; simp; omega)
            clear hm6 hg6 HT d6 d7 d8 d9 d10 d11
            have d6 := HC6.out 6 _ rfl
            have d7 := HC6.out 7 _ rfl
            have d8 := HC6.out 8 _ rfl
            have d9 := HC6.out 9 _ rfl
            have d10 := HC6.out 10 _ rfl
            have d11 := HC6.out 11 _ rfl
            have hA := lay_alloc w6 (.cells #[.int .i64 k.ev.pos, .string k.ev.key, .bool k.ev.had, .string k.ev.old, .bool k.ev.has, .string k.ev.now] 32)
            have hin1 : evL.In (w6.alloc (.cells #[.int .i64 k.ev.pos, .string k.ev.key, .bool k.ev.had, .string k.ev.old, .bool k.ev.has, .string k.ev.now] 32)) (.slice (some ⟨w6.heap.size, 0, none⟩) 1 1) [k.ev] := block_in evL w6 [k.ev] #[.int .i64 k.ev.pos, .string k.ev.key, .bool k.ev.had, .string k.ev.old, .bool k.ev.has, .string k.ev.now] _ 1 rfl rfl (by decide)
            have HT := Lib.hid (RTake (HR6.out.below hA) hin1 (by have := HTL.out; have h2 := hL.out; have := HL0.out; simp only [List.length_singleton]; omega))
            have HM7 := Lib.hid (HM6.out.below hA)
            have HR7 := Lib.hid (HR6.out.below hA)
            have HB7 := Lib.hid (below_of HB6.out hA)
            have HIa7 := Lib.hid (HIa.out.later hA)
            have HIb7 := Lib.hid (HIb.out.later hA)
            have HC7 : Hid (∀ (j : Nat) v, #[.int .i64 k.op, .int .i64 k.pos, .slice ua k.conds.length uc, .slice va k.ops.length vc, .string k.fr, .string k.to, .int .i64 k.ev.pos, .string k.ev.key, .bool k.ev.had, .string k.ev.old, .bool k.ev.has, .string k.ev.now][j]? = some v → (w6.alloc (.cells #[.int .i64 k.ev.pos, .string k.ev.key, .bool k.ev.had, .string k.ev.old, .bool k.ev.has, .string k.ev.now] 32)).cell? ⟨bb, j, none⟩ = some v) := fun j v h => lay_later hA (HC6.out j v h)
            clear hA hin1
            unfold RTakeP at HT
            go_wp2_with fail
            go_fit HT.out
            rintro e w8 ⟨rfl, hr8, hg8⟩
            have HR8 := Lib.hid hr8
            have HM8 := Lib.hid (HM7.out.writes HR7.out hg8)
            have HB8 := Lib.hid (grown_below1 hg8 HB7.out HLx.out)
            have HIa8 := Lib.hid (HR7.out.keepO HIa7.out hg8)
            have HIb8 := Lib.hid (HR7.out.keepO HIb7.out hg8)
            have HC8 : Hid (∀ (j : Nat) v, #[.int .i64 k.op, .int .i64 k.pos, .slice ua k.conds.length uc, .slice va k.ops.length vc, .string k.fr, .string k.to, .int .i64 k.ev.pos, .string k.ev.key, .bool k.ev.had, .string k.ev.old, .bool k.ev.has, .string k.ev.now][j]? = some v → w8.cell? ⟨bb, j, none⟩ = some v) := fun j v h => hg8.cell (HC7.out j v h) (by have := HNx.out; simp; omega)
            clear hr8 hg8 HT d6 d7 d8 d9 d10 d11
            go_wp2_with fail
            go_meet
            exact ⟨takes L [k.ev], [], 0, none, 0, none, 0, rfl, rfl, rfl, rfl, rfl, Lay.In.nil (I := evL) _, Lay.In.nil (I := evL) _, HTL, HM8, HR8, HB8, HIa8, HIb8, HC8⟩
          have h7b : (cd == 7) = false := by simpa using h7
          have d1 := HC1.out 1 _ rfl
          have d2 := HC1.out 2 _ rfl
          have d3 := HC1.out 3 _ rfl
          have HP := Lib.hid (Do_mp k.pos HM1.out HI1.out HI2.out HCO.out.2 HOO.out.2 (by have := HCO.out.1; omega) (by have := HOO.out.1; omega) (by have := hL.out; have := HL0.out; omega))
          have HDL : Hid ((doo L k.pos k.conds k.ops).length ≤ 24 + (i + 1)) := doo_len24 HM1.out.sorted hL.out
          have HQ := Lib.hid (fun (W : World) (hR : Mr W x L) (hB : Below w.heap.size w W) => RDo k.pos hR (HU0.out.later hB) (HV0.out.later hB) HCO.out.2 HOO.out.2 (by have := HCO.out.1; omega) (by have := HOO.out.1; omega) (by have := hL.out; have := HL0.out; omega))
          unfold DoP at HP
          unfold RDoP at HQ
          generalize doo L k.pos k.conds k.ops = M at *
          generalize plan L k.pos k.conds k.ops = pl at *
          obtain ⟨es, n⟩ := pl
          go_wp2_with fail
          go_fit HP.out
          rintro e w6 ⟨v6, rfl, hrow, hm6, hg6⟩
          have hI6 : evL.In w6 v6 es := Lay.in_own (I := evL) hrow rfl
          obtain ⟨ea, ec, hv6, _, _⟩ := hI6.slice
          subst hv6
          have HI6 := Lib.hid hI6
          have HM6 := Lib.hid hm6
          have HR6 := Lib.hid (HR1.out.other HM1.out hg6)
          have HB6 := Lib.hid (grown_below1 hg6 HB1.out HLo.out)
          have HIa := Lib.hid (HM1.out.keepO HI1.out hg6)
          have HIb := Lib.hid (HM1.out.keepO HI2.out hg6)
          have HC6 : Hid (∀ (j : Nat) v, #[.int .i64 k.op, .int .i64 k.pos, .slice ua k.conds.length uc, .slice va k.ops.length vc, .string k.fr, .string k.to, .int .i64 k.ev.pos, .string k.ev.key, .bool k.ev.had, .string k.ev.old, .bool k.ev.has, .string k.ev.now][j]? = some v → w6.cell? ⟨bb, j, none⟩ = some v) := fun j v h => hg6.cell (HC1.out j v h) (by have := HNb.out; simp; omega)
          clear hrow hm6 hg6 hI6 HP d1 d2 d3
          have d1 := HC6.out 1 _ rfl
          have d2 := HC6.out 2 _ rfl
          have d3 := HC6.out 3 _ rfl
          have HQ6 := Lib.hid (HQ.out w6 HR6.out HB6.out)
          go_wp2_with fail
          go_fit HQ6.out
          rintro e w7 ⟨v7, rfl, hI7, hr7, hg7⟩
          have hI7 : evL.In w7 v7 es := hI7
          obtain ⟨fa, fc, hv7, _, _⟩ := hI7.slice
          subst hv7
          have HI7 := Lib.hid hI7
          have HI67 := Lib.hid (HR6.out.keepE HI6.out hg7)
          have HR7 := Lib.hid hr7
          have HM7 := Lib.hid (HM6.out.writes HR6.out hg7)
          have HB7 := Lib.hid (grown_below1 hg7 HB6.out HLx.out)
          have HIa7 := Lib.hid (HR6.out.keepO HIa.out hg7)
          have HIb7 := Lib.hid (HR6.out.keepO HIb.out hg7)
          have HC7 : Hid (∀ (j : Nat) v, #[.int .i64 k.op, .int .i64 k.pos, .slice ua k.conds.length uc, .slice va k.ops.length vc, .string k.fr, .string k.to, .int .i64 k.ev.pos, .string k.ev.key, .bool k.ev.had, .string k.ev.old, .bool k.ev.has, .string k.ev.now][j]? = some v → w7.cell? ⟨bb, j, none⟩ = some v) := fun j v h => hg7.cell (HC6.out j v h) (by have := HNx.out; simp; omega)
          clear hr7 hg7 hI7 HQ6 d1 d2 d3
          go_wp2_with fail
          go_meet
          exact ⟨M, es, n, ea, ec, fa, fc, rfl, rfl, rfl, rfl, rfl, HI67, HI7, HDL, HM7, HR7, HB7, HIa7, HIb7, HC7⟩
        case rest =>
          obtain ⟨M, es, n, ea, ec, fa, fc, rfl, rfl, rfl, rfl, rfl, HE1, HE2, HML, HM6, HR6, HB6, HIa, HIb, HC6⟩ := hcut
          generalize wc = w6 at *
          clear HM1 HR1 HB1 HC1 HI1 HI2 hL
          skip
          obtain ⟨xa, xc, xh, xi, _⟩ := HR6.out.slice
          have q0 : w6.cell? ⟨x, 0, none⟩ = some (.slice xa M.length xc) := by rw [cell_of_row _ x 0 _ _ (0, 0) xh]; rfl
          have HXi := Lib.hid xi
          clear xh xi
          have HM1000 : Hid (M.length ≤ 1000) := by show _ ≤ _; have := HML.out; have := HL0.out; omega
          go_upto_region 24 with fail
          go_cut [162, 26] from 26 to 185 (fun s162 s26 wx => s162 = .bool false ∧ s26 = .int .i64 i ∧ Hid (Below w6.heap.size w6 wx))
          case first =>
            as_aux_lemma =>
              have d2 := HC6.out 2 _ rfl
              have d3 := HC6.out 3 _ rfl
              have hnn : (n != n) = false := by simp
              have hll : (((M.length : Nat) : Int) != ((M.length : Nat) : Int)) = false := by simp
              have D1 := Lib.hid (lay_drew (Below.refl w6.heap.size w6))
              have HQE := Lib.hid (EqualE (HE1.out.later D1.out) (HE2.out.later D1.out))
              have HSc := Lib.hid (fun (W : World) (hM : Mp W b M) => scan_all hM (by have := HM1000.out; omega))
              go_region_held3 (fun V => V.cell? ⟨x, 0, none⟩ = some (.slice xa M.length xc) ∧ V.cell? ⟨bb, 2, none⟩ = some (.slice ua k.conds.length uc) ∧ V.cell? ⟨bb, 3, none⟩ = some (.slice va k.ops.length vc)) (go_keep)
                (first
                  | (go_at_call 28; (with_reducible refine HQE.out.mono ?_); rintro e w7 ⟨rfl, hb7⟩; have q7 := lay_later (w := w6.drew) hb7 q0; have e7 := lay_later (w := w6.drew) hb7 d2; have f7 := lay_later (w := w6.drew) hb7 d3; have HB7 : Hid (Below w6.heap.size w6 w7) := below_of (w1 := w6.drew) D1.out hb7; have HS7 := Lib.hid (HSc.out w7 (HM6.out.below HB7.out)); clear hb7)
                  | (go_at_call 22; (with_reducible refine HS7.out.mono ?_); rintro e w8 ⟨v8, rfl, hr8⟩; obtain ⟨v8a, v8c, hv8, _, _⟩ := hr8.slice; subst hv8; have q8 := lay_later hr8.grown q7; have e8 := lay_later hr8.grown e7; have f8 := lay_later hr8.grown f7; have HB8 := Lib.hid (below_of HB7.out hr8.grown); have HQ8 := Lib.hid (EqualO hr8.told (HXi.out.later HB8.out)); clear hr8)
                  | (go_at_call 21; (with_reducible refine HQ8.out.mono ?_); rintro e w9 ⟨rfl, hb9⟩; have q9 := lay_later hb9 q8; have e9 := lay_later hb9 e8; have f9 := lay_later hb9 f8; have HB9 := Lib.hid (below_of HB8.out hb9); have HL9 := Lib.hid (Len_mp (HM6.out.below HB9.out)); clear hb9)
                  | (go_at_call 29; (with_reducible refine HL9.out.mono ?_); rintro e w' ⟨rfl, rfl⟩; have HQ9 := Lib.hid (EqualO (HIa.out.later HB9.out) (HU0.out.later (below_of HB6.out HB9.out))))
                  | (go_at_call 21; (with_reducible refine HQ9.out.mono ?_); rintro e w10 ⟨rfl, hb10⟩; have q10 := lay_later hb10 q9; have e10 := lay_later hb10 e9; have f10 := lay_later hb10 f9; have HB10 := Lib.hid (below_of HB9.out hb10); have HQ10 := Lib.hid (EqualO (HIb.out.later HB10.out) (HV0.out.later (below_of HB6.out HB10.out))); clear hb10)
                  | (go_at_call 21; (with_reducible refine HQ10.out.mono ?_); rintro e w11 ⟨rfl, hb11⟩; have q11 := lay_later hb11 q10; have e11 := lay_later hb11 e10; have f11 := lay_later hb11 f10; have HB11 := Lib.hid (below_of HB10.out hb11); clear hb11))
              all_goals
                go_wp2_with fail
                go_meet
                exact ⟨rfl, rfl, HB11⟩
          case rest =>
            obtain ⟨rfl, rfl, hB7⟩ := hcut
            generalize wc = w7 at *
            have HM7 := Lib.hid (HM6.out.below hB7.out)
            have HR7 := Lib.hid (HR6.out.below hB7.out)
            have HB7 := Lib.hid (below_of HB6.out hB7.out)
            have d4 := lay_later hB7.out (HC6.out 4 _ rfl)
            have HG := Lib.hid (Get_mp k.fr HM7.out)
            have HG2 := Lib.hid (fun (W : World) (h : Mr W x M) => RGet k.fr h (by have := HM1000.out; omega))
            unfold GetP at HG HG2
            generalize val1 M k.fr = gv at *
            generalize hasB M k.fr = gb at *
            have hvv : (gv.toList == gv.toList) = true := by simp
            clear q0
            go_wp2_with fail
            go_fit HG.out
            rintro e w8 ⟨rfl, hb8⟩
            have d4 := lay_later hb8 d4
            have HM8 := Lib.hid (HM7.out.below hb8)
            have HG8 := Lib.hid (HG2.out w8 (HR7.out.below hb8))
            have HR8 := Lib.hid (HR7.out.below hb8)
            have HB8 := Lib.hid (below_of HB7.out hb8)
            clear hb8
            go_wp2_with fail
            go_fit HG8.out
            rintro e w9 ⟨rfl, hb9⟩
            have HM9 := Lib.hid (HM8.out.below hb9)
            have HR9 := Lib.hid (HR8.out.below hb9)
            have HB9 := Lib.hid (below_of HB8.out hb9)
            clear hb9 d4
            have HMi : Hid (M.length ≤ 24 + (i + 1)) := HML.out
            have hgg : (gb != gb) = false := by cases gb <;> rfl
            go_wp2_with fail
            exact ⟨⟨i + 1, M, by simp, hlt, HMi, HM9, HR9, HB9⟩, by show l.length - ((i : Int) + 1).toNat < l.length - ((i : Int)).toNat; omega⟩
    ·
      obtain rfl : i = l.length := by omega
      go_wp2_with fail
      go_fit (awake_any _)
      rintro e wz ⟨rfl, hbz⟩
      have HZ := Lib.hid (below_of hB.out hbz)
      clear hbz
      go_wp2_with fail
      go_ret
      exact ⟨rfl, HZ.out⟩
end Go.Proofs.Ytdfjnpnkfjcpcaa
