/-
  KvTwins: the walk. A map and its clone know nothing of one another. (Written by genkv.py.)
-/
import Derived.Test.YtenjniieohmniaaK11
namespace Go.Proofs.Ytenjniieohmniaa
set_option linter.unusedVariables false
set_option linter.unusedSimpArgs false
open Go.RowKit

set_option maxRecDepth 100000 in
set_option maxHeartbeats 12800000 in
theorem Twins_any {w : World} (l : List Kd) {v0 : Value} (h0 : KdsIn w v0 l) (one : List Kd) {v1 : Value} (h1 : KdsIn w v1 one) (two : List Kd) {v2 : Value} (h2 : KdsIn w v2 two) :
    Calls Try.prog 11 #[v0, v1, v2] w (Yes w) := by
  obtain ⟨a0, c0, rfl⟩ := h0.slice
  obtain ⟨a1, c1, rfl⟩ := h1.slice
  obtain ⟨a2, c2, rfl⟩ := h2.slice
  have HK0 := Lib.hid h0
  have HK1 := Lib.hid h1
  have HK2 := Lib.hid h2
  clear h0 h1 h2
  go_enter Try.func11, Try.ntmps11
  go_wp2_with fail
  go_fit (short_any HK0.out)
  rintro e w1 ⟨sb, rfl, hsb, hq⟩
  have HB1 : Hid (Below w.heap.size w w1) := by obtain ⟨m, rfl⟩ := hq; exact below_drewN (Below.refl _ _) _
  cases sb
  · clear hsb hq
    go_wp2_with fail
    go_fit (awake_any _)
    rintro e wz ⟨rfl, hbz⟩
    have HZ := Lib.hid (below_of HB1.out hbz)
    clear hbz
    go_wp2_with fail
    go_ret
    exact ⟨rfl, HZ.out⟩
  obtain ⟨hl, ho⟩ := hsb rfl
  have HL1 := Lib.hid hl
  have HO1 := Lib.hid ho
  clear hsb hq hl ho
  go_wp2_with fail
  go_fit (short_any (HK1.out.later HB1.out))
  rintro e w2 ⟨sb, rfl, hsb, hq⟩
  have HB2 : Hid (Below w.heap.size w w2) := by obtain ⟨m, rfl⟩ := hq; exact below_drewN HB1.out _
  cases sb
  · clear hsb hq
    go_wp2_with fail
    go_fit (awake_any _)
    rintro e wz ⟨rfl, hbz⟩
    have HZ := Lib.hid (below_of HB2.out hbz)
    clear hbz
    go_wp2_with fail
    go_ret
    exact ⟨rfl, HZ.out⟩
  obtain ⟨hl, ho⟩ := hsb rfl
  have HL2 := Lib.hid hl
  have HO2 := Lib.hid ho
  clear hsb hq hl ho
  go_wp2_with fail
  go_fit (short_any (HK2.out.later HB2.out))
  rintro e w3 ⟨sb, rfl, hsb, hq⟩
  have HB3 : Hid (Below w.heap.size w w3) := by obtain ⟨m, rfl⟩ := hq; exact below_drewN HB2.out _
  cases sb
  · clear hsb hq
    go_wp2_with fail
    go_fit (awake_any _)
    rintro e wz ⟨rfl, hbz⟩
    have HZ := Lib.hid (below_of HB3.out hbz)
    clear hbz
    go_wp2_with fail
    go_ret
    exact ⟨rfl, HZ.out⟩
  obtain ⟨hl, ho⟩ := hsb rfl
  have HL3 := Lib.hid hl
  have HO3 := Lib.hid ho
  clear hsb hq hl ho
  go_wp2_with fail
  go_fit (made_any (HK0.out.later HB3.out) HL1.out HO1.out)
  rintro e w4 ⟨b, u, rfl, hms⟩
  have HM4 := Lib.hid hms.map
  have HB4 := Lib.hid (below_of HB3.out hms.below)
  have HLo : Hid (w.heap.size ≤ b) := Nat.le_trans HB3.out.size hms.lo
  have HLn : Hid ((mades l).1.length ≤ 600) := by show _ ≤ _; have h := (mades_len l l.length).1; rw [List.take_length] at h; have := HL1.out; omega
  obtain ⟨ra, rc, rfl⟩ := row_slice1 hms.row
  have HMd := Lib.hid (fun W (hb : Below w.heap.size w W) => made_any (HK0.out.later hb) HL1.out HO1.out)
  clear hms
  generalize hs : mades l = s at *
  have HSs := Lib.hid hs
  clear hs
  go_wp2_with fail
  go_fit (Clone_mp HM4.out)
  rintro e w5 ⟨c, rfl, hlo, hm, hb⟩
  have HC5 := Lib.hid hm
  have HM5 := Lib.hid (HM4.out.below hb)
  have HB5 := Lib.hid (below_of HB4.out hb)
  have HLc : Hid (w.heap.size ≤ c) := Nat.le_trans HB4.out.size hlo
  have HNe : Hid (c ≠ b) := fun e => by have := HM4.out.lt; omega
  clear hlo hm hb HM4
  go_wp2_with fail
  go_loopw [39] (fun v wr => ∃ (i : Nat) (M : List Pr), v = .int .i64 i ∧ i ≤ one.length ∧ M.length ≤ 600 + 6 * i ∧ Hid (Mp wr b M) ∧ Hid (Mp wr c s.1) ∧ Hid (Below w.heap.size w wr))
    (fun v _ => one.length - (intOf v).toNat)
  case atStart => exact ⟨0, s.1, rfl, Nat.zero_le _, HLn.out, HM5, HC5, HB5⟩
  case round =>
    obtain ⟨i, M, rfl, hin, hML, hM, hC, hB⟩ := hrel
    have HL2' := HL2.out
    have ei : IntKind.i64.wrap ((i : Int) + 1) = (i : Int) + 1 := IntWalk.i64_in _ (by omega)
    by_cases hlt : i < one.length
    ·
      obtain ⟨k, hk⟩ : ∃ k, one[i]? = some k := ⟨one[i], List.getElem?_eq_getElem hlt⟩
      obtain ⟨g, off, rfl, hat⟩ := HK1.out.at hk
      obtain ⟨u, v, h0, h1, h2, h3, h4, h5, h6, h7, h8, h9, h10, h11, hu0, hv0⟩ := hat
      have h0 := lay_later hB.out h0
      have h1 := lay_later hB.out h1
      have h2 := lay_later hB.out h2
      have h3 := lay_later hB.out h3
      have h4 := lay_later hB.out h4
      have h5 := lay_later hB.out h5
      have h6 := lay_later hB.out h6
      have h7 := lay_later hB.out h7
      have h8 := lay_later hB.out h8
      have h9 := lay_later hB.out h9
      have h10 := lay_later hB.out h10
      have h11 := lay_later hB.out h11
      have hu := hu0.later hB.out
      have hv := hv0.later hB.out
      have HU0 := Lib.hid hu0
      have HV0 := Lib.hid hv0
      clear hu0 hv0
      have hI1 : (i : Int) < ((one.length : Nat) : Int) := by omega
      have hI0 : (0 : Int) ≤ (i : Int) := by omega
      obtain ⟨ua, uc, rfl, _, _⟩ := hu.slice
      obtain ⟨va, vc, rfl, _, _⟩ := hv.slice
      have hA := lay_alloc wr (.cells #[.int .i64 k.op, .int .i64 k.pos, .slice ua k.conds.length uc, .slice va k.ops.length vc, .string k.fr, .string k.to, .int .i64 k.ev.pos, .string k.ev.key, .bool k.ev.had, .string k.ev.old, .bool k.ev.has, .string k.ev.now] 34)
      obtain ⟨oc, oo⟩ := HO2.out k (List.mem_of_getElem? hk)
      have HDo := Lib.hid (Do_mp k.pos (hM.out.below hA) (hu.later hA) (hv.later hA) oc.2 oo.2 (by omega) (by omega) (by omega))
      have HCA := Lib.hid (hC.out.below hA)
      have HMA := Lib.hid (hM.out.below hA).mb
      have HBA := Lib.hid (below_of hB.out hA)
      have HLd : Hid ((doo M k.pos k.conds k.ops).length ≤ 600 + 6 * (i + 1)) := by show _ ≤ _; have := doo_len M k.pos k.conds k.ops; omega
      clear hA hk oc oo hu hv hM hC hB
      go_wp2_with fail
      go_fit HDo.out
      rintro e w6 ⟨v6, rfl, hrow, hm, hg⟩
      have HM6 := Lib.hid hm
      have HC6 := Lib.hid (HCA.out.other hg HMA.out HNe.out)
      have HB6 := Lib.hid (grown_below1 hg HBA.out HLo.out)
      obtain ⟨v6a, v6c, rfl⟩ := row_slice1 hrow
      clear hrow hm hg HDo HCA HMA HBA h0 h1 h2 h3 h4 h5 h6 h7 h8 h9 h10 h11
      go_wp2_with fail
      exact ⟨⟨i + 1, _, by simp, hlt, HLd.out, HM6, HC6, HB6⟩, by show one.length - ((i : Int) + 1).toNat < one.length - ((i : Int)).toNat; omega⟩
    · obtain rfl : i = one.length := by omega
      go_wp2_with fail
      have HMd' := Lib.hid (HMd.out wr hB.out)
      go_fit HMd'.out
      rintro e w7 ⟨d, u7, rfl, hms⟩
      have HD7 : Hid (Mp w7 d s.1) := by show Mp _ _ _; have h := hms.map; rw [HSs.out] at h; exact h
      have HC7 := Lib.hid (hC.out.below hms.below)
      have HB7 := Lib.hid (below_of hB.out hms.below)
      have HLd0 : Hid (w.heap.size ≤ d) := Nat.le_trans hB.out.size hms.lo
      have HNd : Hid (c ≠ d) := fun e => by have := hC.out.lt; have := hms.lo; omega
      obtain ⟨r7a, r7c, rfl⟩ := row_slice1 hms.row
      have HLn2 := Lib.hid HLn.out
      clear hms HMd' HMd hM hC hB
      go_wp2_with fail
      go_loopw [59] (fun v wr => ∃ (i : Nat) (M : List Pr), v = .int .i64 i ∧ i ≤ two.length ∧ M.length ≤ 600 + 6 * i ∧ Hid (Mp wr c M) ∧ Hid (Mp wr d M) ∧ Hid (Below w.heap.size w wr))
        (fun v _ => two.length - (intOf v).toNat)
      case atStart => exact ⟨0, s.1, rfl, Nat.zero_le _, HLn2.out, HC7, HD7, HB7⟩
      case round =>
        obtain ⟨i, M, rfl, hin, hML, hC, hD, hB⟩ := hrel
        have HL3' := HL3.out
        have ei : IntKind.i64.wrap ((i : Int) + 1) = (i : Int) + 1 := IntWalk.i64_in _ (by omega)
        by_cases hlt : i < two.length
        ·
          obtain ⟨k, hk⟩ : ∃ k, two[i]? = some k := ⟨two[i], List.getElem?_eq_getElem hlt⟩
          obtain ⟨g, off, rfl, hat⟩ := HK2.out.at hk
          obtain ⟨u, v, h0, h1, h2, h3, h4, h5, h6, h7, h8, h9, h10, h11, hu0, hv0⟩ := hat
          have h0 := lay_later hB.out h0
          have h1 := lay_later hB.out h1
          have h2 := lay_later hB.out h2
          have h3 := lay_later hB.out h3
          have h4 := lay_later hB.out h4
          have h5 := lay_later hB.out h5
          have h6 := lay_later hB.out h6
          have h7 := lay_later hB.out h7
          have h8 := lay_later hB.out h8
          have h9 := lay_later hB.out h9
          have h10 := lay_later hB.out h10
          have h11 := lay_later hB.out h11
          have hu := hu0.later hB.out
          have hv := hv0.later hB.out
          have HU0 := Lib.hid hu0
          have HV0 := Lib.hid hv0
          clear hu0 hv0
          have hI1 : (i : Int) < ((two.length : Nat) : Int) := by omega
          have hI0 : (0 : Int) ≤ (i : Int) := by omega
          obtain ⟨ua, uc, rfl, _, _⟩ := hu.slice
          obtain ⟨va, vc, rfl, _, _⟩ := hv.slice
          have hA := lay_alloc wr (.cells #[.int .i64 k.op, .int .i64 k.pos, .slice ua k.conds.length uc, .slice va k.ops.length vc, .string k.fr, .string k.to, .int .i64 k.ev.pos, .string k.ev.key, .bool k.ev.had, .string k.ev.old, .bool k.ev.has, .string k.ev.now] 34)
          obtain ⟨oc, oo⟩ := HO3.out k (List.mem_of_getElem? hk)
          have HU := Lib.hid (hu.later hA)
          have HV := Lib.hid (hv.later hA)
          have HCells := Lib.hid (kd_box wr #[.int .i64 k.op, .int .i64 k.pos, .slice ua k.conds.length uc, .slice va k.ops.length vc, .string k.fr, .string k.to, .int .i64 k.ev.pos, .string k.ev.key, .bool k.ev.had, .string k.ev.old, .bool k.ev.has, .string k.ev.now] 34)
          have HDo := Lib.hid (Do_mp k.pos (hC.out.below hA) HU.out HV.out oc.2 oo.2 (by omega) (by omega) (by omega))
          have HDA := Lib.hid (hD.out.below hA)
          have HMA := Lib.hid (hC.out.below hA).mb
          have HBA := Lib.hid (below_of hB.out hA)
          have HLd : Hid ((doo M k.pos k.conds k.ops).length ≤ 600 + 6 * (i + 1)) := by show _ ≤ _; have := doo_len M k.pos k.conds k.ops; omega
          have HOc := Lib.hid oc
          have HOo := Lib.hid oo
          have hM1 : M.length ≤ 1000000 := by omega
          have HM1 := Lib.hid hM1
          have HLow : Hid (∀ j, j < wr.heap.size + 1 → True) := fun _ _ => trivial
          clear hA hk oc oo hu hv hC hD hB hM1
          go_wp2_with fail
          go_fit HDo.out
          rintro e w8 ⟨v8, rfl, hrow, hm, hg⟩
          have HC8 := Lib.hid hm
          have HD8 := Lib.hid (HDA.out.other hg HMA.out (Ne.symm HNd.out))
          have HB8 := Lib.hid (grown_below1 hg HBA.out HLc.out)
          obtain ⟨v8a, v8c, rfl⟩ := row_slice1 hrow
          have hcl : c < (wr.alloc (.cells #[.int .i64 k.op, .int .i64 k.pos, .slice ua k.conds.length uc, .slice va k.ops.length vc, .string k.fr, .string k.to, .int .i64 k.ev.pos, .string k.ev.key, .bool k.ev.had, .string k.ev.old, .bool k.ev.has, .string k.ev.now] 34)).heap.size := HMA.out.lt
          have hcw : c < wr.heap.size ∨ c = wr.heap.size := by simp at hcl; omega
          have hnw : c ≠ wr.heap.size := fun e => by obtain ⟨cs, hcs⟩ := HMA.out; rw [e, Go.heap_alloc_new] at hcs; simp at hcs
          have HU8 := Lib.hid (HU0.out.later HB8.out)
          have HV8 := Lib.hid (HV0.out.later HB8.out)
          have q1 := hg.cell (HCells.out 1 _ rfl) (by simp; exact Ne.symm hnw)
          have q2 := hg.cell (HCells.out 2 _ rfl) (by simp; exact Ne.symm hnw)
          have q3 := hg.cell (HCells.out 3 _ rfl) (by simp; exact Ne.symm hnw)
          have HDo2 := Lib.hid (Do_mp k.pos HD8.out HU8.out HV8.out HOc.out.2 HOo.out.2 (by have := HOc.out.1; omega) (by have := HOo.out.1; omega) HM1.out)
          have HMC8 := Lib.hid hm.mb
          have HMD8 := Lib.hid HD8.out.mb
          clear hrow hm hg HDo HDA HMA HBA hcl hcw hnw h0 h1 h2 h3 h4 h5 h6 h7 h8 h9 h10 h11
          go_wp2_with fail
          go_fit HDo2.out
          rintro e w9 ⟨v9, rfl, hrow, hm, hg⟩
          have HD9 := Lib.hid hm
          have HC9 := Lib.hid (HC8.out.other hg HMD8.out HNd.out)
          have HB9 := Lib.hid (grown_below1 hg HB8.out HLd0.out)
          obtain ⟨v9a, v9c, rfl⟩ := row_slice1 hrow
          clear hrow hm hg HDo2 HC8 HD8 HB8 q1 q2 q3
          go_wp2_with fail
          exact ⟨⟨i + 1, _, by simp, hlt, HLd.out, HC9, HD9, HB9⟩, by show two.length - ((i : Int) + 1).toNat < two.length - ((i : Int)).toNat; omega⟩
        · obtain rfl : i = two.length := by omega
          have hM1 : M.length ≤ 1000000 := by omega
          have HM1 := Lib.hid hM1
          clear hM1
          go_wp2_with fail
          go_fit (Scan_mp ByteArray.empty ByteArray.empty hC.out HM1.out)
          rintro e w8 ⟨v8, rfl, hr8⟩
          have HR8 := Lib.hid hr8.told
          have HD8 := Lib.hid (hD.out.below hr8.grown)
          have HC8 := Lib.hid (hC.out.below hr8.grown)
          have HB8 := Lib.hid (below_of hB.out hr8.grown)
          obtain ⟨v8a, v8c, rfl, _, _⟩ := hr8.slice
          clear hr8
          go_wp2_with fail
          go_fit (Scan_mp ByteArray.empty ByteArray.empty HD8.out HM1.out)
          rintro e w9 ⟨v9, rfl, hr9⟩
          have HE := Lib.hid (EqualO (HR8.out.later hr9.grown) hr9.told)
          have HD9 := Lib.hid (HD8.out.below hr9.grown)
          have HC9 := Lib.hid (HC8.out.below hr9.grown)
          have HB9 := Lib.hid (below_of HB8.out hr9.grown)
          obtain ⟨v9a, v9c, rfl, _, _⟩ := hr9.slice
          clear hr9
          go_wp2_with fail
          go_fit HE.out
          rintro e w10 ⟨rfl, hb10⟩
          have HC10 := Lib.hid (Len_mp (HC9.out.below hb10))
          have HD10 := Lib.hid (Len_mp (HD9.out.below hb10))
          have HB10 := Lib.hid (below_of HB9.out hb10)
          clear hb10 HE
          go_wp2_with fail
          go_fit HC10.out
          rintro e w' ⟨rfl, rfl⟩
          go_wp2_with fail
          go_fit HD10.out
          rintro e w' ⟨rfl, rfl⟩
          go_wp2_with fail
          go_fit (awake_any _)
          rintro e wz ⟨rfl, hbz⟩
          have HZ := Lib.hid (below_of HB10.out hbz)
          clear hbz
          go_wp2_with fail
          go_ret
          exact ⟨rfl, HZ.out⟩
end Go.Proofs.Ytenjniieohmniaa
