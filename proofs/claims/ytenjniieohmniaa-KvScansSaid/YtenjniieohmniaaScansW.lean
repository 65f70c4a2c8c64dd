/-
  KvScans: the walk. A scan of a stretch is that of its two parts. (Written by genkv.py.)
-/
import Derived.Test.YtenjniieohmniaaK15
import Derived.Test.YtenjniieohmniaaK11
namespace Go.Proofs.Ytenjniieohmniaa
set_option linter.unusedVariables false
set_option linter.unusedSimpArgs false
open Go.RowKit

set_option maxRecDepth 100000 in
set_option maxHeartbeats 12800000 in
theorem Scans_any {w : World} (l : List Kd) {v0 : Value} (h0 : KdsIn w v0 l) (fr mid to : ByteArray) (z0 : fr.size ≤ 140737488355328) (z1 : mid.size ≤ 140737488355328) : Calls Try.prog 9 #[v0, .string fr, .string mid, .string to] w (Yes w) := by
  obtain ⟨a0, c0, rfl⟩ := h0.slice
  have HK0 := Lib.hid h0
  clear h0
  have es : IntKind.i64.wrap ((fr.size : Int) + (mid.size : Int)) = (fr.size : Int) + (mid.size : Int) := IntWalk.i64_in _ (by omega)
  by_cases hz1 : fr.size + mid.size ≤ 32768
  ·
    have g1 : ¬ (32768 : Int) < (fr.size : Int) + (mid.size : Int) := by omega
    by_cases hz2 : to.size ≤ 32768
    ·
      have g2 : ¬ (32768 : Int) < (to.size : Int) := by omega
      clear hz1 hz2 z0 z1
      go_enter Try.func9, Try.ntmps9
      go_wp2_with fail
      go_fit (short_any HK0.out)
      rintro e w1 ⟨sb, rfl, hsb, hq⟩
      have HB1 : Hid (Below w.heap.size w w1) := by obtain ⟨m, rfl⟩ := hq; exact below_drewN (Below.refl _ _) _
      cases sb
      · clear hsb hq
        go_wp2_with fail
        go_fit (awake_any _)
        rintro e wz ⟨rfl, hbz⟩
        have HZ := Lib.hid (below_of HB1.out hbz)
        clear hbz
        go_wp2_with fail
        go_ret
        exact ⟨rfl, HZ.out⟩
      obtain ⟨hl, ho⟩ := hsb rfl
      have HL1 := Lib.hid hl
      have HO1 := Lib.hid ho
      clear hsb hq hl ho
      go_wp2_with fail
      clear g1 g2 es
      go_fit (made_any (HK0.out.later HB1.out) HL1.out HO1.out)
      rintro e w4 ⟨b, u, rfl, hms⟩
      obtain ⟨ht, hch, hso⟩ := mades_told l
      have hl1 := mades_24 l
      have hrow := hms.row
      have hmap := hms.map
      have hbel := hms.below
      generalize mades l = s at *
      obtain ⟨L, es⟩ := s
      have HSo := Lib.hid hso
      have HL : Hid (L.length ≤ 1000000) := by show _ ≤ _; simp only at hl1; omega
      have HL2 : Hid (L.length ≤ 24) := hl1
      have HM4 := Lib.hid hmap
      have HB4 := Lib.hid (below_of HB1.out hbel)
      obtain ⟨ra, rc, hru⟩ := row_slice1 hrow
      subst hru
      clear hms ht hch hso hl1 hrow hmap hbel
      by_cases hm0 : mid = ByteArray.empty
      ·
        have q1 : mid.toList.isEmpty = true := by rw [ba_emp]; simpa using hm0
        have q2 : mid.toList = [] := by rw [hm0, emp_toList]
        clear hm0
        go_wp2_with fail
        go_fit (awake_any _)
        rintro e wz ⟨rfl, hbz⟩
        have HZ := Lib.hid (below_of HB4.out hbz)
        clear hbz
        go_wp2_with fail
        go_ret
        exact ⟨rfl, HZ.out⟩
      have q1 : mid.toList.isEmpty = false := by rw [ba_emp]; simpa using hm0
      have q2 : ¬ mid.toList = [] := fun h => hm0 (ba_inj (by rw [h, emp_toList]))
      have Hm0 := Lib.hid hm0
      clear hm0
      cases hlf : klt mid fr with
      | true =>
        have q3 : Go.Op.bytesLess mid.toList fr.toList = true := hlf
        clear hlf
        go_wp2_with fail
        go_fit (awake_any _)
        rintro e wz ⟨rfl, hbz⟩
        have HZ := Lib.hid (below_of HB4.out hbz)
        clear hbz
        go_wp2_with fail
        go_ret
        exact ⟨rfl, HZ.out⟩
      | false =>
        have q3 : Go.Op.bytesLess mid.toList fr.toList = false := hlf
        have Hlf := Lib.hid hlf
        clear hlf
        by_cases ht0 : to = ByteArray.empty
        ·
          have q4 : to.toList.isEmpty = true := by rw [ba_emp]; simpa using ht0
          have q5 : to.toList = [] := by rw [ht0, emp_toList]
          have HSp := Lib.hid (scO_split HSo.out Hm0.out Hlf.out (.inl ht0))
          have Ht0 := Lib.hid ht0
          clear ht0
          go_wp2_with fail
          go_fit (Scan_mp fr to HM4.out HL.out)
          rintro e w5 ⟨v5, rfl, hr5⟩
          have HAt := Lib.hid (fun (o : Kop) (h : o ∈ scO L fr to) => scO_at HSo.out h)
          have HLen : Hid ((scO L fr to).length ≤ 24) := by show _ ≤ _; unfold scO; rw [List.length_map]; exact Nat.le_trans (List.length_filter_le _ _) HL2.out
          have HR5 := Lib.hid hr5.told
          have HM5 := Lib.hid (HM4.out.below hr5.grown)
          have HB5 := Lib.hid (below_of HB4.out hr5.grown)
          obtain ⟨v5a, v5c, rfl, _, _⟩ := hr5.slice
          generalize hall : scO L fr to = all at *
          have HAl := Lib.hid hall
          clear hr5 hall HM4 HB4
          go_wp2_with fail
          go_loopw [61] (fun v wr => ∃ (i : Nat), v = .int .i64 i ∧ i ≤ all.length ∧ Hid (Mp wr b L) ∧ Hid (opL.In wr (.slice v5a all.length v5c) all) ∧ Hid (Below w.heap.size w wr))
            (fun v _ => all.length - (intOf v).toNat)
          case atStart => exact ⟨0, rfl, Nat.zero_le _, HM5, HR5, HB5⟩
          case round =>
            obtain ⟨i, rfl, hin, hM, hR, hB⟩ := hrel
            have hln := HLen.out
            have ei : IntKind.i64.wrap ((i : Int) + 1) = (i : Int) + 1 := IntWalk.i64_in _ (by omega)
            by_cases hlt : i < all.length
            ·
              obtain ⟨o, ho⟩ : ∃ o, all[i]? = some o := ⟨all[i], List.getElem?_eq_getElem hlt⟩
              obtain ⟨f1, f2, f3, f4, f5⟩ := HAt.out o (List.mem_of_getElem? ho)
              obtain ⟨g, off, rfl, _, hcell⟩ := hR.out.cells ho
              obtain ⟨key, has, val⟩ := o
              simp only at f1 f2 f3 f4 f5
              subst f3
              have c0 : wr.cell? ⟨g, off + i * 3, none⟩ = some (.string key) := hcell 0 _ rfl
              have c1 : wr.cell? ⟨g, off + i * 3 + 1, none⟩ = some (.bool true) := hcell 1 _ rfl
              have c2 : wr.cell? ⟨g, off + i * 3 + 2, none⟩ = some (.string val) := hcell 2 _ rfl
              have hI1 : (i : Int) < ((all.length : Nat) : Int) := by omega
              have hI0 : (0 : Int) ≤ (i : Int) := by omega
              have hA := lay_alloc wr (.cells #[.string key, .bool true, .string val] 37)
              have hG := Get_mp key (hM.out.below hA)
              unfold GetP at hG
              rw [f1, f2] at hG
              have HG := Lib.hid hG
              have HCells := Lib.hid (kd_box wr #[.string key, .bool true, .string val] 37)
              have HMA := Lib.hid (hM.out.below hA)
              have HRA := Lib.hid (hR.out.later hA)
              have HBA := Lib.hid (below_of hB.out hA)
              have p1 : Go.Op.bytesLess key.toList fr.toList = false := f4
              have hvv : (val.toList == val.toList) = true := by rw [ba_eq]; simp
              clear hcell ho hM hR hB hA hG f1 f2 f4 f5
              go_wp2_with fail
              go_fit HG.out
              rintro e w6 ⟨rfl, hb6⟩
              have HM6 := Lib.hid (HMA.out.below hb6)
              have HR6 := Lib.hid (HRA.out.later hb6)
              have HB6 := Lib.hid (below_of HBA.out hb6)
              have d0 := lay_later hb6 (HCells.out 0 _ rfl)
              have d1 := lay_later hb6 (HCells.out 1 _ rfl)
              have d2 := lay_later hb6 (HCells.out 2 _ rfl)
              clear hb6 HG HMA HRA HBA HCells c0 c1 c2
              go_wp2_with fail
              exact ⟨⟨i + 1, by simp, hlt, HM6, HR6, HB6⟩, by show all.length - ((i : Int) + 1).toNat < all.length - ((i : Int)).toNat; omega⟩
            · obtain rfl : i = all.length := by omega
              by_cases hft : fr = to
              ·
                have r2 : fr.toList = [] := by rw [hft]; exact q5
                have r1 : (fr.toList == to.toList) = true := by rw [ba_eq]; simpa using hft
                clear hft
                clear ei hlt hin hln
                go_wp2_with fail
                go_fit (Scan_mp fr mid hM.out HL.out)
                rintro e w7 ⟨v7, rfl, hr7⟩
                have HR7 := Lib.hid hr7.told
                have HA7 := Lib.hid (hR.out.later hr7.grown)
                have HM7 := Lib.hid (hM.out.below hr7.grown)
                have HB7 := Lib.hid (below_of hB.out hr7.grown)
                obtain ⟨v7a, v7c, rfl, _, _⟩ := hr7.slice
                clear hr7 hM hR hB
                go_wp2_with fail
                go_fit (Scan_mp mid to HM7.out HL.out)
                rintro e w8 ⟨v8, rfl, hr8⟩
                have HR8 := Lib.hid hr8.told
                have HR78 := Lib.hid (HR7.out.later hr8.grown)
                have HA8 := Lib.hid (HA7.out.later hr8.grown)
                have HM8 := Lib.hid (HM7.out.below hr8.grown)
                have HB8 := Lib.hid (below_of HB7.out hr8.grown)
                obtain ⟨v8a, v8c, rfl, _, _⟩ := hr8.slice
                have HP1 : Hid ((scO L fr mid).length ≤ 100000) := by show _ ≤ _; unfold scO; rw [List.length_map]; exact Nat.le_trans (List.length_filter_le _ _) (Nat.le_trans HL2.out (by decide))
                have HP2 : Hid ((scO L mid to).length ≤ 100000) := by show _ ≤ _; unfold scO; rw [List.length_map]; exact Nat.le_trans (List.length_filter_le _ _) (Nat.le_trans HL2.out (by decide))
                generalize scO L fr mid = xs at *
                generalize scO L mid to = ys at *
                have HE0 : Hid (all = xs ++ ys) := HSp
                clear hr8 HSp HAl
                have hA := lay_alloc w8 (.cells #[.slice v7a xs.length v7c, .slice v8a ys.length v8c] 28)
                have HC := Lib.hid (Concat_two (kd_box w8 #[.slice v7a xs.length v7c, .slice v8a ys.length v8c] 28 0 _ rfl) (kd_box w8 #[.slice v7a xs.length v7c, .slice v8a ys.length v8c] 28 1 _ rfl) (HR78.out.later hA) (HR8.out.later hA) HP1.out HP2.out)
                have HA9 := Lib.hid (HA8.out.later hA)
                have HB9 := Lib.hid (below_of HB8.out hA)
                clear hA HM8 HA8 HB8
                go_wp2_with fail
                go_fit HC.out
                rintro e w9 ⟨v9, rfl, hr9⟩
                have HB10 := Lib.hid (below_of HB9.out hr9.grown)
                obtain ⟨v9a, v9c, rfl, _, _⟩ := hr9.slice
                have ht9 := hr9.told
                have HE : Hid (Calls Try.prog 21 #[.slice v5a all.length v5c, .slice v9a (xs.length + ys.length) v9c] w9 (Yes w9)) := by show Calls _ _ _ _ _; rw [List.length_append] at ht9; exact EqualO (HA9.out.later hr9.grown) (by rw [HE0.out]; exact ht9)
                clear hr9 ht9 HC HE0
                go_wp2_with fail
                go_fit HE.out
                rintro e w10 ⟨rfl, hb10⟩
                have HB11 := Lib.hid (below_of HB10.out hb10)
                clear hb10 HE
                go_wp2_with fail
                go_fit (awake_any _)
                rintro e wz ⟨rfl, hbz⟩
                have HZ := Lib.hid (below_of HB11.out hbz)
                clear hbz
                go_wp2_with fail
                go_ret
                exact ⟨rfl, HZ.out⟩
              ·
                have r1 : (fr.toList == to.toList) = false := by rw [ba_eq]; simpa using hft
                have r2 : ¬ fr.toList = [] := fun e => hft (ba_inj (e.trans q5.symm))
                clear hft
                clear ei hlt hin hln
                go_wp2_with fail
                go_fit (Scan_mp fr mid hM.out HL.out)
                rintro e w7 ⟨v7, rfl, hr7⟩
                have HR7 := Lib.hid hr7.told
                have HA7 := Lib.hid (hR.out.later hr7.grown)
                have HM7 := Lib.hid (hM.out.below hr7.grown)
                have HB7 := Lib.hid (below_of hB.out hr7.grown)
                obtain ⟨v7a, v7c, rfl, _, _⟩ := hr7.slice
                clear hr7 hM hR hB
                go_wp2_with fail
                go_fit (Scan_mp mid to HM7.out HL.out)
                rintro e w8 ⟨v8, rfl, hr8⟩
                have HR8 := Lib.hid hr8.told
                have HR78 := Lib.hid (HR7.out.later hr8.grown)
                have HA8 := Lib.hid (HA7.out.later hr8.grown)
                have HM8 := Lib.hid (HM7.out.below hr8.grown)
                have HB8 := Lib.hid (below_of HB7.out hr8.grown)
                obtain ⟨v8a, v8c, rfl, _, _⟩ := hr8.slice
                have HP1 : Hid ((scO L fr mid).length ≤ 100000) := by show _ ≤ _; unfold scO; rw [List.length_map]; exact Nat.le_trans (List.length_filter_le _ _) (Nat.le_trans HL2.out (by decide))
                have HP2 : Hid ((scO L mid to).length ≤ 100000) := by show _ ≤ _; unfold scO; rw [List.length_map]; exact Nat.le_trans (List.length_filter_le _ _) (Nat.le_trans HL2.out (by decide))
                generalize scO L fr mid = xs at *
                generalize scO L mid to = ys at *
                have HE0 : Hid (all = xs ++ ys) := HSp
                clear hr8 HSp HAl
                have hA := lay_alloc w8 (.cells #[.slice v7a xs.length v7c, .slice v8a ys.length v8c] 28)
                have HC := Lib.hid (Concat_two (kd_box w8 #[.slice v7a xs.length v7c, .slice v8a ys.length v8c] 28 0 _ rfl) (kd_box w8 #[.slice v7a xs.length v7c, .slice v8a ys.length v8c] 28 1 _ rfl) (HR78.out.later hA) (HR8.out.later hA) HP1.out HP2.out)
                have HA9 := Lib.hid (HA8.out.later hA)
                have HB9 := Lib.hid (below_of HB8.out hA)
                clear hA HM8 HA8 HB8
                go_wp2_with fail
                go_fit HC.out
                rintro e w9 ⟨v9, rfl, hr9⟩
                have HB10 := Lib.hid (below_of HB9.out hr9.grown)
                obtain ⟨v9a, v9c, rfl, _, _⟩ := hr9.slice
                have ht9 := hr9.told
                have HE : Hid (Calls Try.prog 21 #[.slice v5a all.length v5c, .slice v9a (xs.length + ys.length) v9c] w9 (Yes w9)) := by show Calls _ _ _ _ _; rw [List.length_append] at ht9; exact EqualO (HA9.out.later hr9.grown) (by rw [HE0.out]; exact ht9)
                clear hr9 ht9 HC HE0
                go_wp2_with fail
                go_fit HE.out
                rintro e w10 ⟨rfl, hb10⟩
                have HB11 := Lib.hid (below_of HB10.out hb10)
                clear hb10 HE
                go_wp2_with fail
                go_fit (awake_any _)
                rintro e wz ⟨rfl, hbz⟩
                have HZ := Lib.hid (below_of HB11.out hbz)
                clear hbz
                go_wp2_with fail
                go_ret
                exact ⟨rfl, HZ.out⟩
        ·
          have q4 : to.toList.isEmpty = false := by rw [ba_emp]; simpa using ht0
          have q5 : ¬ to.toList = [] := fun h => ht0 (ba_inj (by rw [h, emp_toList]))
          have Ht0 := Lib.hid ht0
          clear ht0
          cases hlt0 : klt to mid with
          | true =>
            have q6 : Go.Op.bytesLess to.toList mid.toList = true := hlt0
            have q7 : Go.Op.bytesLess mid.toList to.toList = false := klt_asym hlt0
            have q8 : (mid.toList == to.toList) = false := by rw [ba_eq]; exact decide_eq_false (fun e => klt_ne hlt0 e.symm)
            have q9 : ¬ mid.toList = to.toList := fun e => klt_ne hlt0 (ba_inj e).symm
            clear hlt0
            go_wp2_with fail
            go_fit (awake_any _)
            rintro e wz ⟨rfl, hbz⟩
            have HZ := Lib.hid (below_of HB4.out hbz)
            clear hbz
            go_wp2_with fail
            go_ret
            exact ⟨rfl, HZ.out⟩
          | false =>
            have q6 : Go.Op.bytesLess to.toList mid.toList = false := hlt0
            have HSp := Lib.hid (scO_split HSo.out Hm0.out Hlf.out (.inr hlt0))
            have htri : Go.Op.bytesLess mid.toList to.toList = true ∨ (Go.Op.bytesLess mid.toList to.toList = false ∧ (mid.toList == to.toList) = true ∧ True) := by
              rcases klt_le hlt0 with e | e
              · subst e; exact .inr ⟨klt_irr _, by rw [ba_eq]; simp, trivial⟩
              · exact .inl e
            clear hlt0
            rcases htri with q7 | ⟨q7, q8, _⟩
            all_goals
              go_wp2_with fail
              go_fit (Scan_mp fr to HM4.out HL.out)
              rintro e w5 ⟨v5, rfl, hr5⟩
              have HAt := Lib.hid (fun (o : Kop) (h : o ∈ scO L fr to) => scO_at HSo.out h)
              have HLen : Hid ((scO L fr to).length ≤ 24) := by show _ ≤ _; unfold scO; rw [List.length_map]; exact Nat.le_trans (List.length_filter_le _ _) HL2.out
              have HSame : Hid (fr = to → scO L fr to = []) := by intro h; subst h; exact scO_same Ht0.out
              have HR5 := Lib.hid hr5.told
              have HM5 := Lib.hid (HM4.out.below hr5.grown)
              have HB5 := Lib.hid (below_of HB4.out hr5.grown)
              obtain ⟨v5a, v5c, rfl, _, _⟩ := hr5.slice
              generalize hall : scO L fr to = all at *
              have HAl := Lib.hid hall
              clear hr5 hall HM4 HB4
              go_wp2_with fail
              go_loopw [61] (fun v wr => ∃ (i : Nat), v = .int .i64 i ∧ i ≤ all.length ∧ Hid (Mp wr b L) ∧ Hid (opL.In wr (.slice v5a all.length v5c) all) ∧ Hid (Below w.heap.size w wr))
                (fun v _ => all.length - (intOf v).toNat)
              case atStart => exact ⟨0, rfl, Nat.zero_le _, HM5, HR5, HB5⟩
              case round =>
                obtain ⟨i, rfl, hin, hM, hR, hB⟩ := hrel
                have hln := HLen.out
                have ei : IntKind.i64.wrap ((i : Int) + 1) = (i : Int) + 1 := IntWalk.i64_in _ (by omega)
                by_cases hlt : i < all.length
                ·
                  obtain ⟨o, ho⟩ : ∃ o, all[i]? = some o := ⟨all[i], List.getElem?_eq_getElem hlt⟩
                  obtain ⟨f1, f2, f3, f4, f5⟩ := HAt.out o (List.mem_of_getElem? ho)
                  obtain ⟨g, off, rfl, _, hcell⟩ := hR.out.cells ho
                  obtain ⟨key, has, val⟩ := o
                  simp only at f1 f2 f3 f4 f5
                  subst f3
                  have c0 : wr.cell? ⟨g, off + i * 3, none⟩ = some (.string key) := hcell 0 _ rfl
                  have c1 : wr.cell? ⟨g, off + i * 3 + 1, none⟩ = some (.bool true) := hcell 1 _ rfl
                  have c2 : wr.cell? ⟨g, off + i * 3 + 2, none⟩ = some (.string val) := hcell 2 _ rfl
                  have hI1 : (i : Int) < ((all.length : Nat) : Int) := by omega
                  have hI0 : (0 : Int) ≤ (i : Int) := by omega
                  have hA := lay_alloc wr (.cells #[.string key, .bool true, .string val] 37)
                  have hG := Get_mp key (hM.out.below hA)
                  unfold GetP at hG
                  rw [f1, f2] at hG
                  have HG := Lib.hid hG
                  have HCells := Lib.hid (kd_box wr #[.string key, .bool true, .string val] 37)
                  have HMA := Lib.hid (hM.out.below hA)
                  have HRA := Lib.hid (hR.out.later hA)
                  have HBA := Lib.hid (below_of hB.out hA)
                  have p1 : Go.Op.bytesLess key.toList fr.toList = false := f4
                  have p2 : Go.Op.bytesLess key.toList to.toList = true := f5.resolve_left Ht0.out
                  have hvv : (val.toList == val.toList) = true := by rw [ba_eq]; simp
                  clear hcell ho hM hR hB hA hG f1 f2 f4 f5
                  go_wp2_with fail
                  go_fit HG.out
                  rintro e w6 ⟨rfl, hb6⟩
                  have HM6 := Lib.hid (HMA.out.below hb6)
                  have HR6 := Lib.hid (HRA.out.later hb6)
                  have HB6 := Lib.hid (below_of HBA.out hb6)
                  have d0 := lay_later hb6 (HCells.out 0 _ rfl)
                  have d1 := lay_later hb6 (HCells.out 1 _ rfl)
                  have d2 := lay_later hb6 (HCells.out 2 _ rfl)
                  clear hb6 HG HMA HRA HBA HCells c0 c1 c2
                  go_wp2_with fail
                  exact ⟨⟨i + 1, by simp, hlt, HM6, HR6, HB6⟩, by show all.length - ((i : Int) + 1).toNat < all.length - ((i : Int)).toNat; omega⟩
                · obtain rfl : i = all.length := by omega
                  by_cases hft : fr = to
                  ·
                    have r1 : (fr.toList == to.toList) = true := by rw [ba_eq]; simpa using hft
                    have r2 : fr.toList = to.toList := by rw [hft]
                    have hnil := HSame.out hft
                    clear hft
                    subst hnil
                    go_wp2_with fail
                    go_fit (awake_any _)
                    rintro e wz ⟨rfl, hbz⟩
                    have HZ := Lib.hid (below_of hB.out hbz)
                    clear hbz
                    go_wp2_with fail
                    go_ret
                    exact ⟨rfl, HZ.out⟩
                  ·
                    have r1 : (fr.toList == to.toList) = false := by rw [ba_eq]; simpa using hft
                    have r2 : ¬ fr.toList = to.toList := fun e => hft (ba_inj e)
                    clear hft
                    clear ei hlt hin hln
                    go_wp2_with fail
                    go_fit (Scan_mp fr mid hM.out HL.out)
                    rintro e w7 ⟨v7, rfl, hr7⟩
                    have HR7 := Lib.hid hr7.told
                    have HA7 := Lib.hid (hR.out.later hr7.grown)
                    have HM7 := Lib.hid (hM.out.below hr7.grown)
                    have HB7 := Lib.hid (below_of hB.out hr7.grown)
                    obtain ⟨v7a, v7c, rfl, _, _⟩ := hr7.slice
                    clear hr7 hM hR hB
                    go_wp2_with fail
                    go_fit (Scan_mp mid to HM7.out HL.out)
                    rintro e w8 ⟨v8, rfl, hr8⟩
                    have HR8 := Lib.hid hr8.told
                    have HR78 := Lib.hid (HR7.out.later hr8.grown)
                    have HA8 := Lib.hid (HA7.out.later hr8.grown)
                    have HM8 := Lib.hid (HM7.out.below hr8.grown)
                    have HB8 := Lib.hid (below_of HB7.out hr8.grown)
                    obtain ⟨v8a, v8c, rfl, _, _⟩ := hr8.slice
                    have HP1 : Hid ((scO L fr mid).length ≤ 100000) := by show _ ≤ _; unfold scO; rw [List.length_map]; exact Nat.le_trans (List.length_filter_le _ _) (Nat.le_trans HL2.out (by decide))
                    have HP2 : Hid ((scO L mid to).length ≤ 100000) := by show _ ≤ _; unfold scO; rw [List.length_map]; exact Nat.le_trans (List.length_filter_le _ _) (Nat.le_trans HL2.out (by decide))
                    generalize scO L fr mid = xs at *
                    generalize scO L mid to = ys at *
                    have HE0 : Hid (all = xs ++ ys) := HSp
                    clear hr8 HSp HAl
                    have hA := lay_alloc w8 (.cells #[.slice v7a xs.length v7c, .slice v8a ys.length v8c] 28)
                    have HC := Lib.hid (Concat_two (kd_box w8 #[.slice v7a xs.length v7c, .slice v8a ys.length v8c] 28 0 _ rfl) (kd_box w8 #[.slice v7a xs.length v7c, .slice v8a ys.length v8c] 28 1 _ rfl) (HR78.out.later hA) (HR8.out.later hA) HP1.out HP2.out)
                    have HA9 := Lib.hid (HA8.out.later hA)
                    have HB9 := Lib.hid (below_of HB8.out hA)
                    clear hA HM8 HA8 HB8
                    go_wp2_with fail
                    go_fit HC.out
                    rintro e w9 ⟨v9, rfl, hr9⟩
                    have HB10 := Lib.hid (below_of HB9.out hr9.grown)
                    obtain ⟨v9a, v9c, rfl, _, _⟩ := hr9.slice
                    have ht9 := hr9.told
                    have HE : Hid (Calls Try.prog 21 #[.slice v5a all.length v5c, .slice v9a (xs.length + ys.length) v9c] w9 (Yes w9)) := by show Calls _ _ _ _ _; rw [List.length_append] at ht9; exact EqualO (HA9.out.later hr9.grown) (by rw [HE0.out]; exact ht9)
                    clear hr9 ht9 HC HE0
                    go_wp2_with fail
                    go_fit HE.out
                    rintro e w10 ⟨rfl, hb10⟩
                    have HB11 := Lib.hid (below_of HB10.out hb10)
                    clear hb10 HE
                    go_wp2_with fail
                    go_fit (awake_any _)
                    rintro e wz ⟨rfl, hbz⟩
                    have HZ := Lib.hid (below_of HB11.out hbz)
                    clear hbz
                    go_wp2_with fail
                    go_ret
                    exact ⟨rfl, HZ.out⟩
    ·
      have g2 : (32768 : Int) < (to.size : Int) := by omega
      clear hz1 hz2 z0 z1
      go_enter Try.func9, Try.ntmps9
      go_wp2_with fail
      go_fit (short_any HK0.out)
      rintro e w1 ⟨sb, rfl, hsb, hq⟩
      have HB1 : Hid (Below w.heap.size w w1) := by obtain ⟨m, rfl⟩ := hq; exact below_drewN (Below.refl _ _) _
      cases sb
      · clear hsb hq
        go_wp2_with fail
        go_fit (awake_any _)
        rintro e wz ⟨rfl, hbz⟩
        have HZ := Lib.hid (below_of HB1.out hbz)
        clear hbz
        go_wp2_with fail
        go_ret
        exact ⟨rfl, HZ.out⟩
      obtain ⟨hl, ho⟩ := hsb rfl
      have HL1 := Lib.hid hl
      have HO1 := Lib.hid ho
      clear hsb hq hl ho
      go_wp2_with fail
      go_fit (awake_any _)
      rintro e wz ⟨rfl, hbz⟩
      have HZ := Lib.hid (below_of HB1.out hbz)
      clear hbz
      go_wp2_with fail
      go_ret
      exact ⟨rfl, HZ.out⟩
  ·
    have g1 : (32768 : Int) < (fr.size : Int) + (mid.size : Int) := by omega
    clear hz1 z0 z1
    go_enter Try.func9, Try.ntmps9
    go_wp2_with fail
    go_fit (short_any HK0.out)
    rintro e w1 ⟨sb, rfl, hsb, hq⟩
    have HB1 : Hid (Below w.heap.size w w1) := by obtain ⟨m, rfl⟩ := hq; exact below_drewN (Below.refl _ _) _
    cases sb
    · clear hsb hq
      go_wp2_with fail
      go_fit (awake_any _)
      rintro e wz ⟨rfl, hbz⟩
      have HZ := Lib.hid (below_of HB1.out hbz)
      clear hbz
      go_wp2_with fail
      go_ret
      exact ⟨rfl, HZ.out⟩
    obtain ⟨hl, ho⟩ := hsb rfl
    have HL1 := Lib.hid hl
    have HO1 := Lib.hid ho
    clear hsb hq hl ho
    go_wp2_with fail
    go_fit (awake_any _)
    rintro e wz ⟨rfl, hbz⟩
    have HZ := Lib.hid (below_of HB1.out hbz)
    clear hbz
    go_wp2_with fail
    go_ret
    exact ⟨rfl, HZ.out⟩
end Go.Proofs.Ytenjniieohmniaa
