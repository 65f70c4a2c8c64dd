/-
  KvOrder: the walk. Operations on unlike keys lead to the same in any order, and one by one. (Written by genkv.py.)
-/
import Derived.Test.YtenjniieohmniaaK18
import Derived.BigRegion
namespace Go.Proofs.Ytenjniieohmniaa
set_option linter.unusedVariables false
set_option linter.unusedSimpArgs false
open Go.RowKit

set_option maxRecDepth 100000 in
set_option maxHeartbeats 25600000 in
theorem Order_any {w : World} (l : List Kd) {v0 : Value} (h0 : KdsIn w v0 l) (ops : List Kop) {v1 : Value} (h1 : opL.In w v1 ops) (ts : List Int) {v2 : Value} (h2 : intL.In w v2 ts) : Calls Try.prog 8 #[v0, v1, v2] w (Yes w) := by
  obtain ⟨a0, c0, rfl⟩ := h0.slice
  obtain ⟨a1, c1, rfl, _, _⟩ := h1.slice
  obtain ⟨a2, c2, rfl, _, _⟩ := h2.slice
  have HK0 := Lib.hid h0
  have HK1 := Lib.hid h1
  have HK2 := Lib.hid h2
  clear h0 h1 h2
  have HWg := Lib.hid (fun W (hb : Below w.heap.size w W) => weigh_any (HK1.out.later hb))
  have HG1 := Lib.hid (fun h => wgh_ok (l := ops) h)
  unfold WghP at HWg
  generalize wgh ops = A at *
  by_cases hA : A ≤ 32768
  ·
    have gA : ¬ (32768 : Int) < ((A : Nat) : Int) := by omega
    obtain ⟨l1, s1⟩ := HG1.out hA
    have HS1 := Lib.hid s1
    have HN1 := Lib.hid l1
    clear s1 hA
    by_cases hT : ts.length ≤ 100
    ·
      have gT : ¬ (100 : Int) < ((ts.length : Nat) : Int) := by omega
      go_enter Try.func8, Try.ntmps8
      go_wp2_with fail
      go_fit (short_any HK0.out)
      rintro e w1 ⟨sb, rfl, hsb, hq⟩
      have HB1 : Hid (Below w.heap.size w w1) := by obtain ⟨m, rfl⟩ := hq; exact below_drewN (Below.refl _ _) _
      cases sb
      · clear hsb hq
        go_wp2_with fail
        go_fit (awake_any _)
        rintro e wz ⟨rfl, hbz⟩
        have HZ := Lib.hid (below_of HB1.out hbz)
        clear hbz
        go_wp2_with fail
        go_ret
        exact ⟨rfl, HZ.out⟩
      obtain ⟨hl, ho⟩ := hsb rfl
      have HL1 := Lib.hid hl
      have HO1 := Lib.hid ho
      clear hsb hq hl ho
      go_wp2_with fail
      have HWg' := Lib.hid (HWg.out w1 HB1.out)
      go_fit HWg'.out
      rintro e w2 ⟨rfl, hq2⟩
      have HB2 : Hid (Below w.heap.size w w2) := by obtain ⟨m, rfl⟩ := hq2; exact below_drewN HB1.out _
      clear hq2 HWg'
      go_wp2_with fail
      clear gA gT
      go_fit (made_any (HK0.out.later HB2.out) HL1.out HO1.out)
      rintro e w4 ⟨b, u, rfl, hms⟩
      obtain ⟨ht, hch, hso⟩ := mades_told l
      have hl1 := mades_24 l
      have hrow := hms.row
      have hmap := hms.map
      have hbel := hms.below
      have hlo := hms.lo
      generalize mades l = s at *
      obtain ⟨L, es⟩ := s
      have HSo : Hid (Sorted L) := hso
      have HL : Hid (L.length ≤ 1000000) := by show _ ≤ _; simp only at hl1; omega
      have HL2 : Hid (L.length ≤ 24) := hl1
      have HM4 := Lib.hid hmap
      have HB5 := Lib.hid (below_of HB2.out hbel)
      have HLo : Hid (w.heap.size ≤ b) := Nat.le_trans HB2.out.size hlo
      obtain ⟨ra, rc, hru⟩ := row_slice1 hrow
      subst hru
      clear hms ht hch hso hl1 hrow hmap hbel hlo
      go_wp2_with fail
      go_fit (Clone_mp HM4.out)
      rintro e w5 ⟨c, rfl, hlo, hm, hb⟩
      have HN5 := Lib.hid hm
      have HM5 := Lib.hid (HM4.out.below hb)
      have HB6 := Lib.hid (below_of HB5.out hb)
      have HLc : Hid (w.heap.size ≤ c) := Nat.le_trans HB5.out.size hlo
      have HNe : Hid (c ≠ b) := fun e => by have := HM4.out.lt; omega
      clear hlo hm hb HM4
      go_wp2_with fail
      go_fit (Clone_mp HM5.out)
      rintro e w6 ⟨d, rfl, hlo, hm, hb⟩
      have HD6 := Lib.hid hm
      have HM6 := Lib.hid (HM5.out.below hb)
      have HN6 := Lib.hid (HN5.out.below hb)
      have HB7 := Lib.hid (below_of HB6.out hb)
      have HLd : Hid (w.heap.size ≤ d) := Nat.le_trans HB6.out.size hlo
      have HDb : Hid (d ≠ b) := fun e => by have := HM5.out.lt; omega
      have HDc : Hid (d ≠ c) := fun e => by have := HN5.out.lt; omega
      clear hlo hm hb HM5 HN5
      go_wp2_with fail
      go_fit (CloneO (HK1.out.later HB7.out) (by have := HN1.out; omega))
      rintro e w7 ⟨u7, rfl, hrw⟩
      have HD7 := Lib.hid (HD6.out.below hrw.grown)
      have HM7 := Lib.hid (HM6.out.below hrw.grown)
      have HN7 := Lib.hid (HN6.out.below hrw.grown)
      have HB8 := Lib.hid (below_of HB7.out hrw.grown)
      have HLt : Hid (b < w6.heap.size ∧ c < w6.heap.size ∧ d < w6.heap.size) := ⟨HM6.out.lt, HN6.out.lt, HD6.out.lt⟩
      have HZ6 := Lib.hid HB7.out.size
      clear HM6 HN6 HD6
      by_cases hne : ops = []
      ·
        subst hne
        obtain ⟨va, vc, rfl, _, _⟩ := hrw.slice
        clear hrw
        go_wp2_with fail
        go_loopw [51] (fun v wr => ∃ (i : Nat), v = .int .i64 i ∧ i ≤ ts.length ∧ w7 = wr)
          (fun v _ => ts.length - (intOf v).toNat)
        case atStart => exact ⟨0, rfl, Nat.zero_le _, rfl⟩
        case round =>
          obtain ⟨i, rfl, hin, rfl⟩ := hrel
          have ei : IntKind.i64.wrap ((i : Int) + 1) = (i : Int) + 1 := IntWalk.i64_in _ (by omega)
          by_cases hlt : i < ts.length
          ·
            obtain ⟨t, ht⟩ : ∃ t, ts[i]? = some t := ⟨ts[i], List.getElem?_eq_getElem hlt⟩
            obtain ⟨g, off, rfl, _, hcell⟩ := HK2.out.cells ht
            have c0 : w7.cell? ⟨g, off + i, none⟩ = some (.int .i64 t) := by have h := lay_later HB8.out (hcell 0 _ rfl); simpa [intL] using h
            have hI1 : (i : Int) < ((ts.length : Nat) : Int) := by omega
            have hI0 : (0 : Int) ≤ (i : Int) := by omega
            clear hcell ht
            go_wp2_with fail
            exact ⟨⟨i + 1, by simp, hlt, trivial⟩, by show ts.length - ((i : Int) + 1).toNat < ts.length - ((i : Int)).toNat; omega⟩
          · obtain rfl : i = ts.length := by omega
            have hp : plan L 1 [] [] = ([], 61) := by rw [plan_nil]; rfl
            have hDo := Do_mp 1 HM7.out (Lay.In.nil (I := opL) _) (HK1.out.later HB8.out) (fun o ho => by cases ho) HS1.out (by decide) (by decide) HL.out
            unfold DoP at hDo
            rw [hp] at hDo
            have HDo := Lib.hid hDo
            clear hDo
            go_wp2_with fail
            go_fit HDo.out
            rintro e w8 ⟨v8, rfl, hrow, hm, hg⟩
            have HB9 := Lib.hid (grown_below1 hg HB8.out HLo.out)
            have HN8 := Lib.hid (HN7.out.other hg HM7.out.mb HNe.out)
            obtain ⟨v8a, v8c, rfl⟩ := row_slice1 hrow
            clear hrow hm hg HDo
            have hDo := Do_mp 1 HN8.out (Lay.In.nil (I := opL) _) (show opL.In w8 (.slice va 0 vc) [] from ⟨va, vc, rfl, by simp, by assumption, .inl rfl⟩) (fun o ho => by cases ho) HS1.out (by decide) (by decide) HL.out
            unfold DoP at hDo
            rw [hp] at hDo
            have HDo := Lib.hid hDo
            clear hDo
            go_wp2_with fail
            go_fit HDo.out
            rintro e w9 ⟨v9, rfl, hrow, hm, hg⟩
            have HB10 := Lib.hid (grown_below1 hg HB9.out HLc.out)
            obtain ⟨v9a, v9c, rfl⟩ := row_slice1 hrow
            clear hrow hm hg HDo hp
            go_wp2_with fail
            go_fit (awake_any _)
            rintro e wz ⟨rfl, hbz⟩
            have HZ := Lib.hid (below_of HB10.out hbz)
            clear hbz
            go_wp2_with fail
            go_ret
            exact ⟨rfl, HZ.out⟩
      ·
        obtain ⟨g7, k7, rfl, hg7, hkc, hkm, hor⟩ := rw_orow hrw hne
        have HOr := Lib.hid hor
        have HG7 := Lib.hid hg7
        have HNe0 : Hid (0 < ops.length) := List.length_pos_iff.2 hne
        have hty := hor.typed
        have HTy := Lib.hid hty
        have HKc := Lib.hid hkc
        have HKm := Lib.hid hkm
        clear hrw hg7 hor hne hkc hkm hty
        generalize hn : ops.length = n at *
        have Hn := Lib.hid hn
        clear hn
        have hn0 := HNe0.out
        have hn1b : n ≤ 1000000 := by have := HN1.out; omega
        go_wp2_with fail
        go_loopw [51] (fun v wr => ∃ (i : Nat) (ys : List Kop), v = .int .i64 i ∧ i ≤ ts.length ∧ Hid (ys.length = n) ∧ Hid (ys.Perm ops) ∧ Hid (ORow wr g7 ys) ∧ Hid (w7.grownBy wr (some g7)))
          (fun v _ => ts.length - (intOf v).toNat)
        case atStart => exact ⟨0, ops, rfl, Nat.zero_le _, Hn, List.Perm.refl _, HOr, World.grownBy.refl _ _⟩
        case round =>
          obtain ⟨i, ys, rfl, hin, hyn, hpm, hor, hgr⟩ := hrel
          have ei : IntKind.i64.wrap ((i : Int) + 1) = (i : Int) + 1 := IntWalk.i64_in _ (by omega)
          have HBr : Hid (Below w.heap.size w wr) := HB8.out.trans ⟨hgr.out.os, hgr.out.tape, hgr.out.output, hgr.out.size, fun k hk => hgr.out.block k (Nat.lt_of_lt_of_le hk HB8.out.size) (fun e => by have := HG7.out; have := HZ6.out; simp at e; omega)⟩
          by_cases hlt : i < ts.length
          ·
            obtain ⟨t, ht⟩ : ∃ t, ts[i]? = some t := ⟨ts[i], List.getElem?_eq_getElem hlt⟩
            obtain ⟨g, off, rfl, _, hcell⟩ := HK2.out.cells ht
            have c0 : wr.cell? ⟨g, off + i, none⟩ = some (.int .i64 t) := by have h := lay_later HBr.out (hcell 0 _ rfl); simpa [intL] using h
            have hI1 : (i : Int) < ((ts.length : Nat) : Int) := by omega
            have hI0 : (0 : Int) ≤ (i : Int) := by omega
            have hIn : (0 : Int) < (n : Int) := by omega
            have hIz : ¬ (n : Int) = 0 := by omega
            obtain ⟨Q, hQ, hQl⟩ := turn_in t n hn0 hn1b
            obtain ⟨P, hP, hPl⟩ : ∃ P : Nat, (i : Int) % (n : Int) = (P : Int) ∧ P < n := ⟨i % n, rfl, Nat.mod_lt i hn0⟩
            have HQ := Lib.hid hQ
            have HP := Lib.hid hP
            clear hcell ht hQ hP
            go_wp2_with fail
            go_quiet (fail)
            simp only [HQ.out, HP.out]
            have HOq := Lib.hid (hor.out.drewN nq)
            obtain ⟨wq, hwq⟩ : ∃ wq, wq = wr.drewN nq := ⟨_, rfl⟩
            have HGq : Hid (w7.grownBy wq (some g7)) := by show World.grownBy _ _ _; rw [hwq]; exact ⟨hgr.out.os, hgr.out.tape, hgr.out.output, hgr.out.size, hgr.out.block⟩
            rw [← hwq] at HOq ⊢
            clear hwq
            obtain ⟨op, hop⟩ : ∃ o, ys[P]? = some o := ⟨ys[P]'(by rw [hyn.out]; exact hPl), List.getElem?_eq_getElem _⟩
            obtain ⟨oq, hoq⟩ : ∃ o, ys[Q]? = some o := ⟨ys[Q]'(by rw [hyn.out]; exact hQl), List.getElem?_eq_getElem _⟩
            have hpc := fun j v h => HOq.out.at' P op hop j v h
            have hqc := fun j v h => HOq.out.at' Q oq hoq j v h
            simp only [Nat.zero_add] at hpc hqc
            have p0 : wq.cell? ⟨g7, P * 3, none⟩ = some (.string op.key) := hpc 0 _ rfl
            have p1 : wq.cell? ⟨g7, P * 3 + 1, none⟩ = some (.bool op.has) := hpc 1 _ rfl
            have p2 : wq.cell? ⟨g7, P * 3 + 2, none⟩ = some (.string op.val) := hpc 2 _ rfl
            have q0 : wq.cell? ⟨g7, Q * 3, none⟩ = some (.string oq.key) := hqc 0 _ rfl
            have q1 : wq.cell? ⟨g7, Q * 3 + 1, none⟩ = some (.bool oq.has) := hqc 1 _ rfl
            have q2 : wq.cell? ⟨g7, Q * 3 + 2, none⟩ = some (.string oq.val) := hqc 2 _ rfl
            have zp0 := HOq.out.fz (P * 3)
            have zp1 := HOq.out.fz (P * 3 + 1)
            have zp2 := HOq.out.fz (P * 3 + 2)
            have zq0 := HOq.out.fz (Q * 3)
            have zq1 := HOq.out.fz (Q * 3 + 1)
            have zq2 := HOq.out.fz (Q * 3 + 2)
            have hPi : (P : Int) < (n : Int) := by omega
            have hQi : (Q : Int) < (n : Int) := by omega
            have hP0 : (0 : Int) ≤ (P : Int) := by omega
            have hQ0 : (0 : Int) ≤ (Q : Int) := by omega
            have hkc := HKc.out
            have HPL : Hid (P < ys.length) := by show _ < _; rw [hyn.out]; exact hPl
            have HQL : Hid (Q < ys.length) := by show _ < _; rw [hyn.out]; exact hQl
            have HOP : Hid (ys[P]'HPL.out = op) := (List.getElem?_eq_some_iff.1 hop).2
            have HOQ : Hid (ys[Q]'HQL.out = oq) := (List.getElem?_eq_some_iff.1 hoq).2
            clear hpc hqc hop hoq HQ HP hor hgr HBr
            by_cases hPQ : P = Q
            ·
              subst hPQ
              obtain rfl : op = oq := HOP.out.symm.trans HOQ.out
              go_wp2_with fail
              go_region
              all_goals
                generalize hW : World.drew _ = W
                obtain ⟨h2, h3, h4, h5⟩ := HOq.out.swap (W := W) HPL.out HQL.out HOP.out HOQ.out hpm.out HGq.out hW
                rw [hyn.out] at h3
                have H2 := Lib.hid h2
                have H3 := Lib.hid h3
                have H4 := Lib.hid h4
                have H5 := Lib.hid h5
                clear h2 h3 h4 h5 hW p0 q0 zp0 zq0 p1 q1 zp1 zq1 p2 q2 zp2 zq2
                go_wp2_with fail
                exact ⟨⟨i + 1, _, by simp, hlt, H3, H4, H2, H5⟩, by show ts.length - ((i : Int) + 1).toNat < ts.length - ((i : Int)).toNat; omega⟩
            ·
              have hQP : ¬ Q = P := fun e => hPQ e.symm
              have n00 : ¬ P * 3 = Q * 3 := by omega
              have n01 : ¬ P * 3 = Q * 3 + 1 := by omega
              have n02 : ¬ P * 3 = Q * 3 + 2 := by omega
              have n10 : ¬ P * 3 + 1 = Q * 3 := by omega
              have n11 : ¬ P * 3 + 1 = Q * 3 + 1 := by omega
              have n12 : ¬ P * 3 + 1 = Q * 3 + 2 := by omega
              have n20 : ¬ P * 3 + 2 = Q * 3 := by omega
              have n21 : ¬ P * 3 + 2 = Q * 3 + 1 := by omega
              have n22 : ¬ P * 3 + 2 = Q * 3 + 2 := by omega
              have m00 : ¬ Q * 3 = P * 3 := by omega
              have m01 : ¬ Q * 3 = P * 3 + 1 := by omega
              have m02 : ¬ Q * 3 = P * 3 + 2 := by omega
              have m10 : ¬ Q * 3 + 1 = P * 3 := by omega
              have m11 : ¬ Q * 3 + 1 = P * 3 + 1 := by omega
              have m12 : ¬ Q * 3 + 1 = P * 3 + 2 := by omega
              have m20 : ¬ Q * 3 + 2 = P * 3 := by omega
              have m21 : ¬ Q * 3 + 2 = P * 3 + 1 := by omega
              have m22 : ¬ Q * 3 + 2 = P * 3 + 2 := by omega
              go_wp2_with fail
              go_region
              all_goals
                generalize hW : World.drew _ = W
                obtain ⟨h2, h3, h4, h5⟩ := HOq.out.swap (W := W) HPL.out HQL.out HOP.out HOQ.out hpm.out HGq.out hW
                rw [hyn.out] at h3
                have H2 := Lib.hid h2
                have H3 := Lib.hid h3
                have H4 := Lib.hid h4
                have H5 := Lib.hid h5
                clear h2 h3 h4 h5 hW p0 q0 zp0 zq0 p1 q1 zp1 zq1 p2 q2 zp2 zq2 hQP n00 m00 n01 m01 n02 m02 n10 m10 n11 m11 n12 m12 n20 m20 n21 m21 n22 m22
                go_wp2_with fail
                exact ⟨⟨i + 1, _, by simp, hlt, H3, H4, H2, H5⟩, by show ts.length - ((i : Int) + 1).toNat < ts.length - ((i : Int)).toNat; omega⟩
          · obtain rfl : i = ts.length := by omega
            have HM8 : Hid (Mp wr b L) := HM7.out.past hgr.out HTy.out (fun e => by have := HLt.out.1; have := HG7.out; simp at e; omega)
            have HN8 : Hid (Mp wr c L) := HN7.out.past hgr.out HTy.out (fun e => by have := HLt.out.2.1; have := HG7.out; simp at e; omega)
            have HD8 : Hid (Mp wr d L) := HD7.out.past hgr.out HTy.out (fun e => by have := HLt.out.2.2; have := HG7.out; simp at e; omega)
            have HMx := Lib.hid (hor.out.told hyn.out HKc.out HKm.out)
            have HSx : Hid (Small ys) := fun o ho => HS1.out o (hpm.out.mem_iff.1 ho)
            have HK8 := Lib.hid (HK1.out.later HBr.out)
            have HPP := Lib.hid (plan_perm HSo.out 1 hpm.out.symm)
            have HOB := Lib.hid (one_by_one HSo.out HL2.out (ops := ops))
            have HD24 : Hid ((doo L 1 [] ops).length ≤ 24) := doo_24 HSo.out HL2.out _ _ _
            have HM24 : Hid ((doo L 1 [] ys).length ≤ 24) := doo_24 HSo.out HL2.out _ _ _
            have HFo := Lib.hid (fun l => fold_one_24 l HSo.out HL2.out)
            have HDo := Lib.hid (Do_mp 1 HM8.out (Lay.In.nil (I := opL) _) HK8.out (fun o ho => by cases ho) HS1.out (by decide) (by rw [Hn.out]; omega) HL.out)
            unfold DoP at HDo
            have HDo2 := Lib.hid (fun (W : World) (h : Mp W c L) (hx : opL.In W (.slice (some ⟨g7, 0, none⟩) n k7) ys) => Do_mp 1 h (Lay.In.nil (I := opL) W) hx (fun o ho => by cases ho) HSx.out (by decide) (by rw [hyn.out]; omega) HL.out)
            unfold DoP at HDo2
            have HG8 : Hid (b < g7 ∧ c < g7) := by have h := HLt.out; have := HG7.out; exact ⟨by omega, by omega⟩
            generalize plan L 1 [] ops = pl at *
            generalize plan L 1 [] ys = ql at *
            obtain ⟨pes, pe⟩ := pl
            obtain ⟨qes, qe⟩ := ql
            simp only at HDo HDo2 HPP HOB
            clear HM7 HN7 HD7 hor hgr
            go_wp2_with fail
            go_fit HDo.out
            rintro e w8 ⟨v8, rfl, hrow, hm, hg⟩
            have HM9 := Lib.hid hm
            have HN9 := Lib.hid (HN8.out.other hg HM8.out.mb HNe.out)
            have HD9 := Lib.hid (HD8.out.other hg HM8.out.mb HDb.out)
            have HB9 := Lib.hid (grown_below1 hg HBr.out HLo.out)
            have HX9 := Lib.hid (In.grown HMx.out hg (fun g o q cc he e => by have := HG8.out; simp only [Value.slice.injEq, Option.some.injEq, Addr.mk.injEq] at he; omega))
            obtain ⟨v8a, v8c, rfl⟩ := row_slice1 hrow
            clear hrow hm hg HDo HM8 HN8 HD8 HMx HBr HK8
            have HDo2' := Lib.hid (HDo2.out w8 HN9.out HX9.out)
            clear HDo2
            go_wp2_with fail
            go_fit HDo2'.out
            rintro e w9 ⟨v9, rfl, hrow, hm, hg⟩
            have HN10 := Lib.hid hm
            have HM10 := Lib.hid (HM9.out.other hg HN9.out.mb (Ne.symm HNe.out))
            have HD10 := Lib.hid (HD9.out.other hg HN9.out.mb HDc.out)
            have HB10 := Lib.hid (grown_below1 hg HB9.out HLc.out)
            obtain ⟨v9a, v9c, rfl⟩ := row_slice1 hrow
            clear hrow hm hg HDo2' HM9 HN9 HD9 HX9
            by_cases hpe : pe = 0
            ·
              obtain ⟨hqe, hdd⟩ := HPP.out.1 hpe
              subst hpe
              subst hqe
              have HOB' := Lib.hid (HOB.out rfl)
              rw [← hdd] at HN10
              generalize doo L 1 [] ops = M at *
              have HM1 : Hid (M.length ≤ 1000000) := Nat.le_trans HD24.out (by decide)
              clear hdd HPP HOB HM24
              go_wp2_with fail
              go_loopw [111] (fun v wr2 => ∃ (i : Nat), v = .int .i64 i ∧ i ≤ n ∧ Hid (Mp wr2 d (((ops.take i).filter (fun o => !o.has)).foldl one1 L)) ∧ Hid (Mp wr2 b M) ∧ Hid (Mp wr2 c M) ∧ Hid (Below w.heap.size w wr2))
                (fun v _ => n - (intOf v).toNat)
              case atStart => exact ⟨0, rfl, Nat.zero_le _, HD10, HM10, HN10, HB10⟩
              case round =>
                obtain ⟨j, rfl, hjn, hD, hM, hN, hB⟩ := hrel
                have ej : IntKind.i64.wrap ((j : Int) + 1) = (j : Int) + 1 := IntWalk.i64_in _ (by omega)
                by_cases hjt : j < n
                ·
                  obtain ⟨o, ho⟩ : ∃ o, ops[j]? = some o := ⟨ops[j]'(by rw [Hn.out]; exact hjt), List.getElem?_eq_getElem _⟩
                  obtain ⟨g2, off2, rfl, hnl, hcell⟩ := HK1.out.cells ho
                  clear hnl
                  have c0 : wr.cell? ⟨g2, off2 + j * 3, none⟩ = some (.string o.key) := lay_later hB.out (hcell 0 _ rfl)
                  have c1 : wr.cell? ⟨g2, off2 + j * 3 + 1, none⟩ = some (.bool o.has) := lay_later hB.out (hcell 1 _ rfl)
                  have c2 : wr.cell? ⟨g2, off2 + j * 3 + 2, none⟩ = some (.string o.val) := lay_later hB.out (hcell 2 _ rfl)
                  have hJ1 : (j : Int) < (n : Int) := by omega
                  have hJ0 : (0 : Int) ≤ (j : Int) := by omega
                  have HST := Lib.hid (fold_one_step (fun o => !o.has) L ho)
                  have HSo1 := Lib.hid (HS1.out o (List.mem_of_getElem? ho))
                  have HX24 : Hid ((((ops.take j).filter (fun o => !o.has)).foldl one1 L).length ≤ 24) := (HFo.out _).2
                  generalize ((ops.take j).filter (fun o => !o.has)).foldl one1 L = X at *
                  have HCells := Lib.hid (kd_box wr #[.string o.key, .bool o.has, .string o.val] 37)
                  have hA := lay_alloc wr (.cells #[.string o.key, .bool o.has, .string o.val] 37)
                  clear hcell ho
                  cases hh : o.has with
                  | true =>
                    have hst := HST.out
                    simp only [hh] at hst
                    rw [hh] at c1 hA HCells
                    have HDa := Lib.hid (hD.out.below hA)
                    have HMa := Lib.hid (hM.out.below hA)
                    have HNa := Lib.hid (hN.out.below hA)
                    have HBa := Lib.hid (below_of hB.out hA)
                    clear hh hA hD hM hN hB HCells HST
                    have HST := Lib.hid hst
                    clear hst
                    go_wp2_with fail
                    refine ⟨⟨j + 1, by simp, hjt, ?_, HMa, HNa, HBa⟩, by show n - ((j : Int) + 1).toNat < n - ((j : Int)).toNat; omega⟩
                    show Mp _ _ _
                    rw [HST.out]
                    exact HDa.out
                  | false =>
                    have hst := HST.out
                    simp only [hh] at hst
                    rw [hh] at c1 hA HCells
                    have hA2 : Below wr.heap.size wr ((wr.alloc (.cells #[.string o.key, .bool false, .string o.val] 37)).alloc (.cells #[.string o.key, .bool false, .string o.val] 37)) := below_of hA (lay_alloc _ _)
                    have hIn : opL.In ((wr.alloc (.cells #[.string o.key, .bool false, .string o.val] 37)).alloc (.cells #[.string o.key, .bool false, .string o.val] 37)) (.slice (some ⟨(wr.alloc (.cells #[.string o.key, .bool false, .string o.val] 37)).heap.size, 0, none⟩) 1 1) [o] := block_in opL _ [o] #[.string o.key, .bool false, .string o.val] 37 1 (by show (#[Value.string o.key, Value.bool false, Value.string o.val] : Array Value) = #[Value.string o.key, Value.bool o.has, Value.string o.val]; rw [hh]) rfl (by decide)
                    simp only [World.size_alloc] at hIn
                    have HDo := Lib.hid (Do_mp 1 (hD.out.below hA2) (Lay.In.nil (I := opL) _) hIn (fun o ho => by cases ho) (fun x hx => by have e : x = o := (by simpa using hx); rw [e]; exact HSo1.out) (by decide) (show 1 ≤ 1000000 by decide) (Nat.le_trans HX24.out (by decide)))
                    have HDm := Lib.hid (hD.out.below hA2).mb
                    have HMa := Lib.hid (hM.out.below hA2)
                    have HNa := Lib.hid (hN.out.below hA2)
                    have HBa := Lib.hid (below_of hB.out hA2)
                    clear hh hA hA2 hIn hD hM hN hB HCells HST
                    have HST := Lib.hid hst
                    clear hst
                    go_wp2_with fail
                    go_fit HDo.out
                    rintro e w10 ⟨v10, rfl, hrow, hm, hg⟩
                    have HDb2 := Lib.hid hm
                    have HMb := Lib.hid (HMa.out.other hg HDm.out (Ne.symm HDb.out))
                    have HNb := Lib.hid (HNa.out.other hg HDm.out (Ne.symm HDc.out))
                    have HBb := Lib.hid (grown_below1 hg HBa.out HLd.out)
                    obtain ⟨v10a, v10c, rfl⟩ := row_slice1 hrow
                    clear hrow hm hg HDo HMa HNa HBa c0 c1 c2
                    go_wp2_with fail
                    refine ⟨⟨j + 1, by simp, hjt, ?_, HMb, HNb, HBb⟩, by show n - ((j : Int) + 1).toNat < n - ((j : Int)).toNat; omega⟩
                    show Mp _ _ _
                    rw [HST.out]
                    exact HDb2.out
                · obtain rfl : n = j := by omega
                  have HDz : Hid (Mp wr d ((ops.filter (fun o => !o.has)).foldl one1 L)) := by show Mp _ _ _; have h := hD.out; rw [List.take_of_length_le (by rw [Hn.out]; omega)] at h; exact h
                  clear hD
                  go_wp2_with fail
                  go_loopw [125] (fun v wr2 => ∃ (i : Nat), v = .int .i64 i ∧ i ≤ n ∧ Hid (Mp wr2 d (((ops.take i).filter (fun o => o.has)).foldl one1 ((ops.filter (fun o => !o.has)).foldl one1 L))) ∧ Hid (Mp wr2 b M) ∧ Hid (Mp wr2 c M) ∧ Hid (Below w.heap.size w wr2))
                    (fun v _ => n - (intOf v).toNat)
                  case atStart => exact ⟨0, rfl, Nat.zero_le _, HDz, hM, hN, hB⟩
                  case round =>
                    obtain ⟨j, rfl, hjn, hD, hM, hN, hB⟩ := hrel
                    have ej : IntKind.i64.wrap ((j : Int) + 1) = (j : Int) + 1 := IntWalk.i64_in _ (by omega)
                    by_cases hjt : j < n
                    ·
                      obtain ⟨o, ho⟩ : ∃ o, ops[j]? = some o := ⟨ops[j]'(by rw [Hn.out]; exact hjt), List.getElem?_eq_getElem _⟩
                      obtain ⟨g2, off2, rfl, hnl, hcell⟩ := HK1.out.cells ho
                      clear hnl
                      have c0 : wr.cell? ⟨g2, off2 + j * 3, none⟩ = some (.string o.key) := lay_later hB.out (hcell 0 _ rfl)
                      have c1 : wr.cell? ⟨g2, off2 + j * 3 + 1, none⟩ = some (.bool o.has) := lay_later hB.out (hcell 1 _ rfl)
                      have c2 : wr.cell? ⟨g2, off2 + j * 3 + 2, none⟩ = some (.string o.val) := lay_later hB.out (hcell 2 _ rfl)
                      have hJ1 : (j : Int) < (n : Int) := by omega
                      have hJ0 : (0 : Int) ≤ (j : Int) := by omega
                      have HST := Lib.hid (fold_one_step (fun o => o.has) ((ops.filter (fun o => !o.has)).foldl one1 L) ho)
                      have HSo1 := Lib.hid (HS1.out o (List.mem_of_getElem? ho))
                      have HX24 : Hid ((((ops.take j).filter (fun o => o.has)).foldl one1 ((ops.filter (fun o => !o.has)).foldl one1 L)).length ≤ 24) := (fold_one_24 _ (HFo.out _).1 (HFo.out _).2).2
                      generalize ((ops.take j).filter (fun o => o.has)).foldl one1 ((ops.filter (fun o => !o.has)).foldl one1 L) = X at *
                      have HCells := Lib.hid (kd_box wr #[.string o.key, .bool o.has, .string o.val] 37)
                      have hA := lay_alloc wr (.cells #[.string o.key, .bool o.has, .string o.val] 37)
                      clear hcell ho
                      cases hh : o.has with
                      | true =>
                        have hst := HST.out
                        simp only [hh] at hst
                        rw [hh] at c1 hA HCells
                        have hA2 : Below wr.heap.size wr ((wr.alloc (.cells #[.string o.key, .bool true, .string o.val] 37)).alloc (.cells #[.string o.key, .bool true, .string o.val] 37)) := below_of hA (lay_alloc _ _)
                        have hIn : opL.In ((wr.alloc (.cells #[.string o.key, .bool true, .string o.val] 37)).alloc (.cells #[.string o.key, .bool true, .string o.val] 37)) (.slice (some ⟨(wr.alloc (.cells #[.string o.key, .bool true, .string o.val] 37)).heap.size, 0, none⟩) 1 1) [o] := block_in opL _ [o] #[.string o.key, .bool true, .string o.val] 37 1 (by show (#[Value.string o.key, Value.bool true, Value.string o.val] : Array Value) = #[Value.string o.key, Value.bool o.has, Value.string o.val]; rw [hh]) rfl (by decide)
                        simp only [World.size_alloc] at hIn
                        have HDo := Lib.hid (Do_mp 1 (hD.out.below hA2) (Lay.In.nil (I := opL) _) hIn (fun o ho => by cases ho) (fun x hx => by have e : x = o := (by simpa using hx); rw [e]; exact HSo1.out) (by decide) (show 1 ≤ 1000000 by decide) (Nat.le_trans HX24.out (by decide)))
                        have HDm := Lib.hid (hD.out.below hA2).mb
                        have HMa := Lib.hid (hM.out.below hA2)
                        have HNa := Lib.hid (hN.out.below hA2)
                        have HBa := Lib.hid (below_of hB.out hA2)
                        clear hh hA hA2 hIn hD hM hN hB HCells HST
                        have HST := Lib.hid hst
                        clear hst
                        go_wp2_with fail
                        go_fit HDo.out
                        rintro e w10 ⟨v10, rfl, hrow, hm, hg⟩
                        have HDb2 := Lib.hid hm
                        have HMb := Lib.hid (HMa.out.other hg HDm.out (Ne.symm HDb.out))
                        have HNb := Lib.hid (HNa.out.other hg HDm.out (Ne.symm HDc.out))
                        have HBb := Lib.hid (grown_below1 hg HBa.out HLd.out)
                        obtain ⟨v10a, v10c, rfl⟩ := row_slice1 hrow
                        clear hrow hm hg HDo HMa HNa HBa c0 c1 c2
                        go_wp2_with fail
                        refine ⟨⟨j + 1, by simp, hjt, ?_, HMb, HNb, HBb⟩, by show n - ((j : Int) + 1).toNat < n - ((j : Int)).toNat; omega⟩
                        show Mp _ _ _
                        rw [HST.out]
                        exact HDb2.out
                      | false =>
                        have hst := HST.out
                        simp only [hh] at hst
                        rw [hh] at c1 hA HCells
                        have HDa := Lib.hid (hD.out.below hA)
                        have HMa := Lib.hid (hM.out.below hA)
                        have HNa := Lib.hid (hN.out.below hA)
                        have HBa := Lib.hid (below_of hB.out hA)
                        clear hh hA hD hM hN hB HCells HST
                        have HST := Lib.hid hst
                        clear hst
                        go_wp2_with fail
                        refine ⟨⟨j + 1, by simp, hjt, ?_, HMa, HNa, HBa⟩, by show n - ((j : Int) + 1).toNat < n - ((j : Int)).toNat; omega⟩
                        show Mp _ _ _
                        rw [HST.out]
                        exact HDa.out
                    · obtain rfl : n = j := by omega
                      have HDy : Hid (Mp wr d M) := by show Mp _ _ _; have h := hD.out; rw [List.take_of_length_le (by rw [Hn.out]; omega)] at h; rw [← HOB'.out]; exact h
                      clear hD
                      go_wp2_with fail
                      go_fit (Scan_mp ByteArray.empty ByteArray.empty hM.out HM1.out)
                      rintro e w11 ⟨v11, rfl, hr⟩
                      have HS11 := Lib.hid hr.told
                      have HM11 := Lib.hid (hM.out.below hr.grown)
                      have HN11 := Lib.hid (hN.out.below hr.grown)
                      have HD11 := Lib.hid (HDy.out.below hr.grown)
                      have HB11 := Lib.hid (below_of hB.out hr.grown)
                      obtain ⟨v11a, v11c, rfl, _, _⟩ := hr.slice
                      clear hr hM hN hB HDy
                      go_wp2_with fail
                      go_fit (Scan_mp ByteArray.empty ByteArray.empty HN11.out HM1.out)
                      rintro e w12 ⟨v12, rfl, hr⟩
                      have HE := Lib.hid (EqualO (HS11.out.later hr.grown) hr.told)
                      have HM12 := Lib.hid (HM11.out.below hr.grown)
                      have HD12 := Lib.hid (HD11.out.below hr.grown)
                      have HB12 := Lib.hid (below_of HB11.out hr.grown)
                      obtain ⟨v12a, v12c, rfl, _, _⟩ := hr.slice
                      clear hr HM11 HN11 HD11
                      go_wp2_with fail
                      go_fit HE.out
                      rintro e w13 ⟨rfl, hb13⟩
                      have HM13 := Lib.hid (HM12.out.below hb13)
                      have HD13 := Lib.hid (HD12.out.below hb13)
                      have HB13 := Lib.hid (below_of HB12.out hb13)
                      clear hb13 HE HM12 HD12
                      go_wp2_with fail
                      go_fit (Scan_mp ByteArray.empty ByteArray.empty HM13.out HM1.out)
                      rintro e w14 ⟨v14, rfl, hr⟩
                      have HS14 := Lib.hid hr.told
                      have HD14 := Lib.hid (HD13.out.below hr.grown)
                      have HB14 := Lib.hid (below_of HB13.out hr.grown)
                      obtain ⟨v14a, v14c, rfl, _, _⟩ := hr.slice
                      clear hr HM13 HD13
                      go_wp2_with fail
                      go_fit (Scan_mp ByteArray.empty ByteArray.empty HD14.out HM1.out)
                      rintro e w15 ⟨v15, rfl, hr⟩
                      have HE := Lib.hid (EqualO (HS14.out.later hr.grown) hr.told)
                      have HB15 := Lib.hid (below_of HB14.out hr.grown)
                      obtain ⟨v15a, v15c, rfl, _, _⟩ := hr.slice
                      clear hr HD14
                      go_wp2_with fail
                      go_fit HE.out
                      rintro e w16 ⟨rfl, hb16⟩
                      have HB16 := Lib.hid (below_of HB15.out hb16)
                      clear hb16 HE
                      go_wp2_with fail
                      go_fit (awake_any _)
                      rintro e wz ⟨rfl, hbz⟩
                      have HZ := Lib.hid (below_of HB16.out hbz)
                      clear hbz
                      go_wp2_with fail
                      go_ret
                      exact ⟨rfl, HZ.out⟩
            ·
              have hpe2 : (pe == 0) = false := by simpa using hpe
              by_cases h7 : pe = 7
              ·
                have hq7 := HPP.out.2 h7
                subst h7
                subst hq7
                clear HPP HOB
                go_wp2_with fail
                go_fit (awake_any _)
                rintro e wz ⟨rfl, hbz⟩
                have HZ := Lib.hid (below_of HB10.out hbz)
                clear hbz
                go_wp2_with fail
                go_ret
                exact ⟨rfl, HZ.out⟩
              ·
                have hpe7 : (pe == 7) = false := by simpa using h7
                have hpe8 : (pe != 7) = true := by rw [bne, hpe7]; rfl
                clear HPP HOB
                cases hq : (pe == qe)
                all_goals
                  go_wp2_with fail
                  go_fit (awake_any _)
                  rintro e wz ⟨rfl, hbz⟩
                  have HZ := Lib.hid (below_of HB10.out hbz)
                  clear hbz
                  go_wp2_with fail
                  go_ret
                  exact ⟨rfl, HZ.out⟩
    ·
      have gT : (100 : Int) < ((ts.length : Nat) : Int) := by omega
      go_enter Try.func8, Try.ntmps8
      go_wp2_with fail
      go_fit (short_any HK0.out)
      rintro e w1 ⟨sb, rfl, hsb, hq⟩
      have HB1 : Hid (Below w.heap.size w w1) := by obtain ⟨m, rfl⟩ := hq; exact below_drewN (Below.refl _ _) _
      cases sb
      · clear hsb hq
        go_wp2_with fail
        go_fit (awake_any _)
        rintro e wz ⟨rfl, hbz⟩
        have HZ := Lib.hid (below_of HB1.out hbz)
        clear hbz
        go_wp2_with fail
        go_ret
        exact ⟨rfl, HZ.out⟩
      obtain ⟨hl, ho⟩ := hsb rfl
      have HL1 := Lib.hid hl
      have HO1 := Lib.hid ho
      clear hsb hq hl ho
      go_wp2_with fail
      have HWg' := Lib.hid (HWg.out w1 HB1.out)
      go_fit HWg'.out
      rintro e w2 ⟨rfl, hq2⟩
      have HB2 : Hid (Below w.heap.size w w2) := by obtain ⟨m, rfl⟩ := hq2; exact below_drewN HB1.out _
      clear hq2 HWg'
      go_wp2_with fail
      go_fit (awake_any _)
      rintro e wz ⟨rfl, hbz⟩
      have HZ := Lib.hid (below_of HB2.out hbz)
      clear hbz
      go_wp2_with fail
      go_ret
      exact ⟨rfl, HZ.out⟩
  ·
    have gA : (32768 : Int) < ((A : Nat) : Int) := by omega
    go_enter Try.func8, Try.ntmps8
    go_wp2_with fail
    go_fit (short_any HK0.out)
    rintro e w1 ⟨sb, rfl, hsb, hq⟩
    have HB1 : Hid (Below w.heap.size w w1) := by obtain ⟨m, rfl⟩ := hq; exact below_drewN (Below.refl _ _) _
    cases sb
    · clear hsb hq
      go_wp2_with fail
      go_fit (awake_any _)
      rintro e wz ⟨rfl, hbz⟩
      have HZ := Lib.hid (below_of HB1.out hbz)
      clear hbz
      go_wp2_with fail
      go_ret
      exact ⟨rfl, HZ.out⟩
    obtain ⟨hl, ho⟩ := hsb rfl
    have HL1 := Lib.hid hl
    have HO1 := Lib.hid ho
    clear hsb hq hl ho
    go_wp2_with fail
    have HWg' := Lib.hid (HWg.out w1 HB1.out)
    go_fit HWg'.out
    rintro e w2 ⟨rfl, hq2⟩
    have HB2 : Hid (Below w.heap.size w w2) := by obtain ⟨m, rfl⟩ := hq2; exact below_drewN HB1.out _
    clear hq2 HWg'
    go_wp2_with fail
    go_fit (awake_any _)
    rintro e wz ⟨rfl, hbz⟩
    have HZ := Lib.hid (below_of HB2.out hbz)
    clear hbz
    go_wp2_with fail
    go_ret
    exact ⟨rfl, HZ.out⟩
end Go.Proofs.Ytenjniieohmniaa
