/-
  FilterPasses walked. (Written by genpasses.py.)
-/
import Derived.Test.YtidjcfkolehdbaaFc
namespace Go.Proofs.Ytidjcfkolehdbaa
set_option linter.unusedVariables false
set_option linter.unusedSimpArgs false
open Go.RowKit

theorem arr1 (w : World) (p q : Value) : Below w.heap.size w (w.alloc (.cells #[p, q] 29)) ∧ (w.alloc (.cells #[p, q] 29)).cell? ⟨w.heap.size, 0, none⟩ = some p ∧ (w.alloc (.cells #[p, q] 29)).cell? ⟨w.heap.size, 1, none⟩ = some q :=
  ⟨lay_alloc w _, (DC.alloc w [p, q] 29).cells 0 _ rfl, (DC.alloc w [p, q] 29).cells 1 _ rfl⟩
theorem arr12 (w : World) (p q r s : Value) : Below w.heap.size w ((w.alloc (.cells #[p, q] 29)).alloc (.cells #[r, s] 29)) ∧ ((w.alloc (.cells #[p, q] 29)).alloc (.cells #[r, s] 29)).cell? ⟨w.heap.size, 0, none⟩ = some p ∧ ((w.alloc (.cells #[p, q] 29)).alloc (.cells #[r, s] 29)).cell? ⟨w.heap.size, 1, none⟩ = some q ∧ DC ((w.alloc (.cells #[p, q] 29)).alloc (.cells #[r, s] 29)) (w.heap.size + 1) [r, s] := by
  have a1 := lay_alloc w (.cells #[p, q] 29)
  have a2 := lay_alloc (w.alloc (.cells #[p, q] 29)) (.cells #[r, s] 29)
  have d := (DC.alloc w [p, q] 29).below a2
  have d2 := DC.alloc (w.alloc (.cells #[p, q] 29)) [r, s] 29
  rw [show (w.alloc (.cells #[p, q] 29)).heap.size = w.heap.size + 1 from by simp] at d2
  exact ⟨a1.trans (a2.mono a1.size), d.cells 0 _ rfl, d.cells 1 _ rfl, d2⟩
theorem arr21 (w : World) (p q r s : Value) : Below w.heap.size w ((w.alloc (.cells #[r, s] 29)).alloc (.cells #[p, q] 29)) ∧ ((w.alloc (.cells #[r, s] 29)).alloc (.cells #[p, q] 29)).cell? ⟨w.heap.size + 1, 0, none⟩ = some p ∧ ((w.alloc (.cells #[r, s] 29)).alloc (.cells #[p, q] 29)).cell? ⟨w.heap.size + 1, 1, none⟩ = some q ∧ DC ((w.alloc (.cells #[r, s] 29)).alloc (.cells #[p, q] 29)) w.heap.size [r, s] := by
  have h := arr12 w r s p q
  have a1 := lay_alloc w (.cells #[r, s] 29)
  have a2 := lay_alloc (w.alloc (.cells #[r, s] 29)) (.cells #[p, q] 29)
  exact ⟨h.1, h.2.2.2.cells 0 _ rfl, h.2.2.2.cells 1 _ rfl, (DC.alloc w [r, s] 29).below a2⟩
theorem in_eq {w : World} {v : Value} {xs ys : List Kev} (h : evL.In w v xs) (e : xs = ys) : evL.In w v ys := e ▸ h
theorem pass_pass (f : Fl) (l : List Kev) : passF f (passF f l) = passF f l := by unfold passF; rw [List.filter_filter]; simp
theorem pass_cat (f : Fl) (a b : List Kev) : passF f (a ++ b) = passF f a ++ passF f b := List.filter_append ..
theorem pass_len2 (f : Fl) (l : List Kev) : (passF f l).length ≤ l.length := List.length_filter_le _ _
theorem pass_mem {f : Fl} {l : List Kev} {e : Kev} (h : e ∈ passF f l) : e ∈ l := (List.mem_filter.1 h).1
set_option maxRecDepth 100000 in
set_option maxHeartbeats 12800000 in
theorem Passes_any {w : World} {u v v2 : Value} (f : Fl) (hk : KidsIn w w.heap.size u f.kids) (hfit : Fits f) (l : List Kev) (hv : evL.In w v l) (hfl : ∀ e ∈ l, FitE e) (m : List Kev) (hv2 : evL.In w v2 m) (hfm : ∀ e ∈ m, FitE e) : Calls Try.prog 10 #[flV f u, v, v2] w (HoldP true w) := by
  obtain ⟨a, cap, rfl, hc1, hc2⟩ := hk.slice
  obtain ⟨va, vc, rfl, hv1, hv2'⟩ := hv.slice
  obtain ⟨ma, mc, rfl, hm1, hm2⟩ := hv2.slice
  have hb0 := lay_alloc w (.cells #[.int .i64 f.kind, .string f.name, .string f.text, .slice a f.kids.length cap] 24)
  have HB0 := Lib.hid hb0
  have HF0 := Lib.hid (DC.alloc w [.int .i64 f.kind, .string f.name, .string f.text, .slice a f.kids.length cap] 24)
  have HL := Lib.hid (lightB_any f hfit (hk.on hb0))
  have HK0 := Lib.hid (hk.on hb0)
  have HV0 := Lib.hid (hv.later hb0)
  have HM0 := Lib.hid (hv2.later hb0)
  have HFL := Lib.hid hfl
  have HFM := Lib.hid hfm
  unfold flV at HL
  clear hk hfit hb0 hv hfl hv2 hfm
  unfold flV
  go_enter Try.func10, Try.ntmps10
  go_wp2_with fail
  go_fit HL.out
  rintro e w1 ⟨rfl, hli, hb1⟩
  have HF1 := Lib.hid (HF0.out.below hb1)
  have HB1 := Lib.hid (HB0.out.trans (hb1.mono HB0.out.size))
  have HK1 := Lib.hid (HK0.out.on hb1)
  have HV1 := Lib.hid (HV0.out.later hb1)
  have HM1 := Lib.hid (HM0.out.later hb1)
  have HLi := Lib.hid hli
  clear hli hb1 HF0 HB0 HK0 HV0 HM0 HL
  cases hlb : lightB f
  · clear hlb
    go_wp2_with fail
    go_fit (awake_any _)
    rintro e wz ⟨rfl, hbz⟩
    have HBz := Lib.hid (HB1.out.trans (hbz.mono HB1.out.size))
    clear hbz
    go_wp2_with fail
    go_ret
    exact ⟨rfl, HBz.out⟩
  have HLL := Lib.hid (HLi.out hlb)
  have HW := Lib.hid (few_any l HV1.out HFL.out)
  clear hlb HLi HFL
  go_wp2_with fail
  go_fit HW.out
  rintro e w2 ⟨rfl, hb2⟩
  have HF2 := Lib.hid (HF1.out.below hb2)
  have HB2 := Lib.hid (HB1.out.trans (hb2.mono HB1.out.size))
  have HK2 := Lib.hid (HK1.out.on hb2)
  have HV2 := Lib.hid (HV1.out.later hb2)
  have HM2 := Lib.hid (HM1.out.later hb2)
  clear hb2 HF1 HB1 HK1 HV1 HM1 HW
  cases hfw : fewB l
  · clear hfw
    go_wp2_with fail
    go_fit (awake_any _)
    rintro e wz ⟨rfl, hbz⟩
    have HBz := Lib.hid (HB2.out.trans (hbz.mono HB2.out.size))
    clear hbz
    go_wp2_with fail
    go_ret
    exact ⟨rfl, HBz.out⟩
  have HSM := Lib.hid (few_small hfw)
  have HW := Lib.hid (few_any m HM2.out HFM.out)
  clear hfw HFM
  go_wp2_with fail
  go_fit HW.out
  rintro e w3 ⟨rfl, hb3⟩
  have HF3 := Lib.hid (HF2.out.below hb3)
  have HB3 := Lib.hid (HB2.out.trans (hb3.mono HB2.out.size))
  have HK3 := Lib.hid (HK2.out.on hb3)
  have HV3 := Lib.hid (HV2.out.later hb3)
  have HM3 := Lib.hid (HM2.out.later hb3)
  clear hb3 HF2 HB2 HK2 HV2 HM2 HW
  cases hfw : fewB m
  · clear hfw
    go_wp2_with fail
    go_fit (awake_any _)
    rintro e wz ⟨rfl, hbz⟩
    have HBz := Lib.hid (HB3.out.trans (hbz.mono HB3.out.size))
    clear hbz
    go_wp2_with fail
    go_ret
    exact ⟨rfl, HBz.out⟩
  have HSN := Lib.hid (few_small hfw)
  clear hfw
  have HKM : Hid (∀ e ∈ l, e.now.size ≤ 1073741824) := fun e he => by have := HSM.out.2 e he; omega
  have HKN : Hid (∀ e ∈ m, e.now.size ≤ 1073741824) := fun e he => by have := HSN.out.2 e he; omega
  have HLM : Hid (l.length ≤ 200) := HSM.out.1
  have HLN : Hid (m.length ≤ 200) := HSN.out.1
  go_wp2_with fail
  have hF := HF3.out
  have hdr : Below w3.heap.size w3 w3.drew := lay_drew (Below.refl _ _)
  generalize hfb : w.heap.size = fb at *
  have y0 := hF.cells 0 _ rfl
  have y1 := hF.cells 1 _ rfl
  have y2 := hF.cells 2 _ rfl
  have y3 := hF.cells 3 _ rfl
  have HF4 := Lib.hid (hF.below hdr)
  have HK4 := Lib.hid (HK3.out.on hdr)
  have HV4 := Lib.hid (HV3.out.later hdr)
  have HM4 := Lib.hid (HM3.out.later hdr)
  have HB4 := Lib.hid (HB3.out.trans (hdr.mono (Nat.le_of_lt hF.lt)))
  have hC := Pass_any f l HLL.out HK4.out HV4.out (by have := HLM.out; omega) HKM.out
  unfold flV at hC
  have HC := Lib.hid hC
  clear hF hdr hC HK3 HV3 HM3 HB3 HF3 HSM HSN
  go_region_held3 (fun V => V.cell? ⟨fb, 0, none⟩ = some (.int .i64 f.kind) ∧ V.cell? ⟨fb, 1, none⟩ = some (.string f.name) ∧ V.cell? ⟨fb, 2, none⟩ = some (.string f.text) ∧ V.cell? ⟨fb, 3, none⟩ = some (.slice a f.kids.length cap)) (go_keep)
    (first
      | (go_at_call 22; (with_reducible refine HC.out.mono ?_); rintro e' w5 ⟨v5, rfl, hrw5⟩; obtain ⟨pa, pc, rfl, _, _⟩ := hrw5.slice; have HX5 := Lib.hid hrw5.told; have HF5 := Lib.hid (HF4.out.below hrw5.grown); have z0 := HF5.out.cells 0 _ rfl; have z1 := HF5.out.cells 1 _ rfl; have z2 := HF5.out.cells 2 _ rfl; have z3 := HF5.out.cells 3 _ rfl; have HB5 := Lib.hid (HB4.out.trans (hrw5.grown.mono (Nat.le_of_lt HF4.out.lt))); have HK5 := Lib.hid (HK4.out.on hrw5.grown); have HV5 := Lib.hid (HV4.out.later hrw5.grown); have HM5 := Lib.hid (HM4.out.later hrw5.grown); have hC2 := Pass_any f m HLL.out HK5.out HM5.out (by have := HLN.out; omega) HKN.out; unfold flV at hC2; have HC2 := Lib.hid hC2; clear hrw5 hC2)
      | (go_at_call 22; (with_reducible refine HC2.out.mono ?_); rintro e' w6 ⟨v6, rfl, hrw6⟩; obtain ⟨qa, qc, rfl, _, _⟩ := hrw6.slice; have HY6 := Lib.hid hrw6.told; have HX6 := Lib.hid (HX5.out.later hrw6.grown); have HF6 := Lib.hid (HF5.out.below hrw6.grown); clear z0 z1 z2 z3; have z0 := HF6.out.cells 0 _ rfl; have z1 := HF6.out.cells 1 _ rfl; have z2 := HF6.out.cells 2 _ rfl; have z3 := HF6.out.cells 3 _ rfl; have HB6 := Lib.hid (HB5.out.trans (hrw6.grown.mono (Nat.le_of_lt HF5.out.lt))); have HK6 := Lib.hid (HK5.out.on hrw6.grown); have HV6 := Lib.hid (HV5.out.later hrw6.grown); have HM6 := Lib.hid (HM5.out.later hrw6.grown); clear hrw6))
  all_goals
    clear z0 z1 z2 z3 y0 y1 y2 y3 HC HC2 HF4 HK4 HV4 HM4 HB4 HF5 HB5 HK5 HV5 HM5 HX5
    go_wp2_with fail
    have hF := HF6.out
    have hdr : Below w6.heap.size w6 w6.drew := lay_drew (Below.refl _ _)
    have y0 := hF.cells 0 _ rfl
    have y1 := hF.cells 1 _ rfl
    have y2 := hF.cells 2 _ rfl
    have y3 := hF.cells 3 _ rfl
    have HF7 := Lib.hid (hF.below hdr)
    have HK7 := Lib.hid (HK6.out.on hdr)
    have HV7 := Lib.hid (HV6.out.later hdr)
    have HM7 := Lib.hid (HM6.out.later hdr)
    have HX7 := Lib.hid (HX6.out.later hdr)
    have HY7 := Lib.hid (HY6.out.later hdr)
    have HB7 := Lib.hid (HB6.out.trans (hdr.mono (Nat.le_of_lt hF.lt)))
    have HLX : Hid ((passF f l).length ≤ 200) := by show _ ≤ _; have := HLM.out; have := pass_len2 f l; omega
    have HLY : Hid ((passF f m).length ≤ 200) := by show _ ≤ _; have := HLN.out; have := pass_len2 f m; omega
    have HPL1 : Hid ((passF f l).length ≤ 100000) := by show _ ≤ _; have := HLX.out; omega
    have HPL2 : Hid ((passF f m).length ≤ 100000) := by show _ ≤ _; have := HLY.out; omega
    have HLC : Hid ((l ++ m).length ≤ 1000000) := by show _ ≤ _; rw [List.length_append]; have := HLM.out; have := HLN.out; omega
    have HKC : Hid (∀ e ∈ l ++ m, e.now.size ≤ 1073741824) := fun e he => by rcases List.mem_append.1 he with h | h; exact HKM.out e h; exact HKN.out e h
    have hC := Pass_any f (passF f l) HLL.out HK7.out HX7.out (by have := HLX.out; omega) (fun e he => HKM.out e (pass_mem he))
    unfold flV at hC
    have HC := Lib.hid hC
    clear hF hdr hC HK6 HV6 HM6 HB6 HF6 HX6 HY6
    go_region_held3 (fun V => V.cell? ⟨fb, 0, none⟩ = some (.int .i64 f.kind) ∧ V.cell? ⟨fb, 1, none⟩ = some (.string f.name) ∧ V.cell? ⟨fb, 2, none⟩ = some (.string f.text) ∧ V.cell? ⟨fb, 3, none⟩ = some (.slice a f.kids.length cap)) (go_keep)
      (first
        | (go_at_call 22; (with_reducible refine HC.out.mono ?_); rintro e' w8 ⟨v8, rfl, hrw8⟩; obtain ⟨ra, rc, rfl, _, _⟩ := hrw8.slice; have HF8 := Lib.hid (HF7.out.below hrw8.grown); have HK8 := Lib.hid (HK7.out.on hrw8.grown); have HV8 := Lib.hid (HV7.out.later hrw8.grown); have HM8 := Lib.hid (HM7.out.later hrw8.grown); have HX8 := Lib.hid (HX7.out.later hrw8.grown); have HY8 := Lib.hid (HY7.out.later hrw8.grown); have HB8 := Lib.hid (HB7.out.trans (hrw8.grown.mono (Nat.le_of_lt HF7.out.lt))); have z0 := HF8.out.cells 0 _ rfl; have z1 := HF8.out.cells 1 _ rfl; have z2 := HF8.out.cells 2 _ rfl; have z3 := HF8.out.cells 3 _ rfl; have HEQ := Lib.hid (EqualE (in_eq hrw8.told (pass_pass f l)) HX8.out); clear hrw8)
        | (go_at_call 21; (with_reducible refine HEQ.out.mono ?_); rintro e' w9 ⟨rfl, hb9⟩; have HF9 := Lib.hid (HF8.out.below hb9); have HK9 := Lib.hid (HK8.out.on hb9); have HV9 := Lib.hid (HV8.out.later hb9); have HM9 := Lib.hid (HM8.out.later hb9); have HX9 := Lib.hid (HX8.out.later hb9); have HY9 := Lib.hid (HY8.out.later hb9); have HB9 := Lib.hid (HB8.out.trans (hb9.mono (Nat.le_of_lt HF8.out.lt))); clear z0 z1 z2 z3; have z0 := HF9.out.cells 0 _ rfl; have z1 := HF9.out.cells 1 _ rfl; have z2 := HF9.out.cells 2 _ rfl; have z3 := HF9.out.cells 3 _ rfl; have f1 := arr1 w9 (.slice va l.length vc) (.slice ma m.length mc); have f12 := arr12 w9 (.slice va l.length vc) (.slice ma m.length mc) (.slice pa (passF f l).length pc) (.slice qa (passF f m).length qc); have f21 := arr21 w9 (.slice va l.length vc) (.slice ma m.length mc) (.slice pa (passF f l).length pc) (.slice qa (passF f m).length qc); have HBA := Lib.hid f1.1; have HBAB := Lib.hid f12.1; have HBBA := Lib.hid f21.1; have HQ12 := Lib.hid f12.2.2.2; have HQ21 := Lib.hid f21.2.2.2; have HC0 := Lib.hid (Concat_two f1.2.1 f1.2.2 (HV9.out.later f1.1) (HM9.out.later f1.1) (by have := HLM.out; omega) (by have := HLN.out; omega)); have HC12 := Lib.hid (Concat_two f12.2.1 f12.2.2.1 (HV9.out.later f12.1) (HM9.out.later f12.1) (by have := HLM.out; omega) (by have := HLN.out; omega)); have HC21 := Lib.hid (Concat_two f21.2.1 f21.2.2.1 (HV9.out.later f21.1) (HM9.out.later f21.1) (by have := HLM.out; omega) (by have := HLN.out; omega)); have n0 : fb ≠ w9.heap.size := Nat.ne_of_lt HF9.out.lt; clear f1 f12 f21 hb9)
        | (go_at_call 37; (first | ((with_reducible refine HC0.out.mono ?_); rintro e' wa ⟨va2, rfl, hrwa⟩; have hba := HBA.out.trans (hrwa.grown.mono HBA.out.size)) | ((with_reducible refine HC12.out.mono ?_); rintro e' wa ⟨va2, rfl, hrwa⟩; have hba := HBAB.out.trans (hrwa.grown.mono HBAB.out.size); have HQ := Lib.hid (HQ12.out.below hrwa.grown)) | ((with_reducible refine HC21.out.mono ?_); rintro e' wa ⟨va2, rfl, hrwa⟩; have hba := HBBA.out.trans (hrwa.grown.mono HBBA.out.size); have HQ := Lib.hid (HQ21.out.below hrwa.grown))); obtain ⟨sa, sc, rfl, _, _⟩ := hrwa.slice; have HFa := Lib.hid (HF9.out.below hba); have HKa := Lib.hid (HK9.out.on hba); have HXa := Lib.hid (HX9.out.later hba); have HYa := Lib.hid (HY9.out.later hba); have HBa := Lib.hid (HB9.out.trans (hba.mono (Nat.le_of_lt HF9.out.lt))); clear z0 z1 z2 z3; have z0 := HFa.out.cells 0 _ rfl; have z1 := HFa.out.cells 1 _ rfl; have z2 := HFa.out.cells 2 _ rfl; have z3 := HFa.out.cells 3 _ rfl; have ht := hrwa.told; rw [List.length_append] at ht; have al := lay_alloc wa (.cells #[.slice pa (passF f l).length pc, .slice qa (passF f m).length qc] 29); have HAL := Lib.hid al; have hp := Pass_any f (l ++ m) HLL.out HKa.out ht HLC.out HKC.out; have hp2 := Pass_any f (l ++ m) HLL.out (HKa.out.on al) (ht.later al) HLC.out HKC.out; unfold flV at hp hp2; have HP := Lib.hid hp; have HP2 := Lib.hid hp2; have na : fb ≠ wa.heap.size := Nat.ne_of_lt HFa.out.lt; clear hba hrwa ht al hp hp2 HC0 HC12 HC21)
        | (go_at_call 22; (first | ((with_reducible refine HP.out.mono ?_); rintro e' wb ⟨vb, rfl, hrwb⟩; have hbb := hrwb.grown; (first | have HQb := Lib.hid (HQ.out.below hrwb.grown) | skip)) | ((with_reducible refine HP2.out.mono ?_); rintro e' wb ⟨vb, rfl, hrwb⟩; have hbb := HAL.out.trans (hrwb.grown.mono HAL.out.size); have HQb := Lib.hid ((DC.alloc wa [.slice pa (passF f l).length pc, .slice qa (passF f m).length qc] 29).below hrwb.grown))); obtain ⟨ta, tc, rfl, _, _⟩ := hrwb.slice; have HFb := Lib.hid (HFa.out.below hbb); have HXb := Lib.hid (HXa.out.later hbb); have HYb := Lib.hid (HYa.out.later hbb); have HBb := Lib.hid (HBa.out.trans (hbb.mono (Nat.le_of_lt HFa.out.lt))); clear z0 z1 z2 z3; have z0 := HFb.out.cells 0 _ rfl; have z1 := HFb.out.cells 1 _ rfl; have z2 := HFb.out.cells 2 _ rfl; have z3 := HFb.out.cells 3 _ rfl; have HRb := Lib.hid hrwb.told; have g1 := arr1 wb (.slice pa (passF f l).length pc) (.slice qa (passF f m).length qc); have HALb := Lib.hid g1.1; have HCC := Lib.hid (Concat_two g1.2.1 g1.2.2 (HXb.out.later g1.1) (HYb.out.later g1.1) HPL1.out HPL2.out); (first | have HCQ := Lib.hid (Concat_two (HQb.out.cells 0 _ rfl) (HQb.out.cells 1 _ rfl) HXb.out HYb.out HPL1.out HPL2.out) | skip); have nb : fb ≠ wb.heap.size := Nat.ne_of_lt HFb.out.lt; clear hbb hrwb g1)
        | (go_at_call 37; (first | ((with_reducible refine HCC.out.mono ?_); rintro e' wc ⟨vc2, rfl, hrwc⟩; have hbc := HALb.out.trans (hrwc.grown.mono HALb.out.size)) | ((with_reducible refine HCQ.out.mono ?_); rintro e' wc ⟨vc2, rfl, hrwc⟩; have hbc := hrwc.grown)); obtain ⟨xa, xc, rfl, _, _⟩ := hrwc.slice; have HFc := Lib.hid (HFb.out.below hbc); have HBc := Lib.hid (HBb.out.trans (hbc.mono (Nat.le_of_lt HFb.out.lt))); clear z0 z1 z2 z3; have z0 := HFc.out.cells 0 _ rfl; have z1 := HFc.out.cells 1 _ rfl; have z2 := HFc.out.cells 2 _ rfl; have z3 := HFc.out.cells 3 _ rfl; have ht := hrwc.told; rw [List.length_append] at ht; have HEQ2 := Lib.hid (EqualE (HRb.out.later hbc) (in_eq ht (pass_cat f l m).symm)); clear hbc hrwc ht)
        | (go_at_call 21; (with_reducible refine HEQ2.out.mono ?_); rintro e' wd ⟨rfl, hbd⟩; have HFd := Lib.hid (HFc.out.below hbd); have HBd := Lib.hid (HBc.out.trans (hbd.mono (Nat.le_of_lt HFc.out.lt))); clear z0 z1 z2 z3; have z0 := HFd.out.cells 0 _ rfl; have z1 := HFd.out.cells 1 _ rfl; have z2 := HFd.out.cells 2 _ rfl; have z3 := HFd.out.cells 3 _ rfl; clear hbd)
        | (go_at_call 16; (with_reducible refine (awake_any _).mono ?_); rintro e' we ⟨rfl, hbe⟩; have HFe := Lib.hid (HFd.out.below hbe); have HBe := Lib.hid (HBd.out.trans (hbe.mono (Nat.le_of_lt HFd.out.lt))); clear z0 z1 z2 z3; have z0 := HFe.out.cells 0 _ rfl; have z1 := HFe.out.cells 1 _ rfl; have z2 := HFe.out.cells 2 _ rfl; have z3 := HFe.out.cells 3 _ rfl; clear hbe))
    all_goals
      clear z0 z1 z2 z3 y0 y1 y2 y3
      go_wp2_with fail
      go_ret
      exact ⟨rfl, by rw [hfb]; exact HBe.out⟩
end Go.Proofs.Ytidjcfkolehdbaa
