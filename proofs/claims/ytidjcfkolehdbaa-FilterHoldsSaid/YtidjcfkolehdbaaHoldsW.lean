/-
  FilterHolds walked. (Written by genholds.py.)
-/
import Derived.Test.YtidjcfkolehdbaaFe
namespace Go.Proofs.Ytidjcfkolehdbaa
set_option linter.unusedVariables false
set_option linter.unusedSimpArgs false
open Go.RowKit

set_option maxRecDepth 100000 in
set_option maxHeartbeats 12800000 in
theorem Holds_law {w : World} {u v : Value} (f : Fl) (hk : KidsIn w w.heap.size u f.kids) (hfit : Fits f) (l : List Kev) (hv : evL.In w v l) (hfl : ∀ e ∈ l, FitE e) : Calls Try.prog 4 #[flV f u, v] w (HoldP true w) := by
  obtain ⟨a, cap, rfl, hc1, hc2⟩ := hk.slice
  obtain ⟨va, vc, rfl, hv1, hv2⟩ := hv.slice
  have hb0 := lay_alloc w (.cells #[.int .i64 f.kind, .string f.name, .string f.text, .slice a f.kids.length cap] 24)
  have HB0 := Lib.hid hb0
  have HF0 := Lib.hid (DC.alloc w [.int .i64 f.kind, .string f.name, .string f.text, .slice a f.kids.length cap] 24)
  have HL := Lib.hid (lightB_any f hfit (hk.on hb0))
  have HK0 := Lib.hid (hk.on hb0)
  have HV0 := Lib.hid (hv.later hb0)
  have HFL := Lib.hid hfl
  unfold flV at HL
  clear hk hfit hb0 hv hfl
  unfold flV
  go_enter Try.func4, Try.ntmps4
  go_wp2_with fail
  go_fit HL.out
  rintro e w1 ⟨rfl, hli, hb1⟩
  have HF1 := Lib.hid (HF0.out.below hb1)
  have HB1 := Lib.hid (HB0.out.trans (hb1.mono HB0.out.size))
  have HK1 := Lib.hid (HK0.out.on hb1)
  have HV1 := Lib.hid (HV0.out.later hb1)
  have HLi := Lib.hid hli
  clear hli hb1 HF0 HB0 HK0 HV0 HL
  cases hlb : lightB f
  · clear hlb
    go_wp2_with fail
    go_fit (awake_any _)
    rintro e wz ⟨rfl, hbz⟩
    have HBz := Lib.hid (HB1.out.trans (hbz.mono HB1.out.size))
    clear hbz
    go_wp2_with fail
    go_ret
    exact ⟨rfl, HBz.out⟩
  have HLL := Lib.hid (HLi.out hlb)
  have HW := Lib.hid (few_any l HV1.out HFL.out)
  clear hlb HLi HFL
  go_wp2_with fail
  go_fit HW.out
  rintro e w2 ⟨rfl, hb2⟩
  have HF2 := Lib.hid (HF1.out.below hb2)
  have HB2 := Lib.hid (HB1.out.trans (hb2.mono HB1.out.size))
  have HK2 := Lib.hid (HK1.out.on hb2)
  have HV2 := Lib.hid (HV1.out.later hb2)
  clear hb2 HF1 HB1 HK1 HV1 HW
  cases hfw : fewB l
  · clear hfw
    go_wp2_with fail
    go_fit (awake_any _)
    rintro e wz ⟨rfl, hbz⟩
    have HBz := Lib.hid (HB2.out.trans (hbz.mono HB2.out.size))
    clear hbz
    go_wp2_with fail
    go_ret
    exact ⟨rfl, HBz.out⟩
  have HSM := Lib.hid (few_small hfw).2
  have hln : l.length ≤ 200 := (few_small hfw).1
  clear hfw
  have hfbl : w.heap.size < w2.heap.size := HF2.out.lt
  generalize hfb : w.heap.size = fb at *
  go_wp2_with fail
  go_loopw [19] (fun iv wr => ∃ i : Nat, iv = .int .i64 i ∧ i ≤ l.length ∧ Hid (Below w2.heap.size w2 wr))
    (fun v _ => l.length - (intOf v).toNat)
  case atStart => exact ⟨0, rfl, Nat.zero_le _, Below.refl _ _⟩
  case round =>
    obtain ⟨i, rfl, hin, hb⟩ := hrel
    by_cases hlt : i < l.length
    · have ei : IntKind.i64.wrap ((i : Int) + 1) = (i : Int) + 1 := IntWalk.i64_in _ (by omega)
      obtain ⟨e, he⟩ : ∃ e, l[i]? = some e := ⟨l[i], List.getElem?_eq_getElem hlt⟩
      obtain ⟨g, off, rfl, _, hcell⟩ := (HV2.out.later hb.out).cells he
      have k0 : wr.cell? ⟨g, off + i * 6, none⟩ = some (.int .i64 e.pos) := hcell 0 _ rfl
      have k1 : wr.cell? ⟨g, off + i * 6 + 1, none⟩ = some (.string e.key) := hcell 1 _ rfl
      have k2 : wr.cell? ⟨g, off + i * 6 + 2, none⟩ = some (.bool e.had) := hcell 2 _ rfl
      have k3 : wr.cell? ⟨g, off + i * 6 + 3, none⟩ = some (.string e.old) := hcell 3 _ rfl
      have k4 : wr.cell? ⟨g, off + i * 6 + 4, none⟩ = some (.bool e.has) := hcell 4 _ rfl
      have k5 : wr.cell? ⟨g, off + i * 6 + 5, none⟩ = some (.string e.now) := hcell 5 _ rfl
      have hI1 : (i : Int) < ((l.length : Nat) : Int) := by omega
      have hI2 : (0 : Int) ≤ (i : Int) := by omega
      obtain ⟨hs1, _, hs2⟩ := HSM.out e (List.mem_of_getElem? he)
      have hal := lay_alloc wr (.cells #[.int .i64 e.pos, .string e.key, .bool e.had, .string e.old, .bool e.has, .string e.now] 32)
      have hE := DC.alloc wr [.int .i64 e.pos, .string e.key, .bool e.had, .string e.old, .bool e.has, .string e.now] 32
      have hF := (HF2.out.below hb.out).below hal
      have hkk := (HK2.out.on hb.out).on hal
      have HGA := Lib.hid (hb.out.trans (hal.mono hb.out.size))
      clear hcell he
      go_wp2_with fail
      clear k0 k1 k2 k3 k4 k5
      generalize wr.alloc (.cells #[.int .i64 e.pos, .string e.key, .bool e.had, .string e.old, .bool e.has, .string e.now] 32) = W at *
      generalize heb : wr.heap.size = eb at *
      have y0 := hF.cells 0 _ rfl
      have y1 := hF.cells 1 _ rfl
      have y2 := hF.cells 2 _ rfl
      have y3 := hF.cells 3 _ rfl
      have x0 := hE.cells 0 _ rfl
      have x1 := hE.cells 1 _ rfl
      have x2 := hE.cells 2 _ rfl
      have x3 := hE.cells 3 _ rfl
      have x4 := hE.cells 4 _ rfl
      have x5 := hE.cells 5 _ rfl
      have hdr : Below W.heap.size W W.drew := lay_drew (Below.refl _ _)
      have HF5 := Lib.hid (hF.below hdr)
      have HE5 := Lib.hid (hE.below hdr)
      have HK5 := Lib.hid (hkk.on hdr)
      have HB5 := Lib.hid (HGA.out.trans (hdr.mono HGA.out.size))
      have hC := Holds_any f e HLL.out HK5.out (by omega)
      unfold flV evV at hC
      have HC := Lib.hid hC
      have HS1 : Hid (e.key.size ≤ 1073741824 ∧ e.now.size ≤ 1073741824) := ⟨by omega, by omega⟩
      have hne : (holdsF f e != holdsF f e) = false := by simp
      clear hal hF hE hkk hC hdr hb hs1 hs2
      go_region_held3 (fun V => V.cell? ⟨fb, 0, none⟩ = some (.int .i64 f.kind) ∧ V.cell? ⟨fb, 1, none⟩ = some (.string f.name) ∧ V.cell? ⟨fb, 2, none⟩ = some (.string f.text) ∧ V.cell? ⟨fb, 3, none⟩ = some (.slice a f.kids.length cap) ∧ V.cell? ⟨eb, 0, none⟩ = some (.int .i64 e.pos) ∧ V.cell? ⟨eb, 1, none⟩ = some (.string e.key) ∧ V.cell? ⟨eb, 2, none⟩ = some (.bool e.had) ∧ V.cell? ⟨eb, 3, none⟩ = some (.string e.old) ∧ V.cell? ⟨eb, 4, none⟩ = some (.bool e.has) ∧ V.cell? ⟨eb, 5, none⟩ = some (.string e.now)) (go_keep)
        (first
          | (go_at_call 18; (with_reducible refine HC.out.mono ?_); rintro e' w6 ⟨rfl, hb6⟩; have HF6 := Lib.hid (HF5.out.below hb6); have HE6 := Lib.hid (HE5.out.below hb6); have z0 := HF6.out.cells 0 _ rfl; have z1 := HF6.out.cells 1 _ rfl; have z2 := HF6.out.cells 2 _ rfl; have z3 := HF6.out.cells 3 _ rfl; have t0 := HE6.out.cells 0 _ rfl; have t1 := HE6.out.cells 1 _ rfl; have t2 := HE6.out.cells 2 _ rfl; have t3 := HE6.out.cells 3 _ rfl; have t4 := HE6.out.cells 4 _ rfl; have t5 := HE6.out.cells 5 _ rfl; have HB6 := Lib.hid (HB5.out.trans (hb6.mono HB5.out.size)); have hC2 := rHolds_any f e HLL.out (HK5.out.on hb6) HS1.out.1 HS1.out.2; unfold flV evV at hC2; have HC2 := Lib.hid hC2; clear hb6 hC2)
          | (go_at_call 19; (with_reducible refine HC2.out.mono ?_); rintro e' w7 ⟨rfl, hb7⟩; have HF7 := Lib.hid (HF6.out.below hb7); have HE7 := Lib.hid (HE6.out.below hb7); clear z0 z1 z2 z3 t0 t1 t2 t3 t4 t5; have z0 := HF7.out.cells 0 _ rfl; have z1 := HF7.out.cells 1 _ rfl; have z2 := HF7.out.cells 2 _ rfl; have z3 := HF7.out.cells 3 _ rfl; have t0 := HE7.out.cells 0 _ rfl; have t1 := HE7.out.cells 1 _ rfl; have t2 := HE7.out.cells 2 _ rfl; have t3 := HE7.out.cells 3 _ rfl; have t4 := HE7.out.cells 4 _ rfl; have t5 := HE7.out.cells 5 _ rfl; have HB7 := Lib.hid (HB6.out.trans (hb7.mono HB6.out.size)); clear hb7))
      all_goals
        clear HF7 HE7 HF6 HE6 z0 z1 z2 z3 t0 t1 t2 t3 t4 t5 y0 y1 y2 y3 x0 x1 x2 x3 x4 x5
        go_wp2_with fail
        exact ⟨⟨i + 1, by simp, hlt, HB7⟩, by show l.length - ((i : Int) + 1).toNat < l.length - ((i : Int)).toNat; omega⟩
    · obtain rfl : i = l.length := by omega
      have HFr := Lib.hid (HF2.out.below hb.out)
      have HKr := Lib.hid (HK2.out.on hb.out)
      have HVr := Lib.hid (HV2.out.later hb.out)
      have HBr := Lib.hid (HB2.out.trans (hb.out.mono (Nat.le_of_lt HF2.out.lt)))
      have HS1 : Hid (∀ e ∈ l, e.key.size ≤ 1073741824) := fun e he => by have := HSM.out e he; omega
      have HS2 : Hid (∀ e ∈ l, e.now.size ≤ 1073741824) := fun e he => by have := HSM.out e he; omega
      have HLN : Hid (l.length ≤ 1000000) := by show _ ≤ _; omega
      clear hb HSM
      go_wp2_with fail
      go_fit (CloneE HVr.out HLN.out)
      rintro e w8 ⟨u8, rfl, hrw8⟩
      obtain ⟨ga, gc, rfl, _, _⟩ := hrw8.slice
      have hb8 := hrw8.grown
      have hdr : Below w8.heap.size w8 w8.drew := lay_drew (Below.refl _ _)
      have hF := HFr.out.below hb8
      have y0 := hF.cells 0 _ rfl
      have y1 := hF.cells 1 _ rfl
      have y2 := hF.cells 2 _ rfl
      have y3 := hF.cells 3 _ rfl
      have HF8 := Lib.hid (hF.below hdr)
      have HK8 := Lib.hid ((HKr.out.on hb8).on hdr)
      have HV8 := Lib.hid ((HVr.out.later hb8).later hdr)
      have HG8 := Lib.hid (hrw8.told.later hdr)
      have hB8 := HBr.out.trans (hb8.mono (Nat.le_of_lt HFr.out.lt))
      have HB8 := Lib.hid (hB8.trans (hdr.mono (Nat.le_of_lt hF.lt)))
      have hC := Pass_any f l HLL.out HK8.out HG8.out HLN.out HS2.out
      unfold flV at hC
      have HC := Lib.hid hC
      clear hrw8 hb8 hdr hF hB8 hC HFr HKr HVr HBr
      go_wp2_with fail
      go_region_held3 (fun V => V.cell? ⟨fb, 0, none⟩ = some (.int .i64 f.kind) ∧ V.cell? ⟨fb, 1, none⟩ = some (.string f.name) ∧ V.cell? ⟨fb, 2, none⟩ = some (.string f.text) ∧ V.cell? ⟨fb, 3, none⟩ = some (.slice a f.kids.length cap)) (go_keep)
        (first
          | (go_at_call 22; (with_reducible refine HC.out.mono ?_); rintro e' w9 ⟨v9, rfl, hrw9⟩; obtain ⟨pa, pc, rfl, _, _⟩ := hrw9.slice; have HR9 := Lib.hid hrw9.told; have HF9 := Lib.hid (HF8.out.below hrw9.grown); have z0 := HF9.out.cells 0 _ rfl; have z1 := HF9.out.cells 1 _ rfl; have z2 := HF9.out.cells 2 _ rfl; have z3 := HF9.out.cells 3 _ rfl; have HB9 := Lib.hid (HB8.out.trans (hrw9.grown.mono (Nat.le_of_lt HF8.out.lt))); have HV9 := Lib.hid (HV8.out.later hrw9.grown); have HG9 := Lib.hid (HG8.out.later hrw9.grown); have hC2 := rPass_any f l HLL.out (HK8.out.on hrw9.grown) HV9.out HLN.out HS1.out HS2.out; unfold flV at hC2; have HC2 := Lib.hid hC2; clear hrw9 hC2)
          | (go_at_call 23; (with_reducible refine HC2.out.mono ?_); rintro e' w10 ⟨v10, rfl, hrw10⟩; obtain ⟨qa, qc, rfl, _, _⟩ := hrw10.slice; have HF10 := Lib.hid (HF9.out.below hrw10.grown); clear z0 z1 z2 z3; have z0 := HF10.out.cells 0 _ rfl; have z1 := HF10.out.cells 1 _ rfl; have z2 := HF10.out.cells 2 _ rfl; have z3 := HF10.out.cells 3 _ rfl; have HB10 := Lib.hid (HB9.out.trans (hrw10.grown.mono (Nat.le_of_lt HF9.out.lt))); have HV10 := Lib.hid (HV9.out.later hrw10.grown); have HG10 := Lib.hid (HG9.out.later hrw10.grown); have HEQ := Lib.hid (EqualE (HR9.out.later hrw10.grown) hrw10.told); clear hrw10)
          | (go_at_call 21; (with_reducible refine HEQ.out.mono ?_); rintro e' w11 ⟨rfl, hb11⟩; have HF11 := Lib.hid (HF10.out.below hb11); clear z0 z1 z2 z3; have z0 := HF11.out.cells 0 _ rfl; have z1 := HF11.out.cells 1 _ rfl; have z2 := HF11.out.cells 2 _ rfl; have z3 := HF11.out.cells 3 _ rfl; have HB11 := Lib.hid (HB10.out.trans (hb11.mono (Nat.le_of_lt HF10.out.lt))); have HEQ2 := Lib.hid (EqualE (HG10.out.later hb11) (HV10.out.later hb11)); clear hb11)
          | (go_at_call 21; (with_reducible refine HEQ2.out.mono ?_); rintro e' w12 ⟨rfl, hb12⟩; have HF12 := Lib.hid (HF11.out.below hb12); clear z0 z1 z2 z3; have z0 := HF12.out.cells 0 _ rfl; have z1 := HF12.out.cells 1 _ rfl; have z2 := HF12.out.cells 2 _ rfl; have z3 := HF12.out.cells 3 _ rfl; have HB12 := Lib.hid (HB11.out.trans (hb12.mono (Nat.le_of_lt HF11.out.lt))); clear hb12)
          | (go_at_call 16; (with_reducible refine (awake_any _).mono ?_); rintro e' w13 ⟨rfl, hb13⟩; have HF13 := Lib.hid (HF12.out.below hb13); clear z0 z1 z2 z3; have z0 := HF13.out.cells 0 _ rfl; have z1 := HF13.out.cells 1 _ rfl; have z2 := HF13.out.cells 2 _ rfl; have z3 := HF13.out.cells 3 _ rfl; have HB13 := Lib.hid (HB12.out.trans (hb13.mono (Nat.le_of_lt HF12.out.lt))); clear hb13))
      all_goals
        clear z0 z1 z2 z3 y0 y1 y2 y3
        go_wp2_with fail
        go_ret
        exact ⟨rfl, by rw [hfb]; exact HB13.out⟩
end Go.Proofs.Ytidjcfkolehdbaa
