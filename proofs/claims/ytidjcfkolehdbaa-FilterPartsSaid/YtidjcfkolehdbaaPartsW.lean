/-
  FilterParts walked. (Written by genparts.py.)
-/
import Derived.Test.YtidjcfkolehdbaaFf
import Derived.Test.YtidjcfkolehdbaaFm
namespace Go.Proofs.Ytidjcfkolehdbaa
set_option linter.unusedVariables false
set_option linter.unusedSimpArgs false
open Go.RowKit

theorem ev1_in {w : World} {g : Nat} {e : Kev} (h : DC w g [.int .i64 e.pos, .string e.key, .bool e.had, .string e.old, .bool e.has, .string e.now]) : evL.In w (.slice (some ⟨g, 0, none⟩) 1 1) [e] := by
  refine ⟨some ⟨g, 0, none⟩, 1, rfl, Nat.le_refl _, by decide, .inr ⟨g, 0, rfl, h.lt, fun i x hx j u hu => ?_⟩⟩
  match i, hx with
  | 0, hx =>
    simp only [List.getElem?_cons_zero, Option.some.injEq] at hx
    subst hx
    have := h.cells j u hu
    simpa using this
  | n + 1, hx => simp at hx
set_option maxRecDepth 100000 in
set_option maxHeartbeats 6400000 in
theorem Parts_any {w : World} {u : Value} (f : Fl) (hk : KidsIn w w.heap.size u f.kids) (hfit : Fits f) (ev : Kev) (hev : FitE ev) : Calls Try.prog 11 #[flV f u, evV ev] w (HoldP true w) := by
  obtain ⟨a, cap, rfl, hc1, hc2⟩ := hk.slice
  have hb1 := lay_alloc w (.cells #[.int .i64 f.kind, .string f.name, .string f.text, .slice a f.kids.length cap] 24)
  have hb2 := lay_alloc (w.alloc (.cells #[.int .i64 f.kind, .string f.name, .string f.text, .slice a f.kids.length cap] 24)) (.cells #[.int .i64 ev.pos, .string ev.key, .bool ev.had, .string ev.old, .bool ev.has, .string ev.now] 32)
  have hb0 := hb1.trans (hb2.mono hb1.size)
  have HF0 := Lib.hid ((DC.alloc w [.int .i64 f.kind, .string f.name, .string f.text, .slice a f.kids.length cap] 24).below hb2)
  have hY := DC.alloc (w.alloc (.cells #[.int .i64 f.kind, .string f.name, .string f.text, .slice a f.kids.length cap] 24)) [.int .i64 ev.pos, .string ev.key, .bool ev.had, .string ev.old, .bool ev.has, .string ev.now] 32
  have hsz : (w.alloc (.cells #[.int .i64 f.kind, .string f.name, .string f.text, .slice a f.kids.length cap] 24)).heap.size = w.heap.size + 1 := by simp
  rw [hsz] at hY
  have HE0 := Lib.hid hY
  have HB0 := Lib.hid hb0
  have hk0 := hk.on hb0
  have HL := Lib.hid (lightB_any f hfit hk0)
  have HK := Lib.hid hk0
  have HV := Lib.hid hev
  unfold flV at HL
  clear hk hfit hb0 hb1 hb2 hY hsz hk0 hev
  unfold flV evV
  go_enter Try.func11, Try.ntmps11
  go_wp2_with fail
  go_fit HL.out
  rintro e w1 ⟨rfl, hli, hb1⟩
  have HF1 := Lib.hid (HF0.out.below hb1)
  have HE1 := Lib.hid (HE0.out.below hb1)
  have HB1 := Lib.hid (HB0.out.trans (hb1.mono HB0.out.size))
  have z0 := HF1.out.cells 0 _ rfl
  have z1 := HF1.out.cells 1 _ rfl
  have z2 := HF1.out.cells 2 _ rfl
  have z3 := HF1.out.cells 3 _ rfl
  have t0 := HE1.out.cells 0 _ rfl
  have t1 := HE1.out.cells 1 _ rfl
  have t2 := HE1.out.cells 2 _ rfl
  have t3 := HE1.out.cells 3 _ rfl
  have t4 := HE1.out.cells 4 _ rfl
  have t5 := HE1.out.cells 5 _ rfl
  have HK1 := Lib.hid (HK.out.on hb1)
  have HLi := Lib.hid hli
  clear hli hb1 HK HL
  cases hlb : lightB f
  · clear hlb
    go_wp2_with fail
    go_fit (awake_any _)
    rintro e wz ⟨rfl, hbz⟩
    have HBz := Lib.hid (HB1.out.trans (hbz.mono HB1.out.size))
    clear hbz
    go_wp2_with fail
    go_ret
    exact ⟨rfl, HBz.out⟩
  have HLL := Lib.hid (HLi.out hlb)
  have hal := lay_alloc w1 (.cells #[.int .i64 ev.pos, .string ev.key, .bool ev.had, .string ev.old, .bool ev.has, .string ev.now] 32)
  have HW := Lib.hid (few_any [ev] (ev1_in (DC.alloc w1 [.int .i64 ev.pos, .string ev.key, .bool ev.had, .string ev.old, .bool ev.has, .string ev.now] 32)) (fun e he => by obtain rfl := List.mem_singleton.1 he; exact HV.out))
  have HF1a := Lib.hid (HF1.out.below hal)
  have HE1a := Lib.hid (HE1.out.below hal)
  have HB1a := Lib.hid (HB1.out.trans (hal.mono HB1.out.size))
  have HK1a := Lib.hid (HK1.out.on hal)
  clear hlb HLi hal HV HK1
  go_wp2_with fail
  go_fit HW.out
  rintro e w2 ⟨rfl, hb2⟩
  clear HW z0 z1 z2 z3 t0 t1 t2 t3 t4 t5
  have HF2 := Lib.hid (HF1a.out.below hb2)
  have HE2 := Lib.hid (HE1a.out.below hb2)
  have HB2 := Lib.hid (HB1a.out.trans (hb2.mono HB1a.out.size))
  have z0 := HF2.out.cells 0 _ rfl
  have z1 := HF2.out.cells 1 _ rfl
  have z2 := HF2.out.cells 2 _ rfl
  have z3 := HF2.out.cells 3 _ rfl
  have t0 := HE2.out.cells 0 _ rfl
  have t1 := HE2.out.cells 1 _ rfl
  have t2 := HE2.out.cells 2 _ rfl
  have t3 := HE2.out.cells 3 _ rfl
  have t4 := HE2.out.cells 4 _ rfl
  have t5 := HE2.out.cells 5 _ rfl
  have HK2 := Lib.hid (HK1a.out.on hb2)
  clear hb2 HK1a HF1 HE1 HB1 HF1a HE1a HB1a
  cases hfw : fewB [ev]
  · clear hfw
    go_wp2_with fail
    go_fit (awake_any _)
    rintro e wz ⟨rfl, hbz⟩
    have HBz := Lib.hid (HB2.out.trans (hbz.mono HB2.out.size))
    clear hbz
    go_wp2_with fail
    go_ret
    exact ⟨rfl, HBz.out⟩
  have HSM : Hid (ev.now.size ≤ 1073741824) := by
    show _ ≤ _
    have := (few_small hfw).2 ev (by simp)
    omega
  have HC := Lib.hid (Check_any f HLL.out HK2.out)
  unfold flV at HC
  clear hfw
  go_wp2_with fail
  go_fit HC.out
  rintro e w3 ⟨rfl, hb3⟩
  clear HC z0 z1 z2 z3 t0 t1 t2 t3 t4 t5
  have HF3 := Lib.hid (HF2.out.below hb3)
  have HE3 := Lib.hid (HE2.out.below hb3)
  have HB3 := Lib.hid (HB2.out.trans (hb3.mono HB2.out.size))
  have z0 := HF3.out.cells 0 _ rfl
  have z1 := HF3.out.cells 1 _ rfl
  have z2 := HF3.out.cells 2 _ rfl
  have z3 := HF3.out.cells 3 _ rfl
  have t0 := HE3.out.cells 0 _ rfl
  have t1 := HE3.out.cells 1 _ rfl
  have t2 := HE3.out.cells 2 _ rfl
  have t3 := HE3.out.cells 3 _ rfl
  have t4 := HE3.out.cells 4 _ rfl
  have t5 := HE3.out.cells 5 _ rfl
  have HK3 := Lib.hid (HK2.out.on hb3)
  clear hb3 HK2 HF2 HE2 HB2
  by_cases h0 : ckF f = 0
  · have HOK := Lib.hid h0
    have hz : (ckF f != 0) = false := by simpa using h0
    have hz2 : (ckF f == 0) = true := by simpa using h0
    clear h0
    go_wp2_with fail
    clear z0 z1 z2 z3 t0 t1 t2 t3 t4 t5
    go_loopw [38] (fun iv wr => ∃ i : Nat, iv = .int .i64 i ∧ i ≤ f.kids.length ∧ Hid (Below w3.heap.size w3 wr))
      (fun v _ => f.kids.length - (intOf v).toNat)
    case atStart => exact ⟨0, rfl, Nat.zero_le _, Below.refl _ _⟩
    case round =>
      obtain ⟨i, rfl, hin, hb⟩ := hrel
      have HBr := Lib.hid (HB3.out.trans (hb.out.mono HB3.out.size))
      by_cases hlt : i < f.kids.length
      · have ei : IntKind.i64.wrap ((i : Int) + 1) = (i : Int) + 1 := IntWalk.i64_in _ (by omega)
        obtain ⟨k, hk1⟩ : ∃ k, f.kids[i]? = some k := ⟨f.kids[i], List.getElem?_eq_getElem hlt⟩
        have hKr := HK3.out.on hb.out
        obtain ⟨g, off, u, rfl, _, hgB, k0, k1, k2, k3, hku⟩ := hKr.at_ hk1
        obtain ⟨ua, uc, rfl, _, _⟩ := hku.slice
        have hI1 : (i : Int) < ((f.kids.length : Nat) : Int) := by omega
        have hI2 : (0 : Int) ≤ (i : Int) := by omega
        have hmem : k ∈ f.kids := List.mem_of_getElem? hk1
        have hal := lay_alloc wr (.cells #[.int .i64 k.kind, .string k.name, .string k.text, .slice ua k.kids.length uc] 24)
        have hC := Check_any k (HLL.out.kid hmem) (hku.on hal)
        rw [kid_ok HOK.out hmem] at hC
        unfold flV at hC
        have HC := Lib.hid hC
        have HGA := Lib.hid (hb.out.trans (hal.mono hb.out.size))
        clear hKr hku hal hmem hk1 hb hC
        go_wp2_with fail
        go_fit HC.out
        rintro e wk ⟨rfl, hbk⟩
        have HBk := Lib.hid (HGA.out.trans (hbk.mono HGA.out.size))
        clear hbk k0 k1 k2 k3 HC HGA
        go_wp2_with fail
        exact ⟨⟨i + 1, by simp, hlt, HBk⟩, by show f.kids.length - ((i : Int) + 1).toNat < f.kids.length - ((i : Int)).toNat; omega⟩
      · obtain rfl : i = f.kids.length := by omega
        clear hb
        go_wp2_with fail
        go_fit (awake_any _)
        rintro e wz ⟨rfl, hbz⟩
        have HBz := Lib.hid (HBr.out.trans (hbz.mono HBr.out.size))
        clear hbz
        go_wp2_with fail
        go_ret
        exact ⟨rfl, HBz.out⟩
  · have hz : (ckF f != 0) = true := by simpa using h0
    have hz2 : (ckF f == 0) = false := by simpa using h0
    have hno : ∀ e, holdsF f e = false := fun e => by unfold holdsF; rw [decide_eq_false h0]; rfl
    have hC4 := Holds_any f ev HLL.out HK3.out HSM.out
    rw [hno] at hC4
    unfold flV evV at hC4
    have HC4 := Lib.hid hC4
    have HNO : Hid (passF f [ev] = []) := by show _ = _; unfold passF; simp [hno]
    clear h0 hC4 hno
    go_wp2_with fail
    go_fit HC4.out
    rintro e w4 ⟨rfl, hb4⟩
    clear HC4 z0 z1 z2 z3 t0 t1 t2 t3 t4 t5
    have HF4 := Lib.hid (HF3.out.below hb4)
    have HE4 := Lib.hid (HE3.out.below hb4)
    have HB4 := Lib.hid (HB3.out.trans (hb4.mono HB3.out.size))
    have z0 := HF4.out.cells 0 _ rfl
    have z1 := HF4.out.cells 1 _ rfl
    have z2 := HF4.out.cells 2 _ rfl
    have z3 := HF4.out.cells 3 _ rfl
    have t0 := HE4.out.cells 0 _ rfl
    have t1 := HE4.out.cells 1 _ rfl
    have t2 := HE4.out.cells 2 _ rfl
    have t3 := HE4.out.cells 3 _ rfl
    have t4 := HE4.out.cells 4 _ rfl
    have t5 := HE4.out.cells 5 _ rfl
    have hal := lay_alloc w4 (.cells #[.int .i64 ev.pos, .string ev.key, .bool ev.had, .string ev.old, .bool ev.has, .string ev.now] 32)
    have hP := Pass_any f [ev] HLL.out ((HK3.out.on hb4).on hal) (ev1_in (DC.alloc w4 [.int .i64 ev.pos, .string ev.key, .bool ev.had, .string ev.old, .bool ev.has, .string ev.now] 32)) (by simp) (fun e he => by obtain rfl := List.mem_singleton.1 he; exact HSM.out)
    rw [HNO.out] at hP
    unfold flV at hP
    have HP := Lib.hid hP
    have HB4a := Lib.hid (HB4.out.trans (hal.mono HB4.out.size))
    clear hP hal hb4
    go_wp2_with fail
    go_fit HP.out
    rintro e w5 ⟨v, rfl, hrw⟩
    obtain ⟨va, vc, rfl, _, _⟩ := hrw.slice
    have HB5 := Lib.hid (HB4a.out.trans (hrw.grown.mono HB4a.out.size))
    clear HP hrw z0 z1 z2 z3 t0 t1 t2 t3 t4 t5
    go_wp2_with fail
    go_fit (awake_any _)
    rintro e wz ⟨rfl, hbz⟩
    have HBz := Lib.hid (HB5.out.trans (hbz.mono HB5.out.size))
    clear hbz
    go_wp2_with fail
    go_ret
    exact ⟨rfl, HBz.out⟩
end Go.Proofs.Ytidjcfkolehdbaa
