/-
  The laws' examples. (Written by genaw_r.py.)
-/
import Derived.Test.YtcmfnokpbgfioaaA0
namespace Go.Proofs.Ytcmfnokpbgfioaa
set_option linter.unusedVariables false
set_option linter.unusedSimpArgs false
open Go.RowKit

deriving instance DecidableEq for Er
deriving instance DecidableEq for Jn
def LA : List Er := [⟨1, 1, []⟩, ⟨2, 1, []⟩, ⟨3, 2, []⟩]
theorem la_terms : termR [1, 1, 2] = LA := by decide +kernel
theorem la_ok : okL 0 0 LA = true := by decide +kernel
theorem j1 : joinA 0 0 LA 2 1 [⟨3, 3, []⟩] = ⟨[⟨1, 1, []⟩, ⟨2, 1, []⟩, ⟨3, 3, []⟩], 3, [⟨3, 3, []⟩], true⟩ := by decide +kernel
theorem j2 : joinA 0 0 LA 3 1 [] = ⟨LA, 0, [], false⟩ := by decide +kernel
theorem j3 : joinA 0 0 LA 1 1 [⟨2, 1, []⟩] = ⟨LA, 0, [], true⟩ := by decide +kernel
theorem h1 : hintL 0 0 LA 2 = 1 := by decide +kernel
theorem h2 : hintL 0 0 LA 9 = 4 := by decide +kernel
theorem f1 : freshB 0 0 LA 3 2 = true := by decide +kernel
theorem f2 : freshB 0 0 LA 9 1 = false := by decide +kernel
theorem c1 : ckL (-1) 0 [] = 120 := by decide +kernel
theorem one_ein (w : World) (i t : Int) : EIn (w.alloc (.cells #[.int .i64 i, .int .i64 t, .slice none 0 0] 44)) (.slice (some ⟨w.heap.size, 0, none⟩) 1 1) [⟨i, t, []⟩] := by
  have hd := DC.alloc w [.int .i64 i, .int .i64 t, .slice none 0 0] 44
  refine ⟨[⟨i, t, (none, 0, 0)⟩], ⟨_, _, rfl, Nat.le_refl _, by decide, .inr ⟨_, 0, rfl, hd.lt, fun k x hx j u hu => ?_⟩⟩, rfl, fun k x e hx he => ?_⟩
  · match k, hx with
    | 0, hx =>
      simp only [List.getElem?_cons_zero, Option.some.injEq] at hx
      subst hx
      have := hd.cells j u hu
      simpa using this
    | k + 1, hx => simp at hx
  · match k, hx, he with
    | 0, hx, he =>
      simp only [List.getElem?_cons_zero, Option.some.injEq] at hx he
      subst hx he
      exact ⟨rfl, rfl, Byt.nil _ _⟩
    | k + 1, hx, he => simp at hx
theorem three_in (w : World) : intL.In (w.alloc (.cells #[.int .i64 1, .int .i64 1, .int .i64 2] 3)) (.slice (some ⟨w.heap.size, 0, none⟩) 3 3) [1, 1, 2] := by
  have hd := DC.alloc w [.int .i64 1, .int .i64 1, .int .i64 2] 3
  refine ⟨_, _, rfl, Nat.le_refl _, by decide, .inr ⟨_, 0, rfl, hd.lt, fun k x hx j u hu => ?_⟩⟩
  have hj : j = 0 := by
    have := (List.getElem?_eq_some_iff.1 hu).1
    simpa [intL] using this
  subst hj
  simp only [intL, List.getElem?_cons_zero, Option.some.injEq] at hu
  subst hu
  match k, hx with
  | 0, hx => simp only [List.getElem?_cons_zero, Option.some.injEq] at hx; subst hx; exact hd.cells 0 _ rfl
  | 1, hx => simp only [List.getElem?_cons_succ, List.getElem?_cons_zero, Option.some.injEq] at hx; subst hx; exact hd.cells 1 _ rfl
  | 2, hx => simp only [List.getElem?_cons_succ, List.getElem?_cons_zero, Option.some.injEq] at hx; subst hx; exact hd.cells 2 _ rfl
  | k + 3, hx => simp at hx

set_option maxRecDepth 100000 in
set_option maxHeartbeats 12800000 in
theorem awake_any (w : World) : Calls Try.prog 12 #[] w (BoolP true w) := by
  have hal := lay_alloc w (.cells #[.int .i64 1, .int .i64 1, .int .i64 2] 3)
  have ht := terms_any (ts := [1, 1, 2]) (three_in w) (by decide)
  rw [la_terms] at ht
  have HB0 := Lib.hid hal
  have HT := Lib.hid ht
  clear hal ht
  go_enter Try.func12, Try.ntmps12
  go_wp2_with fail
  go_fit HT.out
  rintro e w1 ⟨v, rfl, hv, hb⟩
  have HB1 := Lib.hid (HB0.out.trans (hb.mono HB0.out.size))
  obtain ⟨a, c, rfl, _, _⟩ := hv.ein.slice
  have HE1 := Lib.hid hv.ein
  have HV := Lib.hid (Kv.new (i := 0) (t := 0) HE1.out HB1.out 24)
  clear hb hv HB0 HT HE1 HB1
  have HS1 : Hid ((w1.alloc (.cells #[.int .i64 0, .int .i64 0, .slice a LA.length c] 24)).heap.size = w1.heap.size + 1) := by show _ = _; simp
  go_wp2_with fail
  generalize w1.alloc (.cells #[.int .i64 0, .int .i64 0, .slice a LA.length c] 24) = W1 at *
  have hal := lay_alloc W1 (.cells #[.int .i64 3, .int .i64 3, .slice none 0 0] 44)
  have hj := Join_any (HV.out.later hal).e (one_ein W1 3 3) 0 0 2 1 (by decide) (by decide)
  rw [j1, HS1.out] at hj
  simp only [ite_self] at hj
  have HJ := Lib.hid hj
  have HV2 := Lib.hid (HV.out.later hal)
  clear hal hj HV HS1
  go_fit HJ.out
  rintro e w3 ⟨v3, f3, rfl, hv3, hf3, hb⟩
  obtain ⟨a3, c3, rfl, _, _⟩ := hv3.ein.slice
  obtain ⟨a4, c4, rfl, _, _⟩ := hf3.ein.slice
  have HO3 := Lib.hid (DC.alloc w3 [.int .i64 0, .int .i64 0, .slice a3 3 c3] 24)
  have hal := lay_alloc w3 (.cells #[.int .i64 0, .int .i64 0, .slice a3 3 c3] 24)
  have HX3 := Lib.hid (hv3.ein.later hal)
  have HV3 := Lib.hid ((HV2.out.later hb).later hal)
  clear hb hv3 hf3 HV2 HJ hal
  have HL4 : Hid (a4 = a4) := rfl
  have d0 := HV3.out.d0
  have d1 := HV3.out.d1
  have d2 := HV3.out.d2
  have hj := Join_any HV3.out.e (EIn.nil _) 0 0 3 1 (by decide) (by decide)
  rw [j2] at hj
  simp only [ite_self] at hj
  have HJ := Lib.hid hj
  clear hj
  go_wp2_with fail
  go_fit HJ.out
  rintro e w5 ⟨v5, f5, rfl, hv5, hf5, hb⟩
  obtain ⟨a5, n5, c5, rfl⟩ := slice_shape hv5
  obtain ⟨a6, n6, c6, rfl⟩ := slice_shape hf5
  have hal := lay_alloc w5 (.cells #[.int .i64 0, .int .i64 0, .slice a5 n5 c5] 24)
  have HO5 := Lib.hid ((HO3.out.below hb).below hal)
  have HX5 := Lib.hid ((HX3.out.later hb).later hal)
  have HV5 := Lib.hid ((HV3.out.later hb).later hal)
  have HS5 : Hid ((w5.alloc (.cells #[.int .i64 0, .int .i64 0, .slice a5 n5 c5] 24)).heap.size = w5.heap.size + 1) := by show _ = _; simp
  clear hb hv5 hf5 HV3 HO3 HX3 HJ hal d0 d1 d2
  have d0 := HV5.out.d0
  have d1 := HV5.out.d1
  have d2 := HV5.out.d2
  go_wp2_with fail
  generalize w5.alloc (.cells #[.int .i64 0, .int .i64 0, .slice a5 n5 c5] 24) = W5 at *
  have hal := lay_alloc W5 (.cells #[.int .i64 2, .int .i64 1, .slice none 0 0] 44)
  have hj := Join_any (HV5.out.later hal).e (one_ein W5 2 1) 0 0 1 1 (by decide) (by decide)
  rw [j3, HS5.out] at hj
  simp only [ite_self] at hj
  have HJ := Lib.hid hj
  have HV6 := Lib.hid (HV5.out.later hal)
  have HO6 := Lib.hid (HO5.out.below hal)
  have HX6 := Lib.hid (HX5.out.later hal)
  clear hal hj HV5 HS5 HO5 HX5 d0 d1 d2
  go_fit HJ.out
  rintro e w7 ⟨v7, f7, rfl, hv7, hf7, hb⟩
  obtain ⟨a7, n7, c7, rfl⟩ := slice_shape hv7
  obtain ⟨a8, c8, rfl, _, _⟩ := hf7.ein.slice
  have hal := lay_alloc w7 (.cells #[.int .i64 0, .int .i64 0, .slice a7 n7 c7] 24)
  have HO7 := Lib.hid ((HO6.out.below hb).below hal)
  have HX7 := Lib.hid ((HX6.out.later hb).later hal)
  have HV7 := Lib.hid ((HV6.out.later hb).later hal)
  clear hb hv7 hf7 HV6 HO6 HX6 HJ hal
  obtain ⟨g9, off9, p9, c9, rfl, k0, k1, k2, _⟩ := HX7.out.at (k := 2) (e := ⟨3, 3, []⟩) rfl
  have o0 := HO7.out.cells 0 _ rfl
  have o1 := HO7.out.cells 1 _ rfl
  have o2 := HO7.out.cells 2 _ rfl
  have d0 := HV7.out.d0
  have d1 := HV7.out.d1
  have d2 := HV7.out.d2
  have HH := Hint_any HV7.out.e 0 0 2
  rw [h1] at HH
  have HH := Lib.hid HH
  clear k0 k2
  go_wp2_with fail
  go_fit HH.out
  rintro e w8 ⟨rfl, hb⟩
  have HV8 := Lib.hid (HV7.out.later hb)
  clear hb HV7 HO7 HX7 HH d0 d1 d2 o0 o1 o2 k1
  have d0 := HV8.out.d0
  have d1 := HV8.out.d1
  have d2 := HV8.out.d2
  have HH := Hint_any HV8.out.e 0 0 9
  rw [h2] at HH
  have HH := Lib.hid HH
  go_wp2_with fail
  go_fit HH.out
  rintro e w9 ⟨rfl, hb⟩
  have HV9 := Lib.hid (HV8.out.later hb)
  clear hb HV8 HH d0 d1 d2
  have d0 := HV9.out.d0
  have d1 := HV9.out.d1
  have d2 := HV9.out.d2
  have HH := Fresh_any HV9.out.e 0 0 3 2
  rw [f1] at HH
  have HH := Lib.hid HH
  go_wp2_with fail
  go_fit HH.out
  rintro e w10 ⟨rfl, hb⟩
  have HV10 := Lib.hid (HV9.out.later hb)
  clear hb HV9 HH d0 d1 d2
  have d0 := HV10.out.d0
  have d1 := HV10.out.d1
  have d2 := HV10.out.d2
  have HH := Fresh_any HV10.out.e 0 0 9 1
  rw [f2] at HH
  have HH := Lib.hid HH
  go_wp2_with fail
  go_fit HH.out
  rintro e w11 ⟨rfl, hb⟩
  have HV11 := Lib.hid (HV10.out.later hb)
  clear hb HV10 HH d0 d1 d2
  have d0 := HV11.out.d0
  have d1 := HV11.out.d1
  have d2 := HV11.out.d2
  have HH := Check_any (EIn.nil w11) (-1) 0
  rw [c1] at HH
  have HH := Lib.hid HH
  go_wp2_with fail
  go_fit HH.out
  rintro e w12 ⟨rfl, hb⟩
  have HV12 := Lib.hid (HV11.out.later hb)
  clear hb HV11 HH d0 d1 d2
  go_wp2_with fail
  go_ret
  exact ⟨rfl, HV12.out.b⟩
end Go.Proofs.Ytcmfnokpbgfioaa
