/-
  RowsChecks walked: whether any log may be, and its end. (Written by genlawr.py.)
-/
import Derived.Test.YtcmfnokpbgfioaaAw
import Derived.Test.YtcmfnokpbgfioaaBo
import Derived.Deep.CutRange
import Derived.Test.YtcmfnokpbgfioaaRc
namespace Go.Proofs.Ytcmfnokpbgfioaa
set_option linter.unusedVariables false
set_option linter.unusedSimpArgs false
open Go.RowKit
theorem put3_other {w : World} {b c : Nat} {v0 v1 v2 : Value} {cs : List Value} (h : DC w c cs) (hne : c ≠ b) : DC (put3 w b v0 v1 v2) c cs := ((h.other hne).other hne).other hne
theorem put3_heap (w : World) (b k : Nat) (v0 v1 v2 : Value) (h : k ≠ b) : (put3 w b v0 v1 v2).heap[k]? = w.heap[k]? := by
  unfold put3
  rw [Below.heap_setCell _ _ _ _ h, Below.heap_setCell _ _ _ _ h, Below.heap_setCell _ _ _ _ h]
set_option maxRecDepth 100000 in
set_option maxHeartbeats 12800000 in
theorem Checks_law {w : World} {v : Value} {es : List Er} (h : EIn w v es) (hf : FitI es) (hz : ∀ e ∈ es, e.d.length ≤ 140737488351232) (i t : Int) : Calls Try.prog 3 #[.agg #[.int .i64 i, .int .i64 t, v]] w (BoolP true w) := by
  obtain ⟨a, c, rfl, _, _⟩ := h.slice
  have hV := Kv.new (w0 := w) (i := i) (t := t) h (Below.refl _ _) 24
  have hal := lay_alloc (w.alloc (.cells #[.int .i64 i, .int .i64 t, .slice a es.length c] 24)) (.cells #[.slice a es.length c] 22)
  have hs : (w.alloc (.cells #[.int .i64 i, .int .i64 t, .slice a es.length c] 24)).heap.size = w.heap.size + 1 := by simp
  have hdc := DC.alloc (w.alloc (.cells #[.int .i64 i, .int .i64 t, .slice a es.length c] 24)) [.slice a es.length c] 22
  rw [hs] at hdc
  have hls : LsIn ((w.alloc (.cells #[.int .i64 i, .int .i64 t, .slice a es.length c] 24)).alloc (.cells #[.slice a es.length c] 22)) (w.heap.size + 1) [es] := fun k l hk => by
    match k, hk with
    | 0, hk => simp only [List.getElem?_cons_zero, Option.some.injEq] at hk; subst hk; exact ⟨_, hdc.cells 0 _ rfl, (hV.later hal).e⟩
    | k + 1, hk => simp at hk
  have HL := Lib.hid (light_one hls)
  have HV := Lib.hid (hV.later hal)
  have HFI := Lib.hid hf
  have HSz := Lib.hid hz
  have HEo := Lib.hid h
  clear hV hal hs hdc hls h hf hz
  go_enter Try.func3, Try.ntmps3
  go_wp2_with fail
  go_fit HL.out
  rintro e0 w1 ⟨b, rfl, hbl, rfl⟩
  generalize (w.alloc _).alloc _ = w1 at *
  clear HL
  cases b with
  | false =>
    go_wp2_with fail
    go_fit (awake_any w1)
    rintro ez wz ⟨rfl, hbz⟩
    have HBz := Lib.hid (HV.out.b.trans (hbz.mono HV.out.b.size))
    clear hbz
    go_wp2_with fail
    go_ret
    exact ⟨rfl, HBz.out⟩
  | true =>
    have HLn : Hid (es.length ≤ 200) := hbl rfl es (by simp)
    clear hbl
    have d0 := HV.out.d0
    have d1 := HV.out.d1
    have d2 := HV.out.d2
    have hcc := both_any HV.out.e (by have := HLn.out; omega) HSz.out i t
    have HCC := Lib.hid hcc
    have hx0 := HV.out.dc.fz 0
    have hx1 := HV.out.dc.fz 1
    have hx2 := HV.out.dc.fz 2
    clear hcc
    go_wp2_with fail
    go_fit HCC.out
    rintro e2 w2 ⟨u2, rfl, hu2, hb⟩
    obtain ⟨ua, uc, rfl, _, _⟩ := hu2.ein.slice
    have HV2 := Lib.hid (HV.out.later hb)
    have HU2 := Lib.hid hu2
    have hlt0 := HV.out.dc.lt
    have HSB : Hid (w.heap.size < w1.heap.size) := hlt0
    clear hb HV HCC hu2 hlt0 d0 d1 d2 hx0 hx1 hx2
    have hz3 := lay_alloc w2 (.cells #[.int .i64 0, .int .i64 0, .slice none 0 0] 27)
    have HV3 := Lib.hid (HV2.out.later hz3)
    clear hz3
    have d0 := HV3.out.d0
    have d1 := HV3.out.d1
    have d2 := HV3.out.d2
    have f0 := HV3.out.dc.fz 0
    have f1 := HV3.out.dc.fz 1
    have f2 := HV3.out.dc.fz 2
    have hlt2 : w.heap.size < w2.heap.size := HV2.out.dc.lt
    have hne : ¬ (w2.heap.size = w.heap.size) := by omega
    have hne2 : ¬ (w.heap.size = w2.heap.size) := by omega
    have HL2 := Lib.hid hlt2
    clear hlt2
    go_upto_region 4 with fail
    clear d0 d1 d2 f0 f1 f2 hne hne2
    change Code.wp _ _ _ _ (put3 (put3 (w2.alloc (.cells #[.int .i64 0, .int .i64 0, .slice none 0 0] 27)) w.heap.size (.int .i64 i) (.int .i64 t) (.slice ua es.length uc)) w2.heap.size (.int .i64 i) (.int .i64 t) (.slice a es.length c))
    have hbf := put3_below (b := w2.heap.size) (.int .i64 i) (.int .i64 t) (.slice a es.length c) (put3_below (b := w.heap.size) (.int .i64 i) (.int .i64 t) (.slice ua es.length uc) HV3.out.b (Nat.le_refl _)) (Nat.le_of_lt HL2.out)
    have hdx := put3_dc (v0 := .int .i64 i) (v1 := .int .i64 t) (v2 := .slice a es.length c) (put3_other (b := w.heap.size) (v0 := .int .i64 i) (v1 := .int .i64 t) (v2 := .slice ua es.length uc) (DC.alloc w2 [.int .i64 0, .int .i64 0, .slice none 0 0] 27) (by have := HL2.out; omega))
    have hdl := put3_other (b := w2.heap.size) (v0 := .int .i64 i) (v1 := .int .i64 t) (v2 := .slice a es.length c) (put3_dc (v0 := .int .i64 i) (v1 := .int .i64 t) (v2 := .slice ua es.length uc) HV3.out.dc) (by have := HL2.out; omega)
    have hsz : (put3 (put3 (w2.alloc (.cells #[.int .i64 0, .int .i64 0, .slice none 0 0] 27)) w.heap.size (.int .i64 i) (.int .i64 t) (.slice ua es.length uc)) w2.heap.size (.int .i64 i) (.int .i64 t) (.slice a es.length c)).heap.size = w2.heap.size + 1 := by simp [put3, World.setCell]
    have hku : ∀ k, w1.heap.size ≤ k → k < w2.heap.size → (put3 (put3 (w2.alloc (.cells #[.int .i64 0, .int .i64 0, .slice none 0 0] 27)) w.heap.size (.int .i64 i) (.int .i64 t) (.slice ua es.length uc)) w2.heap.size (.int .i64 i) (.int .i64 t) (.slice a es.length c)).heap[k]? = w2.heap[k]? := fun k h1 h2 => by
      rw [put3_heap _ _ _ _ _ _ (by omega), put3_heap _ _ _ _ _ _ (by have := HSB.out; omega)]
      exact Below.heap_alloc _ _ _ h2
    have heu := (HU2.out.keep (B' := w1.heap.size) (Nat.le_refl _) (by rw [hsz]; omega) hku).ein
    have HEU := Lib.hid heu
    have HDX := Lib.hid hdx
    have HDL := Lib.hid hdl
    have HBF := Lib.hid hbf
    clear hbf hdx hdl hsz hku heu HV2 HU2 HV3 HSB HL2
    generalize put3 (put3 _ _ _ _ _) _ _ _ _ = w4 at *
    have HV4 : Hid (Kv w w4 w.heap.size i t ua uc es) := ⟨HDL.out, HEU.out, HBF.out⟩
    have HX4 : Hid (Kv w w4 w2.heap.size i t a c es) := ⟨HDX.out, HEo.out.later HBF.out, HBF.out⟩
    clear HDL HDX HEU HBF HEo
    have HCE : Hid ((ckL i t es == 0) = okL i t es) := by
      show _ = _
      unfold ckL
      cases okL i t es <;> rfl
    cases hok : okL i t es with
    | false =>
      have HLa : Hid (lastL i t es = (0, 0)) := by show _ = _; unfold lastL; rw [hok]; rfl
      have HCk : Hid (ckL i t es = 120) := ckL_bad hok
      have d0 := HV4.out.d0
      have d1 := HV4.out.d1
      have d2 := HV4.out.d2
      have hcc := Last_any HV4.out.e i t
      rw [HLa.out] at hcc
      have HCC := Lib.hid hcc
      clear hcc
      go_wp2_with fail
      go_fit HCC.out
      rintro e5 w5 ⟨rfl, hb⟩
      clear d0 d1 d2
      have HV5 := Lib.hid (HV4.out.later hb)
      have HX5 := Lib.hid (HX4.out.later hb)
      clear hb HV4 HX4 HCC
      have q0 := HX5.out.d0
      have q1 := HX5.out.d1
      have q2 := HX5.out.d2
      have hcc := rCheck_any HX5.out.e HFI.out i t
      rw [HCk.out] at hcc
      have HCC := Lib.hid hcc
      clear hcc
      go_wp2_with fail
      go_fit HCC.out
      rintro e6 w6 ⟨rfl, hb⟩
      clear q0 q1 q2
      have HV6 := Lib.hid (HV5.out.later hb)
      have HX6 := Lib.hid (HX5.out.later hb)
      clear hb HV5 HX5 HCC
      have q0 := HX6.out.d0
      have q1 := HX6.out.d1
      have q2 := HX6.out.d2
      have hcc := rLast_any HX6.out.e i t
      have HCC := Lib.hid hcc
      clear hcc
      go_wp2_with fail
      go_fit HCC.out
      rintro e7 w7 ⟨pp, qq, hls, rfl, hb⟩
      clear q0 q1 q2
      have HV7 := Lib.hid (HV6.out.later hb)
      have HX7 := Lib.hid (HX6.out.later hb)
      clear hb HV6 HX6 HCC
      clear hls
      go_wp2_with fail
      go_fit (awake_any w7)
      rintro ez wz ⟨rfl, hbz⟩
      have HBz := Lib.hid (HV7.out.b.trans (hbz.mono HV7.out.b.size))
      clear hbz
      go_wp2_with fail
      go_ret
      exact ⟨rfl, HBz.out⟩
    | true =>
      have HLa : Hid (lastL i t es = (i + es.length, tm t es es.length)) := by show _ = _; unfold lastL; rw [hok]; rfl
      have HCk : Hid (ckL i t es = 0) := ckL_ok hok
      have HLS : Hid (∀ p q, LaS i t es es.length p q → p = i + es.length ∧ q = tm t es es.length) := fun p q hl => LaS_ok hok hl
      have d0 := HV4.out.d0
      have d1 := HV4.out.d1
      have d2 := HV4.out.d2
      have hcc := Last_any HV4.out.e i t
      rw [HLa.out] at hcc
      have HCC := Lib.hid hcc
      clear hcc
      go_wp2_with fail
      go_fit HCC.out
      rintro e5 w5 ⟨rfl, hb⟩
      clear d0 d1 d2
      have HV5 := Lib.hid (HV4.out.later hb)
      have HX5 := Lib.hid (HX4.out.later hb)
      clear hb HV4 HX4 HCC
      have q0 := HX5.out.d0
      have q1 := HX5.out.d1
      have q2 := HX5.out.d2
      have hcc := rCheck_any HX5.out.e HFI.out i t
      rw [HCk.out] at hcc
      have HCC := Lib.hid hcc
      clear hcc
      go_wp2_with fail
      go_fit HCC.out
      rintro e6 w6 ⟨rfl, hb⟩
      clear q0 q1 q2
      have HV6 := Lib.hid (HV5.out.later hb)
      have HX6 := Lib.hid (HX5.out.later hb)
      clear hb HV5 HX5 HCC
      have q0 := HX6.out.d0
      have q1 := HX6.out.d1
      have q2 := HX6.out.d2
      have hcc := rLast_any HX6.out.e i t
      have HCC := Lib.hid hcc
      clear hcc
      go_wp2_with fail
      go_fit HCC.out
      rintro e7 w7 ⟨pp, qq, hls, rfl, hb⟩
      clear q0 q1 q2
      have HV7 := Lib.hid (HV6.out.later hb)
      have HX7 := Lib.hid (HX6.out.later hb)
      clear hb HV6 HX6 HCC
      obtain ⟨hp1, hp2⟩ := HLS.out pp qq hls
      subst hp1 hp2
      clear hls
      go_wp2_with fail
      go_fit (awake_any w7)
      rintro ez wz ⟨rfl, hbz⟩
      have HBz := Lib.hid (HV7.out.b.trans (hbz.mono HV7.out.b.size))
      clear hbz
      go_wp2_with fail
      go_ret
      exact ⟨rfl, HBz.out⟩
end Go.Proofs.Ytcmfnokpbgfioaa
