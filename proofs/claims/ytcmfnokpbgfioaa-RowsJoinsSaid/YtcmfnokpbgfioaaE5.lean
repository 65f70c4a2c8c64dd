/-
  rows.Cut. (Written by gencut.py.)
-/
import Derived.Test.YtcmfnokpbgfioaaE4
namespace Go.Proofs.Ytcmfnokpbgfioaa
set_option linter.unusedVariables false
set_option linter.unusedSimpArgs false
open Go.RowKit

def cutL (i t : Int) (es : List Er) (x u : Int) : List Er := if okL i t es && (atL i t es x == some u) then es.drop (x - i).toNat else []
set_option maxRecDepth 100000 in
set_option maxHeartbeats 6400000 in
theorem Cut_any {w : World} {v : Value} {es : List Er} (h : EIn w v es) (i t x u : Int) (l1 : es.length ≤ 50000) :
    Calls Try.prog 27 #[.agg #[.int .i64 i, .int .i64 t, v], .int .i64 x, .int .i64 u] w (LogP x u (cutL i t es x u) w) := by
  obtain ⟨a, c, rfl, _, _⟩ := h.slice
  have hal1 := lay_alloc w (.cells #[.int .i64 i, .int .i64 t, .slice a es.length c] 24)
  have hal2 := lay_alloc (w.alloc (.cells #[.int .i64 i, .int .i64 t, .slice a es.length c] 24)) (.cells #[.int .i64 0, .int .i64 0, .slice none 0 0] 24)
  have hal3 := lay_alloc ((w.alloc (.cells #[.int .i64 i, .int .i64 t, .slice a es.length c] 24)).alloc (.cells #[.int .i64 0, .int .i64 0, .slice none 0 0] 24)) (.cells #[.int .i64 x, .int .i64 u, .slice none 0 0] 24)
  have hs1 : (w.alloc (.cells #[.int .i64 i, .int .i64 t, .slice a es.length c] 24)).heap.size = w.heap.size + 1 := by simp
  have hs2 : ((w.alloc (.cells #[.int .i64 i, .int .i64 t, .slice a es.length c] 24)).alloc (.cells #[.int .i64 0, .int .i64 0, .slice none 0 0] 24)).heap.size = w.heap.size + 1 + 1 := by simp
  have hz := (DC.alloc (w.alloc (.cells #[.int .i64 i, .int .i64 t, .slice a es.length c] 24)) [.int .i64 0, .int .i64 0, .slice none 0 0] 24).below hal3
  have hx := DC.alloc ((w.alloc (.cells #[.int .i64 i, .int .i64 t, .slice a es.length c] 24)).alloc (.cells #[.int .i64 0, .int .i64 0, .slice none 0 0] 24)) [.int .i64 x, .int .i64 u, .slice none 0 0] 24
  rw [hs1] at hz
  rw [hs2] at hx
  have hb12 := hal1.trans (hal2.mono hal1.size)
  have hb := hb12.trans (hal3.mono hb12.size)
  have HB0 := Lib.hid hb
  have HE0 := Lib.hid (h.later hb)
  have HZ0 := Lib.hid hz
  have HX0 := Lib.hid hx
  have HK := Lib.hid (known_any (h.later hb) i t)
  clear hal1 hal2 hal3 hs1 hs2 hz hx hb12 hb h
  cases hok : okL i t es with
  | false =>
    have HR : Hid (cutL i t es x u = []) := by show _ = _; unfold cutL; rw [hok]; rfl
    rw [hok] at HK
    go_enter Try.func27, Try.ntmps27
    go_wp2_with fail
    go_fit HK.out
    rintro e w1 ⟨rfl, hb⟩
    have HV := Lib.hid (Kv.new (i := i) (t := t) (HE0.out.later hb) (HB0.out.trans (hb.mono HB0.out.size)) 63)
    have hal := lay_alloc w1 (.cells #[.int .i64 i, .int .i64 t, .slice a es.length c] 63)
    have HZ1 := Lib.hid ((HZ0.out.below hb).below hal)
    have HX1 := Lib.hid ((HX0.out.below hb).below hal)
    clear hb hal HE0 HB0 HK HZ0 HX0
    have z0 := HZ1.out.cells 0 _ rfl
    have z1 := HZ1.out.cells 1 _ rfl
    have z2 := HZ1.out.cells 2 _ rfl
    have zf0 := HZ1.out.fz 0
    have zf1 := HZ1.out.fz 1
    have zf2 := HZ1.out.fz 2
    have x0 := HX1.out.cells 0 _ rfl
    have x1 := HX1.out.cells 1 _ rfl
    have x2 := HX1.out.cells 2 _ rfl
    have xf0 := HX1.out.fz 0
    have xf1 := HX1.out.fz 1
    have xf2 := HX1.out.fz 2
    go_wp2_with fail
    change bodyPost _ _ _ _ _ (put3 (w1.alloc (.cells #[.int .i64 i, .int .i64 t, .slice a es.length c] 63)) (w.heap.size + 1) (.int .i64 x) (.int .i64 u) (.slice none 0 0))
    have K := put3_dc (v0 := .int .i64 x) (v1 := .int .i64 u) (v2 := (.slice none 0 0)) HZ1.out
    have hB := put3_below (b := w.heap.size + 1) (.int .i64 x) (.int .i64 u) (.slice none 0 0) HV.out.b (Nat.le_succ _)
    have hE := EInB.nil (put3 (w1.alloc (.cells #[.int .i64 i, .int .i64 t, .slice a es.length c] 63)) (w.heap.size + 1) (.int .i64 x) (.int .i64 u) (.slice none 0 0)) w.heap.size
    have r0 := K.cells 0 _ rfl
    have r1 := K.cells 1 _ rfl
    have r2 := K.cells 2 _ rfl
    clear z0 z1 z2 zf0 zf1 zf2
    generalize put3 _ _ _ _ _ = w9 at *
    exact bodyPost_ret (v := .agg #[.int .i64 x, .int .i64 u, (.slice none 0 0)]) (by simp [results, Try.results27, go_sem, r0, r1, r2]) rfl ⟨_, rfl, by rw [HR.out]; exact hE, hB⟩
  | true =>
    have hi : 0 ≤ i ∧ i + es.length ≤ 1099511627776 := ⟨(okL_iff.1 hok).1.1, okL_end hok⟩
    have HI := Lib.hid hi
    have HS := Lib.hid (goR_short (okL_iff.1 hok).2.2)
    have HC : Hid (cutL i t es x u = if (atL i t es x == some u) then es.drop (x - i).toNat else []) := by show _ = _; unfold cutL; rw [hok, Bool.true_and]
    rw [hok] at HK
    clear hok
    go_enter Try.func27, Try.ntmps27
    go_wp2_with fail
    go_fit HK.out
    rintro e w1 ⟨rfl, hb⟩
    have HV := Lib.hid (Kv.new (i := i) (t := t) (HE0.out.later hb) (HB0.out.trans (hb.mono HB0.out.size)) 63)
    have hal := lay_alloc w1 (.cells #[.int .i64 i, .int .i64 t, .slice a es.length c] 63)
    have HZ1 := Lib.hid ((HZ0.out.below hb).below hal)
    have HX1 := Lib.hid ((HX0.out.below hb).below hal)
    clear hb hal HE0 HB0 HK HZ0 HX0
    go_wp2_with fail
    generalize w1.alloc _ = W at *
    have HIs := Lib.hid (is_any HV.out.e i t x u hi)
    cases his : (atL i t es x == some u) with
    | false =>
      have HR : Hid (cutL i t es x u = []) := by show _ = _; rw [HC.out, his]; rfl
      rw [his] at HIs
      go_fit HIs.out
      rintro e w2 ⟨rfl, hb⟩
      have HV2 := Lib.hid (HV.out.later hb)
      have HZ2 := Lib.hid (HZ1.out.below hb)
      have HX2 := Lib.hid (HX1.out.below hb)
      clear hb HV HZ1 HX1 HIs
      have z0 := HZ2.out.cells 0 _ rfl
      have z1 := HZ2.out.cells 1 _ rfl
      have z2 := HZ2.out.cells 2 _ rfl
      have zf0 := HZ2.out.fz 0
      have zf1 := HZ2.out.fz 1
      have zf2 := HZ2.out.fz 2
      have x0 := HX2.out.cells 0 _ rfl
      have x1 := HX2.out.cells 1 _ rfl
      have x2 := HX2.out.cells 2 _ rfl
      have xf0 := HX2.out.fz 0
      have xf1 := HX2.out.fz 1
      have xf2 := HX2.out.fz 2
      go_wp2_with fail
      change bodyPost _ _ _ _ _ (put3 w2 (w.heap.size + 1) (.int .i64 x) (.int .i64 u) (.slice none 0 0))
      have K := put3_dc (v0 := .int .i64 x) (v1 := .int .i64 u) (v2 := (.slice none 0 0)) HZ2.out
      have hB := put3_below (b := w.heap.size + 1) (.int .i64 x) (.int .i64 u) (.slice none 0 0) HV2.out.b (Nat.le_succ _)
      have hE := EInB.nil (put3 w2 (w.heap.size + 1) (.int .i64 x) (.int .i64 u) (.slice none 0 0)) w.heap.size
      have r0 := K.cells 0 _ rfl
      have r1 := K.cells 1 _ rfl
      have r2 := K.cells 2 _ rfl
      clear z0 z1 z2 zf0 zf1 zf2
      generalize put3 _ _ _ _ _ = w9 at *
      exact bodyPost_ret (v := .agg #[.int .i64 x, .int .i64 u, (.slice none 0 0)]) (by simp [results, Try.results27, go_sem, r0, r1, r2]) rfl ⟨_, rfl, by rw [HR.out]; exact hE, hB⟩
    | true =>
      have hat : atL i t es x = some u := by simpa using his
      have hxr : i ≤ x ∧ x ≤ i + es.length := by
        unfold atL at hat
        split at hat
        · assumption
        · cases hat
      obtain ⟨k, hk⟩ : ∃ k : Nat, i + (k : Int) = x := ⟨(x - i).toNat, by omega⟩
      have hkl : k ≤ es.length := by omega
      have HR : Hid (cutL i t es x u = es.drop k) := by show _ = _; rw [HC.out, his, if_pos rfl, show (x - i).toNat = k by omega]
      rw [his] at HIs
      have HK2 := Lib.hid hk
      clear hat hxr his
      go_fit HIs.out
      rintro e w2 ⟨rfl, hb⟩
      have HV2 := Lib.hid (HV.out.later hb)
      have HZ2 := Lib.hid (HZ1.out.below hb)
      have HX2 := Lib.hid (HX1.out.below hb)
      clear hb HV HZ1 HX1 HIs
      have hbe := behind_any HV2.out.e i t k hkl hi
      rw [HK2.out] at hbe
      have HBe := Lib.hid hbe
      have d0 := HV2.out.d0
      have d1 := HV2.out.d1
      have d2 := HV2.out.d2
      clear hbe hk
      go_wp2_with fail
      go_fit HBe.out
      rintro e w3 ⟨u3, rfl, hu3, hb⟩
      have HV3 := Lib.hid (HV2.out.later hb)
      have HZ3 := Lib.hid (HZ2.out.below hb)
      have HX3 := Lib.hid (HX2.out.below hb)
      have HO := Lib.hid (own_any hu3 (by rw [List.length_drop]; omega) (fun y hy => HS.out y (List.mem_of_mem_drop hy)))
      clear hb HV2 HZ2 HX2 HBe hu3 d0 d1 d2
      go_wp2_with fail
      go_fit HO.out
      rintro e w4 ⟨v4, rfl, hv4, hb⟩
      obtain ⟨a4, n4, c4, rfl⟩ := slice_shape hv4
      have HV4 := Lib.hid (HV3.out.later hb)
      have HZ4 := Lib.hid (HZ3.out.below hb)
      have HX4 := Lib.hid (HX3.out.below hb)
      have HE4 := Lib.hid hv4
      have HSZ : Hid (w.heap.size + 1 + 1 < w3.heap.size) := HX3.out.lt
      clear hb HV3 HZ3 HX3 HO hv4
      have z0 := HZ4.out.cells 0 _ rfl
      have z1 := HZ4.out.cells 1 _ rfl
      have z2 := HZ4.out.cells 2 _ rfl
      have zf0 := HZ4.out.fz 0
      have zf1 := HZ4.out.fz 1
      have zf2 := HZ4.out.fz 2
      have x0 := HX4.out.cells 0 _ rfl
      have x1 := HX4.out.cells 1 _ rfl
      have x2 := HX4.out.cells 2 _ rfl
      have xf0 := HX4.out.fz 0
      have xf1 := HX4.out.fz 1
      have xf2 := HX4.out.fz 2
      go_wp2_with fail
      have HZ5 := Lib.hid (HZ4.out.other (k := w.heap.size + 1 + 1) (o := 2) (x := .slice a4 n4 c4) (by omega))
      have HB5 := Lib.hid (HV4.out.b.setCell (p := ⟨w.heap.size + 1 + 1, 2, none⟩) (show w.heap.size ≤ w.heap.size + 1 + 1 by omega) (.slice a4 n4 c4))
      have HE5 := Lib.hid (HE4.out.set (b := w.heap.size + 1 + 1) (o := 2) (x := .slice a4 n4 c4) HSZ.out)
      change bodyPost _ _ _ _ _ (put3 (w4.setCell ⟨w.heap.size + 1 + 1, 2, none⟩ (.slice a4 n4 c4)) (w.heap.size + 1) (.int .i64 x) (.int .i64 u) (.slice a4 n4 c4))
      have K := put3_dc (v0 := .int .i64 x) (v1 := .int .i64 u) (v2 := (.slice a4 n4 c4)) HZ5.out
      have hB := put3_below (b := w.heap.size + 1) (.int .i64 x) (.int .i64 u) (.slice a4 n4 c4) HB5.out (Nat.le_succ _)
      have hE := put3_ein (B' := w.heap.size) (b := w.heap.size + 1) (.int .i64 x) (.int .i64 u) (.slice a4 n4 c4) HE5.out (by have := HSZ.out; omega) (by have := HSZ.out; omega)
      have r0 := K.cells 0 _ rfl
      have r1 := K.cells 1 _ rfl
      have r2 := K.cells 2 _ rfl
      clear z0 z1 z2 zf0 zf1 zf2
      generalize put3 _ _ _ _ _ = w9 at *
      exact bodyPost_ret (v := .agg #[.int .i64 x, .int .i64 u, (.slice a4 n4 c4)]) (by simp [results, Try.results27, go_sem, r0, r1, r2]) rfl ⟨_, rfl, by rw [HR.out]; exact hE, hB⟩
end Go.Proofs.Ytcmfnokpbgfioaa
