/-
  RowsTerms walked: the term at any index, and the rows from it on. (Written by genterms.py.)
-/
import Derived.Test.YtcmfnokpbgfioaaChecksW
import Derived.Test.YtcmfnokpbgfioaaRt
import Derived.Test.YtcmfnokpbgfioaaRg
import Derived.Test.YtcmfnokpbgfioaaSm
import Derived.Test.YtcmfnokpbgfioaaXr
namespace Go.Proofs.Ytcmfnokpbgfioaa
set_option linter.unusedVariables false
set_option linter.unusedSimpArgs false
open Go.RowKit

theorem row_short {w : World} {B n sz : Nat} {E : TypeId} {v : Value} {xs : List Value} (h : w.ownsRow B E sz v n xs) : n ≤ 9223372036854775807 := by
  rcases h.2 with ⟨_, h0⟩ | ⟨g', cap, cur, hv, _, _, hn, hm, _⟩
  · omega
  · unfold maxLen at hm; omega
theorem from_bad {i t x m : Int} {es : List Er} (h : okL i t es = false) : termO i t es x = none ∧ fromL i t es x m = [] := by
  constructor
  · unfold termO; rw [h]; rfl
  · unfold fromL; rw [h]; rfl
set_option maxRecDepth 100000 in
set_option maxHeartbeats 12800000 in
theorem Terms_law {w : World} {v : Value} {es : List Er} (h : EIn w v es) (hf : FitI es) (hz : ∀ e ∈ es, e.d.length ≤ 140737488351232) (i t x m : Int) : Calls Try.prog 4 #[.agg #[.int .i64 i, .int .i64 t, v], .int .i64 x, .int .i64 m] w (BoolP true w) := by
  obtain ⟨a, c, rfl, _, _⟩ := h.slice
  have hV := Kv.new (w0 := w) (i := i) (t := t) h (Below.refl _ _) 24
  have hal := lay_alloc (w.alloc (.cells #[.int .i64 i, .int .i64 t, .slice a es.length c] 24)) (.cells #[.slice a es.length c] 22)
  have hs : (w.alloc (.cells #[.int .i64 i, .int .i64 t, .slice a es.length c] 24)).heap.size = w.heap.size + 1 := by simp
  have hdc := DC.alloc (w.alloc (.cells #[.int .i64 i, .int .i64 t, .slice a es.length c] 24)) [.slice a es.length c] 22
  rw [hs] at hdc
  have hls : LsIn ((w.alloc (.cells #[.int .i64 i, .int .i64 t, .slice a es.length c] 24)).alloc (.cells #[.slice a es.length c] 22)) (w.heap.size + 1) [es] := fun k l hk => by
    match k, hk with
    | 0, hk => simp only [List.getElem?_cons_zero, Option.some.injEq] at hk; subst hk; exact ⟨_, hdc.cells 0 _ rfl, (hV.later hal).e⟩
    | k + 1, hk => simp at hk
  have HL := Lib.hid (light_one hls)
  have HV := Lib.hid (hV.later hal)
  have HFI := Lib.hid hf
  have HSz := Lib.hid hz
  have HEo := Lib.hid h
  clear hV hal hs hdc hls h hf hz
  go_enter Try.func4, Try.ntmps4
  go_wp2_with fail
  go_fit HL.out
  rintro e0 w1 ⟨b, rfl, hbl, rfl⟩
  generalize (w.alloc _).alloc _ = w1 at *
  clear HL
  cases b with
  | false =>
    go_wp2_with fail
    go_fit (awake_any w1)
    rintro ez wz ⟨rfl, hbz⟩
    have HBz := Lib.hid (HV.out.b.trans (hbz.mono HV.out.b.size))
    clear hbz
    go_wp2_with fail
    go_ret
    exact ⟨rfl, HBz.out⟩
  | true =>
    have HLn : Hid (es.length ≤ 200) := hbl rfl es (by simp)
    clear hbl
    have d0 := HV.out.d0
    have d1 := HV.out.d1
    have d2 := HV.out.d2
    have hcc := both_any HV.out.e (by have := HLn.out; omega) HSz.out i t
    have HCC := Lib.hid hcc
    have hx0 := HV.out.dc.fz 0
    have hx1 := HV.out.dc.fz 1
    have hx2 := HV.out.dc.fz 2
    clear hcc
    go_wp2_with fail
    go_fit HCC.out
    rintro e2 w2 ⟨u2, rfl, hu2, hb⟩
    obtain ⟨ua, uc, rfl, _, _⟩ := hu2.ein.slice
    have HV2 := Lib.hid (HV.out.later hb)
    have HU2 := Lib.hid hu2
    have hlt0 := HV.out.dc.lt
    have HSB : Hid (w.heap.size < w1.heap.size) := hlt0
    clear hb HV HCC hu2 hlt0 d0 d1 d2 hx0 hx1 hx2
    have hz3 := lay_alloc w2 (.cells #[.int .i64 0, .int .i64 0, .slice none 0 0] 27)
    have HV3 := Lib.hid (HV2.out.later hz3)
    clear hz3
    have d0 := HV3.out.d0
    have d1 := HV3.out.d1
    have d2 := HV3.out.d2
    have f0 := HV3.out.dc.fz 0
    have f1 := HV3.out.dc.fz 1
    have f2 := HV3.out.dc.fz 2
    have hlt2 : w.heap.size < w2.heap.size := HV2.out.dc.lt
    have hne : ¬ (w2.heap.size = w.heap.size) := by omega
    have hne2 : ¬ (w.heap.size = w2.heap.size) := by omega
    have HL2 := Lib.hid hlt2
    clear hlt2
    go_upto_region 4 with fail
    clear d0 d1 d2 f0 f1 f2 hne hne2
    change Code.wp _ _ _ _ (put3 (put3 (w2.alloc (.cells #[.int .i64 0, .int .i64 0, .slice none 0 0] 27)) w.heap.size (.int .i64 i) (.int .i64 t) (.slice ua es.length uc)) w2.heap.size (.int .i64 i) (.int .i64 t) (.slice a es.length c))
    have hbf := put3_below (b := w2.heap.size) (.int .i64 i) (.int .i64 t) (.slice a es.length c) (put3_below (b := w.heap.size) (.int .i64 i) (.int .i64 t) (.slice ua es.length uc) HV3.out.b (Nat.le_refl _)) (Nat.le_of_lt HL2.out)
    have hdx := put3_dc (v0 := .int .i64 i) (v1 := .int .i64 t) (v2 := .slice a es.length c) (put3_other (b := w.heap.size) (v0 := .int .i64 i) (v1 := .int .i64 t) (v2 := .slice ua es.length uc) (DC.alloc w2 [.int .i64 0, .int .i64 0, .slice none 0 0] 27) (by have := HL2.out; omega))
    have hdl := put3_other (b := w2.heap.size) (v0 := .int .i64 i) (v1 := .int .i64 t) (v2 := .slice a es.length c) (put3_dc (v0 := .int .i64 i) (v1 := .int .i64 t) (v2 := .slice ua es.length uc) HV3.out.dc) (by have := HL2.out; omega)
    have hsz : (put3 (put3 (w2.alloc (.cells #[.int .i64 0, .int .i64 0, .slice none 0 0] 27)) w.heap.size (.int .i64 i) (.int .i64 t) (.slice ua es.length uc)) w2.heap.size (.int .i64 i) (.int .i64 t) (.slice a es.length c)).heap.size = w2.heap.size + 1 := by simp [put3, World.setCell]
    have hku : ∀ k, w1.heap.size ≤ k → k < w2.heap.size → (put3 (put3 (w2.alloc (.cells #[.int .i64 0, .int .i64 0, .slice none 0 0] 27)) w.heap.size (.int .i64 i) (.int .i64 t) (.slice ua es.length uc)) w2.heap.size (.int .i64 i) (.int .i64 t) (.slice a es.length c)).heap[k]? = w2.heap[k]? := fun k h1 h2 => by
      rw [put3_heap _ _ _ _ _ _ (by omega), put3_heap _ _ _ _ _ _ (by have := HSB.out; omega)]
      exact Below.heap_alloc _ _ _ h2
    have heu := (HU2.out.keep (B' := w1.heap.size) (Nat.le_refl _) (by rw [hsz]; omega) hku).ein
    have HEU := Lib.hid heu
    have HDX := Lib.hid hdx
    have HDL := Lib.hid hdl
    have HBF := Lib.hid hbf
    clear hbf hdx hdl hsz hku heu HV2 HU2 HV3 HSB HL2
    generalize put3 (put3 _ _ _ _ _) _ _ _ _ = w4 at *
    have HV4 : Hid (Kv w w4 w.heap.size i t ua uc es) := ⟨HDL.out, HEU.out, HBF.out⟩
    have HX4 : Hid (Kv w w4 w2.heap.size i t a c es) := ⟨HDX.out, HEo.out.later HBF.out, HBF.out⟩
    clear HDL HDX HEU HBF HEo
    have d0 := HV4.out.d0
    have d1 := HV4.out.d1
    have d2 := HV4.out.d2
    have HC := Lib.hid (Term_any HV4.out.e i t x)
    go_wp2_with fail
    go_fit HC.out
    rintro e5 w5 ⟨rfl, hb⟩
    clear d0 d1 d2
    have HV5 := Lib.hid (HV4.out.later hb)
    have HX5 := Lib.hid (HX4.out.later hb)
    clear hb HV4 HX4 HC
    have d0 := HV5.out.d0
    have d1 := HV5.out.d1
    have d2 := HV5.out.d2
    have HC := Lib.hid (From_any HV5.out.e i t x m (by have := HLn.out; omega))
    go_wp2_with fail
    go_fit HC.out
    rintro e6 w6 ⟨v6, rfl, hf6, hb⟩
    obtain ⟨fa, fc, rfl, _, _⟩ := hf6.ein.slice
    clear d0 d1 d2
    have HB6 := Lib.hid hb
    have HF6 := Lib.hid hf6
    clear hb HC hf6
    have HBAD : Hid (okL i t es = false → termO i t es x = none ∧ fromL i t es x m = []) := from_bad
    have HAT : Hid (okL i t es = true → termO i t es x = atL i t es x) := fun h => by unfold termO; rw [h]; rfl
    cases hok : okL i t es with
    | false =>
      obtain ⟨h1, h2⟩ := HBAD.out hok
      rw [h1]
      generalize fromL i t es x m = F at *
      subst h2
      simp only [Option.getD_none, Option.isSome_none]
      have HV6 := Lib.hid (HV5.out.later HB6.out)
      clear h1 HBAD HAT
      go_wp2_with fail
      go_fit (awake_any w6)
      rintro ez wz ⟨rfl, hbz⟩
      have HBz := Lib.hid (HV6.out.b.trans (hbz.mono HV6.out.b.size))
      clear hbz
      go_wp2_with fail
      go_ret
      exact ⟨rfl, HBz.out⟩
    | true =>
      rw [HAT.out hok]
      have HX6 := Lib.hid (HX5.out.later HB6.out)
      have HRF := Lib.hid (fun (w' : World) (he : EIn w' (.slice a es.length c) es) => rFrom_any he i t x m hok (by have := HLn.out; omega))
      have d0 := HX6.out.d0
      have d1 := HX6.out.d1
      have d2 := HX6.out.d2
      have HC := Lib.hid (At_any HX6.out.e i t x hok)
      generalize fromL i t es x m = F at *
      generalize atL i t es x = O at *
      clear HBAD HAT hok
      go_wp2_with fail
      go_fit HC.out
      rintro e7 w7 ⟨rfl, hb⟩
      have HB7 := Lib.hid (HB6.out.trans (hb.mono HB6.out.size))
      have HF7 := Lib.hid (HF6.out.later hb)
      clear hb d0 d1 d2 HC HX6 HB6 HF6
      generalize O.getD 0 = u at *
      generalize O.isSome = is at *
      have HX7 := Lib.hid (HX5.out.later HB7.out)
      have d0 := HX7.out.d0
      have d1 := HX7.out.d1
      have d2 := HX7.out.d2
      have HC := Lib.hid (HRF.out w7 HX7.out.e)
      go_wp2_with fail
      go_fit HC.out
      rintro e8 w8 ⟨v8, rfl, hf8, hb⟩
      have HB8 := Lib.hid (HB7.out.trans (hb.mono HB7.out.size))
      have HF8 := Lib.hid (HF7.out.later hb)
      have HC2 := Lib.hid (Same_any HF8.out.ein hf8)
      obtain ⟨ra, rc, rfl, _, _⟩ := hf8.slice
      clear hb d0 d1 d2 HC HX7 HB7 HF7 HRF hf8
      go_wp2_with fail
      go_fit HC2.out
      rintro e9 w9 ⟨rfl, hb⟩
      have HB9 := Lib.hid (HB8.out.trans (hb.mono HB8.out.size))
      have HF9 := Lib.hid (HF8.out.later hb)
      clear hb HC2 HB8 HF8
      obtain ⟨ls, hxi⟩ := HF9.out.xi HB9.out
      have HXI := Lib.hid hxi
      clear hxi HF9 HB9
      go_wp2_with fail
      go_loopw [79] (fun j wr => ∃ k : Nat, j = .int .i64 k ∧ k ≤ F.length ∧ Hid (XI w5 wr w5.heap.size (.slice fa F.length fc) ls F)) (fun j _ => F.length - (intOf j).toNat)
      case atStart => exact ⟨0, rfl, Nat.zero_le _, HXI⟩
      case round =>
        clear HXI
        obtain ⟨k, rfl, hk, HXI⟩ := hrel
        by_cases hlt : k < F.length
        · have he : F[k]? = some F[k] := List.getElem?_eq_getElem hlt
          generalize F[k] = e at *
          obtain ⟨g, y, ys, p, c', rfl, hy, hs, q2, hr⟩ := HXI.out.at he
          have hkk : (k : Int) < (F.length : Int) := by omega
          have HE := Lib.hid he
          have HY := Lib.hid hy
          have HS := Lib.hid hs
          clear he hy hs hr
          go_wp2_with fail
          clear q2
          go_loopw [88] (fun j wr => ∃ q : Nat, j = .int .i64 q ∧ q ≤ e.d.length ∧ Hid (XI w5 wr w5.heap.size (.slice (some ⟨g, 0, none⟩) F.length fc) ls F)) (fun j _ => e.d.length - (intOf j).toNat)
          case atStart => exact ⟨0, rfl, Nat.zero_le _, HXI⟩
          case round =>
            clear HXI
            obtain ⟨q, rfl, hq, HXI⟩ := hrel
            by_cases hqt : q < e.d.length
            · obtain ⟨gb, z, rfl, hob, b0, bf⟩ := HXI.out.byte HY.out HE.out HS.out hqt
              obtain ⟨g', y', ys', p', c'', hg', hy', hs', q2, hr'⟩ := HXI.out.at HE.out
              cases hg'
              rw [HY.out] at hy'
              cases hy'
              rw [HS.out] at hs'
              cases hs'
              have e1 : IntKind.i64.wrap ((q : Int) + 1) = (q : Int) + 1 := IntWalk.i64_in _ (by have := row_short hr'; omega)
              have hqq : (q : Int) < (e.d.length : Int) := by omega
              have HN := Lib.hid (HXI.out.put (j := q) (z := bits .xor .u8 z 255) (n := 0) (c := 0) HY.out hr' hob)
              clear hr' hob HXI
              go_wp2_with fail
              exact ⟨⟨q + 1, by go_num, hqt, HN⟩, by show e.d.length - ((q : Int) + 1).toNat < e.d.length - (q : Int).toNat; omega⟩
            · obtain rfl : q = e.d.length := by omega
              go_wp2_with fail
              exact ⟨⟨k + 1, by go_num, hlt, HXI⟩, by show F.length - ((k : Int) + 1).toNat < F.length - (k : Int).toNat; omega⟩
        · obtain rfl : k = F.length := by omega
          have HV10 := Lib.hid (HV5.out.later HXI.out.below)
          have HX10 := Lib.hid (HX5.out.later HXI.out.below)
          clear HXI
          have v2 := HV10.out.d2
          have x2 := HX10.out.d2
          have HC := Lib.hid (Same_any HV10.out.e HX10.out.e)
          go_wp2_with fail
          go_fit HC.out
          rintro e12 w12 ⟨rfl, hb⟩
          have HB12 := Lib.hid (HV10.out.b.trans (hb.mono HV10.out.b.size))
          clear hb HC v2 x2
          go_wp2_with fail
          go_fit (awake_any w12)
          rintro ez wz ⟨rfl, hbz⟩
          have HBz := Lib.hid (HB12.out.trans (hbz.mono HB12.out.size))
          clear hbz
          go_wp2_with fail
          go_ret
          exact ⟨rfl, HBz.out⟩
end Go.Proofs.Ytcmfnokpbgfioaa
