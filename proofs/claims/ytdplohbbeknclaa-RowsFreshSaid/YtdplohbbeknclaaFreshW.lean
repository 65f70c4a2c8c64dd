/-
  RowsFresh walked: of two logs at least one is fresh for the other one; what was joined behind all is fresh. (Written by genlawr.py.)
-/
import Derived.Test.YtdplohbbeknclaaAw
import Derived.Test.YtdplohbbeknclaaFf
namespace Go.Proofs.Ytdplohbbeknclaa
set_option linter.unusedVariables false
set_option linter.unusedSimpArgs false
open Go.RowKit
set_option maxRecDepth 100000 in
set_option maxHeartbeats 12800000 in
theorem Fresh_law {w : World} {v : Value} {es : List Er} (h : EIn w v es) (i t : Int) {v2 : Value} {fs : List Er} (h2 : EIn w v2 fs) (j s : Int) {m : Value} {ms : List Er} (hm : EIn w m ms) : Calls Try.prog 9 #[.agg #[.int .i64 i, .int .i64 t, v], .agg #[.int .i64 j, .int .i64 s, v2], m] w (BoolP true w) := by
  obtain ⟨a, c, rfl, _, _⟩ := h.slice
  obtain ⟨a2, c2, rfl, _, _⟩ := h2.slice
  obtain ⟨a3, c3, rfl, _, _⟩ := hm.slice
  have hV0 := Kv.new (w0 := w) (i := i) (t := t) h (Below.refl _ _) 24
  have hU := Kv.new (w0 := w) (i := j) (t := s) (h2.later hV0.b) hV0.b 24
  have hV1 := hV0.later (lay_alloc (w.alloc (.cells #[.int .i64 i, .int .i64 t, .slice a es.length c] 24)) (.cells #[.int .i64 j, .int .i64 s, .slice a2 fs.length c2] 24))
  have hal := lay_alloc ((w.alloc (.cells #[.int .i64 i, .int .i64 t, .slice a es.length c] 24)).alloc (.cells #[.int .i64 j, .int .i64 s, .slice a2 fs.length c2] 24)) (.cells #[.slice a es.length c, .slice a2 fs.length c2, .slice a3 ms.length c3] 22)
  have hs1 : (w.alloc (.cells #[.int .i64 i, .int .i64 t, .slice a es.length c] 24)).heap.size = w.heap.size + 1 := by simp
  have hs2 : ((w.alloc (.cells #[.int .i64 i, .int .i64 t, .slice a es.length c] 24)).alloc (.cells #[.int .i64 j, .int .i64 s, .slice a2 fs.length c2] 24)).heap.size = w.heap.size + 1 + 1 := by simp
  have hdc := DC.alloc ((w.alloc (.cells #[.int .i64 i, .int .i64 t, .slice a es.length c] 24)).alloc (.cells #[.int .i64 j, .int .i64 s, .slice a2 fs.length c2] 24)) [.slice a es.length c, .slice a2 fs.length c2, .slice a3 ms.length c3] 22
  rw [hs2] at hdc
  rw [hs1] at hU
  have hV := hV1.later hal
  have hU := hU.later hal
  have hM := hm.later hV.b
  have hls : LsIn (((w.alloc (.cells #[.int .i64 i, .int .i64 t, .slice a es.length c] 24)).alloc (.cells #[.int .i64 j, .int .i64 s, .slice a2 fs.length c2] 24)).alloc (.cells #[.slice a es.length c, .slice a2 fs.length c2, .slice a3 ms.length c3] 22)) (w.heap.size + 1 + 1) [es, fs, ms] := fun k l hk => by
    match k, hk with
    | 0, hk => simp only [List.getElem?_cons_zero, Option.some.injEq] at hk; subst hk; exact ⟨_, hdc.cells 0 _ rfl, hV.e⟩
    | 1, hk => simp only [List.getElem?_cons_succ, List.getElem?_cons_zero, Option.some.injEq] at hk; subst hk; exact ⟨_, hdc.cells 1 _ rfl, hU.e⟩
    | 2, hk => simp only [List.getElem?_cons_succ, List.getElem?_cons_zero, Option.some.injEq] at hk; subst hk; exact ⟨_, hdc.cells 2 _ rfl, hM⟩
    | k + 3, hk => simp at hk
  have HL := Lib.hid (light_three hls)
  have HV := Lib.hid hV
  have HU := Lib.hid hU
  have HM := Lib.hid hM
  clear hV0 hV1 hV hU hM hal hs1 hs2 hdc hls h h2 hm
  go_enter Try.func9, Try.ntmps9
  go_wp2_with fail
  go_fit HL.out
  rintro e0 w1 ⟨b, rfl, hbl, rfl⟩
  generalize ((w.alloc _).alloc _).alloc _ = w1 at *
  clear HL
  cases b with
  | false =>
    go_wp2_with fail
    go_fit (awake_any w1)
    rintro ez wz ⟨rfl, hbz⟩
    have HBz := Lib.hid (HV.out.b.trans (hbz.mono HV.out.b.size))
    clear hbz
    go_wp2_with fail
    go_ret
    exact ⟨rfl, HBz.out⟩
  | true =>
    have HLn : Hid (es.length ≤ 200 ∧ ms.length ≤ 200) := ⟨hbl rfl es (by simp), hbl rfl ms (by simp)⟩
    clear hbl
    have d0 := HV.out.d0
    have d1 := HV.out.d1
    have d2 := HV.out.d2
    have hck := Check_any HV.out.e i t
    cases hok2 : okL i t es with
    | false =>
      rw [ckL_bad hok2] at hck
      have HCK := Lib.hid hck
      clear hck hok2
      go_wp2_with fail
      go_fit HCK.out
      rintro e2 w2 ⟨rfl, hb⟩
      have HV2 := Lib.hid (HV.out.later hb)
      clear hb HCK d0 d1 d2
      go_wp2_with fail
      go_fit (awake_any w2)
      rintro ez wz ⟨rfl, hbz⟩
      have HBz := Lib.hid (HV2.out.b.trans (hbz.mono HV2.out.b.size))
      clear hbz
      go_wp2_with fail
      go_ret
      exact ⟨rfl, HBz.out⟩
    | true =>
      rw [ckL_ok hok2] at hck
      have HCK := Lib.hid hck
      have HOK2 := Lib.hid hok2
      clear hck hok2
      go_wp2_with fail
      go_fit HCK.out
      rintro e2 w2 ⟨rfl, hb⟩
      clear HCK d0 d1 d2
      have HV2 := Lib.hid (HV.out.later hb)
      have HU2 := Lib.hid (HU.out.later hb)
      have HM2 := Lib.hid (HM.out.later hb)
      clear hb HV HU HM
      have q0 := HU2.out.d0
      have q1 := HU2.out.d1
      have q2 := HU2.out.d2
      have hck := Check_any HU2.out.e j s
      cases hok3 : okL j s fs with
      | false =>
        rw [ckL_bad hok3] at hck
        have HCK := Lib.hid hck
        clear hck hok3
        go_wp2_with fail
        go_fit HCK.out
        rintro e3 w3 ⟨rfl, hb⟩
        have HV3 := Lib.hid (HV2.out.later hb)
        clear hb HCK q0 q1 q2
        go_wp2_with fail
        go_fit (awake_any w3)
        rintro ez wz ⟨rfl, hbz⟩
        have HBz := Lib.hid (HV3.out.b.trans (hbz.mono HV3.out.b.size))
        clear hbz
        go_wp2_with fail
        go_ret
        exact ⟨rfl, HBz.out⟩
      | true =>
        rw [ckL_ok hok3] at hck
        have HCK := Lib.hid hck
        have HOK3 := Lib.hid hok3
        clear hck hok3
        go_wp2_with fail
        go_fit HCK.out
        rintro e3 w3 ⟨rfl, hb⟩
        clear HCK q0 q1 q2
        have HV3 := Lib.hid (HV2.out.later hb)
        have HU3 := Lib.hid (HU2.out.later hb)
        have HM3 := Lib.hid (HM2.out.later hb)
        clear hb HV2 HU2 HM2
        have HLa : Hid (lastL i t es = (i + es.length, tm t es es.length)) := by show _ = _; unfold lastL; rw [HOK2.out]; rfl
        have HLb : Hid (lastL j s fs = (j + fs.length, tm s fs fs.length)) := by show _ = _; unfold lastL; rw [HOK3.out]; rfl
        have HFO := Lib.hid (fresh_own HOK2.out)
        have d0 := HV3.out.d0
        have d1 := HV3.out.d1
        have d2 := HV3.out.d2
        have hcc := Last_any HV3.out.e i t
        rw [HLa.out] at hcc
        have HCC := Lib.hid hcc
        clear hcc
        go_wp2_with fail
        go_fit HCC.out
        rintro e4 w4 ⟨rfl, hb⟩
        have HV4 := Lib.hid (HV3.out.later hb)
        have HU4 := Lib.hid (HU3.out.later hb)
        have HM4 := Lib.hid (HM3.out.later hb)
        clear hb HV3 HU3 HM3 HCC d0 d1 d2
        have q0 := HU4.out.d0
        have q1 := HU4.out.d1
        have q2 := HU4.out.d2
        have hcc := Last_any HU4.out.e j s
        rw [HLb.out] at hcc
        have HCC := Lib.hid hcc
        clear hcc
        go_wp2_with fail
        go_fit HCC.out
        rintro e5 w5 ⟨rfl, hb⟩
        have HV5 := Lib.hid (HV4.out.later hb)
        have HU5 := Lib.hid (HU4.out.later hb)
        have HM5 := Lib.hid (HM4.out.later hb)
        clear hb HV4 HU4 HM4 HCC q0 q1 q2
        cases hfr : freshB i t es (j + fs.length) (tm s fs fs.length) with
        | true =>
          have d0 := HV5.out.d0
          have d1 := HV5.out.d1
          have d2 := HV5.out.d2
          have hcc := Fresh_any HV5.out.e i t (j + fs.length) (tm s fs fs.length)
          rw [hfr] at hcc
          have HCC := Lib.hid hcc
          clear hcc
          go_wp2_with fail
          go_fit HCC.out
          rintro e6 w6 ⟨rfl, hb⟩
          have HV6 := Lib.hid (HV5.out.later hb)
          have HU6 := Lib.hid (HU5.out.later hb)
          have HM6 := Lib.hid (HM5.out.later hb)
          clear hb HV5 HU5 HM5 HCC d0 d1 d2
          have d0 := HV6.out.d0
          have d1 := HV6.out.d1
          have d2 := HV6.out.d2
          have hcc := Fresh_any HV6.out.e i t (i + es.length) (tm t es es.length)
          rw [HFO.out] at hcc
          have HCC := Lib.hid hcc
          clear hcc
          go_wp2_with fail
          go_fit HCC.out
          rintro e8 w8 ⟨rfl, hb⟩
          have HV8 := Lib.hid (HV6.out.later hb)
          have HU8 := Lib.hid (HU6.out.later hb)
          have HM8 := Lib.hid (HM6.out.later hb)
          clear hb HV6 HU6 HM6 HCC d0 d1 d2
          have d0 := HV8.out.d0
          have d1 := HV8.out.d1
          have d2 := HV8.out.d2
          have HJn := Lib.hid (join_end (ms := ms) HOK2.out)
          have HJk := Lib.hid (joinA_ok (ms := ms) (x := i + es.length) (u := tm t es es.length) HOK2.out)
          have hcc := Join_any HV8.out.e HM8.out i t (i + es.length) (tm t es es.length) (by have := HLn.out; omega) (by have := HLn.out; omega)
          rw [HOK2.out, if_pos rfl, if_pos rfl] at hcc
          have HCC := Lib.hid hcc
          clear hcc
          generalize joinA i t es (i + es.length) (tm t es es.length) ms = J at *
          obtain ⟨Jl, Jc, Jf, Jo⟩ := J
          go_wp2_with fail
          go_fit HCC.out
          rintro e10 w10 ⟨v10, f10, rfl, hv10, hf10, hb⟩
          obtain ⟨a10, c10, rfl, _, _⟩ := hv10.ein.slice
          obtain ⟨a11, n11, c11, rfl⟩ := slice_shape hf10
          have HV9 := Lib.hid (HV8.out.later hb)
          have HX10 := Lib.hid (Kv.new (w0 := w) (i := i) (t := t) hv10.ein HV9.out.b 24)
          have HV10 := Lib.hid (HV9.out.later (lay_alloc w10 (.cells #[.int .i64 i, .int .i64 t, .slice a10 Jl.length c10] 24)))
          clear hb hv10 hf10 HV9 HV8 HU8 HM8 HCC d0 d1 d2
          cases Jo with
          | false =>
            go_wp2_with fail
            generalize w10.alloc _ = W10 at *
            go_fit (awake_any W10)
            rintro ez wz ⟨rfl, hbz⟩
            have HBz := Lib.hid (HV10.out.b.trans (hbz.mono HV10.out.b.size))
            clear hbz
            go_wp2_with fail
            go_ret
            exact ⟨rfl, HBz.out⟩
          | true =>
            have hJl : Jl = es ++ ms := HJn.out rfl
            have hJk : okL i t Jl = true := HJk.out
            have HLj : Hid (lastL i t Jl = (i + Jl.length, tm t Jl Jl.length)) := by show _ = _; unfold lastL; rw [hJk]; rfl
            have HFJ : Hid (freshB i t es (i + Jl.length) (tm t Jl Jl.length) = true) := by show _ = _; rw [hJl] at hJk ⊢; exact fresh_joined HOK2.out hJk
            clear hJl hJk HJn HJk
            have hcc := Last_any HX10.out.e i t
            rw [HLj.out] at hcc
            have HCC := Lib.hid hcc
            clear hcc
            have q0 := HX10.out.d0
            have q1 := HX10.out.d1
            have q2 := HX10.out.d2
            have d0 := HV10.out.d0
            have d1 := HV10.out.d1
            have d2 := HV10.out.d2
            go_wp2_with fail
            generalize w10.alloc _ = W10 at *
            go_fit HCC.out
            rintro e12 w12 ⟨rfl, hb⟩
            have HV12 := Lib.hid (HV10.out.later hb)
            clear hb HV10 HX10 HCC q0 q1 q2 d0 d1 d2
            have hcc := Fresh_any HV12.out.e i t (i + Jl.length) (tm t Jl Jl.length)
            rw [HFJ.out] at hcc
            have HCC := Lib.hid hcc
            clear hcc
            have d0 := HV12.out.d0
            have d1 := HV12.out.d1
            have d2 := HV12.out.d2
            go_wp2_with fail
            go_fit HCC.out
            rintro e13 w13 ⟨rfl, hb⟩
            have HV13 := Lib.hid (HV12.out.later hb)
            clear hb HV12 HCC d0 d1 d2
            go_wp2_with fail
            go_fit (awake_any w13)
            rintro ez wz ⟨rfl, hbz⟩
            have HBz := Lib.hid (HV13.out.b.trans (hbz.mono HV13.out.b.size))
            clear hbz
            go_wp2_with fail
            go_ret
            exact ⟨rfl, HBz.out⟩
        | false =>
          have HF2 := Lib.hid (fresh_two HOK2.out HOK3.out hfr)
          have d0 := HV5.out.d0
          have d1 := HV5.out.d1
          have d2 := HV5.out.d2
          have hcc := Fresh_any HV5.out.e i t (j + fs.length) (tm s fs fs.length)
          rw [hfr] at hcc
          have HCC := Lib.hid hcc
          clear hcc
          go_wp2_with fail
          go_fit HCC.out
          rintro e6 w6 ⟨rfl, hb⟩
          have HV6 := Lib.hid (HV5.out.later hb)
          have HU6 := Lib.hid (HU5.out.later hb)
          have HM6 := Lib.hid (HM5.out.later hb)
          clear hb HV5 HU5 HM5 HCC d0 d1 d2
          have q0 := HU6.out.d0
          have q1 := HU6.out.d1
          have q2 := HU6.out.d2
          have hcc := Fresh_any HU6.out.e j s (i + es.length) (tm t es es.length)
          rw [HF2.out] at hcc
          have HCC := Lib.hid hcc
          clear hcc
          go_wp2_with fail
          go_fit HCC.out
          rintro e7 w7 ⟨rfl, hb⟩
          have HV7 := Lib.hid (HV6.out.later hb)
          have HU7 := Lib.hid (HU6.out.later hb)
          have HM7 := Lib.hid (HM6.out.later hb)
          clear hb HV6 HU6 HM6 HCC q0 q1 q2
          have d0 := HV7.out.d0
          have d1 := HV7.out.d1
          have d2 := HV7.out.d2
          have hcc := Fresh_any HV7.out.e i t (i + es.length) (tm t es es.length)
          rw [HFO.out] at hcc
          have HCC := Lib.hid hcc
          clear hcc
          go_wp2_with fail
          go_fit HCC.out
          rintro e8 w8 ⟨rfl, hb⟩
          have HV8 := Lib.hid (HV7.out.later hb)
          have HU8 := Lib.hid (HU7.out.later hb)
          have HM8 := Lib.hid (HM7.out.later hb)
          clear hb HV7 HU7 HM7 HCC d0 d1 d2
          have d0 := HV8.out.d0
          have d1 := HV8.out.d1
          have d2 := HV8.out.d2
          have HJn := Lib.hid (join_end (ms := ms) HOK2.out)
          have HJk := Lib.hid (joinA_ok (ms := ms) (x := i + es.length) (u := tm t es es.length) HOK2.out)
          have hcc := Join_any HV8.out.e HM8.out i t (i + es.length) (tm t es es.length) (by have := HLn.out; omega) (by have := HLn.out; omega)
          rw [HOK2.out, if_pos rfl, if_pos rfl] at hcc
          have HCC := Lib.hid hcc
          clear hcc
          generalize joinA i t es (i + es.length) (tm t es es.length) ms = J at *
          obtain ⟨Jl, Jc, Jf, Jo⟩ := J
          go_wp2_with fail
          go_fit HCC.out
          rintro e10 w10 ⟨v10, f10, rfl, hv10, hf10, hb⟩
          obtain ⟨a10, c10, rfl, _, _⟩ := hv10.ein.slice
          obtain ⟨a11, n11, c11, rfl⟩ := slice_shape hf10
          have HV9 := Lib.hid (HV8.out.later hb)
          have HX10 := Lib.hid (Kv.new (w0 := w) (i := i) (t := t) hv10.ein HV9.out.b 24)
          have HV10 := Lib.hid (HV9.out.later (lay_alloc w10 (.cells #[.int .i64 i, .int .i64 t, .slice a10 Jl.length c10] 24)))
          clear hb hv10 hf10 HV9 HV8 HU8 HM8 HCC d0 d1 d2
          cases Jo with
          | false =>
            go_wp2_with fail
            generalize w10.alloc _ = W10 at *
            go_fit (awake_any W10)
            rintro ez wz ⟨rfl, hbz⟩
            have HBz := Lib.hid (HV10.out.b.trans (hbz.mono HV10.out.b.size))
            clear hbz
            go_wp2_with fail
            go_ret
            exact ⟨rfl, HBz.out⟩
          | true =>
            have hJl : Jl = es ++ ms := HJn.out rfl
            have hJk : okL i t Jl = true := HJk.out
            have HLj : Hid (lastL i t Jl = (i + Jl.length, tm t Jl Jl.length)) := by show _ = _; unfold lastL; rw [hJk]; rfl
            have HFJ : Hid (freshB i t es (i + Jl.length) (tm t Jl Jl.length) = true) := by show _ = _; rw [hJl] at hJk ⊢; exact fresh_joined HOK2.out hJk
            clear hJl hJk HJn HJk
            have hcc := Last_any HX10.out.e i t
            rw [HLj.out] at hcc
            have HCC := Lib.hid hcc
            clear hcc
            have q0 := HX10.out.d0
            have q1 := HX10.out.d1
            have q2 := HX10.out.d2
            have d0 := HV10.out.d0
            have d1 := HV10.out.d1
            have d2 := HV10.out.d2
            go_wp2_with fail
            generalize w10.alloc _ = W10 at *
            go_fit HCC.out
            rintro e12 w12 ⟨rfl, hb⟩
            have HV12 := Lib.hid (HV10.out.later hb)
            clear hb HV10 HX10 HCC q0 q1 q2 d0 d1 d2
            have hcc := Fresh_any HV12.out.e i t (i + Jl.length) (tm t Jl Jl.length)
            rw [HFJ.out] at hcc
            have HCC := Lib.hid hcc
            clear hcc
            have d0 := HV12.out.d0
            have d1 := HV12.out.d1
            have d2 := HV12.out.d2
            go_wp2_with fail
            go_fit HCC.out
            rintro e13 w13 ⟨rfl, hb⟩
            have HV13 := Lib.hid (HV12.out.later hb)
            clear hb HV12 HCC d0 d1 d2
            go_wp2_with fail
            go_fit (awake_any w13)
            rintro ez wz ⟨rfl, hbz⟩
            have HBz := Lib.hid (HV13.out.b.trans (hbz.mono HV13.out.b.size))
            clear hbz
            go_wp2_with fail
            go_ret
            exact ⟨rfl, HBz.out⟩
end Go.Proofs.Ytdplohbbeknclaa
