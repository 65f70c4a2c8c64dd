/-
  RowsJoined walked: behind what entries bring the log may be, has all of them and all that stood ahead; the same again brings nothing. (Written by genlawr.py.)
-/
import Derived.Test.YtdplohbbeknclaaAw
import Derived.Test.YtdplohbbeknclaaFg
import Derived.Test.YtdplohbbeknclaaSm
namespace Go.Proofs.Ytdplohbbeknclaa
set_option linter.unusedVariables false
set_option linter.unusedSimpArgs false
open Go.RowKit
set_option maxRecDepth 100000 in
set_option maxHeartbeats 12800000 in
theorem Joined_law {w : World} {v : Value} {es : List Er} (h : EIn w v es) (i t x u : Int) {m : Value} {ms : List Er} (hm : EIn w m ms) : Calls Try.prog 7 #[.agg #[.int .i64 i, .int .i64 t, v], .int .i64 x, .int .i64 u, m] w (BoolP true w) := by
  obtain ⟨a, c, rfl, _, _⟩ := h.slice
  obtain ⟨a3, c3, rfl, _, _⟩ := hm.slice
  have hce : es.length ≤ c := by obtain ⟨a', c', hv, h1, _⟩ := h.slice; simp only [Value.slice.injEq] at hv; omega
  have hV0 := Kv.new (w0 := w) (i := i) (t := t) h (Below.refl _ _) 24
  have hal := lay_alloc (w.alloc (.cells #[.int .i64 i, .int .i64 t, .slice a es.length c] 24)) (.cells #[.slice a es.length c, .slice a3 ms.length c3] 22)
  have hs1 : (w.alloc (.cells #[.int .i64 i, .int .i64 t, .slice a es.length c] 24)).heap.size = w.heap.size + 1 := by simp
  have hdc := DC.alloc (w.alloc (.cells #[.int .i64 i, .int .i64 t, .slice a es.length c] 24)) [.slice a es.length c, .slice a3 ms.length c3] 22
  rw [hs1] at hdc
  have hV := hV0.later hal
  have hM := hm.later hV.b
  have hls : LsIn ((w.alloc (.cells #[.int .i64 i, .int .i64 t, .slice a es.length c] 24)).alloc (.cells #[.slice a es.length c, .slice a3 ms.length c3] 22)) (w.heap.size + 1) [es, ms] := fun k l hk => by
    match k, hk with
    | 0, hk => simp only [List.getElem?_cons_zero, Option.some.injEq] at hk; subst hk; exact ⟨_, hdc.cells 0 _ rfl, hV.e⟩
    | 1, hk => simp only [List.getElem?_cons_succ, List.getElem?_cons_zero, Option.some.injEq] at hk; subst hk; exact ⟨_, hdc.cells 1 _ rfl, hM⟩
    | k + 2, hk => simp at hk
  have HL := Lib.hid (light_two hls)
  have HV := Lib.hid hV
  have HM := Lib.hid hM
  clear hV0 hV hM hal hs1 hdc hls h hm
  go_enter Try.func7, Try.ntmps7
  go_wp2_with fail
  go_fit HL.out
  rintro e0 w1 ⟨b, rfl, hbl, rfl⟩
  generalize (w.alloc _).alloc _ = w1 at *
  clear HL
  cases b with
  | false =>
    go_wp2_with fail
    go_fit (awake_any w1)
    rintro ez wz ⟨rfl, hbz⟩
    have HBz := Lib.hid (HV.out.b.trans (hbz.mono HV.out.b.size))
    clear hbz
    go_wp2_with fail
    go_ret
    exact ⟨rfl, HBz.out⟩
  | true =>
    have HLn : Hid (es.length ≤ 200 ∧ ms.length ≤ 200) := ⟨hbl rfl es (by simp), hbl rfl ms (by simp)⟩
    clear hbl
    have d0 := HV.out.d0
    have d1 := HV.out.d1
    have d2 := HV.out.d2
    have hck := Check_any HV.out.e i t
    cases hok : okL i t es with
    | false =>
      rw [ckL_bad hok] at hck
      have HCK := Lib.hid hck
      clear hck hok
      go_wp2_with fail
      go_fit HCK.out
      rintro e2 w2 ⟨rfl, hb⟩
      have HV2 := Lib.hid (HV.out.later hb)
      clear hb HCK HV d0 d1 d2
      go_wp2_with fail
      go_fit (awake_any w2)
      rintro ez wz ⟨rfl, hbz⟩
      have HBz := Lib.hid (HV2.out.b.trans (hbz.mono HV2.out.b.size))
      clear hbz
      go_wp2_with fail
      go_ret
      exact ⟨rfl, HBz.out⟩
    | true =>
      rw [ckL_ok hok] at hck
      have HCK := Lib.hid hck
      have HOK := Lib.hid hok
      have hi : 0 ≤ i ∧ i + es.length ≤ 1099511627776 := ⟨(okL_iff.1 hok).1.1, okL_end hok⟩
      have HI := Lib.hid hi
      clear hck hok
      go_wp2_with fail
      go_fit HCK.out
      rintro e2 w2 ⟨rfl, hb⟩
      have HV2 := Lib.hid (HV.out.later hb)
      have HM2 := Lib.hid (HM.out.later hb)
      clear hb HCK HV HM d0 d1 d2
      have d0 := HV2.out.d0
      have d1 := HV2.out.d1
      have d2 := HV2.out.d2
      have HNo := Lib.hid (join_no (ms := ms) (x := x) (u := u) HOK.out)
      have HOk2 := Lib.hid (joinA_ok (ms := ms) (x := x) (u := u) HOK.out)
      have HLen := Lib.hid (join_len (ms := ms) (x := x) (u := u) HOK.out)
      have HTe := Lib.hid (join_term (ms := ms) (x := x) (u := u) HOK.out)
      have HAg := Lib.hid (join_again (ms := ms) (x := x) (u := u) HOK.out)
      have HKe := Lib.hid (join_kept (ms := ms) (x := x) (u := u) HOK.out)
      have hcc := Join_any HV2.out.e HM2.out i t x u (by have := HLn.out; omega) (by have := HLn.out; omega)
      rw [HOK.out, if_pos rfl, if_pos rfl] at hcc
      have HCC := Lib.hid hcc
      clear hcc
      generalize joinA i t es x u ms = J at *
      obtain ⟨L, Jc, Jf, Jo⟩ := J
      go_wp2_with fail
      go_fit HCC.out
      rintro e4 w4 ⟨v4, f4, rfl, hv4, hf4, hb⟩
      obtain ⟨a4, c4, rfl, hcl, _⟩ := hv4.ein.slice
      obtain ⟨a5, c5, rfl, _, _⟩ := hf4.ein.slice
      have HV9 := Lib.hid (HV2.out.later hb)
      have HO4 := Lib.hid (Kv.new (w0 := w) (i := i) (t := t) hv4.ein HV9.out.b 24)
      have HV4 := Lib.hid (HV9.out.later (lay_alloc w4 (.cells #[.int .i64 i, .int .i64 t, .slice a4 L.length c4] 24)))
      have HM4 := Lib.hid ((HM2.out.later hb).later (lay_alloc w4 (.cells #[.int .i64 i, .int .i64 t, .slice a4 L.length c4] 24)))
      clear hb hv4 hf4 HV9 HV2 HM2 HCC d0 d1 d2
      cases Jo with
      | false =>
        have hJ := HNo.out rfl
        simp only [Jn.mk.injEq, and_true] at hJ
        obtain ⟨hJ1, hJ2, hJ3⟩ := hJ
        subst hJ1 hJ2 hJ3
        have HSm := Lib.hid (Same_any HO4.out.e HV4.out.e)
        have q0 := HO4.out.d0
        have q1 := HO4.out.d1
        have q2 := HO4.out.d2
        have d0 := HV4.out.d0
        have d1 := HV4.out.d1
        have d2 := HV4.out.d2
        go_wp2_with fail
        go_fit HSm.out
        rintro e5 w5 ⟨rfl, hb⟩
        have HV5 := Lib.hid (HV4.out.later hb)
        clear hb HV4 HO4 HM4 HSm q0 q1 q2 d0 d1 d2
        go_wp2_with fail
        go_fit (awake_any w5)
        rintro ez wz ⟨rfl, hbz⟩
        have HBz := Lib.hid (HV5.out.b.trans (hbz.mono HV5.out.b.size))
        clear hbz
        go_wp2_with fail
        go_ret
        exact ⟨rfl, HBz.out⟩
      | true =>
        have hck := Check_any HO4.out.e i t
        rw [ckL_ok (HOk2.out)] at hck
        have HCK := Lib.hid hck
        have hag := HAg.out rfl
        obtain ⟨hk1, hk2, hk3, hk4, hk5⟩ := HKe.out rfl
        have HAG : Hid (joinA i t L x u ms = ⟨L, 0, [], true⟩) := hag
        have HKT : Hid (L.take (keptN i es ⟨L, Jc, Jf, true⟩) = es.take (keptN i es ⟨L, Jc, Jf, true⟩)) := hk3
        have HK4 : Hid (0 < Jc → Jc = i + keptN i es ⟨L, Jc, Jf, true⟩ + 1) := hk4
        have HK0 : Hid (¬ 0 < Jc → keptN i es ⟨L, Jc, Jf, true⟩ = es.length) := fun hn => by
          show (if _ then _ else _) = _; exact if_neg hn
        have hk1' : keptN i es ⟨L, Jc, Jf, true⟩ ≤ es.length := hk1
        have hk2' : keptN i es ⟨L, Jc, Jf, true⟩ ≤ L.length := hk2
        have HTR : Hid (∀ (n : Nat) (y : Er), ms[n]? = some y → i < y.i → termO i t L y.i = some y.t) := HTe.out rfl
        have HLE : Hid (L.length ≤ 400) := by show _ ≤ _; have h1 : L.length ≤ es.length + ms.length := HLen.out rfl; have h2 := HLn.out; omega
        generalize keptN i es _ = K at *
        clear hck hag hk1 hk2 hk3 hk4 hk5 HNo HLen HTe HAg HKe
        have q0 := HO4.out.d0
        have q1 := HO4.out.d1
        have q2 := HO4.out.d2
        have d0 := HV4.out.d0
        have d1 := HV4.out.d1
        have d2 := HV4.out.d2
        go_wp2_with fail
        generalize w4.alloc _ = W4 at *
        go_fit HCK.out
        rintro e5 w5 ⟨rfl, hb⟩
        have HV5 := Lib.hid (HV4.out.later hb)
        have HO5 := Lib.hid (HO4.out.later hb)
        have HM5 := Lib.hid (HM4.out.later hb)
        clear hb HV4 HO4 HM4 HCK q0 q1 q2 d0 d1 d2
        go_wp2_with fail
        go_loopw [68] (fun j wr => ∃ n : Nat, j = .int .i64 n ∧ n ≤ ms.length ∧ Hid (Kv w wr w.heap.size i t a c es) ∧ Hid (Kv w wr w4.heap.size i t a4 c4 L) ∧ Hid (EIn wr (.slice a3 ms.length c3) ms)) (fun j _ => ms.length - (intOf j).toNat)
        case atStart => exact ⟨0, rfl, Nat.zero_le _, HV5, HO5, HM5⟩
        case round =>
          obtain ⟨n, rfl, hn, hV, hO, hM⟩ := hrel
          by_cases hlt : n < ms.length
          · have he : ms[n]? = some ms[n] := List.getElem?_eq_getElem hlt
            generalize ms[n] = y at *
            obtain ⟨g, off, p, c6, rfl, k0, k1, k2, _⟩ := hM.out.at he
            have hal := lay_alloc wr (.cells #[.int .i64 y.i, .int .i64 y.t, .slice p y.d.length c6] 44)
            have HD := Lib.hid (DC.alloc wr [.int .i64 y.i, .int .i64 y.t, .slice p y.d.length c6] 44)
            have HV6 := Lib.hid (hV.out.later hal)
            have HO6 := Lib.hid (hO.out.later hal)
            have HM6 := Lib.hid (hM.out.later hal)
            have hnn : (n : Int) < (ms.length : Int) := by omega
            have hcc := Term_any HO6.out.e i t y.i
            have HYT := Lib.hid (HTR.out n y he)
            clear hal he hV hO hM
            have q0 := HO6.out.d0
            have q1 := HO6.out.d1
            have q2 := HO6.out.d2
            by_cases hyi : i < y.i
            · unfold OptP at hcc
              rw [HYT.out hyi] at hcc
              have HCC := Lib.hid hcc
              clear hcc
              go_wp2_with fail
              generalize wr.alloc _ = W6 at *
              go_fit HCC.out
              rintro e7 w7 ⟨rfl, hb⟩
              have HV7 := Lib.hid (HV6.out.later hb)
              have HO7 := Lib.hid (HO6.out.later hb)
              have HM7 := Lib.hid (HM6.out.later hb)
              have HD7 := Lib.hid (HD.out.below hb)
              have x0 := HD7.out.cells 0 _ rfl
              have x1 := HD7.out.cells 1 _ rfl
              have x2 := HD7.out.cells 2 _ rfl
              clear hb HV6 HO6 HM6 HD HCC k0 k1 k2 q0 q1 q2
              have d0 := HV7.out.d0
              have d1 := HV7.out.d1
              have d2 := HV7.out.d2
              go_wp2_with fail
              exact ⟨⟨n + 1, by go_num, hlt, HV7, HO7, HM7⟩, by show ms.length - ((n : Int) + 1).toNat < ms.length - (n : Int).toNat; omega⟩
            · unfold OptP at hcc
              have HCC := Lib.hid hcc
              clear hcc
              go_wp2_with fail
              generalize wr.alloc _ = W6 at *
              go_fit HCC.out
              rintro e7 w7 ⟨rfl, hb⟩
              have HV7 := Lib.hid (HV6.out.later hb)
              have HO7 := Lib.hid (HO6.out.later hb)
              have HM7 := Lib.hid (HM6.out.later hb)
              have HD7 := Lib.hid (HD.out.below hb)
              have x0 := HD7.out.cells 0 _ rfl
              have x1 := HD7.out.cells 1 _ rfl
              have x2 := HD7.out.cells 2 _ rfl
              clear hb HV6 HO6 HM6 HD HCC k0 k1 k2 q0 q1 q2
              have d0 := HV7.out.d0
              have d1 := HV7.out.d1
              have d2 := HV7.out.d2
              go_wp2_with fail
              exact ⟨⟨n + 1, by go_num, hlt, HV7, HO7, HM7⟩, by show ms.length - ((n : Int) + 1).toNat < ms.length - (n : Int).toNat; omega⟩
          · obtain rfl : n = ms.length := by omega
            have hcc := Join_any hO.out.e hM.out i t x u (by have := HLE.out; omega) (by have := HLn.out; omega)
            rw [HOk2.out, if_pos rfl, if_pos rfl, HAG.out] at hcc
            have HCC := Lib.hid hcc
            have bk1 : (K : Int) ≤ (c : Int) := by omega
            have bk2 : (K : Int) ≤ (c4 : Int) := by omega
            have bk0 : (0 : Int) ≤ (K : Int) := by omega
            clear hcc
            have q0 := hO.out.d0
            have q1 := hO.out.d1
            have q2 := hO.out.d2
            have d0 := hV.out.d0
            have d1 := hV.out.d1
            have d2 := hV.out.d2
            by_cases hjc : 0 < Jc
            · have hje := HK4.out hjc
              have e1 : IntKind.i64.wrap (Jc - i) = (K : Int) + 1 := (IntWalk.i64_in _ (by omega)).trans (by omega)
              have e2 : IntKind.i64.wrap ((K : Int) + 1 - 1) = (K : Int) := (IntWalk.i64_in _ (by omega)).trans (by omega)
              clear hje
              go_wp2_with fail
              go_fit HCC.out
              rintro e8 w8 ⟨v8, f8, rfl, hv8, hf8, hb⟩
              obtain ⟨a8, c8, rfl, _, _⟩ := hv8.ein.slice
              obtain ⟨a9, c9, rfl, _, _⟩ := hf8.ein.slice
              have HV9 := Lib.hid (hV.out.later hb)
              have HA8 := Lib.hid (Kv.new (w0 := w) (i := i) (t := t) hv8.ein HV9.out.b 24)
              have hal := lay_alloc w8 (.cells #[.int .i64 i, .int .i64 t, .slice a8 L.length c8] 24)
              have HV8 := Lib.hid (HV9.out.later hal)
              have HO8 := Lib.hid ((hO.out.later hb).later hal)
              clear hb hal hv8 hf8 HV9 hV hO hM HCC q0 q1 q2 d0 d1 d2
              go_wp2_with fail
              generalize w8.alloc _ = W8 at *
              have d0 := HV8.out.d0
              have d1 := HV8.out.d1
              have d2 := HV8.out.d2
              have q0 := HO8.out.d0
              have q1 := HO8.out.d1
              have q2 := HO8.out.d2
              have r0 := HA8.out.d0
              have r1 := HA8.out.d1
              have r2 := HA8.out.d2
              have HV9 := Lib.hid HV8.out.drew
              have HO9 := Lib.hid HO8.out.drew
              have HA9 := Lib.hid HA8.out.drew
              have ht1 := HO9.out.e.take _ hk2'
              rw [HKT.out] at ht1
              have HS1 := Lib.hid (Same_any ht1 (HV9.out.e.take _ hk1'))
              clear ht1
              go_region_held3 (fun V => V.cell? ⟨w.heap.size, 2, none⟩ = some (.slice a es.length c) ∧ V.cell? ⟨w4.heap.size, 2, none⟩ = some (.slice a4 L.length c4) ∧ V.cell? ⟨w8.heap.size, 2, none⟩ = some (.slice a8 L.length c8)) (go_keep)
              (first
                | (go_at_call 20; (with_reducible refine HS1.out.mono ?_); rintro e20 w20 ⟨rfl, hb20⟩; have HV20 := Lib.hid (HV9.out.later hb20); have HO20 := Lib.hid (HO9.out.later hb20); have HA20 := Lib.hid (HA9.out.later hb20); have p2 := HV20.out.d2; have s2 := HO20.out.d2; have t2 := HA20.out.d2; have HS2 := Lib.hid (Same_any HA20.out.e HO20.out.e); clear hb20)
                | (go_at_call 20; (with_reducible refine HS2.out.mono ?_); rintro e21 w21 ⟨rfl, hb21⟩; have HV21 := Lib.hid (HV20.out.later hb21); have HO21 := Lib.hid (HO20.out.later hb21); have HA21 := Lib.hid (HA20.out.later hb21); have p2' := HV21.out.d2; have s2' := HO21.out.d2; have t2' := HA21.out.d2; have HW21 := Lib.hid (awake_any w21); clear hb21)
                | (go_at_call 12; (with_reducible refine HW21.out.mono ?_); rintro e22 w22 ⟨rfl, hb22⟩; have HV22 := Lib.hid (HV21.out.later hb22); have HO22 := Lib.hid (HO21.out.later hb22); have HA22 := Lib.hid (HA21.out.later hb22); have p3 := HV22.out.d2; have s3 := HO22.out.d2; have t3 := HA22.out.d2; clear hb22))
              go_wp2_with fail
              go_ret
              exact ⟨rfl, HV22.out.b⟩
            · have hke : K = es.length := HK0.out (by omega)
              subst hke
              go_wp2_with fail
              go_fit HCC.out
              rintro e8 w8 ⟨v8, f8, rfl, hv8, hf8, hb⟩
              obtain ⟨a8, c8, rfl, _, _⟩ := hv8.ein.slice
              obtain ⟨a9, c9, rfl, _, _⟩ := hf8.ein.slice
              have HV9 := Lib.hid (hV.out.later hb)
              have HA8 := Lib.hid (Kv.new (w0 := w) (i := i) (t := t) hv8.ein HV9.out.b 24)
              have hal := lay_alloc w8 (.cells #[.int .i64 i, .int .i64 t, .slice a8 L.length c8] 24)
              have HV8 := Lib.hid (HV9.out.later hal)
              have HO8 := Lib.hid ((hO.out.later hb).later hal)
              clear hb hal hv8 hf8 HV9 hV hO hM HCC q0 q1 q2 d0 d1 d2
              go_wp2_with fail
              generalize w8.alloc _ = W8 at *
              have d0 := HV8.out.d0
              have d1 := HV8.out.d1
              have d2 := HV8.out.d2
              have q0 := HO8.out.d0
              have q1 := HO8.out.d1
              have q2 := HO8.out.d2
              have r0 := HA8.out.d0
              have r1 := HA8.out.d1
              have r2 := HA8.out.d2
              have HV9 := Lib.hid HV8.out.drew
              have HO9 := Lib.hid HO8.out.drew
              have HA9 := Lib.hid HA8.out.drew
              have ht1 := HO9.out.e.take _ hk2'
              rw [HKT.out] at ht1
              have HS1 := Lib.hid (Same_any ht1 (HV9.out.e.take _ hk1'))
              clear ht1
              go_region_held3 (fun V => V.cell? ⟨w.heap.size, 2, none⟩ = some (.slice a es.length c) ∧ V.cell? ⟨w4.heap.size, 2, none⟩ = some (.slice a4 L.length c4) ∧ V.cell? ⟨w8.heap.size, 2, none⟩ = some (.slice a8 L.length c8)) (go_keep)
              (first
                | (go_at_call 20; (with_reducible refine HS1.out.mono ?_); rintro e20 w20 ⟨rfl, hb20⟩; have HV20 := Lib.hid (HV9.out.later hb20); have HO20 := Lib.hid (HO9.out.later hb20); have HA20 := Lib.hid (HA9.out.later hb20); have p2 := HV20.out.d2; have s2 := HO20.out.d2; have t2 := HA20.out.d2; have HS2 := Lib.hid (Same_any HA20.out.e HO20.out.e); clear hb20)
                | (go_at_call 20; (with_reducible refine HS2.out.mono ?_); rintro e21 w21 ⟨rfl, hb21⟩; have HV21 := Lib.hid (HV20.out.later hb21); have HO21 := Lib.hid (HO20.out.later hb21); have HA21 := Lib.hid (HA20.out.later hb21); have p2' := HV21.out.d2; have s2' := HO21.out.d2; have t2' := HA21.out.d2; have HW21 := Lib.hid (awake_any w21); clear hb21)
                | (go_at_call 12; (with_reducible refine HW21.out.mono ?_); rintro e22 w22 ⟨rfl, hb22⟩; have HV22 := Lib.hid (HV21.out.later hb22); have HO22 := Lib.hid (HO21.out.later hb22); have HA22 := Lib.hid (HA21.out.later hb22); have p3 := HV22.out.d2; have s3 := HO22.out.d2; have t3 := HA22.out.d2; clear hb22))
              go_wp2_with fail
              go_ret
              exact ⟨rfl, HV22.out.b⟩
end Go.Proofs.Ytdplohbbeknclaa
