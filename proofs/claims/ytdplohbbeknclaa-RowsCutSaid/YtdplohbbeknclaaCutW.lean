/-
  RowsCut walked: what is cut may be, has the terms that it had, and ends where it ended. (Written by genlawr.py.)
-/
import Derived.Test.YtdplohbbeknclaaAw
import Derived.Test.YtdplohbbeknclaaE5
namespace Go.Proofs.Ytdplohbbeknclaa
set_option linter.unusedVariables false
set_option linter.unusedSimpArgs false
open Go.RowKit
theorem Try.field_log (x y : Int) (a : Option Addr) (n c : Nat) (W : World) : (Instr.field 24 (.agg #[.int .i64 x, .int .i64 y, .slice a n c]) 2).run Try.prog W = .ok (.slice a n c) W := by kernel_rfl
theorem cut_ok {i t : Int} {es : List Er} {k : Nat} (h : okL i t es = true) (hk : k ≤ es.length) : okL (i + k) (tm t es k) (es.drop k) = true := by
  obtain ⟨h1, h2, hg⟩ := okL_iff.1 h
  have he := okL_end h
  have hb := tm_bound h k
  exact okL_iff.2 ⟨by omega, hb, (goR_split k hk hg).2⟩
theorem tm_drop (t : Int) (es : List Er) (k n : Nat) (h : k + n ≤ es.length) : tm (tm t es k) (es.drop k) n = tm t es (k + n) := by
  match n with
  | 0 => rfl
  | n + 1 =>
    have hx : es[k + n]? = some es[k + n] := List.getElem?_eq_getElem (by omega)
    have hy : (es.drop k)[n]? = some es[k + n] := by rw [List.getElem?_drop]; exact hx
    rw [tm_at hy]
    exact (tm_at hx).symm
theorem cut_last {i t : Int} {es : List Er} {k : Nat} (h : okL i t es = true) (hk : k ≤ es.length) : lastL (i + k) (tm t es k) (es.drop k) = (i + es.length, tm t es es.length) := by
  unfold lastL
  rw [cut_ok h hk, if_pos rfl, List.length_drop, tm_drop t es k (es.length - k) (by omega), show k + (es.length - k) = es.length by omega]
  congr 1
  omega
theorem atL_some {i t x y : Int} {es : List Er} (h : atL i t es x = some y) : ∃ k : Nat, x = i + k ∧ k ≤ es.length ∧ y = tm t es k := by
  unfold atL at h
  split at h
  · rename_i hx
    refine ⟨(x - i).toNat, by omega, by omega, ?_⟩
    cases h; rfl
  · cases h
theorem termO_row {i t : Int} {es : List Er} {k n : Nat} {e : Er} (h : okL i t es = true) (he : (es.drop k)[n]? = some e) : termO i t es e.i = some e.t := by
  unfold termO
  rw [h, if_pos rfl]
  rw [List.getElem?_drop] at he
  exact atL_row (okL_iff.1 h).2.2 he

set_option maxRecDepth 100000 in
set_option maxHeartbeats 12800000 in
theorem Cut_law {w : World} {v : Value} {es : List Er} (h : EIn w v es) (i t x : Int) : Calls Try.prog 10 #[.agg #[.int .i64 i, .int .i64 t, v], .int .i64 x] w (BoolP true w) := by
  obtain ⟨a, c, rfl, _, _⟩ := h.slice
  have hV := Kv.new (w0 := w) (i := i) (t := t) h (Below.refl _ _) 24
  have hal := lay_alloc (w.alloc (.cells #[.int .i64 i, .int .i64 t, .slice a es.length c] 24)) (.cells #[.slice a es.length c] 22)
  have hs : (w.alloc (.cells #[.int .i64 i, .int .i64 t, .slice a es.length c] 24)).heap.size = w.heap.size + 1 := by simp
  have hdc := DC.alloc (w.alloc (.cells #[.int .i64 i, .int .i64 t, .slice a es.length c] 24)) [.slice a es.length c] 22
  rw [hs] at hdc
  have hls : LsIn ((w.alloc (.cells #[.int .i64 i, .int .i64 t, .slice a es.length c] 24)).alloc (.cells #[.slice a es.length c] 22)) (w.heap.size + 1) [es] := fun k l hk => by
    match k, hk with
    | 0, hk => simp only [List.getElem?_cons_zero, Option.some.injEq] at hk; subst hk; exact ⟨_, hdc.cells 0 _ rfl, (hV.later hal).e⟩
    | k + 1, hk => simp at hk
  have HL := Lib.hid (light_one hls)
  have HV := Lib.hid (hV.later hal)
  clear hV hal hs hdc hls h
  go_enter Try.func10, Try.ntmps10
  go_wp2_with fail
  go_fit HL.out
  rintro e0 w1 ⟨b, rfl, hbl, rfl⟩
  generalize (w.alloc _).alloc _ = w1 at *
  clear HL
  cases b with
  | false =>
    go_wp2_with fail
    go_fit (awake_any w1)
    rintro ez wz ⟨rfl, hbz⟩
    have HBz := Lib.hid (HV.out.b.trans (hbz.mono HV.out.b.size))
    clear hbz
    go_wp2_with fail
    go_ret
    exact ⟨rfl, HBz.out⟩
  | true =>
    have HLn : Hid (es.length ≤ 200) := hbl rfl es (by simp)
    clear hbl
    have d0 := HV.out.d0
    have d1 := HV.out.d1
    have d2 := HV.out.d2
    have hck := Check_any HV.out.e i t
    cases hok : okL i t es with
    | false =>
      rw [ckL_bad hok] at hck
      have HCK := Lib.hid hck
      clear hck hok
      go_wp2_with fail
      go_fit HCK.out
      rintro e2 w2 ⟨rfl, hb⟩
      have HV2 := Lib.hid (HV.out.later hb)
      clear hb HCK HV d0 d1 d2
      go_wp2_with fail
      go_fit (awake_any w2)
      rintro ez wz ⟨rfl, hbz⟩
      have HBz := Lib.hid (HV2.out.b.trans (hbz.mono HV2.out.b.size))
      clear hbz
      go_wp2_with fail
      go_ret
      exact ⟨rfl, HBz.out⟩
    | true =>
      rw [ckL_ok hok] at hck
      have HCK := Lib.hid hck
      have HOK := Lib.hid hok
      have hi : 0 ≤ i ∧ i + es.length ≤ 1099511627776 := ⟨(okL_iff.1 hok).1.1, okL_end hok⟩
      have HI := Lib.hid hi
      clear hck hok
      go_wp2_with fail
      go_fit HCK.out
      rintro e2 w2 ⟨rfl, hb⟩
      have HV2 := Lib.hid (HV.out.later hb)
      clear hb HCK HV d0 d1 d2
      have hfl := Try.field_log
      have HTO : Hid (termO i t es x = atL i t es x) := by show _ = _; unfold termO; rw [HOK.out]; rfl
      have d0 := HV2.out.d0
      have d1 := HV2.out.d1
      have d2 := HV2.out.d2
      have hcc := Term_any HV2.out.e i t x
      unfold OptP at hcc
      rw [HTO.out] at hcc
      cases hat : atL i t es x with
      | none =>
        rw [hat] at hcc
        have HCC := Lib.hid hcc
        have HCu : Hid (cutL i t es x 0 = []) := by show _ = _; unfold cutL; rw [hat]; simp
        clear hcc hat
        go_wp2_with fail
        go_fit HCC.out
        rintro e3 w3 ⟨rfl, hb⟩
        have HV3 := Lib.hid (HV2.out.later hb)
        clear hb HV2 HCC d0 d1 d2
        have d0 := HV3.out.d0
        have d1 := HV3.out.d1
        have d2 := HV3.out.d2
        have hcc := Cut_any HV3.out.e i t x 0 (by have := HLn.out; omega)
        rw [HCu.out] at hcc
        have HCC := Lib.hid hcc
        clear hcc
        go_wp2_with fail
        go_fit HCC.out
        rintro e4 w4 ⟨v4, rfl, hv4, hb⟩
        obtain ⟨a4, c4, rfl, _, _⟩ := hv4.ein.slice
        clear hv4
        have HV4 := Lib.hid (HV3.out.later hb)
        clear hb HV3 HCC d0 d1 d2
        go_wp2_with fail
        go_fit (awake_any w4)
        rintro ez wz ⟨rfl, hbz⟩
        have HBz := Lib.hid (HV4.out.b.trans (hbz.mono HV4.out.b.size))
        clear hbz
        go_wp2_with fail
        go_ret
        exact ⟨rfl, HBz.out⟩
      | some y =>
        rw [hat] at hcc
        have HCC := Lib.hid hcc
        obtain ⟨k, hxk, hkl, hy⟩ := atL_some hat
        subst hxk hy
        have HCu : Hid (cutL i t es (i + k) (tm t es k) = es.drop k) := by show _ = _; unfold cutL; rw [HOK.out, hat, show (i + (k : Int) - i).toNat = k by omega]; simp
        have HCu2 : Hid (cutL i t es (i + k) (tm t es k + 1) = []) := by
          show _ = _
          unfold cutL
          rw [HOK.out, hat, show (some (tm t es k) == some (tm t es k + 1)) = false from by rw [beq_eq_false_iff_ne]; intro h; injection h with h; omega]
          rfl
        have HCK := Lib.hid (cut_ok HOK.out hkl)
        have HCL := Lib.hid (cut_last HOK.out hkl)
        have HTB := Lib.hid (tm_bound HOK.out k)
        have HRW : Hid (∀ (n : Nat) (e : Er), (es.drop k)[n]? = some e → termO i t es e.i = some e.t) := fun n e he => termO_row HOK.out he
        clear hcc hat
        go_wp2_with fail
        go_fit HCC.out
        rintro e3 w3 ⟨rfl, hb⟩
        have HV3 := Lib.hid (HV2.out.later hb)
        clear hb HV2 HCC d0 d1 d2
        have d0 := HV3.out.d0
        have d1 := HV3.out.d1
        have d2 := HV3.out.d2
        have hcc := Cut_any HV3.out.e i t (i + k) (tm t es k) (by have := HLn.out; omega)
        rw [HCu.out] at hcc
        have HCC := Lib.hid hcc
        clear hcc
        go_wp2_with fail
        go_fit HCC.out
        rintro e4 w4 ⟨v4, rfl, hv4, hb⟩
        obtain ⟨a4, c4, rfl, _, _⟩ := hv4.ein.slice
        have HV4' := Lib.hid (HV3.out.later hb)
        have HC4 := Lib.hid (Kv.new (w0 := w) (i := i + k) (t := tm t es k) hv4.ein HV4'.out.b 24)
        have HV4 := Lib.hid (HV4'.out.later (lay_alloc w4 (.cells #[.int .i64 (i + k), .int .i64 (tm t es k), .slice a4 (es.drop k).length c4] 24)))
        clear hb hv4 HV4' HV3 HCC d0 d1 d2
        have HLa : Hid (lastL i t es = (i + es.length, tm t es es.length)) := by show _ = _; unfold lastL; rw [HOK.out]; rfl
        have d0 := HV4.out.d0
        have d1 := HV4.out.d1
        have d2 := HV4.out.d2
        have hcc := Last_any HV4.out.e i t
        rw [HLa.out] at hcc
        have HCC := Lib.hid hcc
        clear hcc
        have HDL : Hid ((es.drop k).length = es.length - k) := by show _ = _; exact List.length_drop
        generalize es.drop k = fs at *
        go_wp2_with fail
        generalize w4.alloc _ = W at *
        go_fit HCC.out
        rintro e5 w5 ⟨rfl, hb⟩
        have HV5 := Lib.hid (HV4.out.later hb)
        have HC5 := Lib.hid (HC4.out.later hb)
        clear hb HV4 HC4 HCC d0 d1 d2
        have hcc := Last_any HC5.out.e (i + k) (tm t es k)
        rw [HCL.out] at hcc
        have HCC := Lib.hid hcc
        clear hcc
        have q0 := HC5.out.d0
        have q1 := HC5.out.d1
        have q2 := HC5.out.d2
        go_wp2_with fail
        go_fit HCC.out
        rintro e6 w6 ⟨rfl, hb⟩
        have HV6 := Lib.hid (HV5.out.later hb)
        have HC6 := Lib.hid (HC5.out.later hb)
        clear hb HV5 HC5 HCC q0 q1 q2
        have q0 := HC6.out.d0
        have q1 := HC6.out.d1
        have q2 := HC6.out.d2
        go_wp2_with fail
        clear q0 q1 q2
        go_loopw [61] (fun j wr => ∃ n : Nat, j = .int .i64 n ∧ n ≤ fs.length ∧ Hid (Kv w wr w.heap.size i t a c es) ∧ Hid (Kv w wr w4.heap.size (i + k) (tm t es k) a4 c4 fs)) (fun j _ => fs.length - (intOf j).toNat)
        case atStart => exact ⟨0, rfl, Nat.zero_le _, HV6, HC6⟩
        case round =>
          obtain ⟨n, rfl, hn, hV, hC⟩ := hrel
          by_cases hlt : n < fs.length
          · have he : fs[n]? = some fs[n] := List.getElem?_eq_getElem hlt
            generalize fs[n] = y at *
            have HY := Lib.hid (HRW.out n y he)
            obtain ⟨g, off, p, c5, ha4, k0, k1, k2, _⟩ := hC.out.e.at he
            subst ha4
            have HV1 := Lib.hid hV.out.drew
            have HC1 := Lib.hid hC.out.drew
            have hcc := Term_any HV1.out.e i t y.i
            unfold OptP at hcc
            rw [HY.out] at hcc
            have HCC := Lib.hid hcc
            have hnn : (n : Int) < (fs.length : Int) := by omega
            clear hcc k2
            have d0 := hV.out.d0
            have d1 := hV.out.d1
            have d2 := hV.out.d2
            have q0 := hC.out.d0
            have q1 := hC.out.d1
            have q2 := hC.out.d2
            go_wp2_with fail
            go_region_held3 (fun V => V.cell? ⟨w.heap.size, 0, none⟩ = some (.int .i64 i) ∧ V.cell? ⟨w.heap.size, 1, none⟩ = some (.int .i64 t) ∧ V.cell? ⟨w.heap.size, 2, none⟩ = some (.slice a es.length c) ∧ V.cell? ⟨w4.heap.size, 0, none⟩ = some (.int .i64 (i + k)) ∧ V.cell? ⟨w4.heap.size, 1, none⟩ = some (.int .i64 (tm t es k)) ∧ V.cell? ⟨w4.heap.size, 2, none⟩ = some (.slice (some ⟨g, off, none⟩) fs.length c4) ∧ V.cell? ⟨g, off + n * 3, none⟩ = some (.int .i64 y.i)) (go_keep)
            (first
              | (go_at_call 17; (with_reducible refine HCC.out.mono ?_); rintro e7 w7 ⟨rfl, hb7⟩; have HV7 := Lib.hid (HV1.out.later hb7); have HC7 := Lib.hid (HC1.out.later hb7); have p0 := HV7.out.d0; have p1 := HV7.out.d1; have p2 := HV7.out.d2; have r0 := HC7.out.d0; have r1 := HC7.out.d1; have r2 := HC7.out.d2; have m0 := lay_later ((lay_drew (Below.refl _ _)).trans hb7) k0; have m1 := lay_later ((lay_drew (Below.refl _ _)).trans hb7) k1; clear hb7))
            clear d0 d1 d2 q0 q1 q2 k0 k1 HV1 HC1 HCC hV hC
            go_wp2_with fail
            exact ⟨⟨n + 1, by go_num, hlt, HV7, HC7⟩, by show fs.length - ((n : Int) + 1).toNat < fs.length - (n : Int).toNat; omega⟩
          · obtain rfl : n = fs.length := by omega
            have hcc := Check_any hC.out.e (i + k) (tm t es k)
            rw [ckL_ok HCK.out] at hcc
            have HCC := Lib.hid hcc
            clear hcc
            have q0 := hC.out.d0
            have q1 := hC.out.d1
            have q2 := hC.out.d2
            go_wp2_with fail
            go_fit HCC.out
            rintro e8 w8 ⟨rfl, hb⟩
            have HV8 := Lib.hid (hV.out.later hb)
            clear hb hV hC HCC q0 q1 q2
            have e1 : IntKind.i64.wrap (tm t es k + 1) = tm t es k + 1 := IntWalk.i64_in _ (by have := HTB.out; omega)
            have hcc := Cut_any HV8.out.e i t (i + k) (tm t es k + 1) (by have := HLn.out; omega)
            rw [HCu2.out] at hcc
            have HCC := Lib.hid hcc
            clear hcc
            have d0 := HV8.out.d0
            have d1 := HV8.out.d1
            have d2 := HV8.out.d2
            go_wp2_with fail
            go_fit HCC.out
            rintro e9 w9 ⟨v9, rfl, hv9, hb⟩
            obtain ⟨a9, c9, rfl, _, _⟩ := hv9.ein.slice
            clear hv9
            have HV9 := Lib.hid (HV8.out.later hb)
            clear hb HV8 HCC d0 d1 d2
            go_wp2_with fail
            go_fit (awake_any w9)
            rintro ez wz ⟨rfl, hbz⟩
            have HBz := Lib.hid (HV9.out.b.trans (hbz.mono HV9.out.b.size))
            clear hbz
            go_wp2_with fail
            go_ret
            exact ⟨rfl, HBz.out⟩
end Go.Proofs.Ytdplohbbeknclaa
