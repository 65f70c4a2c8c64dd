/-
  RowsSound walked: a hint is from behind the base to behind the end. (Written by genlawr.py.)
-/
import Derived.Test.YtdplohbbeknclaaAw
namespace Go.Proofs.Ytdplohbbeknclaa
set_option linter.unusedVariables false
set_option linter.unusedSimpArgs false
open Go.RowKit
theorem dnH_bounds (i t : Int) (es : List Er) (T : Int) : ∀ n : Nat, i + 1 ≤ dnH i t es T n ∧ dnH i t es T n ≤ i + 1 + n
  | 0 => by simp [dnH]
  | n + 1 => by
    have := dnH_bounds i t es T n
    have e : ((n + 1 : Nat) : Int) = n + 1 := by omega
    simp only [dnH, e]
    split <;> omega
theorem hint_sound {i t x : Int} {es : List Er} (h : okL i t es = true) : i < hintL i t es x ∧ hintL i t es x ≤ i + es.length + 1 ∧ (x ≤ i + es.length ∨ hintL i t es x = i + es.length + 1) := by
  have hd : hintL i t es x = if i + es.length < x then i + es.length + 1 else dnH i t es ((atL i t es (max x (i + 1))).getD 0) (max x (i + 1) - i - 1).toNat := by unfold hintL; rw [h]; rfl
  rw [hd]
  split
  · omega
  · have := dnH_bounds i t es ((atL i t es (max x (i + 1))).getD 0) (max x (i + 1) - i - 1).toNat
    omega

set_option maxRecDepth 100000 in
set_option maxHeartbeats 6400000 in
theorem Sound_law {w : World} {v : Value} {es : List Er} (h : EIn w v es) (i t x : Int) : Calls Try.prog 8 #[.agg #[.int .i64 i, .int .i64 t, v], .int .i64 x] w (BoolP true w) := by
  obtain ⟨a, c, rfl, _, _⟩ := h.slice
  have hV := Kv.new (w0 := w) (i := i) (t := t) h (Below.refl _ _) 24
  have hal := lay_alloc (w.alloc (.cells #[.int .i64 i, .int .i64 t, .slice a es.length c] 24)) (.cells #[.slice a es.length c] 22)
  have hs : (w.alloc (.cells #[.int .i64 i, .int .i64 t, .slice a es.length c] 24)).heap.size = w.heap.size + 1 := by simp
  have hdc := DC.alloc (w.alloc (.cells #[.int .i64 i, .int .i64 t, .slice a es.length c] 24)) [.slice a es.length c] 22
  rw [hs] at hdc
  have hls : LsIn ((w.alloc (.cells #[.int .i64 i, .int .i64 t, .slice a es.length c] 24)).alloc (.cells #[.slice a es.length c] 22)) (w.heap.size + 1) [es] := fun k l hk => by
    match k, hk with
    | 0, hk => simp only [List.getElem?_cons_zero, Option.some.injEq] at hk; subst hk; exact ⟨_, hdc.cells 0 _ rfl, (hV.later hal).e⟩
    | k + 1, hk => simp at hk
  have HL := Lib.hid (light_one hls)
  have HV := Lib.hid (hV.later hal)
  clear hV hal hs hdc hls h
  go_enter Try.func8, Try.ntmps8
  go_wp2_with fail
  go_fit HL.out
  rintro e0 w1 ⟨b, rfl, hbl, rfl⟩
  generalize (w.alloc _).alloc _ = w1 at *
  clear HL
  cases b with
  | false =>
    go_wp2_with fail
    go_fit (awake_any w1)
    rintro ez wz ⟨rfl, hbz⟩
    have HBz := Lib.hid (HV.out.b.trans (hbz.mono HV.out.b.size))
    clear hbz
    go_wp2_with fail
    go_ret
    exact ⟨rfl, HBz.out⟩
  | true =>
    have HLn : Hid (es.length ≤ 200) := hbl rfl es (by simp)
    clear hbl
    have d0 := HV.out.d0
    have d1 := HV.out.d1
    have d2 := HV.out.d2
    have hck := Check_any HV.out.e i t
    cases hok : okL i t es with
    | false =>
      rw [ckL_bad hok] at hck
      have HCK := Lib.hid hck
      clear hck hok
      go_wp2_with fail
      go_fit HCK.out
      rintro e2 w2 ⟨rfl, hb⟩
      have HV2 := Lib.hid (HV.out.later hb)
      clear hb HCK HV d0 d1 d2
      go_wp2_with fail
      go_fit (awake_any w2)
      rintro ez wz ⟨rfl, hbz⟩
      have HBz := Lib.hid (HV2.out.b.trans (hbz.mono HV2.out.b.size))
      clear hbz
      go_wp2_with fail
      go_ret
      exact ⟨rfl, HBz.out⟩
    | true =>
      rw [ckL_ok hok] at hck
      have HCK := Lib.hid hck
      have HOK := Lib.hid hok
      have hi : 0 ≤ i ∧ i + es.length ≤ 1099511627776 := ⟨(okL_iff.1 hok).1.1, okL_end hok⟩
      have HI := Lib.hid hi
      clear hck hok
      go_wp2_with fail
      go_fit HCK.out
      rintro e2 w2 ⟨rfl, hb⟩
      have HV2 := Lib.hid (HV.out.later hb)
      clear hb HCK HV d0 d1 d2
      have HLa : Hid (lastL i t es = (i + es.length, tm t es es.length)) := by show _ = _; unfold lastL; rw [HOK.out]; rfl
      have d0 := HV2.out.d0
      have d1 := HV2.out.d1
      have d2 := HV2.out.d2
      have hcc := Last_any HV2.out.e i t
      rw [HLa.out] at hcc
      have HCC := Lib.hid hcc
      clear hcc
      go_wp2_with fail
      go_fit HCC.out
      rintro e3 w3 ⟨rfl, hb⟩
      have HV3 := Lib.hid (HV2.out.later hb)
      clear hb HV2 HCC d0 d1 d2
      have d0 := HV3.out.d0
      have d1 := HV3.out.d1
      have d2 := HV3.out.d2
      have HS := Lib.hid (hint_sound (x := x) HOK.out)
      have hcc := Hint_any HV3.out.e i t x
      have HCC := Lib.hid hcc
      clear hcc
      go_wp2_with fail
      go_fit HCC.out
      rintro e4 w4 ⟨rfl, hb⟩
      have HV4 := Lib.hid (HV3.out.later hb)
      clear hb HV3 HCC d0 d1 d2
      have d0 := HV4.out.d0
      have d1 := HV4.out.d1
      have d2 := HV4.out.d2
      generalize hintL i t es x = H at *
      have g1 := HS.out.1
      have g2 := HS.out.2.1
      have e1 : IntKind.i64.wrap (i + es.length + 1) = i + es.length + 1 := IntWalk.i64_in _ (by have := HI.out; omega)
      by_cases hx : x ≤ i + es.length
      · clear HLa
        go_wp2_with fail
        go_fit (awake_any w4)
        rintro ez wz ⟨rfl, hbz⟩
        have HBz := Lib.hid (HV4.out.b.trans (hbz.mono HV4.out.b.size))
        clear hbz
        go_wp2_with fail
        go_ret
        exact ⟨rfl, HBz.out⟩
      · have g3 : H = i + es.length + 1 := HS.out.2.2.resolve_left hx
        have g4 : (H == i + es.length + 1) = true := by rw [beq_iff_eq]; exact g3
        clear HLa
        go_wp2_with fail
        go_fit (awake_any w4)
        rintro ez wz ⟨rfl, hbz⟩
        have HBz := Lib.hid (HV4.out.b.trans (hbz.mono HV4.out.b.size))
        clear hbz
        go_wp2_with fail
        go_ret
        exact ⟨rfl, HBz.out⟩
end Go.Proofs.Ytdplohbbeknclaa
