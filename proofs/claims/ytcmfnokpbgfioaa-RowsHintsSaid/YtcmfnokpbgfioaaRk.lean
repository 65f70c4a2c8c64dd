/-
  The document's Hint, walked.
-/
import Derived.Test.YtcmfnokpbgfioaaRj
namespace Go.Proofs.Ytcmfnokpbgfioaa
set_option linter.unusedVariables false
set_option linter.unusedSimpArgs false
open Go.RowKit

set_option maxRecDepth 100000 in
set_option maxHeartbeats 6400000 in
theorem rHint_any {w : World} {v : Value} {es : List Er} (h : EIn w v es) (i t x : Int) (hok : okL i t es = true) : Calls Try.prog 29 #[.agg #[.int .i64 i, .int .i64 t, v], .int .i64 x] w (IntP (hintL i t es x) w) := by
  obtain ⟨a, c, rfl, _, _⟩ := h.slice
  have hV := Kv.new (w0 := w) (i := i) (t := t) h (Below.refl _ _) 27
  have HV := Lib.hid hV
  have HL := Lib.hid (rLast_any hV.e i t)
  have HLS : Hid (∀ p q, LaS i t es es.length p q → p = i + es.length ∧ q = tm t es es.length) := fun p q hl => LaS_ok hok hl
  have HK := Lib.hid hok
  have HIR := Lib.hid (okL_iff.1 hok).1
  have HIE := Lib.hid (okL_end hok)
  have hnn : (0 : Int) ≤ (es.length : Int) := Int.natCast_nonneg _
  have ew0 : IntKind.i64.wrap (i + es.length + 1) = i + es.length + 1 := IntWalk.i64_in _ (by have := HIR.out; have := HIE.out; omega)
  have ew1 : IntKind.i64.wrap (i + 1) = i + 1 := IntWalk.i64_in _ (by have := HIR.out; omega)
  have d0 := hV.d0
  have d1 := hV.d1
  have d2 := hV.d2
  clear h hV hok
  go_enter Try.func29, Try.ntmps29
  go_wp2_with fail
  go_fit HL.out
  rintro e2 w2 ⟨p, q, hls, rfl, hb⟩
  obtain ⟨hp1, hp2⟩ := HLS.out p q hls
  have HV2 := Lib.hid (HV.out.later hb)
  subst hp1 hp2
  clear hls hb HV HL HLS d0 d1 d2
  generalize w.alloc _ = W at *
  have d0 := HV2.out.d0
  have d1 := HV2.out.d1
  have d2 := HV2.out.d2
  by_cases hx : i + es.length < x
  · have HR : Hid (hintL i t es x = i + es.length + 1) := by show _ = _; unfold hintL; rw [HK.out, if_pos rfl, if_pos hx]
    go_wp2_with fail
    go_ret
    exact ⟨by rw [HR.out]; first | done | rfl, HV2.out.b⟩
  · have HX : Hid (x ≤ i + es.length) := by show _ ≤ _; omega
    have hmx : ∀ ts ty W, (Builtin.max_ ts ty #[.int .i64 x, .int .i64 (i + 1)]).run Try.prog W = .ok (.int .i64 (max x (i + 1))) W := fun ts ty W => by
      rw [run_max_int2]; congr 2; split <;> omega
    have HRT : Hid (∀ (k : Nat) (y : Er), es[k]? = some y → (∀ (j : Nat) (z : Er), j < k → es[j]? = some z → smN (max x (i + 1)) ((atL i t es (max x (i + 1))).getD 0) z.i es es.length = true → max x (i + 1) < z.i) → smN (max x (i + 1)) ((atL i t es (max x (i + 1))).getD 0) y.i es es.length = true → y.i ≤ max x (i + 1) → hintL i t es x = y.i) := fun k y hy hn hs hle => hint_ret HK.out HX.out hy hn hs hle
    have HEN : Hid ((∀ (j : Nat) (z : Er), j < es.length → es[j]? = some z → smN (max x (i + 1)) ((atL i t es (max x (i + 1))).getD 0) z.i es es.length = true → max x (i + 1) < z.i) → hintL i t es x = max x (i + 1)) := fun hn => hint_end HK.out HX.out hn
    have HAT : Hid (∀ {w : World} {v : Value}, EIn w v es → Calls Try.prog 19 #[.agg #[.int .i64 i, .int .i64 t, v], .int .i64 (max x (i + 1))] w (OptP (atL i t es (max x (i + 1))) w)) := fun h => At_any h i t _ HK.out
    generalize max x (i + 1) = A at *
    generalize hO : atL i t es A = o at *
    clear hO
    go_wp2_with fail
    go_loopw [33] (fun j wr => ∃ k : Nat, j = .int .i64 k ∧ k ≤ es.length ∧ Hid (∀ (j : Nat) (z : Er), j < k → es[j]? = some z → smN A (o.getD 0) z.i es es.length = true → A < z.i) ∧ Hid (Kv w wr w.heap.size i t a c es)) (fun j _ => es.length - (intOf j).toNat)
    case atStart => exact ⟨0, rfl, Nat.zero_le _, (by show ∀ _ _, _; intro j z hj; omega), HV2⟩
    case round =>
      obtain ⟨k, rfl, hk, hN, hV⟩ := hrel
      clear hmx ew0 ew1 d0 d1 d2
      by_cases hlt : k < es.length
      · have he : es[k]? = some es[k] := List.getElem?_eq_getElem hlt
        generalize es[k] = y at *
        obtain ⟨g, off, pp, c', rfl, k0, k1, k2, _⟩ := hV.out.e.at he
        have hkk : (k : Int) < (es.length : Int) := by omega
        have hal := lay_alloc wr (.cells #[.int .i64 y.i, .int .i64 y.t, .slice pp y.d.length c'] 44)
        have HV3 := Lib.hid (hV.out.later hal)
        have HY := Lib.hid (DC.alloc wr [.int .i64 y.i, .int .i64 y.t, .slice pp y.d.length c'] 44)
        have HE := Lib.hid he
        have d2 := HV3.out.d2
        clear hal he
        go_wp2_with fail
        generalize wr.alloc _ = W3 at *
        clear k0 k1 k2 hV
        generalize wr.heap.size = Yb at *
        go_loopw [10, 40] (fun s j wr => ∃ q : Nat, s = .bool (smN A (o.getD 0) y.i es q) ∧ j = .int .i64 q ∧ q ≤ es.length ∧ Hid (Kv w wr w.heap.size i t (some ⟨g, off, none⟩) c es) ∧ Hid (DC wr Yb [.int .i64 y.i, .int .i64 y.t, .slice pp y.d.length c'])) (fun _ j _ => es.length - (intOf j).toNat)
        case atStart => exact ⟨0, rfl, rfl, Nat.zero_le _, HV3, HY⟩
        case round =>
          obtain ⟨q, rfl, rfl, hq, hU, hY⟩ := hrel
          by_cases hqt : q < es.length
          · have hz : es[q]? = some es[q] := List.getElem?_eq_getElem hqt
            generalize es[q] = z at *
            obtain ⟨g', off', qq, c2, hga, k0, k1, k2, _⟩ := hU.out.e.at hz
            cases hga
            have hqq : (q : Int) < (es.length : Int) := by omega
            have hal := lay_alloc wr (.cells #[.int .i64 z.i, .int .i64 z.t, .slice qq z.d.length c2] 44)
            have HU5 := Lib.hid (hU.out.later hal)
            have HY5 := Lib.hid (hY.out.below hal)
            have HZ5 := Lib.hid (DC.alloc wr [.int .i64 z.i, .int .i64 z.t, .slice qq z.d.length c2] 44)
            have HST := Lib.hid (smN_step (A := A) (T := o.getD 0) (ei := y.i) hz)
            have u0 := HU5.out.d0
            have u1 := HU5.out.d1
            have u2 := HU5.out.d2
            have HC5 := Lib.hid (HAT.out HU5.out.e)
            clear hal hz d2
            go_wp2_with fail
            generalize wr.alloc _ = W5 at *
            clear k0 k1 k2
            go_fit HC5.out
            rintro e6 w6 ⟨rfl, hb⟩
            have HU6 := Lib.hid (HU5.out.later hb)
            have HY6 := Lib.hid (HY5.out.below hb)
            have HZ6 := Lib.hid (HZ5.out.below hb)
            clear hb HC5 HU5 HY5 HZ5 u0 u1 u2 hU hY
            have y0 := HY6.out.cells 0 _ rfl
            have z0 := HZ6.out.cells 0 _ rfl
            have z1 := HZ6.out.cells 1 _ rfl
            generalize smN A (o.getD 0) y.i es q = b at *
            cases b with
            | false =>
              have HSn : Hid (smN A (o.getD 0) y.i es (q + 1) = false) := by show _ = _; rw [HST.out]; rfl
              clear HST
              go_wp2_with fail
              exact ⟨⟨q + 1, (by rw [HSn.out]), by go_num, hqt, HU6, HY6⟩, by show es.length - ((q : Int) + 1).toNat < es.length - (q : Int).toNat; omega⟩
            | true =>
              by_cases q1 : z.i < y.i
              · have HSn : Hid (smN A (o.getD 0) y.i es (q + 1) = true) := by show _ = _; rw [HST.out]; simp [smB, q1]
                clear HST
                go_wp2_with fail
                exact ⟨⟨q + 1, (by rw [HSn.out]), by go_num, hqt, HU6, HY6⟩, by show es.length - ((q : Int) + 1).toNat < es.length - (q : Int).toNat; omega⟩
              · by_cases q2 : A < z.i
                · have HSn : Hid (smN A (o.getD 0) y.i es (q + 1) = true) := by show _ = _; rw [HST.out]; simp [smB, q2]
                  clear HST
                  go_wp2_with fail
                  exact ⟨⟨q + 1, (by rw [HSn.out]), by go_num, hqt, HU6, HY6⟩, by show es.length - ((q : Int) + 1).toNat < es.length - (q : Int).toNat; omega⟩
                · by_cases q3 : z.t = o.getD 0
                  · have b3 : (z.t == o.getD 0) = true := by rw [beq_iff_eq]; exact q3
                    have HSn : Hid (smN A (o.getD 0) y.i es (q + 1) = true) := by show _ = _; rw [HST.out]; simp [smB, b3]
                    clear HST
                    go_wp2_with fail
                    exact ⟨⟨q + 1, (by rw [HSn.out]), by go_num, hqt, HU6, HY6⟩, by show es.length - ((q : Int) + 1).toNat < es.length - (q : Int).toNat; omega⟩
                  · have b3 : (z.t == o.getD 0) = false := by rw [beq_eq_false_iff_ne]; exact q3
                    have q1b := decide_eq_false q1
                    have q2b := decide_eq_false q2
                    have HSn : Hid (smN A (o.getD 0) y.i es (q + 1) = false) := by show _ = _; rw [HST.out]; rw [smB, b3, q1b, q2b]; rfl
                    clear HST
                    go_wp2_with fail
                    exact ⟨⟨q + 1, (by rw [HSn.out]), by go_num, hqt, HU6, HY6⟩, by show es.length - ((q : Int) + 1).toNat < es.length - (q : Int).toNat; omega⟩
          · obtain rfl : q = es.length := by omega
            have y0 := hY.out.cells 0 _ rfl
            cases hs : smN A (o.getD 0) y.i es es.length with
            | true =>
              by_cases hle : y.i ≤ A
              · have HR := Lib.hid (HRT.out k y HE.out hN.out hs hle)
                clear hs
                go_wp2_with fail
                go_ret
                exact ⟨by rw [HR.out]; first | done | rfl, hU.out.b⟩
              · have HN2 : Hid (∀ (j : Nat) (z : Er), j < k + 1 → es[j]? = some z → smN A (o.getD 0) z.i es es.length = true → A < z.i) := fun j z hj hz hsz => by
                  by_cases e : j < k
                  · exact hN.out j z e hz hsz
                  · obtain rfl : j = k := by omega
                    rw [HE.out] at hz; cases hz; omega
                clear hs
                go_wp2_with fail
                exact ⟨⟨k + 1, by go_num, hlt, HN2, hU⟩, by show es.length - ((k : Int) + 1).toNat < es.length - (k : Int).toNat; omega⟩
            | false =>
              have HN2 : Hid (∀ (j : Nat) (z : Er), j < k + 1 → es[j]? = some z → smN A (o.getD 0) z.i es es.length = true → A < z.i) := fun j z hj hz hsz => by
                by_cases e : j < k
                · exact hN.out j z e hz hsz
                · obtain rfl : j = k := by omega
                  rw [HE.out] at hz; cases hz; rw [hs] at hsz; cases hsz
              clear hs
              go_wp2_with fail
              exact ⟨⟨k + 1, by go_num, hlt, HN2, hU⟩, by show es.length - ((k : Int) + 1).toNat < es.length - (k : Int).toNat; omega⟩
      · obtain rfl : k = es.length := by omega
        have HR := Lib.hid (HEN.out hN.out)
        go_wp2_with fail
        go_ret
        exact ⟨by rw [HR.out]; first | done | rfl, hV.out.b⟩
end Go.Proofs.Ytcmfnokpbgfioaa
