/-
  The document's At and Fresh, of a log that may be.
-/
import Derived.Test.YtcmfnokpbgfioaaRc
namespace Go.Proofs.Ytcmfnokpbgfioaa
set_option linter.unusedVariables false
set_option linter.unusedSimpArgs false
open Go.RowKit

theorem atL_none {i t x : Int} {es : List Er} (h : okL i t es = true) (hx : x ≠ i) (hn : ∀ (j : Nat) (e : Er), es[j]? = some e → e.i ≠ x) : atL i t es x = none := by
  unfold atL
  refine if_neg fun hr => ?_
  obtain ⟨k, hk⟩ : ∃ k : Nat, x = i + k + 1 := ⟨(x - i - 1).toNat, by omega⟩
  have hg : es[k]? = some (es[k]'(by omega)) := List.getElem?_eq_getElem (by omega)
  have := (goR_get (okL_iff.1 h).2.2 hg).1
  exact hn k _ hg (by omega)
set_option maxRecDepth 100000 in
set_option maxHeartbeats 6400000 in
theorem At_any {w : World} {v : Value} {es : List Er} (h : EIn w v es) (i t x : Int) (hok : okL i t es = true) : Calls Try.prog 19 #[.agg #[.int .i64 i, .int .i64 t, v], .int .i64 x] w (OptP (atL i t es x) w) := by
  obtain ⟨a, c, rfl, _, _⟩ := h.slice
  have hV := Kv.new (w0 := w) (i := i) (t := t) h (Below.refl _ _) 27
  have HV := Lib.hid hV
  have d0 := hV.d0
  have d1 := hV.d1
  have d2 := hV.d2
  have HO := Lib.hid hok
  clear h hV hok
  by_cases h0 : x = i
  · have HA : Hid (atL i t es x = some t) := by
      show _ = _
      unfold atL
      rw [if_pos (by omega), h0, Int.sub_self]; rfl
    have b0 : (x == i) = true := by rw [beq_iff_eq]; exact h0
    go_enter Try.func19, Try.ntmps19
    go_wp2_with fail
    go_ret2
    exact ⟨by rw [HA.out]; first | done | rfl, HV.out.b⟩
  · have b0 : (x == i) = false := by rw [beq_eq_false_iff_ne]; exact h0
    have HX0 := Lib.hid h0
    clear h0
    go_enter Try.func19, Try.ntmps19
    go_wp2_with fail
    generalize w.alloc _ = W at *
    clear d0 d1 d2
    go_loopw [17] (fun j wr => ∃ k : Nat, j = .int .i64 k ∧ k ≤ es.length ∧ Hid (∀ (j : Nat) (e : Er), j < k → es[j]? = some e → e.i ≠ x) ∧ Hid (Kv w wr w.heap.size i t a c es)) (fun j _ => es.length - (intOf j).toNat)
    case atStart => exact ⟨0, rfl, Nat.zero_le _, (by intro j e hj; omega), HV⟩
    case round =>
      obtain ⟨k, rfl, hk, hN, hV⟩ := hrel
      by_cases hlt : k < es.length
      · have he : es[k]? = some es[k] := List.getElem?_eq_getElem hlt
        generalize es[k] = y at *
        obtain ⟨g, off, pp, c', rfl, k0, k1, k2, _⟩ := hV.out.e.at he
        have hkk : (k : Int) < (es.length : Int) := by omega
        have hal := lay_alloc wr (.cells #[.int .i64 y.i, .int .i64 y.t, .slice pp y.d.length c'] 44)
        have HV2 := Lib.hid (hV.out.later hal)
        by_cases hy : y.i = x
        · have HA : Hid (atL i t es x = some y.t) := by
            show _ = _
            rw [← hy]; exact atL_row (okL_iff.1 HO.out).2.2 he
          have b1 : (y.i == x) = true := by rw [beq_iff_eq]; exact hy
          clear hal he hy
          go_wp2_with fail
          go_ret2
          exact ⟨by rw [HA.out]; first | done | rfl, HV2.out.b⟩
        · have b1 : (y.i == x) = false := by rw [beq_eq_false_iff_ne]; exact hy
          have HN2 : Hid (∀ (j : Nat) (e : Er), j < k + 1 → es[j]? = some e → e.i ≠ x) := fun j e hj hje => by
            by_cases e1 : j < k
            · exact hN.out j e e1 hje
            · obtain rfl : j = k := by omega
              rw [he] at hje; cases hje; exact hy
          clear hal he hy
          go_wp2_with fail
          exact ⟨⟨k + 1, by go_num, hlt, HN2, HV2⟩, by show es.length - ((k : Int) + 1).toNat < es.length - (k : Int).toNat; omega⟩
      · obtain rfl : k = es.length := by omega
        have HA : Hid (atL i t es x = none) := atL_none HO.out HX0.out (fun j e hj => hN.out j e (List.getElem?_eq_some_iff.1 hj).1 hj)
        go_wp2_with fail
        go_ret2
        exact ⟨by rw [HA.out]; first | done | rfl, hV.out.b⟩

set_option maxRecDepth 100000 in
set_option maxHeartbeats 3200000 in
theorem rFresh_any {w : World} {v : Value} {es : List Er} (h : EIn w v es) (i t x u : Int) (hok : okL i t es = true) : Calls Try.prog 30 #[.agg #[.int .i64 i, .int .i64 t, v], .int .i64 x, .int .i64 u] w (BoolP (freshB i t es x u) w) := by
  obtain ⟨a, c, rfl, _, _⟩ := h.slice
  have hV := Kv.new (w0 := w) (i := i) (t := t) h (Below.refl _ _) 27
  have HV := Lib.hid hV
  have HL := Lib.hid (rLast_any hV.e i t)
  have HC : Hid (freshB i t es x u = (decide (tm t es es.length < u) || (u == tm t es es.length && decide (i + es.length ≤ x)))) := by show _ = _; unfold freshB; rw [hok]; rfl
  have HLS : Hid (∀ p q, LaS i t es es.length p q → p = i + es.length ∧ q = tm t es es.length) := fun p q hl => LaS_ok hok hl
  have d0 := hV.d0
  have d1 := hV.d1
  have d2 := hV.d2
  clear h hV hok
  go_enter Try.func30, Try.ntmps30
  go_wp2_with fail
  go_fit HL.out
  rintro e2 w2 ⟨p, q, hls, rfl, hb⟩
  obtain ⟨hp1, hp2⟩ := HLS.out p q hls
  have HB2 := Lib.hid (HV.out.later hb).b
  subst hp1 hp2
  clear hls hb HV HL HLS d0 d1 d2
  generalize tm t es es.length = z at *
  by_cases h1 : z < u
  · have HR : Hid (freshB i t es x u = true) := by show _ = _; rw [HC.out, decide_eq_true h1]; rfl
    go_wp2_with fail
    go_ret
    exact ⟨by rw [HR.out]; first | done | rfl, HB2.out⟩
  · by_cases h2 : u = z
    · have b2 : (u == z) = true := by rw [beq_iff_eq]; exact h2
      have HR : Hid (freshB i t es x u = decide (i + es.length ≤ x)) := by show _ = _; rw [HC.out, decide_eq_false h1, b2]; rfl
      go_wp2_with fail
      go_ret
      exact ⟨by rw [HR.out]; first | done | rfl, HB2.out⟩
    · have b2 : (u == z) = false := by rw [beq_eq_false_iff_ne]; exact h2
      have HR : Hid (freshB i t es x u = false) := by show _ = _; rw [HC.out, decide_eq_false h1, b2]; rfl
      go_wp2_with fail
      go_ret
      exact ⟨by rw [HR.out]; show Ending.returned (.bool (decide (z < u))) = _; rw [decide_eq_false (by omega)], HB2.out⟩
end Go.Proofs.Ytcmfnokpbgfioaa
