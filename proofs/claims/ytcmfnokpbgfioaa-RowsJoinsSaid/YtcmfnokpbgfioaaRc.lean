/-
  The document's Check and Last. (Written by genrc.py.)
-/
import Derived.Test.YtcmfnokpbgfioaaRf
namespace Go.Proofs.Ytcmfnokpbgfioaa
set_option linter.unusedVariables false
set_option linter.unusedSimpArgs false
open Go.RowKit

set_option maxRecDepth 100000 in
set_option maxHeartbeats 3200000 in
theorem rCheck_any {w : World} {v : Value} {es : List Er} (h : EIn w v es) (hf : FitI es) (i t : Int) : Calls Try.prog 15 #[.agg #[.int .i64 i, .int .i64 t, v]] w (IntP (ckL i t es) w) := by
  obtain ⟨a, c, rfl, _, _⟩ := h.slice
  have hV := Kv.new (w0 := w) (i := i) (t := t) h (Below.refl _ _) 27
  have HV := Lib.hid hV
  have HG := Lib.hid (On_any hV.e hf i t)
  clear h hV
  by_cases hi : 0 ≤ i ∧ i ≤ 1099511627776
  · by_cases ht : 0 ≤ t ∧ t ≤ 1099511627776
    · have him : inM' i = true := by unfold inM'; rw [decide_eq_true hi]
      rw [goOnR_log him] at HG
      have HI := Lib.hid hi
      have HT := Lib.hid ht
      cases hg : goR i t es with
      | false =>
        have HC : Hid (ckL i t es = 120) := ckL_bad (by unfold okL; rw [hg]; simp)
        rw [hg] at HG
        clear him hi ht
        go_enter Try.func15, Try.ntmps15
        go_wp2_with fail
        go_fit (near_yes (lo := 0) HI.out _)
        rintro e w' ⟨rfl, rfl⟩
        go_wp2_with fail
        go_fit (near_yes (lo := 0) HT.out _)
        rintro e w' ⟨rfl, rfl⟩
        go_wp2_with fail
        go_fit HG.out
        rintro e w2 ⟨rfl, hb⟩
        have HB2 := Lib.hid (HV.out.later hb).b
        clear hb
        go_wp2_with fail
        go_ret
        exact ⟨by rw [HC.out]; first | done | rfl, HB2.out⟩
      | true =>
        have HC : Hid (ckL i t es = 0) := ckL_ok (okL_iff.2 ⟨hi, ht, hg⟩)
        rw [hg] at HG
        clear him hi ht
        go_enter Try.func15, Try.ntmps15
        go_wp2_with fail
        go_fit (near_yes (lo := 0) HI.out _)
        rintro e w' ⟨rfl, rfl⟩
        go_wp2_with fail
        go_fit (near_yes (lo := 0) HT.out _)
        rintro e w' ⟨rfl, rfl⟩
        go_wp2_with fail
        go_fit HG.out
        rintro e w2 ⟨rfl, hb⟩
        have HB2 := Lib.hid (HV.out.later hb).b
        clear hb
        go_wp2_with fail
        go_ret
        exact ⟨by rw [HC.out]; first | done | rfl, HB2.out⟩
    · have HC : Hid (ckL i t es = 120) := ckL_bad (by
        cases hc : okL i t es with
        | false => rfl
        | true => exact absurd (okL_iff.1 hc).2.1 ht)
      have HI := Lib.hid hi
      have HT := Lib.hid ht
      clear hi ht
      go_enter Try.func15, Try.ntmps15
      go_wp2_with fail
      go_fit (near_yes (lo := 0) HI.out _)
      rintro e w' ⟨rfl, rfl⟩
      go_wp2_with fail
      go_fit (near_no (lo := 0) HT.out _)
      rintro e w' ⟨rfl, rfl⟩
      go_wp2_with fail
      go_ret
      exact ⟨by rw [HC.out]; first | done | rfl, HV.out.b⟩
  · have HC : Hid (ckL i t es = 120) := ckL_bad (by
      cases hc : okL i t es with
      | false => rfl
      | true => exact absurd (okL_iff.1 hc).1 hi)
    have HI := Lib.hid hi
    clear hi
    go_enter Try.func15, Try.ntmps15
    go_wp2_with fail
    go_fit (near_no (lo := 0) HI.out _)
    rintro e w' ⟨rfl, rfl⟩
    go_wp2_with fail
    go_ret
    exact ⟨by rw [HC.out]; first | done | rfl, HV.out.b⟩

/-- The end, row by row. -/
def LaS (i t : Int) (es : List Er) : Nat → Int → Int → Prop
  | 0, p, q => p = i ∧ q = t
  | m + 1, p, q => ∃ x, es[m]? = some x ∧ p = x.i ∧ q = x.t
theorem LaS_ok {i t p q : Int} {es : List Er} (h : okL i t es = true) (hl : LaS i t es es.length p q) : p = i + es.length ∧ q = tm t es es.length := by
  cases hn : es.length with
  | zero =>
    rw [hn] at hl
    obtain ⟨rfl, rfl⟩ := hl
    exact ⟨by simp, rfl⟩
  | succ m =>
    rw [hn] at hl
    obtain ⟨x, hx, rfl, rfl⟩ := hl
    have := (goR_get (okL_iff.1 h).2.2 hx).1
    exact ⟨by omega, (tm_at hx).symm⟩
def LaP (i t : Int) (es : List Er) (w : World) (e : Ending) (w' : World) : Prop := ∃ p q, LaS i t es es.length p q ∧ e = .returned (.tuple #[.int .i64 p, .int .i64 q]) ∧ Below w.heap.size w w'
set_option maxRecDepth 100000 in
set_option maxHeartbeats 3200000 in
theorem rLast_any {w : World} {v : Value} {es : List Er} (h : EIn w v es) (i t : Int) : Calls Try.prog 16 #[.agg #[.int .i64 i, .int .i64 t, v]] w (LaP i t es w) := by
  obtain ⟨a, c, rfl, _, _⟩ := h.slice
  have hV := Kv.new (w0 := w) (i := i) (t := t) h (Below.refl _ _) 27
  have HV := Lib.hid hV
  have d0 := hV.d0
  have d1 := hV.d1
  have d2 := hV.d2
  clear h hV
  go_enter Try.func16, Try.ntmps16
  go_wp2_with fail
  go_quiet (fail)
  go_wp2_with fail
  go_loopw [4, 5, 15] (fun x y j wr => ∃ (k : Nat) (p q : Int), x = .int .i64 p ∧ y = .int .i64 q ∧ j = .int .i64 k ∧ k ≤ es.length ∧ Hid (LaS i t es k p q) ∧ Hid (EIn wr (.slice a es.length c) es) ∧ Hid (Below w.heap.size w wr)) (fun _ _ j _ => es.length - (intOf j).toNat)
  case atStart => exact ⟨0, i, t, rfl, rfl, rfl, Nat.zero_le _, ⟨rfl, rfl⟩, (by show EIn _ _ _; exact HV.out.e.later (below_drewN (Below.refl _ _) _)), (by show Below _ _ _; exact below_drewN HV.out.b _)⟩
  case round =>
    obtain ⟨k, p, q, rfl, rfl, rfl, hk, hS, hE, hB⟩ := hrel
    by_cases hlt : k < es.length
    · have he : es[k]? = some es[k] := List.getElem?_eq_getElem hlt
      generalize es[k] = y at *
      obtain ⟨g, off, pp, c', rfl, k0, k1, k2, _⟩ := hE.out.at he
      have hkk : (k : Int) < (es.length : Int) := by omega
      have hal := lay_alloc wr (.cells #[.int .i64 y.i, .int .i64 y.t, .slice pp y.d.length c'] 44)
      have HE2 := Lib.hid (hE.out.later hal)
      have HB2 := Lib.hid (hB.out.trans (hal.mono hB.out.size))
      have HS2 : Hid (LaS i t es (k + 1) y.i y.t) := ⟨y, he, rfl, rfl⟩
      clear hal he d0 d1 d2
      go_wp2_with fail
      exact ⟨⟨k + 1, _, _, rfl, rfl, by go_num, hlt, HS2, HE2, HB2⟩, by show es.length - ((k : Int) + 1).toNat < es.length - (k : Int).toNat; omega⟩
    · obtain rfl : k = es.length := by omega
      clear d0 d1 d2
      go_wp2_with fail
      go_ret2
      exact ⟨_, _, hS.out, rfl, hB.out⟩
end Go.Proofs.Ytcmfnokpbgfioaa
