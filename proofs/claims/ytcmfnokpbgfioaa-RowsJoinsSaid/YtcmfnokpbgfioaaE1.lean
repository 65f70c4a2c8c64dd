/-
  rows.Check, known, end, rowed, behind, term, is.
-/
import Derived.Test.YtcmfnokpbgfioaaE0
namespace Go.Proofs.Ytcmfnokpbgfioaa
set_option linter.unusedVariables false
set_option linter.unusedSimpArgs false
open Go.RowKit

def ckL (i t : Int) (es : List Er) : Int := if okL i t es then 0 else 120
theorem ckL_bad {i t : Int} {es : List Er} (h : okL i t es = false) : ckL i t es = 120 := by unfold ckL; rw [h]; rfl
theorem ckL_ok {i t : Int} {es : List Er} (h : okL i t es = true) : ckL i t es = 0 := by unfold ckL; rw [h]; rfl
/-- A log in memory, as a value. -/
def lgV (i t : Int) (v : Value) : Value := .agg #[.int .i64 i, .int .i64 t, v]

set_option maxRecDepth 100000 in
set_option maxHeartbeats 3200000 in
theorem Check_any {w : World} {v : Value} {es : List Er} (h : EIn w v es) (i t : Int) : Calls Try.prog 31 #[.agg #[.int .i64 i, .int .i64 t, v]] w (IntP (ckL i t es) w) := by
  obtain ⟨a, c, rfl, _, _⟩ := h.slice
  have hal := lay_alloc w (.cells #[.int .i64 i, .int .i64 t, .slice a es.length c] 24)
  have hd := DC.alloc w [.int .i64 i, .int .i64 t, .slice a es.length c] 24
  have HB := Lib.hid hal
  have HI := Lib.hid (inRange_any i (w.alloc (.cells #[.int .i64 i, .int .i64 t, .slice a es.length c] 24)))
  have HT := Lib.hid (inRange_any t (w.alloc (.cells #[.int .i64 i, .int .i64 t, .slice a es.length c] 24)))
  have HG := Lib.hid (goOn_ein (h.later hal) i t)
  have d0 := hd.cells 0 _ rfl
  have d1 := hd.cells 1 _ rfl
  have d2 := hd.cells 2 _ rfl
  clear h hal hd
  cases hi : inM i with
  | false =>
    have HC : Hid (ckL i t es = 120) := ckL_bad (by unfold okL; rw [← inM_same, hi]; rfl)
    rw [hi] at HI
    go_enter Try.func31, Try.ntmps31
    go_wp2_with fail
    go_fit HI.out
    rintro e w' ⟨rfl, rfl⟩
    go_wp2_with fail
    go_ret
    exact ⟨by rw [HC.out]; first | done | rfl, HB.out⟩
  | true =>
    rw [hi] at HI
    cases ht : inM t with
    | false =>
      have HC : Hid (ckL i t es = 120) := ckL_bad (by unfold okL; rw [← inM_same, ← inM_same, ht]; simp)
      rw [ht] at HT
      go_enter Try.func31, Try.ntmps31
      go_wp2_with fail
      go_fit HI.out
      rintro e w' ⟨rfl, rfl⟩
      go_wp2_with fail
      go_fit HT.out
      rintro e w' ⟨rfl, rfl⟩
      go_wp2_with fail
      go_ret
      exact ⟨by rw [HC.out]; first | done | rfl, HB.out⟩
    | true =>
      rw [ht] at HT
      rw [goOnR_log (i := i) (t := t) (es := es) (by rw [← inM_same]; exact hi)] at HG
      cases hg : goR i t es with
      | false =>
        have HC : Hid (ckL i t es = 120) := ckL_bad (by unfold okL; rw [hg]; simp)
        rw [hg] at HG
        go_enter Try.func31, Try.ntmps31
        go_wp2_with fail
        go_fit HI.out
        rintro e w' ⟨rfl, rfl⟩
        go_wp2_with fail
        go_fit HT.out
        rintro e w' ⟨rfl, rfl⟩
        go_wp2_with fail
        go_fit HG.out
        rintro e w' ⟨rfl, hb⟩
        have HB2 := Lib.hid (HB.out.trans (hb.mono HB.out.size))
        clear hb
        go_wp2_with fail
        go_ret
        exact ⟨by rw [HC.out]; first | done | rfl, HB2.out⟩
      | true =>
        have HC : Hid (ckL i t es = 0) := ckL_ok (by unfold okL; rw [← inM_same, ← inM_same, hi, ht, hg]; rfl)
        rw [hg] at HG
        go_enter Try.func31, Try.ntmps31
        go_wp2_with fail
        go_fit HI.out
        rintro e w' ⟨rfl, rfl⟩
        go_wp2_with fail
        go_fit HT.out
        rintro e w' ⟨rfl, rfl⟩
        go_wp2_with fail
        go_fit HG.out
        rintro e w' ⟨rfl, hb⟩
        have HB2 := Lib.hid (HB.out.trans (hb.mono HB.out.size))
        clear hb
        go_wp2_with fail
        go_ret
        exact ⟨by rw [HC.out]; first | done | rfl, HB2.out⟩

def KnownP (i t : Int) (v : Value) (b : Bool) (w : World) (e : Ending) (w' : World) : Prop := e = .returned (.tuple #[.agg #[.int .i64 i, .int .i64 t, v], .bool b]) ∧ Below w.heap.size w w'
set_option maxRecDepth 100000 in
set_option maxHeartbeats 3200000 in
theorem known_any {w : World} {v : Value} {es : List Er} (h : EIn w v es) (i t : Int) : Calls Try.prog 33 #[.agg #[.int .i64 i, .int .i64 t, v]] w (KnownP i t v (okL i t es) w) := by
  obtain ⟨a, c, rfl, _, _⟩ := h.slice
  have HOK : Hid ((ckL i t es == 0) = okL i t es) := by
    show _ = _
    unfold ckL
    cases okL i t es <;> rfl
  have hal := lay_alloc w (.cells #[.int .i64 i, .int .i64 t, .slice a es.length c] 24)
  have hd := DC.alloc w [.int .i64 i, .int .i64 t, .slice a es.length c] 24
  have hal2 := lay_alloc (w.alloc (.cells #[.int .i64 i, .int .i64 t, .slice a es.length c] 24)) (.cells #[.int .i64 0, .int .i64 0, .slice none 0 0] 63)
  have hd2 := DC.alloc (w.alloc (.cells #[.int .i64 i, .int .i64 t, .slice a es.length c] 24)) [.int .i64 0, .int .i64 0, .slice none 0 0] 63
  have hb := hal.trans (hal2.mono hal.size)
  have hs : (w.alloc (.cells #[.int .i64 i, .int .i64 t, .slice a es.length c] 24)).heap.size = w.heap.size + 1 := by simp
  rw [hs] at hd2
  have H1 := Lib.hid (hd.below hal2)
  have H2 := Lib.hid hd2
  have HE := Lib.hid (h.later hb)
  have HB := Lib.hid hb
  clear h hal hal2 hd hd2 hb hs
  go_enter Try.func33, Try.ntmps33
  go_wp2_with fail
  generalize (w.alloc _).alloc _ = W at *
  have HT := Lib.hid (Check_any (HE.out.later (lay_drew (Below.refl W.heap.size W))) i t)
  have c0 := H1.out.cells 0 _ rfl
  have c1 := H1.out.cells 1 _ rfl
  have c2 := H1.out.cells 2 _ rfl
  have z0 := H2.out.cells 0 _ rfl
  have z1 := H2.out.cells 1 _ rfl
  have z2 := H2.out.cells 2 _ rfl
  have y0 := H2.out.fz 0
  have y1 := H2.out.fz 1
  have y2 := H2.out.fz 2
  go_region_with (go_at_call 31; (with_reducible refine HT.out.mono ?_); rintro e w2 ⟨rfl, hb2⟩; have hbw := (lay_drew (Below.refl W.heap.size W)).trans hb2; have p0 := lay_later hbw c0; have p1 := lay_later hbw c1; have p2 := lay_later hbw c2; have q0 := lay_later hbw z0; have q1 := lay_later hbw z1; have q2 := lay_later hbw z2; have K2 := H2.out.below hbw; have x0 := K2.fz 0; have x1 := K2.fz 1; have x2 := K2.fz 2; have HB2 := Lib.hid hbw; have K3 := Lib.hid K2; clear hb2 hbw K2)
  all_goals
    have K4 := ((K3.out.set 0 (.int .i64 i) (by simp)).set 1 (.int .i64 t) (by simp)).set 2 (.slice a es.length c) (by simp)
    have hB := (((HB.out.trans (HB2.out.mono HB.out.size)).setCell (p := ⟨w.heap.size + 1, 0, none⟩) (Nat.le_succ _) (.int .i64 i)).setCell (p := ⟨w.heap.size + 1, 1, none⟩) (Nat.le_succ _) (.int .i64 t)).setCell (p := ⟨w.heap.size + 1, 2, none⟩) (Nat.le_succ _) (.slice a es.length c)
    have HB4 := Lib.hid hB
    have r0 := K4.cells 0 _ rfl
    have r1 := K4.cells 1 _ rfl
    have r2 := K4.cells 2 _ rfl
    clear K4 hB K3 HB2 H1 H2 HE HB HT c0 c1 c2 z0 z1 z2 y0 y1 y2 p0 p1 p2 q0 q1 q2 x0 x1 x2
    generalize World.setCell _ _ _ = w3 at *
    go_simp
    go_wp2_with fail
    refine bodyPost_ret (v := .tuple #[.agg #[.int .i64 i, .int .i64 t, .slice a es.length c], .bool (ckL i t es == 0)]) (by simp [results, Try.results33, go_sem, r0, r1, r2]) rfl ⟨by rw [HOK.out], HB4.out⟩

set_option maxHeartbeats 1600000 in
theorem end_any (w : World) (i t : Int) (a : Option Addr) (n c : Nat) (h : 0 ≤ i ∧ i + n ≤ 1099511627776) : Calls Try.prog 35 #[.agg #[.int .i64 i, .int .i64 t, .slice a n c]] w (IntP (i + n) w) := by
  have hal := lay_alloc w (.cells #[.int .i64 i, .int .i64 t, .slice a n c] 63)
  have HB := Lib.hid hal
  have e1 : IntKind.i64.wrap (i + n) = i + n := IntWalk.i64_in _ (by omega)
  clear hal
  go_enter Try.func35, Try.ntmps35
  go_wp2_with fail
  go_ret
  exact ⟨rfl, HB.out⟩

def rowB (i : Int) (n : Nat) (x : Int) : Bool := decide (i < x ∧ x ≤ i + n)
set_option maxHeartbeats 1600000 in
theorem rowed_any (w : World) (i t : Int) (a : Option Addr) (n c : Nat) (x : Int) (h : 0 ≤ i ∧ i + n ≤ 1099511627776) : Calls Try.prog 38 #[.agg #[.int .i64 i, .int .i64 t, .slice a n c], .int .i64 x] w (BoolP (rowB i n x) w) := by
  have hal := lay_alloc w (.cells #[.int .i64 i, .int .i64 t, .slice a n c] 63)
  have HB := Lib.hid hal
  have HE := Lib.hid (end_any (w.alloc (.cells #[.int .i64 i, .int .i64 t, .slice a n c] 63)) i t a n c h)
  clear hal
  by_cases h1 : i < x
  · have HR : Hid (rowB i n x = decide (x ≤ i + n)) := by show _ = _; unfold rowB; simp [h1]
    go_enter Try.func38, Try.ntmps38
    go_wp2_with fail
    go_fit HE.out
    rintro e w2 ⟨rfl, hb⟩
    have HB2 := Lib.hid (HB.out.trans (hb.mono HB.out.size))
    clear hb
    go_wp2_with fail
    go_ret
    exact ⟨by rw [HR.out]; first | done | rfl, HB2.out⟩
  · have HR : Hid (rowB i n x = false) := by show _ = _; unfold rowB; simp [h1]
    go_enter Try.func38, Try.ntmps38
    go_wp2_with fail
    go_ret
    exact ⟨by rw [HR.out]; first | done | rfl, HB.out⟩

/-- Entries that are told, of whatever place. -/
def OutP (es : List Er) (w : World) (e : Ending) (w' : World) : Prop := ∃ u, e = .returned u ∧ EIn w' u es ∧ Below w.heap.size w w'
set_option maxHeartbeats 1600000 in
theorem behind_any {w : World} {a : Option Addr} {c : Nat} {es : List Er} (h : EIn w (.slice a es.length c) es) (i t : Int) (k : Nat) (hk : k ≤ es.length) (hi : 0 ≤ i ∧ i + es.length ≤ 1099511627776) : Calls Try.prog 39 #[.agg #[.int .i64 i, .int .i64 t, .slice a es.length c], .int .i64 (i + k)] w (OutP (es.drop k) w) := by
  have hal := lay_alloc w (.cells #[.int .i64 i, .int .i64 t, .slice a es.length c] 63)
  have HB := Lib.hid hal
  have e1 : IntKind.i64.wrap (i + k - i) = k := (IntWalk.i64_in _ (by omega)).trans (by omega)
  have hdr := (h.later hal).drop k hk
  have hcl : es.length ≤ c := by obtain ⟨a', c', hv, h1, _⟩ := h.slice; simp only [Value.slice.injEq] at hv; omega
  have b1 : (k : Int) ≤ (es.length : Int) := by omega
  clear hal h
  by_cases hck : c = k
  · rw [if_pos hck] at hdr
    have HD := Lib.hid hdr
    clear hdr
    go_enter Try.func39, Try.ntmps39
    subst hck
    rw [Nat.sub_self, show es.length - c = 0 by omega] at HD
    go_wp2_with fail
    go_ret
    exact ⟨_, rfl, HD.out, HB.out⟩
  · rw [if_neg hck] at hdr
    have HD := Lib.hid hdr
    clear hdr
    go_enter Try.func39, Try.ntmps39
    go_wp2_with fail
    go_ret
    exact ⟨_, rfl, HD.out, HB.out⟩

def TermP (i t : Int) (es : List Er) (x : Int) (w : World) (e : Ending) (w' : World) : Prop := e = .returned (.tuple #[.int .i64 ((atL i t es x).getD 0), .bool (atL i t es x).isSome]) ∧ Below w.heap.size w w'
set_option maxRecDepth 100000 in
set_option maxHeartbeats 3200000 in
theorem term_any {w : World} {a : Option Addr} {c : Nat} {es : List Er} (h : EIn w (.slice a es.length c) es) (i t : Int) (x : Int) (hi : 0 ≤ i ∧ i + es.length ≤ 1099511627776) : Calls Try.prog 34 #[.agg #[.int .i64 i, .int .i64 t, .slice a es.length c], .int .i64 x] w (TermP i t es x w) := by
  have hal := lay_alloc w (.cells #[.int .i64 i, .int .i64 t, .slice a es.length c] 63)
  have HB := Lib.hid hal
  have HR := Lib.hid (rowed_any (w.alloc (.cells #[.int .i64 i, .int .i64 t, .slice a es.length c] 63)) i t a es.length c x hi)
  have HD := Lib.hid (DC.alloc w [.int .i64 i, .int .i64 t, .slice a es.length c] 63)
  have HI := Lib.hid (h.later hal)
  clear hal h
  by_cases h0 : x = i
  · have HA : Hid (atL i t es x = some t) := by
      show _ = _
      unfold atL
      rw [if_pos (by omega), h0, Int.sub_self]; rfl
    have b0 : (x == i) = true := by rw [beq_iff_eq]; exact h0
    go_enter Try.func34, Try.ntmps34
    go_wp2_with fail
    go_ret2
    exact ⟨by rw [HA.out]; first | done | rfl, HB.out⟩
  · have b0 : (x == i) = false := by rw [beq_eq_false_iff_ne]; exact h0
    cases hr : rowB i es.length x with
    | false =>
      have HA : Hid (atL i t es x = none) := by
        show _ = _
        unfold atL
        refine if_neg fun hx => ?_
        unfold rowB at hr
        simp only [decide_eq_false_iff_not] at hr
        omega
      rw [hr] at HR
      go_enter Try.func34, Try.ntmps34
      go_wp2_with fail
      go_fit HR.out
      rintro e w2 ⟨rfl, hb⟩
      have HB2 := Lib.hid (HB.out.trans (hb.mono HB.out.size))
      clear hb
      go_wp2_with fail
      go_ret2
      exact ⟨by rw [HA.out]; first | done | rfl, HB2.out⟩
    | true =>
      have hx : i < x ∧ x ≤ i + es.length := by unfold rowB at hr; simpa using hr
      obtain ⟨k, hk⟩ : ∃ k : Nat, x - 1 = i + k := ⟨(x - 1 - i).toNat, by omega⟩
      have hkl : k < es.length := by omega
      have hg : es[k]? = some es[k] := List.getElem?_eq_getElem hkl
      have HA : Hid (atL i t es x = some es[k].t) := by
        show _ = _
        unfold atL
        rw [if_pos (by omega), show (x - i).toNat = k + 1 by omega, tm_at hg]
      have hg0 : (es.drop k)[0]? = some es[k] := by rw [List.getElem?_drop]; exact hg
      have hln : (es.drop k).length = es.length - k := List.length_drop
      generalize es[k] = y at *
      have e1 : IntKind.i64.wrap (x - 1) = i + k := (IntWalk.i64_in _ (by omega)).trans hk
      rw [hr] at HR
      go_enter Try.func34, Try.ntmps34
      go_wp2_with fail
      go_fit HR.out
      rintro e w2 ⟨rfl, hb⟩
      have HB2 := Lib.hid (HB.out.trans (hb.mono HB.out.size))
      have HD2 := Lib.hid (HD.out.below hb)
      have HBe := Lib.hid (behind_any (HI.out.later hb) i t k (Nat.le_of_lt hkl) hi)
      clear hb HR HD HB
      have d0 := HD2.out.cells 0 _ rfl
      have d1 := HD2.out.cells 1 _ rfl
      have d2 := HD2.out.cells 2 _ rfl
      go_wp2_with fail
      go_fit HBe.out
      rintro e w3 ⟨u, rfl, hu, hb⟩
      obtain ⟨a2, c2, rfl, _, _⟩ := hu.slice
      obtain ⟨g, off, p, c', rfl, k0, k1, k2, _⟩ := hu.at hg0
      have HB3 := Lib.hid (HB2.out.trans (hb.mono HB2.out.size))
      have hpos : (0 : Int) < ((es.drop k).length : Int) := by omega
      simp only [Nat.zero_mul, Nat.add_zero] at k0 k1 k2
      clear hb hu HB2 HBe d0 d1 d2 HD2 HI k0 k2
      generalize (es.drop k).length = m at *
      go_wp2_with fail
      go_ret2
      exact ⟨by rw [HA.out]; first | done | rfl, HB3.out⟩

set_option maxRecDepth 100000 in
set_option maxHeartbeats 3200000 in
theorem is_any {w : World} {a : Option Addr} {c : Nat} {es : List Er} (h : EIn w (.slice a es.length c) es) (i t : Int) (x u : Int) (hi : 0 ≤ i ∧ i + es.length ≤ 1099511627776) : Calls Try.prog 47 #[.agg #[.int .i64 i, .int .i64 t, .slice a es.length c], .int .i64 x, .int .i64 u] w (BoolP (atL i t es x == some u) w) := by
  have hal := lay_alloc w (.cells #[.int .i64 i, .int .i64 t, .slice a es.length c] 63)
  have HB := Lib.hid hal
  have HT := Lib.hid (term_any (h.later hal) i t x hi)
  clear hal h
  cases hx : atL i t es x with
  | none =>
    unfold TermP at HT
    rw [hx] at HT
    have HE : Hid (((none : Option Int) == some u) = false) := by show _ = _; rfl
    go_enter Try.func47, Try.ntmps47
    go_wp2_with fail
    go_fit HT.out
    rintro e w2 ⟨rfl, hb⟩
    have HB2 := Lib.hid (HB.out.trans (hb.mono HB.out.size))
    clear hb
    go_wp2_with fail
    go_ret
    exact ⟨by rw [HE.out]; first | done | rfl, HB2.out⟩
  | some y =>
    unfold TermP at HT
    rw [hx] at HT
    have HE : Hid ((some y == some u) = (y == u)) := by show _ = _; simp
    go_enter Try.func47, Try.ntmps47
    go_wp2_with fail
    go_fit HT.out
    rintro e w2 ⟨rfl, hb⟩
    have HB2 := Lib.hid (HB.out.trans (hb.mono HB.out.size))
    clear hb
    go_wp2_with fail
    go_ret
    exact ⟨by rw [HE.out]; first | done | rfl, HB2.out⟩
end Go.Proofs.Ytcmfnokpbgfioaa
