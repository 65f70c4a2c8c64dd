/-
  rows.Last, Term, Fresh, From, Cut, with. (Written by genr2.py.)
-/
import Derived.Test.YtcmfnokpbgfioaaOw
import Derived.Deep.RegionHeld3
namespace Go.Proofs.Ytcmfnokpbgfioaa
set_option linter.unusedVariables false
set_option linter.unusedSimpArgs false
open Go.RowKit

/-- A variable that holds a log, in a world that came from another one. -/
structure Kv (w0 w : World) (g : Nat) (i t : Int) (a : Option Addr) (c : Nat) (es : List Er) : Prop where
  dc : DC w g [.int .i64 i, .int .i64 t, .slice a es.length c]
  e : EIn w (.slice a es.length c) es
  b : Below w0.heap.size w0 w
theorem Kv.later {w0 w w' : World} {g : Nat} {i t : Int} {a : Option Addr} {c : Nat} {es : List Er} (h : Kv w0 w g i t a c es) (hb : Below w.heap.size w w') : Kv w0 w' g i t a c es :=
  ⟨h.dc.below hb, h.e.later hb, h.b.trans (hb.mono h.b.size)⟩
theorem Kv.drew {w0 w : World} {g : Nat} {i t : Int} {a : Option Addr} {c : Nat} {es : List Er} (h : Kv w0 w g i t a c es) : Kv w0 w.drew g i t a c es := h.later (lay_drew (Below.refl _ _))
theorem Kv.d0 {w0 w : World} {g : Nat} {i t : Int} {a : Option Addr} {c : Nat} {es : List Er} (h : Kv w0 w g i t a c es) : w.cell? ⟨g, 0, none⟩ = some (.int .i64 i) := h.dc.cells 0 _ rfl
theorem Kv.d1 {w0 w : World} {g : Nat} {i t : Int} {a : Option Addr} {c : Nat} {es : List Er} (h : Kv w0 w g i t a c es) : w.cell? ⟨g, 1, none⟩ = some (.int .i64 t) := h.dc.cells 1 _ rfl
theorem Kv.d2 {w0 w : World} {g : Nat} {i t : Int} {a : Option Addr} {c : Nat} {es : List Er} (h : Kv w0 w g i t a c es) : w.cell? ⟨g, 2, none⟩ = some (.slice a es.length c) := h.dc.cells 2 _ rfl
/-- The variable is made. -/
theorem Kv.new {w0 w : World} {i t : Int} {a : Option Addr} {c : Nat} {es : List Er} (h : EIn w (.slice a es.length c) es) (hb : Below w0.heap.size w0 w) (T : TypeId) : Kv w0 (w.alloc (.cells #[.int .i64 i, .int .i64 t, .slice a es.length c] T)) w.heap.size i t a c es :=
  ⟨DC.alloc w _ T, h.later (lay_alloc w _), hb.trans ((lay_alloc w _).mono hb.size)⟩
/-- The last entry's index and term. -/
def lastL (i t : Int) (es : List Er) : Int × Int := if okL i t es then (i + es.length, tm t es es.length) else (0, 0)
theorem atL_last {i t : Int} {es : List Er} : atL i t es (i + es.length) = some (tm t es es.length) := by
  unfold atL
  rw [if_pos (by omega)]
  congr 2
  omega
def PairP (x y : Int) (w : World) (e : Ending) (w' : World) : Prop := e = .returned (.tuple #[.int .i64 x, .int .i64 y]) ∧ Below w.heap.size w w'
theorem term_end {w : World} {a : Option Addr} {c : Nat} {es : List Er} (h : EIn w (.slice a es.length c) es) (i t : Int) (hi : 0 ≤ i ∧ i + es.length ≤ 1099511627776) : Calls Try.prog 34 #[.agg #[.int .i64 i, .int .i64 t, .slice a es.length c], .int .i64 (i + es.length)] w fun e w' => e = .returned (.tuple #[.int .i64 (tm t es es.length), .bool true]) ∧ Below w.heap.size w w' := by
  have := term_any h i t (i + es.length) hi
  unfold TermP at this
  rw [atL_last] at this
  exact this
def freshB (i t : Int) (es : List Er) (x u : Int) : Bool := okL i t es && (decide (tm t es es.length < u) || (u == tm t es es.length && decide (i + es.length ≤ x)))
def lgIn (w : World) (i t : Int) (v : Value) (es : List Er) : Prop := EIn w v es
set_option maxRecDepth 100000 in
set_option maxHeartbeats 3200000 in
theorem Last_any {w : World} {v : Value} {es : List Er} (h : EIn w v es) (i t : Int) : Calls Try.prog 14 #[.agg #[.int .i64 i, .int .i64 t, v]] w (PairP (lastL i t es).1 (lastL i t es).2 w) := by
  obtain ⟨a, c, rfl, _, _⟩ := h.slice
  have hal := lay_alloc w (.cells #[.int .i64 i, .int .i64 t, .slice a es.length c] 24)
  have HB0 := Lib.hid hal
  have HE0 := Lib.hid (h.later hal)
  have HK := Lib.hid (known_any (h.later hal) i t)
  clear hal h
  cases hok : okL i t es with
  | false =>
    have HC : Hid (lastL i t es = (0, 0)) := by show _ = _; unfold lastL; rw [hok]; rfl
    rw [hok] at HK
    go_enter Try.func14, Try.ntmps14
    go_wp2_with fail
    go_fit HK.out
    rintro e w1 ⟨rfl, hb⟩
    have HB1 := Lib.hid (HB0.out.trans (hb.mono HB0.out.size))
    have HE1 := Lib.hid (HE0.out.later hb)
    clear hb HE0 HB0 HK
    go_wp2_with fail
    go_ret2
    exact ⟨by rw [HC.out]; first | done | rfl, (HB1.out.trans ((lay_alloc w1 _).mono HB1.out.size))⟩
  | true =>
    have HC : Hid (lastL i t es = (i + es.length, tm t es es.length)) := by show _ = _; unfold lastL; rw [hok]; rfl
    rw [hok] at HK
    have hi : 0 ≤ i ∧ i + es.length ≤ 1099511627776 := ⟨(okL_iff.1 hok).1.1, okL_end hok⟩
    have HI := Lib.hid hi
    clear hi hok
    go_enter Try.func14, Try.ntmps14
    go_wp2_with fail
    go_fit HK.out
    rintro e w1 ⟨rfl, hb⟩
    have HB1 := Lib.hid (HB0.out.trans (hb.mono HB0.out.size))
    have HE1 := Lib.hid (HE0.out.later hb)
    clear hb HE0 HB0 HK
    have HV := Lib.hid (Kv.new (i := i) (t := t) HE1.out HB1.out 63)
    go_wp2_with fail
    clear HE1
    generalize w1.alloc _ = W at *
    have d0 := HV.out.d0
    have d1 := HV.out.d1
    have d2 := HV.out.d2
    have HV1 := Lib.hid HV.out.drew
    have HE2 := Lib.hid (end_any W.drew i t a es.length c HI.out)
    go_wp2_with fail
    go_region_held3 (fun V => V.cell? ⟨w1.heap.size, 0, none⟩ = some (.int .i64 i) ∧ V.cell? ⟨w1.heap.size, 1, none⟩ = some (.int .i64 t) ∧ V.cell? ⟨w1.heap.size, 2, none⟩ = some (.slice a es.length c)) (go_keep)
    (first
      | (go_at_call 35; (with_reducible refine HE2.out.mono ?_); rintro e w3 ⟨rfl, hb3⟩; have HV3 := Lib.hid (HV1.out.later hb3); have d0 := HV3.out.d0; have d1 := HV3.out.d1; have d2 := HV3.out.d2; have HT3 := Lib.hid (term_end HV3.out.e i t HI.out); clear hb3)
      | (go_at_call 34; (with_reducible refine HT3.out.mono ?_); rintro e w4 ⟨rfl, hb4⟩; have HV4 := Lib.hid (HV3.out.later hb4); have q0 := HV4.out.d0; have q1 := HV4.out.d1; have q2 := HV4.out.d2; clear hb4))
    have HE5 := Lib.hid (end_any w4 i t a es.length c HI.out)
    clear HV1 HE2 HV3 HT3 d0 d1 d2
    go_wp2_with fail
    go_fit HE5.out
    rintro e w5 ⟨rfl, hb⟩
    have HB5 := Lib.hid (HV4.out.later hb).b
    clear hb
    go_wp2_with fail
    go_ret2
    exact ⟨by rw [HC.out]; first | done | rfl, HB5.out⟩
def termO (i t : Int) (es : List Er) (x : Int) : Option Int := if okL i t es then atL i t es x else none
def OptP (o : Option Int) (w : World) (e : Ending) (w' : World) : Prop := e = .returned (.tuple #[.int .i64 (o.getD 0), .bool o.isSome]) ∧ Below w.heap.size w w'
set_option maxRecDepth 100000 in
set_option maxHeartbeats 3200000 in
theorem Term_any {w : World} {v : Value} {es : List Er} (h : EIn w v es) (i t x : Int) : Calls Try.prog 17 #[.agg #[.int .i64 i, .int .i64 t, v], .int .i64 x] w (OptP (termO i t es x) w) := by
  obtain ⟨a, c, rfl, _, _⟩ := h.slice
  have hal := lay_alloc w (.cells #[.int .i64 i, .int .i64 t, .slice a es.length c] 24)
  have HB0 := Lib.hid hal
  have HE0 := Lib.hid (h.later hal)
  have HK := Lib.hid (known_any (h.later hal) i t)
  clear hal h
  cases hok : okL i t es with
  | false =>
    have HC : Hid (termO i t es x = none) := by show _ = _; unfold termO; rw [hok]; rfl
    rw [hok] at HK
    go_enter Try.func17, Try.ntmps17
    go_wp2_with fail
    go_fit HK.out
    rintro e w1 ⟨rfl, hb⟩
    have HB1 := Lib.hid (HB0.out.trans (hb.mono HB0.out.size))
    have HE1 := Lib.hid (HE0.out.later hb)
    clear hb HE0 HB0 HK
    go_wp2_with fail
    go_ret2
    exact ⟨by rw [HC.out]; first | done | rfl, (HB1.out.trans ((lay_alloc w1 _).mono HB1.out.size))⟩
  | true =>
    have HC : Hid (termO i t es x = atL i t es x) := by show _ = _; unfold termO; rw [hok]; rfl
    rw [hok] at HK
    have hi : 0 ≤ i ∧ i + es.length ≤ 1099511627776 := ⟨(okL_iff.1 hok).1.1, okL_end hok⟩
    have HI := Lib.hid hi
    clear hi hok
    go_enter Try.func17, Try.ntmps17
    go_wp2_with fail
    go_fit HK.out
    rintro e w1 ⟨rfl, hb⟩
    have HB1 := Lib.hid (HB0.out.trans (hb.mono HB0.out.size))
    have HE1 := Lib.hid (HE0.out.later hb)
    clear hb HE0 HB0 HK
    have HV := Lib.hid (Kv.new (i := i) (t := t) HE1.out HB1.out 63)
    go_wp2_with fail
    clear HE1
    generalize w1.alloc _ = W at *
    have HT := Lib.hid (term_any HV.out.e i t x HI.out)
    have d0 := HV.out.d0
    have d1 := HV.out.d1
    have d2 := HV.out.d2
    go_wp2_with fail
    go_fit HT.out
    rintro e w5 ⟨rfl, hb⟩
    have HB5 := Lib.hid (HV.out.later hb).b
    clear hb
    go_wp2_with fail
    go_ret2
    exact ⟨by rw [HC.out]; first | done | rfl, HB5.out⟩
set_option maxRecDepth 100000 in
set_option maxHeartbeats 3200000 in
theorem Fresh_any {w : World} {v : Value} {es : List Er} (h : EIn w v es) (i t x u : Int) : Calls Try.prog 26 #[.agg #[.int .i64 i, .int .i64 t, v], .int .i64 x, .int .i64 u] w (BoolP (freshB i t es x u) w) := by
  obtain ⟨a, c, rfl, _, _⟩ := h.slice
  have hal := lay_alloc w (.cells #[.int .i64 i, .int .i64 t, .slice a es.length c] 24)
  have HB0 := Lib.hid hal
  have HE0 := Lib.hid (h.later hal)
  have HK := Lib.hid (known_any (h.later hal) i t)
  clear hal h
  cases hok : okL i t es with
  | false =>
    have HC : Hid (freshB i t es x u = false) := by show _ = _; unfold freshB; rw [hok]; rfl
    rw [hok] at HK
    go_enter Try.func26, Try.ntmps26
    go_wp2_with fail
    go_fit HK.out
    rintro e w1 ⟨rfl, hb⟩
    have HB1 := Lib.hid (HB0.out.trans (hb.mono HB0.out.size))
    have HE1 := Lib.hid (HE0.out.later hb)
    clear hb HE0 HB0 HK
    go_wp2_with fail
    go_ret
    exact ⟨by rw [HC.out]; first | done | rfl, (HB1.out.trans ((lay_alloc w1 _).mono HB1.out.size))⟩
  | true =>
    have HC : Hid (freshB i t es x u = (decide (tm t es es.length < u) || (u == tm t es es.length && decide (i + es.length ≤ x)))) := by show _ = _; unfold freshB; rw [hok]; rfl
    rw [hok] at HK
    have hi : 0 ≤ i ∧ i + es.length ≤ 1099511627776 := ⟨(okL_iff.1 hok).1.1, okL_end hok⟩
    have HI := Lib.hid hi
    clear hi hok
    go_enter Try.func26, Try.ntmps26
    go_wp2_with fail
    go_fit HK.out
    rintro e w1 ⟨rfl, hb⟩
    have HB1 := Lib.hid (HB0.out.trans (hb.mono HB0.out.size))
    have HE1 := Lib.hid (HE0.out.later hb)
    clear hb HE0 HB0 HK
    have HV := Lib.hid (Kv.new (i := i) (t := t) HE1.out HB1.out 63)
    go_wp2_with fail
    clear HE1
    generalize w1.alloc _ = W at *
    have d0 := HV.out.d0
    have d1 := HV.out.d1
    have d2 := HV.out.d2
    have HV1 := Lib.hid HV.out.drew
    have HE2 := Lib.hid (end_any W.drew i t a es.length c HI.out)
    go_wp2_with fail
    go_region_held3 (fun V => V.cell? ⟨w1.heap.size, 0, none⟩ = some (.int .i64 i) ∧ V.cell? ⟨w1.heap.size, 1, none⟩ = some (.int .i64 t) ∧ V.cell? ⟨w1.heap.size, 2, none⟩ = some (.slice a es.length c)) (go_keep)
    (first
      | (go_at_call 35; (with_reducible refine HE2.out.mono ?_); rintro e w3 ⟨rfl, hb3⟩; have HV3 := Lib.hid (HV1.out.later hb3); have d0 := HV3.out.d0; have d1 := HV3.out.d1; have d2 := HV3.out.d2; have HT3 := Lib.hid (term_end HV3.out.e i t HI.out); clear hb3)
      | (go_at_call 34; (with_reducible refine HT3.out.mono ?_); rintro e w4 ⟨rfl, hb4⟩; have HV4 := Lib.hid (HV3.out.later hb4); have q0 := HV4.out.d0; have q1 := HV4.out.d1; have q2 := HV4.out.d2; clear hb4))
    have HE5 := Lib.hid (end_any w4 i t a es.length c HI.out)
    have HB4 := Lib.hid HV4.out.b
    clear HV1 HE2 HV3 HT3 d0 d1 d2
    generalize tm t es es.length = z at *
    by_cases h1 : z < u
    · have HR : Hid (freshB i t es x u = true) := by show _ = _; rw [HC.out, decide_eq_true h1]; rfl
      go_wp2_with fail
      go_ret
      exact ⟨by rw [HR.out]; first | done | rfl, HB4.out⟩
    · by_cases h2 : u = z
      · have b2 : (u == z) = true := by rw [beq_iff_eq]; exact h2
        have HR : Hid (freshB i t es x u = decide (i + es.length ≤ x)) := by show _ = _; rw [HC.out, decide_eq_false h1, b2]; rfl
        go_wp2_with fail
        go_fit HE5.out
        rintro e w5 ⟨rfl, hb⟩
        have HB5 := Lib.hid (HV4.out.later hb).b
        clear hb
        go_wp2_with fail
        go_ret
        exact ⟨by rw [HR.out]; first | done | rfl, HB5.out⟩
      · have b2 : (u == z) = false := by rw [beq_eq_false_iff_ne]; exact h2
        have HR : Hid (freshB i t es x u = false) := by show _ = _; rw [HC.out, decide_eq_false h1, b2]; rfl
        go_wp2_with fail
        go_ret
        exact ⟨by rw [HR.out]; first | done | rfl, HB4.out⟩
/-- From a place down, as long as the term is the same. -/
def dnH (i t : Int) (es : List Er) (T : Int) : Nat → Int
  | 0 => i + 1
  | n + 1 => if tm t es (n + 1) = T then dnH i t es T n else i + 1 + (n + 1 : Nat)
def hintL (i t : Int) (es : List Er) (x : Int) : Int :=
  if okL i t es then (if i + es.length < x then i + es.length + 1 else dnH i t es ((atL i t es (max x (i + 1))).getD 0) (max x (i + 1) - i - 1).toNat) else 0
set_option maxRecDepth 100000 in
set_option maxHeartbeats 3200000 in
theorem Hint_any {w : World} {v : Value} {es : List Er} (h : EIn w v es) (i t x : Int) : Calls Try.prog 25 #[.agg #[.int .i64 i, .int .i64 t, v], .int .i64 x] w (IntP (hintL i t es x) w) := by
  obtain ⟨a, c, rfl, _, _⟩ := h.slice
  have hal := lay_alloc w (.cells #[.int .i64 i, .int .i64 t, .slice a es.length c] 24)
  have HB0 := Lib.hid hal
  have HE0 := Lib.hid (h.later hal)
  have HK := Lib.hid (known_any (h.later hal) i t)
  clear hal h
  cases hok : okL i t es with
  | false =>
    have HC : Hid (hintL i t es x = 0) := by show _ = _; unfold hintL; rw [hok]; rfl
    rw [hok] at HK
    go_enter Try.func25, Try.ntmps25
    go_wp2_with fail
    go_fit HK.out
    rintro e w1 ⟨rfl, hb⟩
    have HB1 := Lib.hid (HB0.out.trans (hb.mono HB0.out.size))
    have HE1 := Lib.hid (HE0.out.later hb)
    clear hb HE0 HB0 HK
    go_wp2_with fail
    go_ret
    exact ⟨by rw [HC.out]; first | done | rfl, (HB1.out.trans ((lay_alloc w1 _).mono HB1.out.size))⟩
  | true =>
    have HC : Hid (hintL i t es x = if i + es.length < x then i + es.length + 1 else dnH i t es ((atL i t es (max x (i + 1))).getD 0) (max x (i + 1) - i - 1).toNat) := by show _ = _; unfold hintL; rw [hok]; rfl
    rw [hok] at HK
    have hi : 0 ≤ i ∧ i + es.length ≤ 1099511627776 := ⟨(okL_iff.1 hok).1.1, okL_end hok⟩
    have HI := Lib.hid hi
    clear hok
    go_enter Try.func25, Try.ntmps25
    go_wp2_with fail
    go_fit HK.out
    rintro e w1 ⟨rfl, hb⟩
    have HB1 := Lib.hid (HB0.out.trans (hb.mono HB0.out.size))
    have HE1 := Lib.hid (HE0.out.later hb)
    clear hb HE0 HB0 HK
    have HV := Lib.hid (Kv.new (i := i) (t := t) HE1.out HB1.out 63)
    go_wp2_with fail
    clear HE1
    generalize w1.alloc _ = W at *
    have HEn := Lib.hid (end_any W i t a es.length c HI.out)
    have d0 := HV.out.d0
    have d1 := HV.out.d1
    have d2 := HV.out.d2
    go_wp2_with fail
    go_fit HEn.out
    rintro e w2 ⟨rfl, hb⟩
    have HV2 := Lib.hid (HV.out.later hb)
    clear hb HEn d0 d1 d2 HV
    have d0 := HV2.out.d0
    have d1 := HV2.out.d1
    have d2 := HV2.out.d2
    by_cases h1 : i + es.length < x
    · have HR : Hid (hintL i t es x = i + es.length + 1) := by show _ = _; rw [HC.out, if_pos h1]
      have HEn := Lib.hid (end_any w2 i t a es.length c HI.out)
      have e1 : IntKind.i64.wrap (i + es.length + 1) = i + es.length + 1 := IntWalk.i64_in _ (by omega)
      clear hi
      go_wp2_with fail
      go_fit HEn.out
      rintro e w3 ⟨rfl, hb⟩
      have HB3 := Lib.hid (HV2.out.later hb).b
      clear hb
      go_wp2_with fail
      go_ret
      exact ⟨by rw [HR.out]; first | done | rfl, HB3.out⟩
    · have e1 : IntKind.i64.wrap (i + 1) = i + 1 := IntWalk.i64_in _ (by omega)
      have hmx : ∀ ts ty W, (Builtin.max_ ts ty #[.int .i64 x, .int .i64 (i + 1)]).run Try.prog W = .ok (.int .i64 (max x (i + 1))) W := fun ts ty W => by
        rw [run_max_int2]; congr 2; split <;> omega
      obtain ⟨n0, hn0⟩ : ∃ n0 : Nat, max x (i + 1) = i + 1 + n0 := ⟨(max x (i + 1) - i - 1).toNat, by omega⟩
      have hn1 : n0 ≤ es.length := by omega
      have HR : Hid (hintL i t es x = dnH i t es ((atL i t es (i + 1 + n0)).getD 0) n0) := by
        show _ = _
        rw [HC.out, if_neg h1, hn0, show (i + 1 + (n0 : Int) - i - 1).toNat = n0 by omega]
      rw [hn0] at hmx
      have HT := Lib.hid (term_any HV2.out.e i t (i + 1 + n0) HI.out)
      clear hn0 HC
      generalize hT : (atL i t es (i + 1 + n0)).getD 0 = T at *
      go_wp2_with fail
      go_fit HT.out
      rintro e w3 ⟨rfl, hb⟩
      have HV3 := Lib.hid (HV2.out.later hb)
      rw [hT]
      have HN1 := Lib.hid hn1
      have HI0 := Lib.hid hi
      clear hb HT hT d0 d1 d2 HV2 hmx e1 hn1 hi h1
      go_wp2_with fail
      go_loopw [7] (fun y wr => ∃ (n : Nat) (z : Int), y = .int .i64 z ∧ Hid (z = i + 1 + n) ∧ Hid (n ≤ es.length) ∧ Hid (dnH i t es T n0 = dnH i t es T n) ∧ Hid (Kv w wr w1.heap.size i t a c es)) (fun y _ => (intOf y - i - 1).toNat)
      case atStart => exact ⟨n0, _, rfl, (by show _ = _; rfl), HN1, (by show _ = _; rfl), HV3⟩
      case round =>
        obtain ⟨n, z, rfl, hzn, hn, hd, hV⟩ := hrel
        have e2 : IntKind.i64.wrap (z - 1) = z - 1 := IntWalk.i64_in _ (by have := HI.out; have := hn.out; have := hzn.out; omega)
        have d0 := hV.out.d0
        have d1 := hV.out.d1
        have d2 := hV.out.d2
        have HRo := Lib.hid (rowed_any wr i t a es.length c (z - 1) HI.out)
        by_cases hz : n = 0
        · subst hz
          have HF : Hid (rowB i es.length (z - 1) = false) := by show _ = _; unfold rowB; rw [decide_eq_false (by have := hzn.out; omega)]
          rw [HF.out] at HRo
          have HD : Hid (dnH i t es T n0 = z) := by show _ = _; rw [hd.out, hzn.out]; show i + 1 = _; omega
          go_wp2_with fail
          go_fit HRo.out
          rintro e w4 ⟨rfl, hb⟩
          have HB4 := Lib.hid (hV.out.later hb).b
          clear hb
          go_wp2_with fail
          go_ret
          exact ⟨by rw [HR.out, HD.out]; first | done | rfl, HB4.out⟩
        · obtain ⟨m, rfl⟩ : ∃ m, n = m + 1 := ⟨n - 1, by omega⟩
          have HF : Hid (rowB i es.length (z - 1) = true) := by show _ = _; unfold rowB; rw [decide_eq_true (by have := hn.out; have := hzn.out; omega)]
          rw [HF.out] at HRo
          have HA : Hid (atL i t es (z - 1) = some (tm t es (m + 1))) := by
            show _ = _
            unfold atL
            rw [if_pos (by have := hn.out; have := hzn.out; omega)]
            congr 2
            have := hzn.out
            omega
          go_wp2_with fail
          go_fit HRo.out
          rintro e w4 ⟨rfl, hb⟩
          have HV4 := Lib.hid (hV.out.later hb)
          have HS := is_any HV4.out.e i t (z - 1) T HI.out
          rw [HA.out] at HS
          have HS := Lib.hid HS
          clear hb d0 d1 d2 hz
          have d0 := HV4.out.d0
          have d1 := HV4.out.d1
          have d2 := HV4.out.d2
          by_cases hq : tm t es (m + 1) = T
          · have b1 : (some (tm t es (m + 1)) == some T) = true := by rw [hq]; simp
            rw [b1] at HS
            have HD : Hid (dnH i t es T n0 = dnH i t es T m) := by show _ = _; rw [hd.out]; show (if _ then _ else _) = _; rw [if_pos hq]
            have HNm : Hid (m ≤ es.length) := by show _ ≤ _; have := hn.out; omega
            clear b1 hq
            go_wp2_with fail
            go_fit HS.out
            rintro e w5 ⟨rfl, hb⟩
            have HV5 := Lib.hid (HV4.out.later hb)
            clear hb d0 d1 d2
            go_wp2_with fail
            exact ⟨⟨m, _, rfl, (by show _ = _; have := hzn.out; omega), HNm, HD, HV5⟩, by have := hzn.out; simp only [intOf]; omega⟩
          · have b1 : (some (tm t es (m + 1)) == some T) = false := by simpa using hq
            rw [b1] at HS
            have HD : Hid (dnH i t es T n0 = z) := by show _ = _; rw [hd.out, hzn.out]; show (if _ then _ else _) = _; rw [if_neg hq]
            clear b1 hq
            go_wp2_with fail
            go_fit HS.out
            rintro e w5 ⟨rfl, hb⟩
            have HB5 := Lib.hid (HV4.out.later hb).b
            clear hb d0 d1 d2
            go_wp2_with fail
            go_ret
            exact ⟨by rw [HR.out, HD.out]; first | done | rfl, HB5.out⟩
end Go.Proofs.Ytcmfnokpbgfioaa
