/-
  rows: with, meets, the first that is another one.
-/
import Derived.Test.YtcmfnokpbgfioaaE2
namespace Go.Proofs.Ytcmfnokpbgfioaa
set_option linter.unusedVariables false
set_option linter.unusedSimpArgs false
open Go.RowKit

/-- A log that is told. -/
def LogP (i t : Int) (es : List Er) (w : World) (e : Ending) (w' : World) : Prop := ∃ v, e = .returned (.agg #[.int .i64 i, .int .i64 t, v]) ∧ EInB w' w.heap.size v es ∧ Below w.heap.size w w'
theorem Mat.app {w : World} {L : List Nat} {ls ms : List En} {es fs : List Er} (h : Mat w L ls es) (h2 : Mat w L ms fs) : Mat w L (ls ++ ms) (es ++ fs) := by
  refine ⟨by rw [List.length_append, List.length_append, h.len, h2.len], fun k x e hx he => ?_⟩
  by_cases hk : k < ls.length
  · rw [List.getElem?_append_left hk] at hx
    rw [List.getElem?_append_left (by rw [← h.len]; exact hk)] at he
    exact h.each k x e hx he
  · rw [List.getElem?_append_right (by omega)] at hx
    rw [List.getElem?_append_right (by rw [← h.len]; omega), ← h.len] at he
    exact h2.each _ x e hx he
theorem concat_ein {w : World} {g : Nat} {u1 u2 : Value} {es ms : List Er} (c1 : w.cell? ⟨g, 0, none⟩ = some u1) (c2 : w.cell? ⟨g, 1, none⟩ = some u2) (h1 : EIn w u1 es) (h2 : EIn w u2 ms) (l1 : es.length ≤ 100000) (l2 : ms.length ≤ 100000) :
    Calls Try.prog 51 #[.slice (some ⟨g, 0, none⟩) 2 2] w (OutP (es ++ ms) w) := by
  obtain ⟨ls, k1, m1⟩ := h1.mat
  obtain ⟨ns, k2, m2⟩ := h2.mat
  refine (Concat_two c1 c2 k1 k2 (by rw [m1.len]; exact l1) (by rw [m2.len]; exact l2)).mono ?_
  rintro e w' ⟨v, rfl, hR⟩
  exact ⟨v, rfl, ((m1.app m2).below hR.grown).ein hR.told, hR.grown⟩

set_option maxRecDepth 100000 in
set_option maxHeartbeats 3200000 in
theorem with_any {w : World} {a : Option Addr} {c : Nat} {es : List Er} {m : Value} {ms : List Er} (h : EIn w (.slice a es.length c) es) (hm : EIn w m ms) (i t : Int) (k : Nat) (hk : k ≤ es.length) (hi : 0 ≤ i ∧ i + es.length ≤ 1099511627776) (l1 : es.length ≤ 50000) (l2 : ms.length ≤ 50000) (hd : ∀ e ∈ es.take k ++ ms, e.d.length ≤ 1000000) :
    Calls Try.prog 44 #[.agg #[.int .i64 i, .int .i64 t, .slice a es.length c], .int .i64 (i + k), m] w (LogP i t (es.take k ++ ms) w) := by
  obtain ⟨a2, c2, rfl, _, _⟩ := hm.slice
  have hcl : es.length ≤ c := by obtain ⟨a', c', hv, h1, _⟩ := h.slice; simp only [Value.slice.injEq] at hv; omega
  have hV := Kv.new (w0 := w) (i := i) (t := t) h (Below.refl _ _) 63
  have hal2 := lay_alloc (w.alloc (.cells #[.int .i64 i, .int .i64 t, .slice a es.length c] 63)) (.cells #[.int .i64 0, .int .i64 0, .slice none 0 0] 24)
  have hd2 := DC.alloc (w.alloc (.cells #[.int .i64 i, .int .i64 t, .slice a es.length c] 63)) [.int .i64 0, .int .i64 0, .slice none 0 0] 24
  have hs : (w.alloc (.cells #[.int .i64 i, .int .i64 t, .slice a es.length c] 63)).heap.size = w.heap.size + 1 := by simp
  rw [hs] at hd2
  have HS : Hid (((w.alloc (.cells #[.int .i64 i, .int .i64 t, .slice a es.length c] 63)).alloc (.cells #[.int .i64 0, .int .i64 0, .slice none 0 0] 24)).heap.size = w.heap.size + 1 + 1) := by show _ = _; simp
  have HV := Lib.hid (hV.later hal2)
  have HZ := Lib.hid hd2
  have HM := Lib.hid (hm.later (HV.out.b))
  have e1 : IntKind.i64.wrap (i + k - i) = k := (IntWalk.i64_in _ (by omega)).trans (by omega)
  have b1 : (k : Int) ≤ (c : Int) := by omega
  have b0 : (0 : Int) ≤ (k : Int) := by omega
  have HT := Lib.hid (HV.out.e.take k hk)
  have HD := Lib.hid hd
  have HL : Hid ((es.take k).length ≤ 100000 ∧ ms.length ≤ 100000 ∧ (es.take k ++ ms).length ≤ 100000) := by
    show _ ∧ _ ∧ _
    rw [List.length_append, List.length_take]; omega
  clear h hm hV hal2 hd2 hs hd
  go_enter Try.func44, Try.ntmps44
  go_wp2_with fail
  generalize (w.alloc _).alloc _ = W at *
  have hal := lay_alloc W (.cells #[.slice a k c, .slice a2 ms.length c2] 22)
  have hdc := DC.alloc W [.slice a k c, .slice a2 ms.length c2] 22
  have hV2 := HV.out.later hal
  have HV2 := Lib.hid hV2
  have HZ2 := Lib.hid (HZ.out.below hal)
  have hcc := concat_ein (hdc.cells 0 _ rfl) (hdc.cells 1 _ rfl) (HT.out.later hal) (HM.out.later hal) HL.out.1 HL.out.2.1
  rw [HS.out] at hcc
  have HC := Lib.hid hcc
  clear hal hdc hV2 HM HT HV HZ hcc
  go_fit HC.out
  rintro e w3 ⟨v3, rfl, hv3, hb3⟩
  have HSZ : Hid (w.heap.size + 1 + 1 ≤ w3.heap.size) := by show _ ≤ _; rw [← HS.out]; exact Nat.le_trans (lay_alloc W _).size hb3.size
  have HV3 := Lib.hid (HV2.out.later hb3)
  have HZ3 := Lib.hid (HZ2.out.below hb3)
  have HO := Lib.hid (own_any hv3 HL.out.2.2 HD.out)
  clear hv3 hb3 HV2 HZ2 HC
  go_wp2_with fail
  go_fit HO.out
  rintro e w4 ⟨v4, rfl, hv4, hb4⟩
  have HV4 := Lib.hid (HV3.out.later hb4)
  have HZ4 := Lib.hid (HZ3.out.below hb4)
  have HB4 := Lib.hid HV4.out.b
  obtain ⟨a4, n4, c4, rfl⟩ : ∃ a4 n4 c4, v4 = .slice a4 n4 c4 := by obtain ⟨a4, c4, hv, _⟩ := hv4.ein.slice; exact ⟨a4, _, c4, hv⟩
  have HE4 := Lib.hid hv4
  have d0 := HV4.out.d0
  have d1 := HV4.out.d1
  have d2 := HV4.out.d2
  have x2 := HV4.out.dc.fz 2
  have z0 := HZ4.out.cells 0 _ rfl
  have z1 := HZ4.out.cells 1 _ rfl
  have z2 := HZ4.out.cells 2 _ rfl
  have y0 := HZ4.out.fz 0
  have y1 := HZ4.out.fz 1
  have y2 := HZ4.out.fz 2
  clear hv4 hb4 HV3 HZ3 HO
  go_wp2_with fail
  have K := (((HZ4.out.other (k := w.heap.size) (o := 2) (x := .slice a4 n4 c4) (Nat.succ_ne_self _)).set 0 (.int .i64 i) (by simp)).set 1 (.int .i64 t) (by simp)).set 2 (.slice a4 n4 c4) (by simp)
  have hE := (((HE4.out.set (b := w.heap.size) (o := 2) (x := .slice a4 n4 c4) (by have := HSZ.out; omega)).set (b := w.heap.size + 1) (o := 0) (x := .int .i64 i) (by have := HSZ.out; omega)).set (b := w.heap.size + 1) (o := 1) (x := .int .i64 t) (by have := HSZ.out; omega)).set (b := w.heap.size + 1) (o := 2) (x := .slice a4 n4 c4) (by have := HSZ.out; omega)
  have hB := (((HB4.out.setCell (p := ⟨w.heap.size, 2, none⟩) (Nat.le_refl _) (.slice a4 n4 c4)).setCell (p := ⟨w.heap.size + 1, 0, none⟩) (Nat.le_succ _) (.int .i64 i)).setCell (p := ⟨w.heap.size + 1, 1, none⟩) (Nat.le_succ _) (.int .i64 t)).setCell (p := ⟨w.heap.size + 1, 2, none⟩) (Nat.le_succ _) (.slice a4 n4 c4)
  have r0 := K.cells 0 _ rfl
  have r1 := K.cells 1 _ rfl
  have r2 := K.cells 2 _ rfl
  clear d0 d1 d2 x2 z0 z1 z2 y0 y1 y2
  generalize World.setCell _ _ _ = w5 at *
  exact bodyPost_ret (v := .agg #[.int .i64 i, .int .i64 t, .slice a4 n4 c4]) (by simp [results, Try.results44, go_sem, r0, r1, r2]) rfl ⟨_, rfl, hE.keep (by have := HSZ.out; omega) (Nat.le_refl _) (fun _ _ _ => rfl), hB⟩

set_option maxRecDepth 100000 in
set_option maxHeartbeats 3200000 in
theorem meets_any {w : World} {a : Option Addr} {c : Nat} {es : List Er} {m : Value} {ms : List Er} (h : EIn w (.slice a es.length c) es) (hm : EIn w m ms) (i t x u : Int) (hi : 0 ≤ i ∧ i + es.length ≤ 1099511627776) :
    Calls Try.prog 43 #[.agg #[.int .i64 i, .int .i64 t, .slice a es.length c], .int .i64 x, .int .i64 u, m] w (BoolP (meetB i t es x u ms) w) := by
  obtain ⟨a2, c2, rfl, _, _⟩ := hm.slice
  have hV := Kv.new (w0 := w) (i := i) (t := t) h (Below.refl _ _) 63
  have HV := Lib.hid hV
  have HU := Lib.hid (inRange_any u (w.alloc (.cells #[.int .i64 i, .int .i64 t, .slice a es.length c] 63)))
  have HG := Lib.hid (goOn_ein (hm.later hV.b) x u)
  have HMe : Hid (meetB i t es x u ms = (inM u && goOnR x u ms && (decide (x < i) || (atL i t es x == some u)))) := by show _ = _; rfl
  clear h hm hV
  cases hu : inM u with
  | false =>
    have HR : Hid (meetB i t es x u ms = false) := by show _ = _; rw [HMe.out, hu]; rfl
    rw [hu] at HU
    go_enter Try.func43, Try.ntmps43
    go_wp2_with fail
    go_fit HU.out
    rintro e w' ⟨rfl, rfl⟩
    go_wp2_with fail
    go_ret
    exact ⟨by rw [HR.out]; first | done | rfl, HV.out.b⟩
  | true =>
    rw [hu] at HU
    cases hg : goOnR x u ms with
    | false =>
      have HR : Hid (meetB i t es x u ms = false) := by show _ = _; rw [HMe.out, hu, hg]; rfl
      rw [hg] at HG
      go_enter Try.func43, Try.ntmps43
      go_wp2_with fail
      go_fit HU.out
      rintro e w' ⟨rfl, rfl⟩
      go_wp2_with fail
      go_fit HG.out
      rintro e w2 ⟨rfl, hb⟩
      have HB2 := Lib.hid (HV.out.later hb).b
      clear hb
      go_wp2_with fail
      go_ret
      exact ⟨by rw [HR.out]; first | done | rfl, HB2.out⟩
    | true =>
      have HR : Hid (meetB i t es x u ms = (decide (x < i) || (atL i t es x == some u))) := by show _ = _; rw [HMe.out, hu, hg]; rfl
      rw [hg] at HG
      by_cases hx : x < i
      · have HR : Hid (meetB i t es x u ms = true) := by show _ = _; rw [HR.out, decide_eq_true hx]; rfl
        go_enter Try.func43, Try.ntmps43
        go_wp2_with fail
        go_fit HU.out
        rintro e w' ⟨rfl, rfl⟩
        go_wp2_with fail
        go_fit HG.out
        rintro e w2 ⟨rfl, hb⟩
        have HV2 := Lib.hid (HV.out.later hb)
        have d0 := HV2.out.d0
        have d1 := HV2.out.d1
        have d2 := HV2.out.d2
        clear hb
        go_wp2_with fail
        go_ret
        exact ⟨by rw [HR.out]; first | done | rfl, HV2.out.b⟩
      · go_enter Try.func43, Try.ntmps43
        go_wp2_with fail
        go_fit HU.out
        rintro e w' ⟨rfl, rfl⟩
        go_wp2_with fail
        go_fit HG.out
        rintro e w2 ⟨rfl, hb⟩
        have HV2 := Lib.hid (HV.out.later hb)
        have d0 := HV2.out.d0
        have d1 := HV2.out.d1
        have d2 := HV2.out.d2
        have HS := Lib.hid (is_any HV2.out.e i t x u hi)
        clear hb
        go_wp2_with fail
        go_fit HS.out
        rintro e w3 ⟨rfl, hb⟩
        have HB3 := Lib.hid (HV2.out.later hb).b
        clear hb
        go_wp2_with fail
        go_ret
        exact ⟨by rw [HR.out]; first | done | rfl, HB3.out⟩

set_option maxRecDepth 100000 in
set_option maxHeartbeats 3200000 in
/-- The closure of Join: another one than the log has. -/
theorem other_any {w w0 : World} {g : Nat} {i t : Int} {a : Option Addr} {c : Nat} {es : List Er} (hV : Kv w0 w g i t a c es) (hi : 0 ≤ i ∧ i + es.length ≤ 1099511627776) (e : Er) (p : Option Addr) (n1 c1 : Nat) :
    Calls Try.prog 46 #[.agg #[.int .i64 e.i, .int .i64 e.t, .slice p n1 c1], .pointer (some ⟨g, 0, none⟩)] w (BoolP (oth i t es e) w) := by
  obtain ⟨ei, et, ed⟩ := e
  have hal := lay_alloc w (.cells #[.int .i64 ei, .int .i64 et, .slice p n1 c1] 44)
  have HB := Lib.hid hal
  have HV := Lib.hid (hV.later hal)
  have HX := Lib.hid (DC.alloc w [.int .i64 ei, .int .i64 et, .slice p n1 c1] 44)
  have d0 := HV.out.d0
  have d1 := HV.out.d1
  have d2 := HV.out.d2
  have x0 := HX.out.cells 0 _ rfl
  have x1 := HX.out.cells 1 _ rfl
  have hO : oth i t es ⟨ei, et, ed⟩ = (decide (i < ei) && !(atL i t es ei == some et)) := rfl
  have HO := Lib.hid hO
  have HS := Lib.hid (is_any HV.out.e i t ei et hi)
  clear hal hV hO
  by_cases h1 : i < ei
  · go_enter Try.func46, Try.ntmps46
    go_wp2_with fail
    go_fit HS.out
    rintro e w2 ⟨rfl, hb⟩
    have HB2 := Lib.hid (HB.out.trans (hb.mono HB.out.size))
    clear hb
    go_wp2_with fail
    go_ret
    exact ⟨by rw [HO.out, decide_eq_true h1]; first | done | rfl, HB2.out⟩
  · go_enter Try.func46, Try.ntmps46
    go_wp2_with fail
    go_ret
    exact ⟨by rw [HO.out, decide_eq_false (by omega)]; first | done | rfl, HB.out⟩
def fstI (o : Option Nat) (j : Nat) : Int := match o with
  | some k => (k : Int) + j
  | none => -1
set_option maxRecDepth 100000 in
set_option maxHeartbeats 3200000 in
theorem index_any {w w0 : World} {g : Nat} {i t : Int} {a : Option Addr} {c : Nat} {es : List Er} (hV : Kv w0 w g i t a c es) (hi : 0 ≤ i ∧ i + es.length ≤ 1099511627776) {m : Value} {ms : List Er} (hm : EIn w m ms) (hl : ms.length ≤ 1000000) :
    Calls Try.prog 45 #[m, .func (.func 46) #[] #[.pointer (some ⟨g, 0, none⟩)]] w (IntP (fstI (fstO i t es ms) 0) w) := by
  obtain ⟨a2, c2, rfl, _, _⟩ := hm.slice
  have HV := Lib.hid hV
  have HM := Lib.hid hm
  clear hV hm
  go_enter Try.func45, Try.ntmps45
  go_wp2_with fail
  go_loopw [5, 8] (fun _ j wr => ∃ k : Nat, j = .int .i64 k ∧ k ≤ ms.length ∧ Hid (fstI (fstO i t es ms) 0 = fstI (fstO i t es (ms.drop k)) k) ∧ Hid (Below w.heap.size w wr)) (fun _ j _ => ms.length - (intOf j).toNat)
  case atStart => exact ⟨0, rfl, Nat.zero_le _, (by show _ = _; rw [List.drop_zero]), (by show Below _ _ _; exact Below.refl _ _)⟩
  case round =>
    obtain ⟨k, rfl, hk, hF, hB⟩ := hrel
    by_cases hlt : k < ms.length
    · have he : ms[k]? = some ms[k] := List.getElem?_eq_getElem hlt
      have HDr : Hid (ms.drop k = ms[k] :: ms.drop (k + 1)) := by show _ = _; exact List.drop_eq_getElem_cons hlt
      generalize ms[k] = e at *
      obtain ⟨g2, off, p, c', rfl, k0, k1, k2, _⟩ := (HM.out.later hB.out).at he
      have HO := Lib.hid (other_any (HV.out.later hB.out) hi e p e.d.length c')
      have hkk : (k : Int) < (ms.length : Int) := by omega
      have HST : Hid (fstO i t es (e :: ms.drop (k + 1)) = if oth i t es e then some 0 else (fstO i t es (ms.drop (k + 1))).map (· + 1)) := by show _ = _; rfl
      clear he
      cases ho : oth i t es e with
      | true =>
        rw [ho] at HO
        have HR : Hid (fstI (fstO i t es ms) 0 = k) := by show _ = _; rw [hF.out, HDr.out, HST.out, ho]; show (0 : Int) + k = k; omega
        go_wp2_with fail
        go_fit HO.out
        rintro e2 w2 ⟨rfl, hb⟩
        have HB2 := Lib.hid (hB.out.trans (hb.mono hB.out.size))
        clear hb
        go_wp2_with fail
        go_ret
        exact ⟨by rw [HR.out]; first | done | rfl, HB2.out⟩
      | false =>
        rw [ho] at HO
        have HR : Hid (fstI (fstO i t es ms) 0 = fstI (fstO i t es (ms.drop (k + 1))) (k + 1 : Nat)) := by
          show _ = _
          rw [hF.out, HDr.out, HST.out, ho, if_neg (by decide)]
          cases fstO i t es (ms.drop (k + 1)) with
          | none => rfl
          | some q => show ((q + 1 : Nat) : Int) + k = (q : Int) + (k + 1 : Nat); omega
        go_wp2_with fail
        go_fit HO.out
        rintro e2 w2 ⟨rfl, hb⟩
        have HB2 := Lib.hid (hB.out.trans (hb.mono hB.out.size))
        clear hb
        go_wp2_with fail
        exact ⟨⟨k + 1, by go_num, hlt, HR, HB2⟩, by show ms.length - ((k : Int) + 1).toNat < ms.length - (k : Int).toNat; omega⟩
    · obtain rfl : k = ms.length := by omega
      have HR : Hid (fstI (fstO i t es ms) 0 = -1) := by show _ = _; rw [hF.out, List.drop_length]; rfl
      go_wp2_with fail
      go_ret
      exact ⟨by rw [HR.out]; first | done | rfl, hB.out⟩
end Go.Proofs.Ytcmfnokpbgfioaa
