/-
  RowsHints walked: from where on to ask, who is fresh, and what is cut. (Written by genhints.py.)
-/
import Derived.Test.YtcmfnokpbgfioaaChecksW
import Derived.Test.YtcmfnokpbgfioaaE5
import Derived.Test.YtcmfnokpbgfioaaRi
import Derived.Test.YtcmfnokpbgfioaaRk
import Derived.Test.YtcmfnokpbgfioaaSm
import Derived.Test.YtcmfnokpbgfioaaFlow2
namespace Go.Proofs.Ytcmfnokpbgfioaa
set_option linter.unusedVariables false
set_option linter.unusedSimpArgs false
open Go.RowKit

/-- A block of some kind that holds no entries and no bytes. -/
theorem EInB.kept {w w' : World} {B g : Nat} {v : Value} {es : List Er} {cs : Array Value} {T : TypeId} (h : EInB w B v es) (hg : w.grownBy w' (some g)) (hh : w.heap[g]? = some (.cells cs T (0, 0))) (h1 : T ≠ 44) (h2 : T ≠ 5) : EInB w' B v es := by
  have ne : ∀ {E : TypeId} {sz n : Nat} {x : Value} {xs : List Value}, w.ownsRow B E sz x n xs → T ≠ E → x.ownBlock ≠ some g := fun {E sz n x xs} ho hE e => by
    rcases ho.2 with ⟨rfl, _⟩ | ⟨g', cap, cur, rfl, _, hg', _⟩
    · cases e
    · obtain rfl : g' = g := by simpa [Value.ownBlock] using e
      rw [hg'] at hh
      simp only [Option.some.injEq, Obj.cells.injEq] at hh
      exact hE hh.2.1.symm
  obtain ⟨ls, e1, e2, e3⟩ := h
  exact ⟨ls, World.ownsRow.kept e1 hg (.inr (ne e1 h1)), e2, fun k y e hy he => ⟨(e3 k y e hy he).1, (e3 k y e hy he).2.1, World.ownsRow.kept (e3 k y e hy he).2.2 hg (.inr (ne (e3 k y e hy he).2.2 h2))⟩⟩
inductive Kh where
  | val (v : Value)
  | log (x u : Int) (es : List Er)
  | box
def SKh (B : Nat) : Kh → World → Value → Prop
  | .val u, _, v => v = u
  | .log x u es, w, v => ∃ y, v = .agg #[.int .i64 x, .int .i64 u, y] ∧ EInB w B y es
  | .box, w, v => ∃ g, v = .pointer (some ⟨g, 0, none⟩) ∧ B ≤ g ∧ w.heap[g]? = some (.cells #[.int .i64 0, .int .i64 0, .slice none 0 0] 24 (0, 0))
def SLh (B : Nat) (ks : List Kh) (i : Nat) (w : World) (v : Value) : Prop := match ks[i]? with
  | some k => SKh B k w v
  | none => True
theorem SLh_stable (B : Nat) (ks : List Kh) (i : Nat) (w w' : World) (v : Value) (h : SLh B ks i w v) (hb : Below w.heap.size w w') : SLh B ks i w' v := by
  unfold SLh at *
  cases hk : ks[i]? with
  | none => trivial
  | some k =>
    rw [hk] at h
    cases k with
    | val u => exact h
    | log x u es => obtain ⟨y, hv, hE⟩ := h; exact ⟨y, hv, hE.later hb⟩
    | box => obtain ⟨g, hv, hg, hh⟩ := h; exact ⟨g, hv, hg, (hb.block g (Array.getElem?_eq_some_iff.1 hh).1).trans hh⟩
theorem put3_grown (w : World) (g : Nat) (v0 v1 v2 : Value) : w.grownBy (put3 w g v0 v1 v2) (some g) :=
  ⟨rfl, rfl, rfl, by simp [put3, World.setCell], fun k _ hk => put3_heap w g k v0 v1 v2 (fun e => hk (by rw [e]))⟩
theorem dc_block {w : World} {g : Nat} {cs : Array Value} {T : TypeId} (h : w.heap[g]? = some (.cells cs T (0, 0))) : DC w g cs.toList :=
  ⟨fun i v hv => by rw [cell_of_row w _ _ _ _ _ h]; simpa using hv, fun i => frozen_of_row w g i _ _ h, (Array.getElem?_eq_some_iff.1 h).1⟩
set_option maxRecDepth 100000 in
set_option maxHeartbeats 12800000 in
theorem Hints_law {w : World} {v : Value} {es : List Er} (h : EIn w v es) (hf : FitI es) (hz : ∀ e ∈ es, e.d.length ≤ 140737488351232) (i t x u : Int) : Calls Try.prog 6 #[.agg #[.int .i64 i, .int .i64 t, v], .int .i64 x, .int .i64 u] w (BoolP true w) := by
  obtain ⟨a, c, rfl, _, _⟩ := h.slice
  have hV := Kv.new (w0 := w) (i := i) (t := t) h (Below.refl _ _) 24
  have hal := lay_alloc (w.alloc (.cells #[.int .i64 i, .int .i64 t, .slice a es.length c] 24)) (.cells #[.slice a es.length c] 22)
  have hs : (w.alloc (.cells #[.int .i64 i, .int .i64 t, .slice a es.length c] 24)).heap.size = w.heap.size + 1 := by simp
  have hdc := DC.alloc (w.alloc (.cells #[.int .i64 i, .int .i64 t, .slice a es.length c] 24)) [.slice a es.length c] 22
  rw [hs] at hdc
  have hls : LsIn ((w.alloc (.cells #[.int .i64 i, .int .i64 t, .slice a es.length c] 24)).alloc (.cells #[.slice a es.length c] 22)) (w.heap.size + 1) [es] := fun k l hk => by
    match k, hk with
    | 0, hk => simp only [List.getElem?_cons_zero, Option.some.injEq] at hk; subst hk; exact ⟨_, hdc.cells 0 _ rfl, (hV.later hal).e⟩
    | k + 1, hk => simp at hk
  have HL := Lib.hid (light_one hls)
  have HV := Lib.hid (hV.later hal)
  have HFI := Lib.hid hf
  have HSz := Lib.hid hz
  have HEo := Lib.hid h
  clear hV hal hs hdc hls h hf hz
  go_enter Try.func6, Try.ntmps6
  go_wp2_with fail
  go_fit HL.out
  rintro e0 w1 ⟨b, rfl, hbl, rfl⟩
  generalize (w.alloc _).alloc _ = w1 at *
  clear HL
  cases b with
  | false =>
    go_wp2_with fail
    go_fit (awake_any w1)
    rintro ez wz ⟨rfl, hbz⟩
    have HBz := Lib.hid (HV.out.b.trans (hbz.mono HV.out.b.size))
    clear hbz
    go_wp2_with fail
    go_ret
    exact ⟨rfl, HBz.out⟩
  | true =>
    have HLn : Hid (es.length ≤ 200) := hbl rfl es (by simp)
    clear hbl
    have d0 := HV.out.d0
    have d1 := HV.out.d1
    have d2 := HV.out.d2
    have hcc := both_any HV.out.e (by have := HLn.out; omega) HSz.out i t
    have HCC := Lib.hid hcc
    have hx0 := HV.out.dc.fz 0
    have hx1 := HV.out.dc.fz 1
    have hx2 := HV.out.dc.fz 2
    clear hcc
    go_wp2_with fail
    go_fit HCC.out
    rintro e2 w2 ⟨u2, rfl, hu2, hb⟩
    obtain ⟨ua, uc, rfl, _, _⟩ := hu2.ein.slice
    have HV2 := Lib.hid (HV.out.later hb)
    have HU2 := Lib.hid hu2
    have hlt0 := HV.out.dc.lt
    have HSB : Hid (w.heap.size < w1.heap.size) := hlt0
    clear hb HV HCC hu2 hlt0 d0 d1 d2 hx0 hx1 hx2
    have hz3 := lay_alloc w2 (.cells #[.int .i64 0, .int .i64 0, .slice none 0 0] 27)
    have HV3 := Lib.hid (HV2.out.later hz3)
    clear hz3
    have d0 := HV3.out.d0
    have d1 := HV3.out.d1
    have d2 := HV3.out.d2
    have f0 := HV3.out.dc.fz 0
    have f1 := HV3.out.dc.fz 1
    have f2 := HV3.out.dc.fz 2
    have hlt2 : w.heap.size < w2.heap.size := HV2.out.dc.lt
    have hne : ¬ (w2.heap.size = w.heap.size) := by omega
    have hne2 : ¬ (w.heap.size = w2.heap.size) := by omega
    have HL2 := Lib.hid hlt2
    clear hlt2
    go_upto_region 4 with fail
    clear d0 d1 d2 f0 f1 f2 hne hne2
    change Code.wp _ _ _ _ (put3 (put3 (w2.alloc (.cells #[.int .i64 0, .int .i64 0, .slice none 0 0] 27)) w.heap.size (.int .i64 i) (.int .i64 t) (.slice ua es.length uc)) w2.heap.size (.int .i64 i) (.int .i64 t) (.slice a es.length c))
    have hbf := put3_below (b := w2.heap.size) (.int .i64 i) (.int .i64 t) (.slice a es.length c) (put3_below (b := w.heap.size) (.int .i64 i) (.int .i64 t) (.slice ua es.length uc) HV3.out.b (Nat.le_refl _)) (Nat.le_of_lt HL2.out)
    have hdx := put3_dc (v0 := .int .i64 i) (v1 := .int .i64 t) (v2 := .slice a es.length c) (put3_other (b := w.heap.size) (v0 := .int .i64 i) (v1 := .int .i64 t) (v2 := .slice ua es.length uc) (DC.alloc w2 [.int .i64 0, .int .i64 0, .slice none 0 0] 27) (by have := HL2.out; omega))
    have hdl := put3_other (b := w2.heap.size) (v0 := .int .i64 i) (v1 := .int .i64 t) (v2 := .slice a es.length c) (put3_dc (v0 := .int .i64 i) (v1 := .int .i64 t) (v2 := .slice ua es.length uc) HV3.out.dc) (by have := HL2.out; omega)
    have hsz : (put3 (put3 (w2.alloc (.cells #[.int .i64 0, .int .i64 0, .slice none 0 0] 27)) w.heap.size (.int .i64 i) (.int .i64 t) (.slice ua es.length uc)) w2.heap.size (.int .i64 i) (.int .i64 t) (.slice a es.length c)).heap.size = w2.heap.size + 1 := by simp [put3, World.setCell]
    have hku : ∀ k, w1.heap.size ≤ k → k < w2.heap.size → (put3 (put3 (w2.alloc (.cells #[.int .i64 0, .int .i64 0, .slice none 0 0] 27)) w.heap.size (.int .i64 i) (.int .i64 t) (.slice ua es.length uc)) w2.heap.size (.int .i64 i) (.int .i64 t) (.slice a es.length c)).heap[k]? = w2.heap[k]? := fun k h1 h2 => by
      rw [put3_heap _ _ _ _ _ _ (by omega), put3_heap _ _ _ _ _ _ (by have := HSB.out; omega)]
      exact Below.heap_alloc _ _ _ h2
    have heu := (HU2.out.keep (B' := w1.heap.size) (Nat.le_refl _) (by rw [hsz]; omega) hku).ein
    have HEU := Lib.hid heu
    have HDX := Lib.hid hdx
    have HDL := Lib.hid hdl
    have HBF := Lib.hid hbf
    clear hbf hdx hdl hsz hku heu HV2 HU2 HV3 HSB HL2
    generalize put3 (put3 _ _ _ _ _) _ _ _ _ = w4 at *
    have HV4 : Hid (Kv w w4 w.heap.size i t ua uc es) := ⟨HDL.out, HEU.out, HBF.out⟩
    have HX4 : Hid (Kv w w4 w2.heap.size i t a c es) := ⟨HDX.out, HEo.out.later HBF.out, HBF.out⟩
    clear HDL HDX HEU HBF HEo
    refine wp_region_flowL (S := SLh w4.heap.size [.val (.agg #[.int .i64 i, .int .i64 t, .slice ua es.length uc]), .val (.int .i64 x), .val (.int .i64 (hintL i t es x)), .val (.agg #[.int .i64 i, .int .i64 t, .slice ua es.length uc]), .val (.int .i64 x), .val (.int .i64 u), .val (.bool (freshB i t es x u)), .val (.agg #[.int .i64 i, .int .i64 t, .slice ua es.length uc]), .val (.int .i64 x), .val (.int .i64 u), .log x u (cutL i t es x u), .box, .val (.int .i64 (hintL i t es x)), .val (.bool (freshB i t es x u))]) 14 (by kernel_rfl) rfl (SLh_stable _ _) (by kernel_rfl) (by kernel_rfl) (by kernel_rfl) ?_ ?_
    · intro m hm
      match m, hm with
      | 0, _ =>
        refine fsL_plain _ _ rfl rfl rfl ?_
        intro a1 w1 hb hrest hneed
        have p3 : a1.tmps.getD 3 undef = .pointer (some ⟨w.heap.size, 0, none⟩) := (hrest 3 (by kernel_rfl)).trans rfl
        have p3' := (Array.getD_eq_getD_getElem? ..).symm.trans p3
        have HVb := HV4.out.later hb
        have q0 := HVb.d0
        have q1 := HVb.d1
        have q2 := HVb.d2
        clear HVb
        clear hneed hrest
        go_simp
        exact ⟨_, rfl, rfl, Below.refl _ _⟩
      | 1, _ =>
        refine fsL_plain _ _ rfl rfl rfl ?_
        intro a1 w1 hb hrest hneed
        have p1 : a1.tmps.getD 1 undef = .int .i64 x := (hrest 1 (by kernel_rfl)).trans rfl
        have p1' := (Array.getD_eq_getD_getElem? ..).symm.trans p1
        clear hneed hrest
        go_simp
        exact ⟨_, rfl, rfl, Below.refl _ _⟩
      | 2, _ =>
        refine fsL_plain _ _ rfl rfl rfl ?_
        intro a1 w1 hb hrest hneed
        have e25 : a1.tmps.getD 25 undef = (.agg #[.int .i64 i, .int .i64 t, .slice ua es.length uc]) := hneed 0 25 rfl rfl
        have e25' := (Array.getD_eq_getD_getElem? ..).symm.trans e25
        have e26 : a1.tmps.getD 26 undef = (.int .i64 x) := hneed 1 26 rfl rfl
        have e26' := (Array.getD_eq_getD_getElem? ..).symm.trans e26
        have H := Hint_any (HV4.out.e.later hb) i t x
        clear hneed hrest
        go_simp
        refine H.mono ?_
        rintro e w2 ⟨rfl, hb2⟩
        exact ⟨_, rfl, rfl, hb2⟩
      | 3, _ =>
        refine fsL_plain _ _ rfl rfl rfl ?_
        intro a1 w1 hb hrest hneed
        have p3 : a1.tmps.getD 3 undef = .pointer (some ⟨w.heap.size, 0, none⟩) := (hrest 3 (by kernel_rfl)).trans rfl
        have p3' := (Array.getD_eq_getD_getElem? ..).symm.trans p3
        have HVb := HV4.out.later hb
        have q0 := HVb.d0
        have q1 := HVb.d1
        have q2 := HVb.d2
        clear HVb
        clear hneed hrest
        go_simp
        exact ⟨_, rfl, rfl, Below.refl _ _⟩
      | 4, _ =>
        refine fsL_plain _ _ rfl rfl rfl ?_
        intro a1 w1 hb hrest hneed
        have p1 : a1.tmps.getD 1 undef = .int .i64 x := (hrest 1 (by kernel_rfl)).trans rfl
        have p1' := (Array.getD_eq_getD_getElem? ..).symm.trans p1
        clear hneed hrest
        go_simp
        exact ⟨_, rfl, rfl, Below.refl _ _⟩
      | 5, _ =>
        refine fsL_plain _ _ rfl rfl rfl ?_
        intro a1 w1 hb hrest hneed
        have p2 : a1.tmps.getD 2 undef = .int .i64 u := (hrest 2 (by kernel_rfl)).trans rfl
        have p2' := (Array.getD_eq_getD_getElem? ..).symm.trans p2
        clear hneed hrest
        go_simp
        exact ⟨_, rfl, rfl, Below.refl _ _⟩
      | 6, _ =>
        refine fsL_plain _ _ rfl rfl rfl ?_
        intro a1 w1 hb hrest hneed
        have e28 : a1.tmps.getD 28 undef = (.agg #[.int .i64 i, .int .i64 t, .slice ua es.length uc]) := hneed 3 28 rfl rfl
        have e28' := (Array.getD_eq_getD_getElem? ..).symm.trans e28
        have e29 : a1.tmps.getD 29 undef = (.int .i64 x) := hneed 4 29 rfl rfl
        have e29' := (Array.getD_eq_getD_getElem? ..).symm.trans e29
        have e30 : a1.tmps.getD 30 undef = (.int .i64 u) := hneed 5 30 rfl rfl
        have e30' := (Array.getD_eq_getD_getElem? ..).symm.trans e30
        have H := Fresh_any (HV4.out.e.later hb) i t x u
        clear hneed hrest
        go_simp
        refine H.mono ?_
        rintro e w2 ⟨rfl, hb2⟩
        exact ⟨_, rfl, rfl, hb2⟩
      | 7, _ =>
        refine fsL_plain _ _ rfl rfl rfl ?_
        intro a1 w1 hb hrest hneed
        have p3 : a1.tmps.getD 3 undef = .pointer (some ⟨w.heap.size, 0, none⟩) := (hrest 3 (by kernel_rfl)).trans rfl
        have p3' := (Array.getD_eq_getD_getElem? ..).symm.trans p3
        have HVb := HV4.out.later hb
        have q0 := HVb.d0
        have q1 := HVb.d1
        have q2 := HVb.d2
        clear HVb
        clear hneed hrest
        go_simp
        exact ⟨_, rfl, rfl, Below.refl _ _⟩
      | 8, _ =>
        refine fsL_plain _ _ rfl rfl rfl ?_
        intro a1 w1 hb hrest hneed
        have p1 : a1.tmps.getD 1 undef = .int .i64 x := (hrest 1 (by kernel_rfl)).trans rfl
        have p1' := (Array.getD_eq_getD_getElem? ..).symm.trans p1
        clear hneed hrest
        go_simp
        exact ⟨_, rfl, rfl, Below.refl _ _⟩
      | 9, _ =>
        refine fsL_plain _ _ rfl rfl rfl ?_
        intro a1 w1 hb hrest hneed
        have p2 : a1.tmps.getD 2 undef = .int .i64 u := (hrest 2 (by kernel_rfl)).trans rfl
        have p2' := (Array.getD_eq_getD_getElem? ..).symm.trans p2
        clear hneed hrest
        go_simp
        exact ⟨_, rfl, rfl, Below.refl _ _⟩
      | 10, _ =>
        refine fsL_plain _ _ rfl rfl rfl ?_
        intro a1 w1 hb hrest hneed
        have e32 : a1.tmps.getD 32 undef = (.agg #[.int .i64 i, .int .i64 t, .slice ua es.length uc]) := hneed 7 32 rfl rfl
        have e32' := (Array.getD_eq_getD_getElem? ..).symm.trans e32
        have e33 : a1.tmps.getD 33 undef = (.int .i64 x) := hneed 8 33 rfl rfl
        have e33' := (Array.getD_eq_getD_getElem? ..).symm.trans e33
        have e34 : a1.tmps.getD 34 undef = (.int .i64 u) := hneed 9 34 rfl rfl
        have e34' := (Array.getD_eq_getD_getElem? ..).symm.trans e34
        have H := Cut_any (HV4.out.e.later hb) i t x u (by have := HLn.out; omega)
        have hsz := hb.size
        clear hneed hrest
        go_simp
        refine H.mono ?_
        rintro e w2 ⟨y, rfl, hE, hb2⟩
        exact ⟨_, rfl, ⟨y, rfl, hE.keep hsz (Nat.le_refl _) (fun _ _ _ => rfl)⟩, hb2⟩
      | 11, _ =>
        refine fsL_plain _ _ rfl rfl rfl ?_
        intro a1 w1 hb hrest hneed
        have hsz := hb.size
        clear hneed hrest
        go_simp
        exact ⟨_, rfl, ⟨_, rfl, hsz, Go.heap_alloc_new w1 _⟩, lay_alloc _ _⟩
      | 12, _ =>
        refine fsL_plain _ _ rfl rfl rfl ?_
        intro a1 w1 hb hrest hneed
        have e27 : a1.tmps.getD 27 undef = (.int .i64 (hintL i t es x)) := hneed 2 27 rfl rfl
        have e27' := (Array.getD_eq_getD_getElem? ..).symm.trans e27
        clear hneed hrest
        go_simp
        exact ⟨_, rfl, rfl, Below.refl _ _⟩
      | 13, _ =>
        refine fsL_plain _ _ rfl rfl rfl ?_
        intro a1 w1 hb hrest hneed
        have e31 : a1.tmps.getD 31 undef = (.bool (freshB i t es x u)) := hneed 6 31 rfl rfl
        have e31' := (Array.getD_eq_getD_getElem? ..).symm.trans e31
        clear hneed hrest
        go_simp
        exact ⟨_, rfl, rfl, Below.refl _ _⟩
      | n + 14, h => exact absurd h (by omega)
    · intro a1 w5 hb hd hs hr hg
      have r35 : SKh w4.heap.size (.log x u (cutL i t es x u)) w5 (a1.tmps.getD 35 undef) := hg 10 (by decide) 35 rfl
      have r11 : SKh w4.heap.size .box w5 (a1.tmps.getD 11 undef) := hg 11 (by decide) 11 rfl
      obtain ⟨y, e35, hY⟩ := r35
      obtain ⟨g, e11, hgB, hh⟩ := r11
      have e25 : a1.tmps.getD 25 undef = (.agg #[.int .i64 i, .int .i64 t, .slice ua es.length uc]) := hg 0 (by decide) 25 rfl
      have e26 : a1.tmps.getD 26 undef = (.int .i64 x) := hg 1 (by decide) 26 rfl
      have e27 : a1.tmps.getD 27 undef = (.int .i64 (hintL i t es x)) := hg 2 (by decide) 27 rfl
      have e28 : a1.tmps.getD 28 undef = (.agg #[.int .i64 i, .int .i64 t, .slice ua es.length uc]) := hg 3 (by decide) 28 rfl
      have e29 : a1.tmps.getD 29 undef = (.int .i64 x) := hg 4 (by decide) 29 rfl
      have e30 : a1.tmps.getD 30 undef = (.int .i64 u) := hg 5 (by decide) 30 rfl
      have e31 : a1.tmps.getD 31 undef = (.bool (freshB i t es x u)) := hg 6 (by decide) 31 rfl
      have e32 : a1.tmps.getD 32 undef = (.agg #[.int .i64 i, .int .i64 t, .slice ua es.length uc]) := hg 7 (by decide) 32 rfl
      have e33 : a1.tmps.getD 33 undef = (.int .i64 x) := hg 8 (by decide) 33 rfl
      have e34 : a1.tmps.getD 34 undef = (.int .i64 u) := hg 9 (by decide) 34 rfl
      have e9 : a1.tmps.getD 9 undef = (.int .i64 (hintL i t es x)) := hg 12 (by decide) 9 rfl
      have e10 : a1.tmps.getD 10 undef = (.bool (freshB i t es x u)) := hg 13 (by decide) 10 rfl
      have ha := act_flow [25, 26, 27, 28, 29, 30, 31, 32, 33, 34, 35, 11, 9, 10] (by kernel_rfl) hd hs (fun t ht => hr t fun j hj => ht j (Nat.lt_trans hj (by decide)))
      simp only [putsOf, List.foldl_cons, List.foldl_nil, e25, e26, e27, e28, e29, e30, e31, e32, e33, e34, e35, e11, e9, e10] at ha
      obtain ⟨ya, yc, rfl, _, _⟩ := hY.ein.slice
      have kd := dc_block hh
      have k0 := kd.cells 0 _ rfl
      have k1 := kd.cells 1 _ rfl
      have k2 := kd.cells 2 _ rfl
      have f0 := kd.fz 0
      have f1 := kd.fz 1
      have f2 := kd.fz 2
      clear e25 e26 e27 e28 e29 e30 e31 e32 e33 e34 e35 e11 e9 e10 hd hs hr hg
      subst ha
      refine flow_plain rfl rfl ?_
      go_simp
      rw [show ((w5.setCell ⟨g, 0, none⟩ (.int .i64 x)).setCell ⟨g, 1, none⟩ (.int .i64 u)).setCell ⟨g, 2, none⟩ (.slice ya (cutL i t es x u).length yc) = put3 w5 g (.int .i64 x) (.int .i64 u) (.slice ya (cutL i t es x u).length yc) from rfl]
      have hDg := put3_dc (v0 := .int .i64 x) (v1 := .int .i64 u) (v2 := .slice ya (cutL i t es x u).length yc) kd
      have hYg := (hY.kept (put3_grown w5 g (.int .i64 x) (.int .i64 u) (.slice ya (cutL i t es x u).length yc)) hh (by decide) (by decide)).ein
      have hBg := put3_below (b := g) (.int .i64 x) (.int .i64 u) (.slice ya (cutL i t es x u).length yc) hb hgB
      clear k0 k1 k2 f0 f1 f2 kd hY hh
      generalize put3 w5 g _ _ _ = w6 at *
      have HV6 := Lib.hid (HV4.out.later hBg)
      have HX6 := Lib.hid (HX4.out.later hBg)
      have HD6 := Lib.hid hDg
      have HY6 := Lib.hid hYg
      clear HV4 HX4 hDg hYg hBg hb hgB
      have hH0 : Hid (okL i t es = false → hintL i t es x = 0 ∧ freshB i t es x u = false ∧ cutL i t es x u = []) := fun h => by
        refine ⟨?_, ?_, ?_⟩
        · unfold hintL; rw [h]; rfl
        · unfold freshB; rw [h]; rfl
        · unfold cutL; rw [h]; rfl
      have HRH : Hid (okL i t es = true → ∀ w', EIn w' (.slice a es.length c) es → Calls Try.prog 29 #[.agg #[.int .i64 i, .int .i64 t, .slice a es.length c], .int .i64 x] w' (IntP (hintL i t es x) w')) := fun h w' he => rHint_any he i t x h
      have HRF : Hid (okL i t es = true → ∀ w', EIn w' (.slice a es.length c) es → Calls Try.prog 30 #[.agg #[.int .i64 i, .int .i64 t, .slice a es.length c], .int .i64 x, .int .i64 u] w' (BoolP (freshB i t es x u) w')) := fun h w' he => rFresh_any he i t x u h
      have HRC : Hid (okL i t es = true → ∀ w', EIn w' (.slice a es.length c) es → Calls Try.prog 28 #[.agg #[.int .i64 i, .int .i64 t, .slice a es.length c], .int .i64 x, .int .i64 u] w' fun e w'' => ∃ v', e = .returned (.agg #[.int .i64 x, .int .i64 u, v']) ∧ EIn w'' v' (cutL i t es x u) ∧ Below w'.heap.size w' w'') := fun h w' he => rCut_any he i t x u h (by have := HLn.out; omega)
      generalize hintL i t es x = H at *
      generalize freshB i t es x u = F at *
      generalize cutL i t es x u = C at *
      have g0 := HD6.out.cells 0 _ rfl
      have g1 := HD6.out.cells 1 _ rfl
      have g2 := HD6.out.cells 2 _ rfl
      cases hok : okL i t es with
      | false =>
        obtain ⟨rfl, rfl, rfl⟩ := hH0.out hok
        clear hH0 HRH HRF HRC
        go_wp2_with fail
        go_fit (awake_any w6)
        rintro ez wz ⟨rfl, hbz⟩
        have HBz := Lib.hid (HV6.out.b.trans (hbz.mono HV6.out.b.size))
        clear hbz
        go_wp2_with fail
        go_ret
        exact ⟨rfl, HBz.out⟩
      | true =>
        have HRH := Lib.hid (HRH.out hok)
        have HRF := Lib.hid (HRF.out hok)
        have HRC := Lib.hid (HRC.out hok)
        clear hH0 g0 g1 g2
        have q0 := HX6.out.d0
        have q1 := HX6.out.d1
        have q2 := HX6.out.d2
        have HC7 := Lib.hid (HRC.out _ HX6.out.e)
        clear HRC
        go_wp2_with fail
        go_fit HC7.out
        rintro e7 w7 ⟨v7, rfl, hE7, hb⟩
        obtain ⟨va, vc, rfl, _, _⟩ := hE7.slice
        clear q0 q1 q2
        have hz8 := lay_alloc w7 (.cells #[.int .i64 0, .int .i64 0, .slice none 0 0] 27)
        have hD8 := DC.alloc w7 [.int .i64 0, .int .i64 0, .slice none 0 0] 27
        have HE7 := Lib.hid hE7
        have HV7 := Lib.hid (HV6.out.later hb)
        have HX7 := Lib.hid (HX6.out.later hb)
        have HD7 := Lib.hid (HD6.out.below hb)
        have HY7 := Lib.hid (HY6.out.later hb)
        have HZ8 := Lib.hid hz8
        have HD8 := Lib.hid hD8
        clear hb HC7 HV6 HX6 HD6 HY6 hE7 hz8 hD8
        have z0 := HD8.out.cells 0 _ rfl
        have z1 := HD8.out.cells 1 _ rfl
        have z2 := HD8.out.cells 2 _ rfl
        have zf0 := HD8.out.fz 0
        have zf1 := HD8.out.fz 1
        have zf2 := HD8.out.fz 2
        go_upto_region 8 with fail
        clear z0 z1 z2 zf0 zf1 zf2
        have hb9 := lay_alloc w7 (.cells #[.int .i64 x, .int .i64 u, .slice va C.length vc] 27)
        have HD9 := Lib.hid (DC.alloc w7 [.int .i64 x, .int .i64 u, .slice va C.length vc] 27)
        clear HD8 HZ8
        have HV9 := Lib.hid (HV7.out.later hb9)
        have HX9 := Lib.hid (HX7.out.later hb9)
        have HG9 := Lib.hid (HD7.out.below hb9)
        have HY9 := Lib.hid (HY7.out.later hb9)
        have HE9 := Lib.hid (HE7.out.later hb9)
        clear hb9 HV7 HX7 HD7 HY7 HE7
        generalize w7.alloc _ = w9 at *
        generalize w7.heap.size = b9 at *
        have q0 := HX9.out.d0
        have q1 := HX9.out.d1
        have q2 := HX9.out.d2
        have HC := Lib.hid (HRH.out _ HX9.out.e)
        clear HRH
        go_wp2_with fail
        go_fit HC.out
        rintro e10 w10 ⟨rfl, hb⟩
        clear q0 q1 q2
        have HV10 := Lib.hid (HV9.out.later hb)
        have HX10 := Lib.hid (HX9.out.later hb)
        have HG10 := Lib.hid (HG9.out.below hb)
        have HY10 := Lib.hid (HY9.out.later hb)
        have HE10 := Lib.hid (HE9.out.later hb)
        have HD10 := Lib.hid (HD9.out.below hb)
        clear hb HV9 HX9 HG9 HY9 HE9 HD9 HC
        have q0 := HX10.out.d0
        have q1 := HX10.out.d1
        have q2 := HX10.out.d2
        have HC := Lib.hid (HRF.out _ HX10.out.e)
        clear HRF
        go_wp2_with fail
        go_fit HC.out
        rintro e11 w11 ⟨rfl, hb⟩
        clear q0 q1 q2
        have HV11 := Lib.hid (HV10.out.later hb)
        have HX11 := Lib.hid (HX10.out.later hb)
        have HG11 := Lib.hid (HG10.out.below hb)
        have HY11 := Lib.hid (HY10.out.later hb)
        have HE11 := Lib.hid (HE10.out.later hb)
        have HD11 := Lib.hid (HD10.out.below hb)
        clear hb HV10 HX10 HG10 HY10 HE10 HD10 HC
        have g0 := HG11.out.cells 0 _ rfl
        have g1 := HG11.out.cells 1 _ rfl
        have g2 := HG11.out.cells 2 _ rfl
        have k0 := HD11.out.cells 0 _ rfl
        have k1 := HD11.out.cells 1 _ rfl
        have k2 := HD11.out.cells 2 _ rfl
        have HC := Lib.hid (Same_any HY11.out HE11.out)
        go_wp2_with fail
        go_fit HC.out
        rintro e12 w12 ⟨rfl, hb⟩
        have HB12 := Lib.hid (HV11.out.b.trans (hb.mono HV11.out.b.size))
        clear hb HC g0 g1 g2 k0 k1 k2
        go_wp2_with fail
        go_fit (awake_any w12)
        rintro ez wz ⟨rfl, hbz⟩
        have HBz := Lib.hid (HB12.out.trans (hbz.mono HB12.out.size))
        clear hbz
        go_wp2_with fail
        go_ret
        exact ⟨rfl, HBz.out⟩
end Go.Proofs.Ytcmfnokpbgfioaa
