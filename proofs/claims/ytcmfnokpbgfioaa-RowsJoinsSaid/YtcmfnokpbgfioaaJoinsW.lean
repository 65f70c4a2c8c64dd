/-
  RowsJoins walked: what any entries bring, from any index and term on. (Written by genjoins.py.)
-/
import Derived.Test.YtcmfnokpbgfioaaChecksW
import Derived.Test.YtcmfnokpbgfioaaTermsW
import Derived.Test.YtcmfnokpbgfioaaRo
import Derived.Test.YtcmfnokpbgfioaaSm
import Derived.Test.YtcmfnokpbgfioaaXr
namespace Go.Proofs.Ytcmfnokpbgfioaa
set_option linter.unusedVariables false
set_option linter.unusedSimpArgs false
open Go.RowKit

/-- A block as it lies. -/
def Blk (w : World) (b : Nat) (cs : Array Value) (T : TypeId) : Prop := w.heap[b]? = some (.cells cs T (0, 0))
theorem Blk.later {w w' : World} {b : Nat} {cs : Array Value} {T : TypeId} (h : Blk w b cs T) (hb : Below w.heap.size w w') : Blk w' b cs T := (hb.block b (Array.getElem?_eq_some_iff.1 h).1).trans h
theorem Blk.dc {w : World} {g : Nat} {cs : Array Value} {T : TypeId} (h : Blk w g cs T) : DC w g cs.toList :=
  ⟨fun i v hv => by rw [cell_of_row w _ _ _ _ _ h]; simpa using hv, fun i => frozen_of_row w g i _ _ h, (Array.getElem?_eq_some_iff.1 h).1⟩
/-- Joined entries whose data is written over, what was new of them beside, and a variable. -/
structure XJ (w0 wr : World) (B : Nat) (v : Value) (ls : List En) (es : List Er) (f : Value) (fs : List Er) (b : Nat) (cs : Array Value) : Prop where
  xi : XI w0 wr B v ls es
  blk : Blk wr b cs 24
  fresh : ∃ ns : List En, wr.ownsRow B 44 enL.sz f ns.length (enL.all ns) ∧ ns.length = fs.length ∧ (∀ (k : Nat) (x : En) (e : Er), ns[k]? = some x → fs[k]? = some e → x.i = e.i ∧ x.t = e.t ∧ wr.ownsRow B 5 1 x.s.v e.d.length (u8s e.d)) ∧
    ∀ (k : Nat) (x : En) (g : Nat), ls[k]? = some x → x.s.v.ownBlock = some g → f.ownBlock ≠ some g ∧ ∀ (j : Nat) (y : En), ns[j]? = some y → y.s.v.ownBlock ≠ some g
theorem EPair.xj {w0 w : World} {B b : Nat} {v f : Value} {es fs : List Er} {cs : Array Value} (h : EPair w B v es f fs) (hb : Below B w0 w) (hk : Blk w b cs 24) : ∃ ls, XJ w0 w B v ls es f fs b cs := by
  obtain ⟨ls, ns, ⟨h1, h2, h3⟩, ⟨f1, f2, f3⟩, hap⟩ := h
  refine ⟨ls, ⟨hb, h1, h2, fun k x e hx he => ⟨_, (h3 k x e hx he).2.2, fun y hy => ?_⟩⟩, hk, ns, f1, f2, f3, hap⟩
  obtain ⟨z, _, rfl⟩ := List.mem_map.1 hy
  exact ⟨z, rfl⟩
theorem XJ.ein {w0 wr : World} {B b : Nat} {v f : Value} {ls : List En} {es fs : List Er} {cs : Array Value} (h : XJ w0 wr B v ls es f fs b cs) : EIn wr f fs := by
  obtain ⟨ns, f1, f2, f3, _⟩ := h.fresh
  exact (show EInB wr B f fs from ⟨ns, f1, f2, f3⟩).ein
theorem XJ.put {w0 wr : World} {B b g j : Nat} {v f : Value} {z : Int} {ls : List En} {es fs : List Er} {cs : Array Value} (h : XJ w0 wr B v ls es f fs b cs) {k : Nat} {x : En} {e : Er} {ys : List Value} (hx : ls[k]? = some x) (hxs : wr.ownsRow B 5 1 x.s.v e.d.length ys) (hg : x.s.v.ownBlock = some g) : XJ w0 (wr.setCell ⟨g, j, none⟩ (.int .u8 z)) B v ls es f fs b cs := by
  obtain ⟨ns, f1, f2, f3, hap⟩ := h.fresh
  obtain ⟨p1, p2⟩ := hap k x g hx hg
  refine ⟨h.xi.put (n := 0) (c := 0) hx hxs hg, ?_, ns, row_put f1 p1, f2, fun q y f hy hf => ⟨(f3 q y f hy hf).1, (f3 q y f hy hf).2.1, row_put (f3 q y f hy hf).2.2 (p2 q y hy)⟩, hap⟩
  refine (Below.heap_setCell _ _ _ _ ?_).trans h.blk
  rintro rfl
  have hb := h.blk
  rcases hxs.2 with ⟨h0, _⟩ | ⟨g', cap, cur, hv, _, hh, _⟩
  · rw [h0] at hg; cases hg
  · rw [hv] at hg
    obtain rfl : g' = b := by simpa [Value.ownBlock] using hg
    unfold Blk at hb
    rw [hh] at hb
    simp at hb
theorem Blk.new (w : World) (cs : Array Value) (T : TypeId) : Blk (w.alloc (.cells cs T)) w.heap.size cs T := Go.heap_alloc_new w _
theorem joinA_ok {i t : Int} {l : List Er} {x u : Int} {m : List Er} (h : okL i t l = true) : joinA i t l x u m = joinL i t l x u m := by unfold joinA; rw [h]; rfl

set_option maxRecDepth 100000 in
set_option maxHeartbeats 12800000 in
theorem Joins_law {w : World} {v : Value} {es : List Er} (h : EIn w v es) (hf : FitI es) (hz : ∀ e ∈ es, e.d.length ≤ 140737488351232) (i t x u : Int) {m : Value} {ms : List Er} (hm : EIn w m ms) (hfm : FitI ms) (hzm : ∀ e ∈ ms, e.d.length ≤ 140737488351232) : Calls Try.prog 5 #[.agg #[.int .i64 i, .int .i64 t, v], .int .i64 x, .int .i64 u, m] w (BoolP true w) := by
  obtain ⟨a, c, rfl, _, _⟩ := h.slice
  obtain ⟨a3, c3, rfl, _, _⟩ := hm.slice
  have hce : es.length ≤ c := by obtain ⟨a', c', hv, h1, _⟩ := h.slice; simp only [Value.slice.injEq] at hv; omega
  have hV0 := Kv.new (w0 := w) (i := i) (t := t) h (Below.refl _ _) 24
  have hal := lay_alloc (w.alloc (.cells #[.int .i64 i, .int .i64 t, .slice a es.length c] 24)) (.cells #[.slice a es.length c, .slice a3 ms.length c3] 22)
  have hs1 : (w.alloc (.cells #[.int .i64 i, .int .i64 t, .slice a es.length c] 24)).heap.size = w.heap.size + 1 := by simp
  have hdc := DC.alloc (w.alloc (.cells #[.int .i64 i, .int .i64 t, .slice a es.length c] 24)) [.slice a es.length c, .slice a3 ms.length c3] 22
  rw [hs1] at hdc
  have hV := hV0.later hal
  have hM := hm.later hV.b
  have hls : LsIn ((w.alloc (.cells #[.int .i64 i, .int .i64 t, .slice a es.length c] 24)).alloc (.cells #[.slice a es.length c, .slice a3 ms.length c3] 22)) (w.heap.size + 1) [es, ms] := fun k l hk => by
    match k, hk with
    | 0, hk => simp only [List.getElem?_cons_zero, Option.some.injEq] at hk; subst hk; exact ⟨_, hdc.cells 0 _ rfl, hV.e⟩
    | 1, hk => simp only [List.getElem?_cons_succ, List.getElem?_cons_zero, Option.some.injEq] at hk; subst hk; exact ⟨_, hdc.cells 1 _ rfl, hM⟩
    | k + 2, hk => simp at hk
  have HL := Lib.hid (light_two hls)
  have HV := Lib.hid hV
  have HM := Lib.hid hM
  have HFI := Lib.hid hfm
  have HSz := Lib.hid hz
  have HSm := Lib.hid hzm
  have HEo := Lib.hid h
  have HMo := Lib.hid hm
  clear hV0 hV hM hal hs1 hdc hls h hm hf hfm hz hzm
  go_enter Try.func5, Try.ntmps5
  go_wp2_with fail
  go_fit HL.out
  rintro e0 w1 ⟨b, rfl, hbl, rfl⟩
  generalize (w.alloc _).alloc _ = w1 at *
  clear HL
  cases b with
  | false =>
    go_wp2_with fail
    go_fit (awake_any w1)
    rintro ez wz ⟨rfl, hbz⟩
    have HBz := Lib.hid (HV.out.b.trans (hbz.mono HV.out.b.size))
    clear hbz
    go_wp2_with fail
    go_ret
    exact ⟨rfl, HBz.out⟩
  | true =>
    have HLn : Hid (es.length ≤ 200 ∧ ms.length ≤ 200) := ⟨hbl rfl es (by simp), hbl rfl ms (by simp)⟩
    clear hbl
    have d0 := HV.out.d0
    have d1 := HV.out.d1
    have d2 := HV.out.d2
    have hcc := both_any HV.out.e (by have := HLn.out.1; omega) HSz.out i t
    have HCC := Lib.hid hcc
    have hx0 := HV.out.dc.fz 0
    have hx1 := HV.out.dc.fz 1
    have hx2 := HV.out.dc.fz 2
    clear hcc
    go_wp2_with fail
    go_fit HCC.out
    rintro e2 w2 ⟨u2, rfl, hu2, hb⟩
    obtain ⟨ua, uc, rfl, _, _⟩ := hu2.ein.slice
    have HV2 := Lib.hid (HV.out.later hb)
    have HU2 := Lib.hid hu2
    have hlt0 := HV.out.dc.lt
    have HSB : Hid (w.heap.size < w1.heap.size) := hlt0
    clear hb HV HCC hu2 hlt0 d0 d1 d2 hx0 hx1 hx2
    have hz3 := lay_alloc w2 (.cells #[.int .i64 0, .int .i64 0, .slice none 0 0] 27)
    have HV3 := Lib.hid (HV2.out.later hz3)
    clear hz3
    have d0 := HV3.out.d0
    have d1 := HV3.out.d1
    have d2 := HV3.out.d2
    have f0 := HV3.out.dc.fz 0
    have f1 := HV3.out.dc.fz 1
    have f2 := HV3.out.dc.fz 2
    have hlt2 : w.heap.size < w2.heap.size := HV2.out.dc.lt
    have hne : ¬ (w2.heap.size = w.heap.size) := by omega
    have hne2 : ¬ (w.heap.size = w2.heap.size) := by omega
    have HL2 := Lib.hid hlt2
    clear hlt2
    go_upto_region 4 with fail
    clear d0 d1 d2 f0 f1 f2 hne hne2
    change Code.wp _ _ _ _ (put3 (put3 (w2.alloc (.cells #[.int .i64 0, .int .i64 0, .slice none 0 0] 27)) w.heap.size (.int .i64 i) (.int .i64 t) (.slice ua es.length uc)) w2.heap.size (.int .i64 i) (.int .i64 t) (.slice a es.length c))
    have hbf := put3_below (b := w2.heap.size) (.int .i64 i) (.int .i64 t) (.slice a es.length c) (put3_below (b := w.heap.size) (.int .i64 i) (.int .i64 t) (.slice ua es.length uc) HV3.out.b (Nat.le_refl _)) (Nat.le_of_lt HL2.out)
    have hdx := put3_dc (v0 := .int .i64 i) (v1 := .int .i64 t) (v2 := .slice a es.length c) (put3_other (b := w.heap.size) (v0 := .int .i64 i) (v1 := .int .i64 t) (v2 := .slice ua es.length uc) (DC.alloc w2 [.int .i64 0, .int .i64 0, .slice none 0 0] 27) (by have := HL2.out; omega))
    have hdl := put3_other (b := w2.heap.size) (v0 := .int .i64 i) (v1 := .int .i64 t) (v2 := .slice a es.length c) (put3_dc (v0 := .int .i64 i) (v1 := .int .i64 t) (v2 := .slice ua es.length uc) HV3.out.dc) (by have := HL2.out; omega)
    have hsz : (put3 (put3 (w2.alloc (.cells #[.int .i64 0, .int .i64 0, .slice none 0 0] 27)) w.heap.size (.int .i64 i) (.int .i64 t) (.slice ua es.length uc)) w2.heap.size (.int .i64 i) (.int .i64 t) (.slice a es.length c)).heap.size = w2.heap.size + 1 := by simp [put3, World.setCell]
    have hku : ∀ k, w1.heap.size ≤ k → k < w2.heap.size → (put3 (put3 (w2.alloc (.cells #[.int .i64 0, .int .i64 0, .slice none 0 0] 27)) w.heap.size (.int .i64 i) (.int .i64 t) (.slice ua es.length uc)) w2.heap.size (.int .i64 i) (.int .i64 t) (.slice a es.length c)).heap[k]? = w2.heap[k]? := fun k h1 h2 => by
      rw [put3_heap _ _ _ _ _ _ (by omega), put3_heap _ _ _ _ _ _ (by have := HSB.out; omega)]
      exact Below.heap_alloc _ _ _ h2
    have heu := (HU2.out.keep (B' := w1.heap.size) (Nat.le_refl _) (by rw [hsz]; omega) hku).ein
    have HEU := Lib.hid heu
    have HDX := Lib.hid hdx
    have HDL := Lib.hid hdl
    have HBF := Lib.hid hbf
    clear hbf hdx hdl hsz hku heu HV2 HU2 HV3 HSB HL2
    generalize put3 (put3 _ _ _ _ _) _ _ _ _ = w4 at *
    have HV4 : Hid (Kv w w4 w.heap.size i t ua uc es) := ⟨HDL.out, HEU.out, HBF.out⟩
    have HX4 : Hid (Kv w w4 w2.heap.size i t a c es) := ⟨HDX.out, HEo.out.later HBF.out, HBF.out⟩
    clear HDL HDX HEU HBF HEo
    have HM4 := Lib.hid (HMo.out.later HV4.out.b)
    clear HM
    have HC := Lib.hid (copied_any HM4.out (by have := HLn.out; omega) HSm.out)
    go_wp2_with fail
    go_fit HC.out
    rintro e5 w5 ⟨v5, rfl, hg5, hb⟩
    obtain ⟨ga, gc, rfl, _, _⟩ := hg5.ein.slice
    have HV5 := Lib.hid (HV4.out.later hb)
    have HX5 := Lib.hid (HX4.out.later hb)
    have HM5 := Lib.hid (HM4.out.later hb)
    have HG5 := Lib.hid hg5.ein
    clear hb HV4 HX4 HM4 HC hg5
    have d0 := HV5.out.d0
    have d1 := HV5.out.d1
    have d2 := HV5.out.d2
    have HC := Lib.hid (Join_anyQ HV5.out.e HG5.out i t x u (by have := HLn.out; omega) (by have := HLn.out; omega))
    cases hok : okL i t es with
    | false =>
      have hJ : joinA i t es x u ms = ⟨[], 0, [], false⟩ := by unfold joinA; rw [hok]; rfl
      rw [hok, hJ] at HC
      clear hJ
      go_wp2_with fail
      go_fit HC.out
      rintro e6 w6 ⟨v6, f6, rfl, hp, hb⟩
      obtain ⟨a6, c6, hv6, _, _⟩ := hp.one.ein.slice
      obtain ⟨a7, c7, hf6, _, _⟩ := hp.two.ein.slice
      subst hv6 hf6
      have HB6 := Lib.hid (HV5.out.b.trans (hb.mono HV5.out.b.size))
      clear hb hp HC d0 d1 d2
      simp only [List.length_nil, Bool.false_eq_true, if_false]
      have hal := lay_alloc w6 (.cells #[.int .i64 0, .int .i64 0, .slice a6 0 c6] 24)
      have hD := DC.alloc w6 [.int .i64 0, .int .i64 0, .slice a6 0 c6] 24
      have k0 := hD.cells 0 _ rfl
      have k1 := hD.cells 1 _ rfl
      have k2 := hD.cells 2 _ rfl
      have HB7 := Lib.hid (HB6.out.trans (hal.mono HB6.out.size))
      clear hal hD
      go_wp2_with fail
      generalize w6.alloc _ = w7 at *
      go_fit (awake_any w7)
      rintro ez wz ⟨rfl, hbz⟩
      have HBz := Lib.hid (HB7.out.trans (hbz.mono HB7.out.size))
      clear hbz
      go_wp2_with fail
      go_ret
      exact ⟨rfl, HBz.out⟩
    | true =>
      have HRJ := Lib.hid (fun (w' : World) (he : EIn w' (.slice a es.length c) es) (hm' : EIn w' (.slice a3 ms.length c3) ms) => rJoin_any he hm' HFI.out i t x u hok (by have := HLn.out; omega) (by have := HLn.out; omega))
      rw [hok, joinA_ok hok, if_pos rfl, if_pos rfl] at HC
      generalize joinL i t es x u ms = J at *
      obtain ⟨L, Jc, Jf, Jo⟩ := J
      clear hok
      go_wp2_with fail
      go_fit HC.out
      rintro e6 w6 ⟨v6, f6, rfl, hp, hb⟩
      simp only at hp
      obtain ⟨a6, c6, hv6, _, _⟩ := hp.one.ein.slice
      obtain ⟨a7, c7, hf6, _, _⟩ := hp.two.ein.slice
      subst hv6 hf6
      have hal := lay_alloc w6 (.cells #[.int .i64 i, .int .i64 t, .slice a6 L.length c6] 24)
      have HK7 := Lib.hid (Blk.new w6 #[.int .i64 i, .int .i64 t, .slice a6 L.length c6] 24)
      have HP7 := Lib.hid (hp.keep (Nat.le_refl _) (fun k _ hk => hal.block k hk))
      have HB7 := Lib.hid (hb.trans (hal.mono hb.size))
      have hX7 := HX5.out.later HB7.out
      have hM7 := HM5.out.later HB7.out
      have HC2 := Lib.hid (HRJ.out _ hX7.e hM7)
      have HX7 := Lib.hid hX7
      clear hb hp HC d0 d1 d2 hal hX7 hM7 HRJ
      have q0 := HX7.out.d0
      have q1 := HX7.out.d1
      have q2 := HX7.out.d2
      go_wp2_with fail
      generalize w6.alloc _ = w7 at *
      generalize w6.heap.size = b7 at *
      go_fit HC2.out
      rintro e8 w8 ⟨v8, f8, rfl, hE8, hF8, hb⟩
      simp only at hE8 hF8
      obtain ⟨a8, c8, hv8, _, _⟩ := hE8.slice
      obtain ⟨a9, c9, hf8, _, _⟩ := (hF8 w5 HM5.out).slice
      subst hv8 hf8
      have hal := lay_alloc w8 (.cells #[.int .i64 i, .int .i64 t, .slice a8 L.length c8] 27)
      have hD := DC.alloc w8 [.int .i64 i, .int .i64 t, .slice a8 L.length c8] 27
      have hb9 := hb.trans (hal.mono hb.size)
      have HB9 := Lib.hid (HB7.out.trans (hb9.mono HB7.out.size))
      have HK9 := Lib.hid (HK7.out.later hb9)
      have HP9 := Lib.hid (HP7.out.keep (Nat.le_refl _) (fun k _ hk => hb9.block k hk))
      have HE9 := Lib.hid (hE8.later hal)
      have HF := Lib.hid hF8
      have HSa := Lib.hid (Same_any HP9.out.one.ein HE9.out)
      have HD9 := Lib.hid hD
      clear hb hal hD hb9 HK7 HP7 HB7 hE8 hF8 HC2 q0 q1 q2 HX7
      have k0 := HK9.out.dc.cells 0 _ rfl
      have k1 := HK9.out.dc.cells 1 _ rfl
      have k2 := HK9.out.dc.cells 2 _ rfl
      have g0 := HD9.out.cells 0 _ rfl
      have g1 := HD9.out.cells 1 _ rfl
      have g2 := HD9.out.cells 2 _ rfl
      go_wp2_with fail
      generalize w8.alloc _ = w9 at *
      go_fit HSa.out
      rintro e10 w10 ⟨rfl, hb⟩
      have HB10 := Lib.hid (HB9.out.trans (hb.mono HB9.out.size))
      have HK10 := Lib.hid (HK9.out.later hb)
      have HP10 := Lib.hid (HP9.out.keep (Nat.le_refl _) (fun k _ hk => hb.block k hk))
      clear hb HB9 HK9 HP9 HE9 HSa HD9 k0 k1 k2 g0 g1 g2
      have HSa := Lib.hid (Same_any HP10.out.two.ein (HF.out w10 (HM5.out.later HB10.out)))
      go_wp2_with fail
      go_fit HSa.out
      rintro e11 w11 ⟨rfl, hb⟩
      have HB11 := Lib.hid (HB10.out.trans (hb.mono HB10.out.size))
      have HK11 := Lib.hid (HK10.out.later hb)
      have HP11 := Lib.hid (HP10.out.keep (Nat.le_refl _) (fun k _ hk => hb.block k hk))
      clear hb HB10 HK10 HP10 HSa
      obtain ⟨ls, hxj⟩ := HP11.out.xj HB11.out HK11.out
      have HXJ := Lib.hid hxj
      have k2 := HK11.out.dc.cells 2 _ rfl
      clear hxj HP11 HK11 HB11
      go_wp2_with fail
      clear k2
      go_loopw [119] (fun j wr => ∃ k : Nat, j = .int .i64 k ∧ k ≤ L.length ∧ Hid (XJ w5 wr w5.heap.size (.slice a6 L.length c6) ls L (.slice a7 Jf.length c7) Jf b7 #[.int .i64 i, .int .i64 t, .slice a6 L.length c6])) (fun j _ => L.length - (intOf j).toNat)
      case atStart => exact ⟨0, rfl, Nat.zero_le _, HXJ⟩
      case round =>
        clear HXJ
        obtain ⟨k, rfl, hk, HXJ⟩ := hrel
        by_cases hlt : k < L.length
        · have he : L[k]? = some L[k] := List.getElem?_eq_getElem hlt
          generalize L[k] = e at *
          obtain ⟨g, y, ys, p, c', hga, hy, hs, q2, hr⟩ := HXJ.out.xi.at he
          subst hga
          have hkk : (k : Int) < (L.length : Int) := by omega
          have k2 := HXJ.out.blk.dc.cells 2 _ rfl
          have HE := Lib.hid he
          have HY := Lib.hid hy
          have HS := Lib.hid hs
          clear he hy hs hr
          go_wp2_with fail
          clear q2 k2
          go_loopw [129] (fun j wr => ∃ q : Nat, j = .int .i64 q ∧ q ≤ e.d.length ∧ Hid (XJ w5 wr w5.heap.size (.slice (some ⟨g, 0, none⟩) L.length c6) ls L (.slice a7 Jf.length c7) Jf b7 #[.int .i64 i, .int .i64 t, .slice (some ⟨g, 0, none⟩) L.length c6])) (fun j _ => e.d.length - (intOf j).toNat)
          case atStart => exact ⟨0, rfl, Nat.zero_le _, HXJ⟩
          case round =>
            clear HXJ
            obtain ⟨q, rfl, hq, HXJ⟩ := hrel
            by_cases hqt : q < e.d.length
            · obtain ⟨gb, z, rfl, hob, b0, bf⟩ := HXJ.out.xi.byte HY.out HE.out HS.out hqt
              obtain ⟨g', y', ys', p', c'', hg', hy', hs', q2, hr'⟩ := HXJ.out.xi.at HE.out
              cases hg'
              rw [HY.out] at hy'
              cases hy'
              rw [HS.out] at hs'
              cases hs'
              have e1 : IntKind.i64.wrap ((q : Int) + 1) = (q : Int) + 1 := IntWalk.i64_in _ (by have := row_short hr'; omega)
              have hqq : (q : Int) < (e.d.length : Int) := by omega
              have k2 := HXJ.out.blk.dc.cells 2 _ rfl
              have HN := Lib.hid (HXJ.out.put (j := q) (z := bits .xor .u8 z 255) HY.out hr' hob)
              clear hr' hob HXJ
              go_wp2_with fail
              exact ⟨⟨q + 1, by go_num, hqt, HN⟩, by show e.d.length - ((q : Int) + 1).toNat < e.d.length - (q : Int).toNat; omega⟩
            · obtain rfl : q = e.d.length := by omega
              go_wp2_with fail
              exact ⟨⟨k + 1, by go_num, hlt, HXJ⟩, by show L.length - ((k : Int) + 1).toNat < L.length - (k : Int).toNat; omega⟩
        · obtain rfl : k = L.length := by omega
          have HB12 := Lib.hid HXJ.out.xi.below
          have HV12 := Lib.hid (HV5.out.later HB12.out)
          have HX12 := Lib.hid (HX5.out.later HB12.out)
          have HG12 := Lib.hid (HG5.out.later HB12.out)
          have HM12 := Lib.hid (HM5.out.later HB12.out)
          have HF12 := Lib.hid HXJ.out.ein
          have HH12 := Lib.hid (HF.out wr HM12.out)
          clear HXJ HB12
          have v2 := HV12.out.d2
          have x2 := HX12.out.d2
          have HC := Lib.hid (Same_any HV12.out.e HX12.out.e)
          go_wp2_with fail
          go_fit HC.out
          rintro e13 w13 ⟨rfl, hb⟩
          have HV13 := Lib.hid (HV12.out.b.trans (hb.mono HV12.out.b.size))
          have HC1 := Lib.hid (Same_any (HG12.out.later hb) (HM12.out.later hb))
          have HF13 := Lib.hid (HF12.out.later hb)
          have HH13 := Lib.hid (HH12.out.later hb)
          clear hb HC v2 x2 HV12 HX12 HG12 HM12 HF12 HH12
          go_wp2_with fail
          go_fit HC1.out
          rintro e14 w14 ⟨rfl, hb⟩
          have HV14 := Lib.hid (HV13.out.trans (hb.mono HV13.out.size))
          have HC2 := Lib.hid (Same_any (HF13.out.later hb) (HH13.out.later hb))
          clear hb HC1 HV13 HF13 HH13
          go_wp2_with fail
          go_fit HC2.out
          rintro e15 w15 ⟨rfl, hb⟩
          have HV15 := Lib.hid (HV14.out.trans (hb.mono HV14.out.size))
          clear hb HC2 HV14
          go_wp2_with fail
          go_fit (awake_any w15)
          rintro ez wz ⟨rfl, hbz⟩
          have HBz := Lib.hid (HV15.out.trans (hbz.mono HV15.out.size))
          clear hbz
          go_wp2_with fail
          go_ret
          exact ⟨rfl, HBz.out⟩
end Go.Proofs.Ytcmfnokpbgfioaa
