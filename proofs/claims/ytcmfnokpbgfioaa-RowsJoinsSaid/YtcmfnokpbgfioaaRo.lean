/-
  The document's Join, of a log that may be. (Written by genrjoin.py.)
-/
import Derived.Test.YtcmfnokpbgfioaaRi
import Derived.Test.YtcmfnokpbgfioaaRc
import Derived.Test.YtcmfnokpbgfioaaLc
import Derived.BigRegion
namespace Go.Proofs.Ytcmfnokpbgfioaa
set_option linter.unusedVariables false
set_option linter.unusedSimpArgs false
open Go.RowKit

theorem joinL_unmet {i t : Int} {l : List Er} {x u : Int} {m : List Er} (h : meetB i t l x u m = false) : joinL i t l x u m = ⟨l, 0, [], false⟩ := by
  unfold joinL; rw [h]; rfl
theorem joinL_same {i t : Int} {l : List Er} {x u : Int} {m : List Er} (h : meetB i t l x u m = true) (hf : fstO i t l m = none) : joinL i t l x u m = ⟨l, 0, [], true⟩ := by
  unfold joinL; rw [if_pos h, hf]
theorem joinL_bad {i t : Int} {l : List Er} {x u : Int} {m : List Er} {f : Nat} {e : Er} (h : meetB i t l x u m = true) (hf : fstO i t l m = some f) (he : m[f]? = some e) (hb : e.t < (atL i t l (e.i - 1)).getD 0) : joinL i t l x u m = ⟨l, 0, [], false⟩ := by
  unfold joinL; rw [if_pos h, hf]; simp only [he, if_pos hb]
theorem joinL_new {i t : Int} {l : List Er} {x u : Int} {m : List Er} {f : Nat} {e : Er} (h : meetB i t l x u m = true) (hf : fstO i t l m = some f) (he : m[f]? = some e) (hb : ¬ e.t < (atL i t l (e.i - 1)).getD 0) :
    joinL i t l x u m = ⟨l.take (e.i - 1 - i).toNat ++ m.drop f, if e.i ≤ i + l.length then e.i else 0, m.drop f, true⟩ := by
  unfold joinL; rw [if_pos h, hf]; simp only [he, if_neg hb]
theorem fstO_hit {i t : Int} {l : List Er} : ∀ {m : List Er} {f : Nat} {e : Er}, m[f]? = some e → oth i t l e = true → (∀ (j : Nat) (y : Er), j < f → m[j]? = some y → oth i t l y = false) → fstO i t l m = some f
  | [], f, e, h, _, _ => by simp at h
  | a :: m, 0, e, h, ho, _ => by
    simp only [List.getElem?_cons_zero, Option.some.injEq] at h
    subst h
    unfold fstO
    rw [if_pos ho]
  | a :: m, f + 1, e, h, ho, hn => by
    have h0 := hn 0 a (by omega) rfl
    unfold fstO
    rw [h0, fstO_hit (m := m) (f := f) (by simpa using h) ho (fun j y hj hy => hn (j + 1) y (by omega) (by simpa using hy))]
    rfl
theorem fstO_miss {i t : Int} {l : List Er} : ∀ {m : List Er}, (∀ (j : Nat) (y : Er), j < m.length → m[j]? = some y → oth i t l y = false) → fstO i t l m = none
  | [], _ => rfl
  | a :: m, hn => by
    have h0 := hn 0 a (by simp) rfl
    unfold fstO
    rw [h0, fstO_miss (m := m) (fun j y hj hy => hn (j + 1) y (by simpa using hj) (by simpa using hy))]
    rfl
theorem step_catI {P : Program} {α : Type} {I : Lay α} {w : World} {B bytes : Nat} {v u zero : Value} {xs ys : List α} {ops : Array Oper} {o : Oper} {a : Act} {K : Act → World → Prop} {Q : Exit → Act → World → Prop} {E' : Prop} (hgd : o.guard = none) (s x : Operand) (T E : TypeId)
    (ho : o.op = .call { callee := .builtin .append, args := #[s, x], argTypes := #[T, T] })
    (hT : P.underlying T = some (.slice E)) (hinfo : (P.info? E).map (fun i => (i.zero, i.size, i.bytes)) = some (some zero, I.sz, bytes)) (hz : zero.cells.size = I.sz) (hsz : 0 < I.sz) (hb : bytes ≤ 65536)
    (hown : w.ownsRow B E I.sz v xs.length (I.all xs)) (hu : I.In w u ys) (hl : xs.length + ys.length ≤ 1073741825) (hB : B ≤ w.heap.size) (hs : a.eval s = v) (hx : a.eval x = u)
    (hk : ∀ v' w', w'.ownsRow B E I.sz v' (xs ++ ys).length (I.all (xs ++ ys)) → w.grownBy w' v.ownBlock → K (a.put o.dst v') w') : if Region.wanted o (yielded ops a.tmps) = true then Oper.wp P o a w K Q else E' := by
  have hw : Region.wanted o (yielded ops a.tmps) = true := by simp [Region.wanted, hgd]
  rw [if_pos hw]
  obtain ⟨i0, hi, hz0, hz1, hz2⟩ := info_parts hinfo
  have main : ∃ v' w', (Builtin.append_ #[T, T] o.type #[v, u]).run P w = .ok v' w' ∧ w'.ownsRow B E I.sz v' (xs ++ ys).length (I.all (xs ++ ys)) ∧ w.grownBy w' v.ownBlock := by
    obtain ⟨a', c, rfl, hc1, hc2, hu⟩ := hu
    by_cases hy : ys = []
    · subst hy
      refine ⟨v, w, ?_, by rw [List.append_nil]; exact hown, World.grownBy.refl w _⟩
      rcases hown.2 with ⟨rfl, hn⟩ | ⟨g, cap, cur, rfl, _, _, hnc, _⟩
      · cases a' <;> simp [Builtin.append_, run_underlying hT, sizeOf, typeInfo, hi, Builtin.lenOf, Builtin.firstCells, loadCellsFrom, loadCells]
      · cases a' <;> simp [Builtin.append_, run_underlying hT, sizeOf, typeInfo, hi, Builtin.lenOf, Builtin.firstCells, hnc, storeCells, loadCellsFrom, loadCells]
    · obtain ⟨g, off, rfl, _, hp⟩ := hu.resolve_left hy
      obtain ⟨v', w', hr, h2, h3, _, h5⟩ := run_append_own_at (P := P) w B T o.type E i0 zero I.sz bytes hT hi hz0 hz1 hz2 hz hsz v xs.length (I.all xs) hown ⟨g, off, none⟩ ys.length c (I.all ys) (Lay.all_len I ys) (lay_cells hp) (Lay.all_ones I ys) (by unfold maxLen; omega) (Nat.le_trans (Nat.mul_le_mul hl hb) (by decide)) hB
      exact ⟨v', w', hr, by rw [Lay.all_app, List.length_append]; exact h2, h3⟩
  obtain ⟨v', w', hr, h2, h3⟩ := main
  unfold Oper.wp execOp
  simp only [ho, resolve, invoke, builtin, Sem.run_bind, Sem.run_pure, Result.andThen_ok, List.map_toArray, List.map_cons, List.map_nil, hs, hx, hr]
  exact hk _ _ h2 h3
def JoinR (i t : Int) (J : Jn) (m : Value) (ms : List Er) (w : World) (e : Ending) (w' : World) : Prop := ∃ v' f', e = .returned (.tuple #[.agg #[.int .i64 i, .int .i64 t, v'], .int .i64 J.cut, f', .bool J.ok]) ∧ EIn w' v' J.l ∧ (∀ w0 : World, EIn w0 m ms → EIn w0 f' J.fresh) ∧ Below w.heap.size w w'
theorem row_nil_told {w : World} : EIn w (.slice none 0 0) [] := EIn.nil w

set_option maxRecDepth 100000 in
set_option maxHeartbeats 12800000 in
theorem rJoin_any {w : World} {v m : Value} {es ms : List Er} (h : EIn w v es) (hm : EIn w m ms) (hf : FitI ms) (i t x u : Int) (hok : okL i t es = true) (l1 : es.length ≤ 1000) (l2 : ms.length ≤ 1000) :
    Calls Try.prog 24 #[.agg #[.int .i64 i, .int .i64 t, v], .int .i64 x, .int .i64 u, m] w (JoinR i t (joinL i t es x u ms) m ms w) := by
  obtain ⟨ls, hls, hmt⟩ := h.mat
  obtain ⟨ns, hns, hmn⟩ := hm.mat
  obtain ⟨a, c, rfl, _, _⟩ := h.slice
  obtain ⟨am, cm, rfl, hcm1, _⟩ := hm.slice
  have hV0 := Kv.new (w0 := w) (i := i) (t := t) h (Below.refl _ _) 27
  have a2 := lay_alloc (w.alloc (.cells #[.int .i64 i, .int .i64 t, .slice a es.length c] 27)) (.cells #[.int .i64 0, .int .i64 0, .slice none 0 0] 27)
  have s1 : (w.alloc (.cells #[.int .i64 i, .int .i64 t, .slice a es.length c] 27)).heap.size = w.heap.size + 1 := by simp
  have hr := DC.alloc (w.alloc (.cells #[.int .i64 i, .int .i64 t, .slice a es.length c] 27)) [.int .i64 0, .int .i64 0, .slice none 0 0] 27
  rw [s1] at hr
  have hV := hV0.later a2
  have HV := Lib.hid hV
  have HR := Lib.hid hr
  have HLs := Lib.hid (hls.later hV.b)
  have HM := Lib.hid (hmt.below hV.b)
  have HNs := Lib.hid (hns.later hV.b)
  have HMn := Lib.hid (hmn.below hV.b)
  have HMs := Lib.hid (hm.later hV.b)
  have HK := Lib.hid hok
  have HFI := Lib.hid hf
  have HI := Lib.hid (show 0 ≤ i ∧ i + es.length ≤ 1099511627776 from ⟨(okL_iff.1 hok).1.1, okL_end hok⟩)
  have HG := Lib.hid (okL_iff.1 hok).2.2
  have HLS : Hid (∀ p q, LaS i t es es.length p q → p = i + es.length ∧ q = tm t es es.length) := fun p q hl => LaS_ok hok hl
  have HLa := Lib.hid (rLast_any hV.e i t)
  have HCM := Lib.hid hcm1
  have HWB := Lib.hid hV.b
  have HEw := Lib.hid h
  have HLw := Lib.hid hmt
  have HNw := Lib.hid hmn
  have HMw := Lib.hid hm
  have HUN : Hid (meetB i t es x u ms = false → joinL i t es x u ms = ⟨es, 0, [], false⟩) := fun h => joinL_unmet h
  have HMB : Hid (meetB i t es x u ms = (inM' u && goOnR x u ms && (decide (x < i) || (atL i t es x == some u)))) := rfl
  have HFAR : Hid (i + es.length < x → atL i t es x = none) := fun h => by unfold atL; rw [if_neg (by omega)]
  have d0 := hV.d0
  have d1 := hV.d1
  have d2 := hV.d2
  clear h hm hls hmt hns hmn hV0 hV a2 s1 hr hok hf hcm1
  go_enter Try.func24, Try.ntmps24
  go_wp2_with fail
  generalize (w.alloc _).alloc _ = W at *
  go_fit HLa.out
  rintro e1 w1 ⟨p, q, hls, rfl, hb⟩
  obtain ⟨hp1, hp2⟩ := HLS.out p q hls
  subst hp1 hp2
  have HV1 := Lib.hid (HV.out.later hb)
  have HR1 := Lib.hid (HR.out.below hb)
  have HB1 := Lib.hid hb
  clear hls hb HV HR HLa HLS d0 d1 d2
  have d0 := HV1.out.d0
  have d1 := HV1.out.d1
  have d2 := HV1.out.d2
  have HAt := Lib.hid (At_any HV1.out.e i t x HK.out)
  go_wp2_with fail
  go_fit HAt.out
  rintro e2 w2 ⟨rfl, hb⟩
  have HV2 := Lib.hid (HV1.out.later hb)
  have HR2 := Lib.hid (HR1.out.below hb)
  have HB2 := Lib.hid (HB1.out.trans (hb.mono HB1.out.size))
  clear hb HV1 HR1 HAt d0 d1 d2 HB1
  generalize hO : atL i t es x = O at *
  clear hO
  generalize hME : meetB i t es x u ms = ME at *
  have HME := Lib.hid hME
  clear hME
  have HON := Lib.hid (On_any (HMs.out.later HB2.out) HFI.out x u)
  have hJU : Hid (ME = false → joinL i t es x u ms = ⟨es, 0, [], false⟩) := fun h => HUN.out h
  cases hu : inM' u with
  | false =>
    have hn := near_no (n := u) (lo := 0) (by simpa [inM'] using hu) w2
    have HE0 := HEw
    go_wp2_with fail
    go_fit hn
    rintro e3 w3 ⟨rfl, rfl⟩
    have HJ : Hid (joinL i t es x u ms = ⟨es, 0, [], false⟩) := hJU.out (by rw [HMB.out, hu]; rfl)
    have d0 := HV2.out.d0
    have d1 := HV2.out.d1
    have d2 := HV2.out.d2
    have y0 := HR2.out.cells 0 _ rfl
    have y1 := HR2.out.cells 1 _ rfl
    have y2 := HR2.out.cells 2 _ rfl
    have f0 := HR2.out.fz 0
    have f1 := HR2.out.fz 1
    have f2 := HR2.out.fz 2
    go_wp2_with fail
    change bodyPost _ _ _ _ _ (put3 w2 (w.heap.size + 1) (.int .i64 i) (.int .i64 t) (.slice a es.length c))
    have KK := put3_dc (v0 := .int .i64 i) (v1 := .int .i64 t) (v2 := .slice a es.length c) HR2.out
    have hB2 := put3_below (b := w.heap.size + 1) (.int .i64 i) (.int .i64 t) (.slice a es.length c) HV2.out.b (Nat.le_succ _)
    have hE2 := HE0.out.later hB2
    have r0 := KK.cells 0 _ rfl
    have r1 := KK.cells 1 _ rfl
    have r2 := KK.cells 2 _ rfl
    clear d0 d1 d2 y0 y1 y2 f0 f1 f2
    generalize put3 _ _ _ _ _ = w9 at *
    exact bodyPost_ret (v := .tuple #[.agg #[.int .i64 i, .int .i64 t, .slice a es.length c], .int .i64 0, .slice none 0 0, .bool false]) (by simp [results, Try.results24, go_sem, r0, r1, r2]) rfl ⟨_, _, by rw [HJ.out], (by rw [HJ.out]; exact hE2), (by rw [HJ.out]; exact fun w0 _ => EIn.nil w0), hB2⟩
  | true =>
    have hn := near_yes (n := u) (lo := 0) (by simpa [inM'] using hu) w2
    rw [hu] at HMB
    cases hg : goOnR x u ms with
    | false =>
      rw [hg] at HON
      have HE0 := HEw
      go_wp2_with fail
      go_fit hn
      rintro e3 w3 ⟨rfl, rfl⟩
      go_wp2_with fail
      go_fit HON.out
      rintro e3 w3 ⟨rfl, hb⟩
      have HV3 := Lib.hid (HV2.out.later hb)
      have HR3 := Lib.hid (HR2.out.below hb)
      clear hb
      have HJ : Hid (joinL i t es x u ms = ⟨es, 0, [], false⟩) := hJU.out (by rw [HMB.out, hg]; rfl)
      have d0 := HV3.out.d0
      have d1 := HV3.out.d1
      have d2 := HV3.out.d2
      have y0 := HR3.out.cells 0 _ rfl
      have y1 := HR3.out.cells 1 _ rfl
      have y2 := HR3.out.cells 2 _ rfl
      have f0 := HR3.out.fz 0
      have f1 := HR3.out.fz 1
      have f2 := HR3.out.fz 2
      go_wp2_with fail
      change bodyPost _ _ _ _ _ (put3 w3 (w.heap.size + 1) (.int .i64 i) (.int .i64 t) (.slice a es.length c))
      have KK := put3_dc (v0 := .int .i64 i) (v1 := .int .i64 t) (v2 := .slice a es.length c) HR3.out
      have hB2 := put3_below (b := w.heap.size + 1) (.int .i64 i) (.int .i64 t) (.slice a es.length c) HV3.out.b (Nat.le_succ _)
      have hE2 := HE0.out.later hB2
      have r0 := KK.cells 0 _ rfl
      have r1 := KK.cells 1 _ rfl
      have r2 := KK.cells 2 _ rfl
      clear d0 d1 d2 y0 y1 y2 f0 f1 f2
      generalize put3 _ _ _ _ _ = w9 at *
      exact bodyPost_ret (v := .tuple #[.agg #[.int .i64 i, .int .i64 t, .slice a es.length c], .int .i64 0, .slice none 0 0, .bool false]) (by simp [results, Try.results24, go_sem, r0, r1, r2]) rfl ⟨_, _, by rw [HJ.out], (by rw [HJ.out]; exact hE2), (by rw [HJ.out]; exact fun w0 _ => EIn.nil w0), hB2⟩
    | true =>
      rw [hg] at HON HMB
      by_cases hx : i + es.length < x
      · have HE0 := HEw
        go_wp2_with fail
        go_fit hn
        rintro e3 w3 ⟨rfl, rfl⟩
        go_wp2_with fail
        go_fit HON.out
        rintro e3 w3 ⟨rfl, hb⟩
        have HV3 := Lib.hid (HV2.out.later hb)
        have HR3 := Lib.hid (HR2.out.below hb)
        clear hb
        have HJ : Hid (joinL i t es x u ms = ⟨es, 0, [], false⟩) := hJU.out (by rw [HMB.out, HFAR.out hx, decide_eq_false (by have := HI.out; omega)]; rfl)
        have d0 := HV3.out.d0
        have d1 := HV3.out.d1
        have d2 := HV3.out.d2
        have y0 := HR3.out.cells 0 _ rfl
        have y1 := HR3.out.cells 1 _ rfl
        have y2 := HR3.out.cells 2 _ rfl
        have f0 := HR3.out.fz 0
        have f1 := HR3.out.fz 1
        have f2 := HR3.out.fz 2
        go_wp2_with fail
        change bodyPost _ _ _ _ _ (put3 w3 (w.heap.size + 1) (.int .i64 i) (.int .i64 t) (.slice a es.length c))
        have KK := put3_dc (v0 := .int .i64 i) (v1 := .int .i64 t) (v2 := .slice a es.length c) HR3.out
        have hB2 := put3_below (b := w.heap.size + 1) (.int .i64 i) (.int .i64 t) (.slice a es.length c) HV3.out.b (Nat.le_succ _)
        have hE2 := HE0.out.later hB2
        have r0 := KK.cells 0 _ rfl
        have r1 := KK.cells 1 _ rfl
        have r2 := KK.cells 2 _ rfl
        clear d0 d1 d2 y0 y1 y2 f0 f1 f2
        generalize put3 _ _ _ _ _ = w9 at *
        exact bodyPost_ret (v := .tuple #[.agg #[.int .i64 i, .int .i64 t, .slice a es.length c], .int .i64 0, .slice none 0 0, .bool false]) (by simp [results, Try.results24, go_sem, r0, r1, r2]) rfl ⟨_, _, by rw [HJ.out], (by rw [HJ.out]; exact hE2), (by rw [HJ.out]; exact fun w0 _ => EIn.nil w0), hB2⟩
      · have hxb := decide_eq_false hx
        by_cases hxi : i ≤ x
        · cases O with
          | none =>
            simp only [Option.getD_none, Option.isSome_none]
            have HE0 := HEw
            go_wp2_with fail
            go_fit hn
            rintro e3 w3 ⟨rfl, rfl⟩
            go_wp2_with fail
            go_fit HON.out
            rintro e3 w3 ⟨rfl, hb⟩
            have HV3 := Lib.hid (HV2.out.later hb)
            have HR3 := Lib.hid (HR2.out.below hb)
            clear hb
            have HJ : Hid (joinL i t es x u ms = ⟨es, 0, [], false⟩) := hJU.out (by rw [HMB.out, decide_eq_false (by omega)]; rfl)
            have d0 := HV3.out.d0
            have d1 := HV3.out.d1
            have d2 := HV3.out.d2
            have y0 := HR3.out.cells 0 _ rfl
            have y1 := HR3.out.cells 1 _ rfl
            have y2 := HR3.out.cells 2 _ rfl
            have f0 := HR3.out.fz 0
            have f1 := HR3.out.fz 1
            have f2 := HR3.out.fz 2
            go_wp2_with fail
            change bodyPost _ _ _ _ _ (put3 w3 (w.heap.size + 1) (.int .i64 i) (.int .i64 t) (.slice a es.length c))
            have KK := put3_dc (v0 := .int .i64 i) (v1 := .int .i64 t) (v2 := .slice a es.length c) HR3.out
            have hB2 := put3_below (b := w.heap.size + 1) (.int .i64 i) (.int .i64 t) (.slice a es.length c) HV3.out.b (Nat.le_succ _)
            have hE2 := HE0.out.later hB2
            have r0 := KK.cells 0 _ rfl
            have r1 := KK.cells 1 _ rfl
            have r2 := KK.cells 2 _ rfl
            clear d0 d1 d2 y0 y1 y2 f0 f1 f2
            generalize put3 _ _ _ _ _ = w9 at *
            exact bodyPost_ret (v := .tuple #[.agg #[.int .i64 i, .int .i64 t, .slice a es.length c], .int .i64 0, .slice none 0 0, .bool false]) (by simp [results, Try.results24, go_sem, r0, r1, r2]) rfl ⟨_, _, by rw [HJ.out], (by rw [HJ.out]; exact hE2), (by rw [HJ.out]; exact fun w0 _ => EIn.nil w0), hB2⟩
          | some z =>
            simp only [Option.getD_some, Option.isSome_some]
            by_cases hz : z = u
            · have hz' := hz.symm
              subst hz'
              have hMT : ME = true := by rw [HMB.out]; simp
              have d0 := HV2.out.d0
              go_wp2_with fail
              go_fit hn
              rintro e3 w3 ⟨rfl, rfl⟩
              go_wp2_with fail
              go_fit HON.out
              rintro e3 w3 ⟨rfl, hb⟩
              have HV3 := Lib.hid (HV2.out.later hb)
              have HR3 := Lib.hid (HR2.out.below hb)
              have HB3 := Lib.hid (HB2.out.trans (hb.mono HB2.out.size))
              clear hb HV2 HR2 HB2 d0
              have d0 := HV3.out.d0
              have HV2 := HV3
              have HR2 := HR3
              have HB2 := HB3
              clear HV3 HR3 HB3
              have HMM : Hid (meetB i t es x u ms = true) := HME.out.trans hMT
              clear hMT HUN HMB HFAR HON
              go_wp2_with fail
              clear d0
              (try clear hzb hMT)
              (try clear hzb)
              go_loopw [70] (fun j wr => ∃ k : Nat, j = .int .i64 k ∧ k ≤ ms.length ∧ Hid (∀ (q : Nat) (y : Er), q < k → ms[q]? = some y → oth i t es y = false) ∧ Hid (Kv w wr w.heap.size i t a c es) ∧ Hid (DC wr (w.heap.size + 1) [.int .i64 0, .int .i64 0, .slice none 0 0]) ∧ Hid (Below W.heap.size W wr)) (fun j _ => ms.length - (intOf j).toNat)
              case atStart => exact ⟨0, rfl, Nat.zero_le _, (by show ∀ _ _, _; intro q y hq; omega), HV2, HR2, HB2⟩
              case round =>
                clear HV2 HR2 HB2
                obtain ⟨k, rfl, hk, hN, hV, hR, hB⟩ := hrel
                by_cases hlt : k < ms.length
                · have he : ms[k]? = some ms[k] := List.getElem?_eq_getElem hlt
                  generalize ms[k] = y at *
                  obtain ⟨g, off, pp, c', rfl, k0, k1, k2, _⟩ := (HMs.out.later hB.out).at he
                  have hkk : (k : Int) < (ms.length : Int) := by omega
                  have hal := lay_alloc wr (.cells #[.int .i64 y.i, .int .i64 y.t, .slice pp y.d.length c'] 44)
                  have HV3 := Lib.hid (hV.out.later hal)
                  have HR3 := Lib.hid (hR.out.below hal)
                  have HB3 := Lib.hid (hB.out.trans (hal.mono hB.out.size))
                  have HY3 := Lib.hid (DC.alloc wr [.int .i64 y.i, .int .i64 y.t, .slice pp y.d.length c'] 44)
                  have HE := Lib.hid he
                  have d0 := HV3.out.d0
                  have d1 := HV3.out.d1
                  have d2 := HV3.out.d2
                  have HAt := Lib.hid (At_any HV3.out.e i t y.i HK.out)
                  clear hal he hV hR hB
                  go_wp2_with fail
                  generalize wr.alloc _ = W3 at *
                  clear k0 k1 k2
                  generalize wr.heap.size = Yb at *
                  go_fit HAt.out
                  rintro e4 w4 ⟨rfl, hb⟩
                  have HV4 := Lib.hid (HV3.out.later hb)
                  have HR4 := Lib.hid (HR3.out.below hb)
                  have HY4 := Lib.hid (HY3.out.below hb)
                  have HB4 := Lib.hid (HB3.out.trans (hb.mono HB3.out.size))
                  clear hb HV3 HR3 HY3 HB3 HAt d0 d1 d2
                  have d0 := HV4.out.d0
                  have y0 := HY4.out.cells 0 _ rfl
                  have y1 := HY4.out.cells 1 _ rfl
                  have HOT : Hid (oth i t es y = (decide (i < y.i) && !(atL i t es y.i == some y.t))) := rfl
                  have HTH : Hid ((atL i t es y.i).isSome = true → i ≤ y.i ∧ y.i ≤ i + es.length) := fun h => by
                    unfold atL at h
                    split at h
                    · assumption
                    · cases h
                  have HTN : Hid (atL i t es y.i = none → ¬ (i ≤ y.i ∧ y.i ≤ i + es.length)) := fun h hh => by
                    unfold atL at h
                    rw [if_pos hh] at h
                    cases h
                  generalize atL i t es y.i = O2 at *
                  by_cases hyi : y.i ≤ i
                  · have HOF : Hid (oth i t es y = false) := by show _ = _; rw [HOT.out, decide_eq_false (by omega)]; rfl
                    have HN2 : Hid (∀ (q : Nat) (z : Er), q < k + 1 → ms[q]? = some z → oth i t es z = false) := fun q z hq hz => by
                      by_cases e : q < k
                      · exact hN.out q z e hz
                      · obtain rfl : q = k := by omega
                        rw [HE.out] at hz; cases hz; exact HOF.out
                    clear hN HOT HTH HTN
                    generalize O2.getD 0 = oz at *
                    generalize O2.isSome = ob at *
                    go_wp2_with fail
                    exact ⟨⟨k + 1, by go_num, hlt, HN2, HV4, HR4, HB4⟩, by show ms.length - ((k : Int) + 1).toNat < ms.length - (k : Int).toNat; omega⟩
                  · have hyb := decide_eq_false hyi
                    cases O2 with
                    | some z =>
                      simp only [Option.getD_some, Option.isSome_some]
                      by_cases hz : z = y.t
                      · have hzb : (z == y.t) = true := by rw [beq_iff_eq]; exact hz
                        have HOF : Hid (oth i t es y = false) := by show _ = _; rw [HOT.out, hz]; simp
                        have HN2 : Hid (∀ (q : Nat) (z : Er), q < k + 1 → ms[q]? = some z → oth i t es z = false) := fun q z hq hz => by
                          by_cases e : q < k
                          · exact hN.out q z e hz
                          · obtain rfl : q = k := by omega
                            rw [HE.out] at hz; cases hz; exact HOF.out
                        clear hN HOT HTH HTN hz
                        go_wp2_with fail
                        exact ⟨⟨k + 1, by go_num, hlt, HN2, HV4, HR4, HB4⟩, by show ms.length - ((k : Int) + 1).toNat < ms.length - (k : Int).toNat; omega⟩
                      · have hzb : (z == y.t) = false := by rw [beq_eq_false_iff_ne]; exact hz
                        have HOF : Hid (oth i t es y = true) := by
                          show _ = _
                          rw [HOT.out, decide_eq_true (by omega), show (some z == some y.t) = false from by simpa using hz]; rfl
                        have HCUT : Hid ((if y.i ≤ i + es.length then y.i else 0) = y.i) := by show _ = _; rw [if_pos (HTH.out rfl).2]
                        clear HOT HTH HTN hz
                        have HFS := Lib.hid (fstO_hit HE.out HOF.out hN.out)
                        have HAH := Lib.hid (fst_ahead HMM.out HFS.out HE.out)
                        have ew : IntKind.i64.wrap (y.i - 1) = y.i - 1 := IntWalk.i64_in _ (by have := HAH.out; have := HI.out; omega)
                        have d1 := HV4.out.d1
                        have d2 := HV4.out.d2
                        have HAt := Lib.hid (At_any HV4.out.e i t (y.i - 1) HK.out)
                        clear hN
                        go_wp2_with fail
                        go_fit HAt.out
                        rintro e5 w5 ⟨rfl, hb⟩
                        have HV5 := Lib.hid (HV4.out.later hb)
                        have HR5 := Lib.hid (HR4.out.below hb)
                        have HY5 := Lib.hid (HY4.out.below hb)
                        have HB5 := Lib.hid (HB4.out.trans (hb.mono HB4.out.size))
                        clear hb HV4 HR4 HY4 HB4 HAt d0 d1 d2 y0 y1 ew
                        have y0 := HY5.out.cells 0 _ rfl
                        have y1 := HY5.out.cells 1 _ rfl
                        have HJB : Hid (y.t < (atL i t es (y.i - 1)).getD 0 → joinL i t es x u ms = ⟨es, 0, [], false⟩) := fun h => joinL_bad HMM.out HFS.out HE.out h
                        have HJN : Hid (¬ y.t < (atL i t es (y.i - 1)).getD 0 → joinL i t es x u ms = ⟨es.take (y.i - 1 - i).toNat ++ ms.drop k, y.i, ms.drop k, true⟩) := fun h => by
                          have h0 := joinL_new HMM.out HFS.out HE.out h
                          rw [HCUT.out] at h0
                          exact h0
                        generalize (atL i t es (y.i - 1)).getD 0 = T at *
                        generalize (atL i t es (y.i - 1)).isSome = is at *
                        by_cases hT : y.t < T
                        · have HE0 := HEw
                          have HJ : Hid (joinL i t es x u ms = ⟨es, 0, [], false⟩) := HJB.out hT
                          have d0 := HV5.out.d0
                          have d1 := HV5.out.d1
                          have d2 := HV5.out.d2
                          have y0 := HR5.out.cells 0 _ rfl
                          have y1 := HR5.out.cells 1 _ rfl
                          have y2 := HR5.out.cells 2 _ rfl
                          have f0 := HR5.out.fz 0
                          have f1 := HR5.out.fz 1
                          have f2 := HR5.out.fz 2
                          go_wp2_with fail
                          change bodyPost _ _ _ _ _ (put3 w5 (w.heap.size + 1) (.int .i64 i) (.int .i64 t) (.slice a es.length c))
                          have KK := put3_dc (v0 := .int .i64 i) (v1 := .int .i64 t) (v2 := .slice a es.length c) HR5.out
                          have hB2 := put3_below (b := w.heap.size + 1) (.int .i64 i) (.int .i64 t) (.slice a es.length c) HV5.out.b (Nat.le_succ _)
                          have hE2 := HE0.out.later hB2
                          have r0 := KK.cells 0 _ rfl
                          have r1 := KK.cells 1 _ rfl
                          have r2 := KK.cells 2 _ rfl
                          clear d0 d1 d2 y0 y1 y2 f0 f1 f2
                          generalize put3 _ _ _ _ _ = w9 at *
                          exact bodyPost_ret (v := .tuple #[.agg #[.int .i64 i, .int .i64 t, .slice a es.length c], .int .i64 0, .slice none 0 0, .bool false]) (by simp [results, Try.results24, go_sem, r0, r1, r2]) rfl ⟨_, _, by rw [HJ.out], (by rw [HJ.out]; exact hE2), (by rw [HJ.out]; exact fun w0 _ => EIn.nil w0), hB2⟩
                        · obtain ⟨K, hK⟩ : ∃ K : Nat, (y.i - 1 - i).toNat = K := ⟨_, rfl⟩
                          have HJ := Lib.hid (HJN.out hT)
                          rw [hK] at HJ
                          have HKy : Hid (y.i = i + K + 1 ∧ K ≤ es.length) := by show _ ∧ _; have := HAH.out; omega
                          clear HJN HJB hK
                          have d0 := HV5.out.d0
                          have d1 := HV5.out.d1
                          have hal := lay_alloc w5 (.cells #[.int .i64 i, .int .i64 t, .slice none 0 0] 27)
                          have HX6 := Lib.hid (DC.alloc w5 [.int .i64 i, .int .i64 t, .slice none 0 0] 27)
                          have HV6 := Lib.hid (HV5.out.later hal)
                          have HR6 := Lib.hid (HR5.out.below hal)
                          have HY6 := Lib.hid (HY5.out.below hal)
                          have HB6 := Lib.hid (HB5.out.trans (hal.mono HB5.out.size))
                          have HSZ : Hid (w.heap.size + 1 < w5.heap.size) := HR5.out.lt
                          have HSY : Hid (Yb < w5.heap.size) := HY5.out.lt
                          have hs6 : Hid (w5.heap.size + 1 ≤ (w5.alloc (.cells #[.int .i64 i, .int .i64 t, .slice none 0 0] 27)).heap.size) := by show _ ≤ _; simp
                          have HWS : Hid (W.heap.size ≤ w5.heap.size) := HB5.out.size
                          have d2 := HV6.out.d2
                          clear hal HV5 HR5 HY5 HB5
                          go_wp2_with fail
                          generalize w5.alloc _ = W6 at *
                          generalize w5.heap.size = Xb at *
                          clear d0 d1 d2 y0 y1
                          go_loopw [117] (fun j wr => ∃ (q : Nat) (v' : Value), j = .int .i64 q ∧ q ≤ es.length ∧ Hid (DC wr Xb [.int .i64 i, .int .i64 t, v']) ∧ Hid (DC wr Yb [.int .i64 y.i, .int .i64 y.t, .slice pp y.d.length c']) ∧ Hid (DC wr (w.heap.size + 1) [.int .i64 0, .int .i64 0, .slice none 0 0]) ∧ Hid (wr.ownsRow (Xb + 1) 44 enL.sz v' (ls.take (min q K)).length (enL.all (ls.take (min q K)))) ∧ Hid (Below W.heap.size W wr) ∧ Hid (Xb + 1 ≤ wr.heap.size)) (fun j _ => es.length - (intOf j).toNat)
                          case atStart => exact ⟨0, .slice none 0 0, rfl, Nat.zero_le _, HX6, HY6, HR6, (by show World.ownsRow _ _ _ _ _ _ _; rw [show ls.take (min 0 K) = [] from by simp]; exact World.ownsRow_nil _ _ _ _), HB6, hs6⟩
                          case round =>
                            clear HX6 HY6 HR6 HB6 hs6
                            obtain ⟨q, v', rfl, hq, hX, hY, hR, hO, hB, hW⟩ := hrel
                            obtain ⟨va, vc, rfl⟩ := row_slice1 hO.out
                            by_cases hqt : q < es.length
                            · have hln : ls.length = es.length := HM.out.len
                              have hg : ls[q]? = some (ls[q]'(by omega)) := List.getElem?_eq_getElem (by omega)
                              have he2 : es[q]? = some es[q] := List.getElem?_eq_getElem hqt
                              have hxi := (HM.out.each q _ _ hg he2).1
                              have hei := (goR_get HG.out he2).1
                              generalize es[q] = ye at *
                              generalize hy : ls[q]'(by omega) = z at *
                              obtain ⟨zi, zt, p, pn, pc⟩ := z
                              obtain ⟨g2, off2, hga, k0, k1, k2⟩ := en_at (HLs.out.later hB.out) hg
                              subst hga
                              have hqq : (q : Int) < (es.length : Int) := by omega
                              have hzi : zi = i + q + 1 := by simp only at hxi; omega
                              have hal := lay_alloc wr (.cells #[.int .i64 zi, .int .i64 zt, .slice p pn pc] 44)
                              have HX2 := Lib.hid (hX.out.below hal)
                              have HY2 := Lib.hid (hY.out.below hal)
                              have HR2 := Lib.hid (hR.out.below hal)
                              have HB2 := Lib.hid (hB.out.trans (hal.mono hB.out.size))
                              have HO2 := Lib.hid (hO.out.alloc (.cells #[.int .i64 zi, .int .i64 zt, .slice p pn pc] 44))
                              have HW2 : Hid (Xb + 1 ≤ (wr.alloc (.cells #[.int .i64 zi, .int .i64 zt, .slice p pn pc] 44)).heap.size) := by show _ ≤ _; exact Nat.le_trans hW.out hal.size
                              have HD := Lib.hid (DC.alloc wr [.int .i64 zi, .int .i64 zt, .slice p pn pc] 44)
                              have q0 := HY2.out.cells 0 _ rfl
                              by_cases hqK : q < K
                              · have hgt : zi < y.i := by have := HKy.out.1; omega
                                have HST : Hid (ls.take (min (q + 1) K) = ls.take (min q K) ++ [⟨zi, zt, (p, pn, pc)⟩]) := by
                                  show _ = _
                                  rw [show min (q + 1) K = q + 1 by omega, show min q K = q by omega, List.take_add_one, hg]; rfl
                                have HPL : Hid ((ls.take (min q K)).length ≤ 1000) := by show _ ≤ _; rw [List.length_take]; omega
                                clear hal hg he2 hxi hei hzi hy hqK
                                go_upto_region 18 with fail
                                generalize wr.alloc _ = W7 at *
                                have m0 := HD.out.cells 0 _ rfl
                                have m1 := HD.out.cells 1 _ rfl
                                have m2 := HD.out.cells 2 _ rfl
                                have x2 := HX2.out.cells 2 _ rfl
                                clear k0 k1 k2 hX hR hO hB hW hY q0
                                generalize hPd : ls.take (min q K) = P at *
                                go_wp2_with (at_builtin; refine wpList_pushI rfl _ _ 22 44 _ 3 40 rfl Try.underlying22 Try.infoEn rfl (by decide) (Xb + 1) P.length _ (enL.all P) rfl HO2.out #[.int .i64 zi, .int .i64 zt, .slice p pn pc] rfl (enL.one ⟨zi, zt, (p, pn, pc)⟩) rfl (by have := HPL.out; omega) (by decide) HW2.out ?_; intro g4 c4 w8 hown hgrow hat2 hlt4; have HO4 := Lib.hid hown; have HX4 := Lib.hid (HX2.out.keep hgrow.size (hgrow.block _ HX2.out.lt (fun e => by have := (HO2.out.lt _ e.symm).1; omega))); have HY4 := Lib.hid (HY2.out.keep hgrow.size (hgrow.block _ HY2.out.lt (fun e => by have := (HO2.out.lt _ e.symm).1; have := HSY.out; omega))); have HR4 := Lib.hid (HR2.out.keep hgrow.size (hgrow.block _ HR2.out.lt (fun e => by have := (HO2.out.lt _ e.symm).1; have := HSZ.out; omega))); have HB4 : Hid (Below W.heap.size W w8) := ⟨hgrow.os.trans HB2.out.os, hgrow.tape.trans HB2.out.tape, hgrow.output.trans HB2.out.output, Nat.le_trans HB2.out.size hgrow.size, fun j hj => (hgrow.block j (Nat.lt_of_lt_of_le hj HB2.out.size) (fun e => by have := (HO2.out.lt _ e.symm).1; have := HWS.out; omega)).trans (HB2.out.block j hj)⟩; have y2' := HX4.out.cells 2 _ rfl; have yf := HX4.out.fz 2; clear hown hgrow hat2)
                                have HX5 := Lib.hid (HX4.out.set 2 (.slice (some ⟨g4, 0, none⟩) (P.length + 1) c4) (by simp))
                                have HY5 := Lib.hid (HY4.out.other (k := Xb) (o := 2) (x := .slice (some ⟨g4, 0, none⟩) (P.length + 1) c4) (by have := HSY.out; omega))
                                have HR5 := Lib.hid (HR4.out.other (k := Xb) (o := 2) (x := .slice (some ⟨g4, 0, none⟩) (P.length + 1) c4) (by have := HSZ.out; omega))
                                have HB5 := Lib.hid (HB4.out.setCell (p := ⟨Xb, 2, none⟩) HWS.out (.slice (some ⟨g4, 0, none⟩) (P.length + 1) c4))
                                have HO5 := Lib.hid (ownsRow_setCell_below HO4.out (a := ⟨Xb, 2, none⟩) (Nat.lt_succ_self _) (.slice (some ⟨g4, 0, none⟩) (P.length + 1) c4))
                                have HW5 : Hid (Xb + 1 ≤ (w8.setCell ⟨Xb, 2, none⟩ (.slice (some ⟨g4, 0, none⟩) (P.length + 1) c4)).heap.size) := by show _ ≤ _; simp only [World.setCell, Array.size_modify]; have := HW2.out; omega
                                exact ⟨⟨q + 1, _, by go_num, hqt, HX5, HY5, HR5, (by show World.ownsRow _ _ _ _ _ _ _; rw [HST.out, Lay.all_app, Lay.all_one, List.length_append]; exact HO5.out), HB5, HW5⟩, by show es.length - ((q : Int) + 1).toNat < es.length - (q : Int).toNat; omega⟩
                              · have hgt : ¬ (zi < y.i) := by have := HKy.out.1; omega
                                have hgtb := decide_eq_false hgt
                                have HSK : Hid (min (q + 1) K = min q K) := by show _ = _; omega
                                clear hal hg he2 hxi hei hzi hy
                                go_wp2_with fail
                                exact ⟨⟨q + 1, _, by go_num, hqt, HX2, HY2, HR2, (by show World.ownsRow _ _ _ _ _ _ _; rw [HSK.out]; exact HO2.out), HB2, HW2⟩, by show es.length - ((q : Int) + 1).toNat < es.length - (q : Int).toNat; omega⟩
                            · obtain rfl : q = es.length := by omega
                              have hP : ls.take (min es.length K) = ls.take K := by rw [Nat.min_eq_right HKy.out.2]
                              rw [hP] at hO hX
                              clear hP
                              have hcf : ¬ cm = k := by have := HCM.out; omega
                              have hdn := (HNs.out.later hB.out).drop k (Nat.le_of_lt hlt)
                              have hdm := (HMs.out.later hB.out).drop k (Nat.le_of_lt hlt)
                              rw [if_neg hcf] at hdn hdm
                              simp only [Option.map_some, lay_add] at hdn hdm
                              have hdb := lay_drew (Below.refl wr.heap.size wr)
                              have HO1 := Lib.hid (World.ownsRow.drew hO.out)
                              have HDn := Lib.hid (hdn.later hdb)
                              have HDm := Lib.hid (hdm.later hdb)
                              have HX1 := Lib.hid (hX.out.below hdb)
                              have HY1 := Lib.hid (hY.out.below hdb)
                              have HR1 := Lib.hid (hR.out.below hdb)
                              have HB1 : Hid (Below W.heap.size W wr.drew) := hB.out.trans (hdb.mono hB.out.size)
                              have HW1 : Hid (Xb + 1 ≤ wr.drew.heap.size) := hW.out
                              have HLn : Hid ((ls.take K).length + (ns.drop k).length ≤ 1073741825) := by
                                show _ ≤ _
                                rw [List.length_take, List.length_drop]
                                have := HM.out.len
                                have := HMn.out.len
                                omega
                              have hMt := ((HLw.out.take K).app (HNw.out.drop k))
                              have HMt := Lib.hid hMt
                              have hkm : (k : Int) ≤ (ms.length : Int) := by omega
                              have hkc : (k : Int) ≤ (cm : Int) := by have := HCM.out; omega
                              have hcf2 : ¬ ((cm : Int) = (k : Int)) := by omega
                              have x2 := HX1.out.cells 2 _ rfl
                              generalize hPd : ls.take K = P at *
                              generalize hNd : ns.drop k = D at *
                              clear hO hdn hdm hX hY hR hB hW hdb hMt
                              go_upto_region 20 with fail
                              go_region_law (refine step_catI (I := enL) (by rfl) _ _ 22 44 (by rfl) Try.underlying22 Try.infoEn rfl (by decide) (by decide) HO1.out HDn.out HLn.out HW1.out (by rfl) (by rfl) ?_; intro v8 w8 hown hgrow; (rw [List.length_append] at hown); (obtain ⟨va8, vc8, rfl⟩ := row_slice1 hown); have HO8 := Lib.hid hown; have HX8 := Lib.hid (HX1.out.keep hgrow.size (hgrow.block _ HX1.out.lt (fun e => by have := (HO1.out.lt _ e.symm).1; omega))); have HY8 := Lib.hid (HY1.out.keep hgrow.size (hgrow.block _ HY1.out.lt (fun e => by have := (HO1.out.lt _ e.symm).1; have := HSY.out; omega))); have HR8 := Lib.hid (HR1.out.keep hgrow.size (hgrow.block _ HR1.out.lt (fun e => by have := (HO1.out.lt _ e.symm).1; have := HSZ.out; omega))); have HB8 : Hid (Below W.heap.size W w8) := ⟨hgrow.os.trans HB1.out.os, hgrow.tape.trans HB1.out.tape, hgrow.output.trans HB1.out.output, Nat.le_trans HB1.out.size hgrow.size, fun j hj => (hgrow.block j (Nat.lt_of_lt_of_le hj HB1.out.size) (fun e => by have := (HO1.out.lt _ e.symm).1; have := HWS.out; omega)).trans (HB1.out.block j hj)⟩; have z2 := HX8.out.cells 2 _ rfl; have zf := HX8.out.fz 2; clear hown hgrow x2)
                              all_goals
                                have HX9 := Lib.hid (HX8.out.set 2 (.slice va8 (P.length + D.length) vc8) (by simp))
                                have HY9 := Lib.hid (HY8.out.other (k := Xb) (o := 2) (x := .slice va8 (P.length + D.length) vc8) (by have := HSY.out; omega))
                                have HR9 := Lib.hid (HR8.out.other (k := Xb) (o := 2) (x := .slice va8 (P.length + D.length) vc8) (by have := HSZ.out; omega))
                                have HB9 := Lib.hid (HB8.out.setCell (p := ⟨Xb, 2, none⟩) HWS.out (.slice va8 (P.length + D.length) vc8))
                                have HO9 := Lib.hid (ownsRow_setCell_below HO8.out (a := ⟨Xb, 2, none⟩) (Nat.lt_succ_self _) (.slice va8 (P.length + D.length) vc8))
                                clear z2 zf HX8 HY8 HR8 HB8 HO8 HX1 HY1 HR1 HB1 HO1 HW1
                                generalize w8.setCell _ _ = w9 at *
                                have hdb9 := lay_drew (Below.refl w9.heap.size w9)
                                have xa0 := HX9.out.cells 0 _ rfl
                                have xa1 := HX9.out.cells 1 _ rfl
                                have xa2 := HX9.out.cells 2 _ rfl
                                have qa0 := HR9.out.cells 0 _ rfl
                                have qa1 := HR9.out.cells 1 _ rfl
                                have qa2 := HR9.out.cells 2 _ rfl
                                have qaf0 := HR9.out.fz 0
                                have qaf1 := HR9.out.fz 1
                                have qaf2 := HR9.out.fz 2
                                have HXd := Lib.hid (HX9.out.below hdb9)
                                have HRd := Lib.hid (HR9.out.below hdb9)
                                have y0 := HY9.out.cells 0 _ rfl
                                have x0 := HXd.out.cells 0 _ rfl
                                have x1 := HXd.out.cells 1 _ rfl
                                have x2 := HXd.out.cells 2 _ rfl
                                have q0 := HRd.out.cells 0 _ rfl
                                have q1 := HRd.out.cells 1 _ rfl
                                have q2 := HRd.out.cells 2 _ rfl
                                have qf0 := HRd.out.fz 0
                                have qf1 := HRd.out.fz 1
                                have qf2 := HRd.out.fz 2
                                clear hdb9
                                generalize hPDl : (P.length + D.length) = PD at *
                                have HPD := Lib.hid hPDl
                                clear hPDl
                                go_upto_region 24 with fail
                                go_region
                                all_goals
                                  clear xa0 xa1 xa2 qa0 qa1 qa2 qaf0 qaf1 qaf2 x0 x1 x2 q0 q1 q2 qf0 qf1 qf2 y0
                                  go_simp
                                  rw [show (((w9.setCell ⟨w.heap.size + 1, 0, none⟩ (.int .i64 i)).setCell ⟨w.heap.size + 1, 1, none⟩ (.int .i64 t)).setCell ⟨w.heap.size + 1, 2, none⟩ (.slice va8 PD vc8)).drew = (put3 w9 (w.heap.size + 1) (.int .i64 i) (.int .i64 t) (.slice va8 PD vc8)).drew from rfl]
                                  have KK := (put3_dc (v0 := .int .i64 i) (v1 := .int .i64 t) (v2 := .slice va8 PD vc8) HR9.out).below (lay_drew (Below.refl _ _))
                                  have hB2 := lay_drew (put3_below (b := w.heap.size + 1) (.int .i64 i) (.int .i64 t) (.slice va8 PD vc8) (HWB.out.trans (HB9.out.mono HWB.out.size)) (Nat.le_succ _))
                                  have hO2 := World.ownsRow.drew (ownsRow_setCell_below (ownsRow_setCell_below (ownsRow_setCell_below HO9.out (a := ⟨w.heap.size + 1, 0, none⟩) (show w.heap.size + 1 < Xb + 1 by have := HSZ.out; omega) (.int .i64 i)) (a := ⟨w.heap.size + 1, 1, none⟩) (show w.heap.size + 1 < Xb + 1 by have := HSZ.out; omega) (.int .i64 t)) (a := ⟨w.heap.size + 1, 2, none⟩) (show w.heap.size + 1 < Xb + 1 by have := HSZ.out; omega) (.slice va8 PD vc8))
                                  have hl2 : enL.In (put3 w9 (w.heap.size + 1) (.int .i64 i) (.int .i64 t) (.slice va8 PD vc8)).drew (.slice va8 PD vc8) (P ++ D) := Lay.in_own hO2 (by rw [List.length_append]; exact HPD.out.symm)
                                  have hE2 := (HMt.out.below hB2).ein hl2
                                  have hF2 : ∀ w0 : World, EIn w0 (.slice (some ⟨g, off, none⟩) ms.length cm) ms → EIn w0 (.slice (some ⟨g, off + k * 3, none⟩) (ms.length - k) (cm - k)) (ms.drop k) := fun w0 h0 => by
                                    have h1 := h0.drop k (Nat.le_of_lt hlt)
                                    rw [if_neg hcf] at h1
                                    simpa only [Option.map_some, lay_add] using h1
                                  have r0 := KK.cells 0 _ rfl
                                  have r1 := KK.cells 1 _ rfl
                                  have r2 := KK.cells 2 _ rfl
                                  clear hl2 hO2 KK HX9 HR9 HO9 HB9 HXd HRd HMt HDn HDm HLn
                                  generalize (put3 w9 _ _ _ _).drew = w11 at *
                                  go_wp2_with fail
                                  exact bodyPost_ret (v := .tuple #[.agg #[.int .i64 i, .int .i64 t, .slice va8 PD vc8], .int .i64 (y.i), .slice (some ⟨g, off + k * 3, none⟩) (ms.length - k) (cm - k), .bool true]) (by simp [results, Try.results24, go_sem, r0, r1, r2]) rfl ⟨_, _, by rw [HJ.out], (by rw [HJ.out]; exact hE2), (by rw [HJ.out]; exact hF2), hB2⟩
                    | none =>
                      simp only [Option.getD_none, Option.isSome_none]
                      have HOF : Hid (oth i t es y = true) := by
                        show _ = _
                        rw [HOT.out, decide_eq_true (by omega)]; rfl
                      have HCUT : Hid ((if y.i ≤ i + es.length then y.i else 0) = 0) := by show _ = _; rw [if_neg (fun h => HTN.out rfl ⟨by omega, h⟩)]
                      clear HOT HTH HTN
                      have HFS := Lib.hid (fstO_hit HE.out HOF.out hN.out)
                      have HAH := Lib.hid (fst_ahead HMM.out HFS.out HE.out)
                      have ew : IntKind.i64.wrap (y.i - 1) = y.i - 1 := IntWalk.i64_in _ (by have := HAH.out; have := HI.out; omega)
                      have d1 := HV4.out.d1
                      have d2 := HV4.out.d2
                      have HAt := Lib.hid (At_any HV4.out.e i t (y.i - 1) HK.out)
                      clear hN
                      go_wp2_with fail
                      go_fit HAt.out
                      rintro e5 w5 ⟨rfl, hb⟩
                      have HV5 := Lib.hid (HV4.out.later hb)
                      have HR5 := Lib.hid (HR4.out.below hb)
                      have HY5 := Lib.hid (HY4.out.below hb)
                      have HB5 := Lib.hid (HB4.out.trans (hb.mono HB4.out.size))
                      clear hb HV4 HR4 HY4 HB4 HAt d0 d1 d2 y0 y1 ew
                      have y0 := HY5.out.cells 0 _ rfl
                      have y1 := HY5.out.cells 1 _ rfl
                      have HJB : Hid (y.t < (atL i t es (y.i - 1)).getD 0 → joinL i t es x u ms = ⟨es, 0, [], false⟩) := fun h => joinL_bad HMM.out HFS.out HE.out h
                      have HJN : Hid (¬ y.t < (atL i t es (y.i - 1)).getD 0 → joinL i t es x u ms = ⟨es.take (y.i - 1 - i).toNat ++ ms.drop k, 0, ms.drop k, true⟩) := fun h => by
                        have h0 := joinL_new HMM.out HFS.out HE.out h
                        rw [HCUT.out] at h0
                        exact h0
                      generalize (atL i t es (y.i - 1)).getD 0 = T at *
                      generalize (atL i t es (y.i - 1)).isSome = is at *
                      by_cases hT : y.t < T
                      · have HE0 := HEw
                        have HJ : Hid (joinL i t es x u ms = ⟨es, 0, [], false⟩) := HJB.out hT
                        have d0 := HV5.out.d0
                        have d1 := HV5.out.d1
                        have d2 := HV5.out.d2
                        have y0 := HR5.out.cells 0 _ rfl
                        have y1 := HR5.out.cells 1 _ rfl
                        have y2 := HR5.out.cells 2 _ rfl
                        have f0 := HR5.out.fz 0
                        have f1 := HR5.out.fz 1
                        have f2 := HR5.out.fz 2
                        go_wp2_with fail
                        change bodyPost _ _ _ _ _ (put3 w5 (w.heap.size + 1) (.int .i64 i) (.int .i64 t) (.slice a es.length c))
                        have KK := put3_dc (v0 := .int .i64 i) (v1 := .int .i64 t) (v2 := .slice a es.length c) HR5.out
                        have hB2 := put3_below (b := w.heap.size + 1) (.int .i64 i) (.int .i64 t) (.slice a es.length c) HV5.out.b (Nat.le_succ _)
                        have hE2 := HE0.out.later hB2
                        have r0 := KK.cells 0 _ rfl
                        have r1 := KK.cells 1 _ rfl
                        have r2 := KK.cells 2 _ rfl
                        clear d0 d1 d2 y0 y1 y2 f0 f1 f2
                        generalize put3 _ _ _ _ _ = w9 at *
                        exact bodyPost_ret (v := .tuple #[.agg #[.int .i64 i, .int .i64 t, .slice a es.length c], .int .i64 0, .slice none 0 0, .bool false]) (by simp [results, Try.results24, go_sem, r0, r1, r2]) rfl ⟨_, _, by rw [HJ.out], (by rw [HJ.out]; exact hE2), (by rw [HJ.out]; exact fun w0 _ => EIn.nil w0), hB2⟩
                      · obtain ⟨K, hK⟩ : ∃ K : Nat, (y.i - 1 - i).toNat = K := ⟨_, rfl⟩
                        have HJ := Lib.hid (HJN.out hT)
                        rw [hK] at HJ
                        have HKy : Hid (y.i = i + K + 1 ∧ K ≤ es.length) := by show _ ∧ _; have := HAH.out; omega
                        clear HJN HJB hK
                        have d0 := HV5.out.d0
                        have d1 := HV5.out.d1
                        have hal := lay_alloc w5 (.cells #[.int .i64 i, .int .i64 t, .slice none 0 0] 27)
                        have HX6 := Lib.hid (DC.alloc w5 [.int .i64 i, .int .i64 t, .slice none 0 0] 27)
                        have HV6 := Lib.hid (HV5.out.later hal)
                        have HR6 := Lib.hid (HR5.out.below hal)
                        have HY6 := Lib.hid (HY5.out.below hal)
                        have HB6 := Lib.hid (HB5.out.trans (hal.mono HB5.out.size))
                        have HSZ : Hid (w.heap.size + 1 < w5.heap.size) := HR5.out.lt
                        have HSY : Hid (Yb < w5.heap.size) := HY5.out.lt
                        have hs6 : Hid (w5.heap.size + 1 ≤ (w5.alloc (.cells #[.int .i64 i, .int .i64 t, .slice none 0 0] 27)).heap.size) := by show _ ≤ _; simp
                        have HWS : Hid (W.heap.size ≤ w5.heap.size) := HB5.out.size
                        have d2 := HV6.out.d2
                        clear hal HV5 HR5 HY5 HB5
                        go_wp2_with fail
                        generalize w5.alloc _ = W6 at *
                        generalize w5.heap.size = Xb at *
                        clear d0 d1 d2 y0 y1
                        go_loopw [117] (fun j wr => ∃ (q : Nat) (v' : Value), j = .int .i64 q ∧ q ≤ es.length ∧ Hid (DC wr Xb [.int .i64 i, .int .i64 t, v']) ∧ Hid (DC wr Yb [.int .i64 y.i, .int .i64 y.t, .slice pp y.d.length c']) ∧ Hid (DC wr (w.heap.size + 1) [.int .i64 0, .int .i64 0, .slice none 0 0]) ∧ Hid (wr.ownsRow (Xb + 1) 44 enL.sz v' (ls.take (min q K)).length (enL.all (ls.take (min q K)))) ∧ Hid (Below W.heap.size W wr) ∧ Hid (Xb + 1 ≤ wr.heap.size)) (fun j _ => es.length - (intOf j).toNat)
                        case atStart => exact ⟨0, .slice none 0 0, rfl, Nat.zero_le _, HX6, HY6, HR6, (by show World.ownsRow _ _ _ _ _ _ _; rw [show ls.take (min 0 K) = [] from by simp]; exact World.ownsRow_nil _ _ _ _), HB6, hs6⟩
                        case round =>
                          clear HX6 HY6 HR6 HB6 hs6
                          obtain ⟨q, v', rfl, hq, hX, hY, hR, hO, hB, hW⟩ := hrel
                          obtain ⟨va, vc, rfl⟩ := row_slice1 hO.out
                          by_cases hqt : q < es.length
                          · have hln : ls.length = es.length := HM.out.len
                            have hg : ls[q]? = some (ls[q]'(by omega)) := List.getElem?_eq_getElem (by omega)
                            have he2 : es[q]? = some es[q] := List.getElem?_eq_getElem hqt
                            have hxi := (HM.out.each q _ _ hg he2).1
                            have hei := (goR_get HG.out he2).1
                            generalize es[q] = ye at *
                            generalize hy : ls[q]'(by omega) = z at *
                            obtain ⟨zi, zt, p, pn, pc⟩ := z
                            obtain ⟨g2, off2, hga, k0, k1, k2⟩ := en_at (HLs.out.later hB.out) hg
                            subst hga
                            have hqq : (q : Int) < (es.length : Int) := by omega
                            have hzi : zi = i + q + 1 := by simp only at hxi; omega
                            have hal := lay_alloc wr (.cells #[.int .i64 zi, .int .i64 zt, .slice p pn pc] 44)
                            have HX2 := Lib.hid (hX.out.below hal)
                            have HY2 := Lib.hid (hY.out.below hal)
                            have HR2 := Lib.hid (hR.out.below hal)
                            have HB2 := Lib.hid (hB.out.trans (hal.mono hB.out.size))
                            have HO2 := Lib.hid (hO.out.alloc (.cells #[.int .i64 zi, .int .i64 zt, .slice p pn pc] 44))
                            have HW2 : Hid (Xb + 1 ≤ (wr.alloc (.cells #[.int .i64 zi, .int .i64 zt, .slice p pn pc] 44)).heap.size) := by show _ ≤ _; exact Nat.le_trans hW.out hal.size
                            have HD := Lib.hid (DC.alloc wr [.int .i64 zi, .int .i64 zt, .slice p pn pc] 44)
                            have q0 := HY2.out.cells 0 _ rfl
                            by_cases hqK : q < K
                            · have hgt : zi < y.i := by have := HKy.out.1; omega
                              have HST : Hid (ls.take (min (q + 1) K) = ls.take (min q K) ++ [⟨zi, zt, (p, pn, pc)⟩]) := by
                                show _ = _
                                rw [show min (q + 1) K = q + 1 by omega, show min q K = q by omega, List.take_add_one, hg]; rfl
                              have HPL : Hid ((ls.take (min q K)).length ≤ 1000) := by show _ ≤ _; rw [List.length_take]; omega
                              clear hal hg he2 hxi hei hzi hy hqK
                              go_upto_region 18 with fail
                              generalize wr.alloc _ = W7 at *
                              have m0 := HD.out.cells 0 _ rfl
                              have m1 := HD.out.cells 1 _ rfl
                              have m2 := HD.out.cells 2 _ rfl
                              have x2 := HX2.out.cells 2 _ rfl
                              clear k0 k1 k2 hX hR hO hB hW hY q0
                              generalize hPd : ls.take (min q K) = P at *
                              go_wp2_with (at_builtin; refine wpList_pushI rfl _ _ 22 44 _ 3 40 rfl Try.underlying22 Try.infoEn rfl (by decide) (Xb + 1) P.length _ (enL.all P) rfl HO2.out #[.int .i64 zi, .int .i64 zt, .slice p pn pc] rfl (enL.one ⟨zi, zt, (p, pn, pc)⟩) rfl (by have := HPL.out; omega) (by decide) HW2.out ?_; intro g4 c4 w8 hown hgrow hat2 hlt4; have HO4 := Lib.hid hown; have HX4 := Lib.hid (HX2.out.keep hgrow.size (hgrow.block _ HX2.out.lt (fun e => by have := (HO2.out.lt _ e.symm).1; omega))); have HY4 := Lib.hid (HY2.out.keep hgrow.size (hgrow.block _ HY2.out.lt (fun e => by have := (HO2.out.lt _ e.symm).1; have := HSY.out; omega))); have HR4 := Lib.hid (HR2.out.keep hgrow.size (hgrow.block _ HR2.out.lt (fun e => by have := (HO2.out.lt _ e.symm).1; have := HSZ.out; omega))); have HB4 : Hid (Below W.heap.size W w8) := ⟨hgrow.os.trans HB2.out.os, hgrow.tape.trans HB2.out.tape, hgrow.output.trans HB2.out.output, Nat.le_trans HB2.out.size hgrow.size, fun j hj => (hgrow.block j (Nat.lt_of_lt_of_le hj HB2.out.size) (fun e => by have := (HO2.out.lt _ e.symm).1; have := HWS.out; omega)).trans (HB2.out.block j hj)⟩; have y2' := HX4.out.cells 2 _ rfl; have yf := HX4.out.fz 2; clear hown hgrow hat2)
                              have HX5 := Lib.hid (HX4.out.set 2 (.slice (some ⟨g4, 0, none⟩) (P.length + 1) c4) (by simp))
                              have HY5 := Lib.hid (HY4.out.other (k := Xb) (o := 2) (x := .slice (some ⟨g4, 0, none⟩) (P.length + 1) c4) (by have := HSY.out; omega))
                              have HR5 := Lib.hid (HR4.out.other (k := Xb) (o := 2) (x := .slice (some ⟨g4, 0, none⟩) (P.length + 1) c4) (by have := HSZ.out; omega))
                              have HB5 := Lib.hid (HB4.out.setCell (p := ⟨Xb, 2, none⟩) HWS.out (.slice (some ⟨g4, 0, none⟩) (P.length + 1) c4))
                              have HO5 := Lib.hid (ownsRow_setCell_below HO4.out (a := ⟨Xb, 2, none⟩) (Nat.lt_succ_self _) (.slice (some ⟨g4, 0, none⟩) (P.length + 1) c4))
                              have HW5 : Hid (Xb + 1 ≤ (w8.setCell ⟨Xb, 2, none⟩ (.slice (some ⟨g4, 0, none⟩) (P.length + 1) c4)).heap.size) := by show _ ≤ _; simp only [World.setCell, Array.size_modify]; have := HW2.out; omega
                              exact ⟨⟨q + 1, _, by go_num, hqt, HX5, HY5, HR5, (by show World.ownsRow _ _ _ _ _ _ _; rw [HST.out, Lay.all_app, Lay.all_one, List.length_append]; exact HO5.out), HB5, HW5⟩, by show es.length - ((q : Int) + 1).toNat < es.length - (q : Int).toNat; omega⟩
                            · have hgt : ¬ (zi < y.i) := by have := HKy.out.1; omega
                              have hgtb := decide_eq_false hgt
                              have HSK : Hid (min (q + 1) K = min q K) := by show _ = _; omega
                              clear hal hg he2 hxi hei hzi hy
                              go_wp2_with fail
                              exact ⟨⟨q + 1, _, by go_num, hqt, HX2, HY2, HR2, (by show World.ownsRow _ _ _ _ _ _ _; rw [HSK.out]; exact HO2.out), HB2, HW2⟩, by show es.length - ((q : Int) + 1).toNat < es.length - (q : Int).toNat; omega⟩
                          · obtain rfl : q = es.length := by omega
                            have hP : ls.take (min es.length K) = ls.take K := by rw [Nat.min_eq_right HKy.out.2]
                            rw [hP] at hO hX
                            clear hP
                            have hcf : ¬ cm = k := by have := HCM.out; omega
                            have hdn := (HNs.out.later hB.out).drop k (Nat.le_of_lt hlt)
                            have hdm := (HMs.out.later hB.out).drop k (Nat.le_of_lt hlt)
                            rw [if_neg hcf] at hdn hdm
                            simp only [Option.map_some, lay_add] at hdn hdm
                            have hdb := lay_drew (Below.refl wr.heap.size wr)
                            have HO1 := Lib.hid (World.ownsRow.drew hO.out)
                            have HDn := Lib.hid (hdn.later hdb)
                            have HDm := Lib.hid (hdm.later hdb)
                            have HX1 := Lib.hid (hX.out.below hdb)
                            have HY1 := Lib.hid (hY.out.below hdb)
                            have HR1 := Lib.hid (hR.out.below hdb)
                            have HB1 : Hid (Below W.heap.size W wr.drew) := hB.out.trans (hdb.mono hB.out.size)
                            have HW1 : Hid (Xb + 1 ≤ wr.drew.heap.size) := hW.out
                            have HLn : Hid ((ls.take K).length + (ns.drop k).length ≤ 1073741825) := by
                              show _ ≤ _
                              rw [List.length_take, List.length_drop]
                              have := HM.out.len
                              have := HMn.out.len
                              omega
                            have hMt := ((HLw.out.take K).app (HNw.out.drop k))
                            have HMt := Lib.hid hMt
                            have hkm : (k : Int) ≤ (ms.length : Int) := by omega
                            have hkc : (k : Int) ≤ (cm : Int) := by have := HCM.out; omega
                            have hcf2 : ¬ ((cm : Int) = (k : Int)) := by omega
                            have x2 := HX1.out.cells 2 _ rfl
                            generalize hPd : ls.take K = P at *
                            generalize hNd : ns.drop k = D at *
                            clear hO hdn hdm hX hY hR hB hW hdb hMt
                            go_upto_region 20 with fail
                            go_region_law (refine step_catI (I := enL) (by rfl) _ _ 22 44 (by rfl) Try.underlying22 Try.infoEn rfl (by decide) (by decide) HO1.out HDn.out HLn.out HW1.out (by rfl) (by rfl) ?_; intro v8 w8 hown hgrow; (rw [List.length_append] at hown); (obtain ⟨va8, vc8, rfl⟩ := row_slice1 hown); have HO8 := Lib.hid hown; have HX8 := Lib.hid (HX1.out.keep hgrow.size (hgrow.block _ HX1.out.lt (fun e => by have := (HO1.out.lt _ e.symm).1; omega))); have HY8 := Lib.hid (HY1.out.keep hgrow.size (hgrow.block _ HY1.out.lt (fun e => by have := (HO1.out.lt _ e.symm).1; have := HSY.out; omega))); have HR8 := Lib.hid (HR1.out.keep hgrow.size (hgrow.block _ HR1.out.lt (fun e => by have := (HO1.out.lt _ e.symm).1; have := HSZ.out; omega))); have HB8 : Hid (Below W.heap.size W w8) := ⟨hgrow.os.trans HB1.out.os, hgrow.tape.trans HB1.out.tape, hgrow.output.trans HB1.out.output, Nat.le_trans HB1.out.size hgrow.size, fun j hj => (hgrow.block j (Nat.lt_of_lt_of_le hj HB1.out.size) (fun e => by have := (HO1.out.lt _ e.symm).1; have := HWS.out; omega)).trans (HB1.out.block j hj)⟩; have z2 := HX8.out.cells 2 _ rfl; have zf := HX8.out.fz 2; clear hown hgrow x2)
                            all_goals
                              have HX9 := Lib.hid (HX8.out.set 2 (.slice va8 (P.length + D.length) vc8) (by simp))
                              have HY9 := Lib.hid (HY8.out.other (k := Xb) (o := 2) (x := .slice va8 (P.length + D.length) vc8) (by have := HSY.out; omega))
                              have HR9 := Lib.hid (HR8.out.other (k := Xb) (o := 2) (x := .slice va8 (P.length + D.length) vc8) (by have := HSZ.out; omega))
                              have HB9 := Lib.hid (HB8.out.setCell (p := ⟨Xb, 2, none⟩) HWS.out (.slice va8 (P.length + D.length) vc8))
                              have HO9 := Lib.hid (ownsRow_setCell_below HO8.out (a := ⟨Xb, 2, none⟩) (Nat.lt_succ_self _) (.slice va8 (P.length + D.length) vc8))
                              clear z2 zf HX8 HY8 HR8 HB8 HO8 HX1 HY1 HR1 HB1 HO1 HW1
                              generalize w8.setCell _ _ = w9 at *
                              have hdb9 := lay_drew (Below.refl w9.heap.size w9)
                              have xa0 := HX9.out.cells 0 _ rfl
                              have xa1 := HX9.out.cells 1 _ rfl
                              have xa2 := HX9.out.cells 2 _ rfl
                              have qa0 := HR9.out.cells 0 _ rfl
                              have qa1 := HR9.out.cells 1 _ rfl
                              have qa2 := HR9.out.cells 2 _ rfl
                              have qaf0 := HR9.out.fz 0
                              have qaf1 := HR9.out.fz 1
                              have qaf2 := HR9.out.fz 2
                              have HXd := Lib.hid (HX9.out.below hdb9)
                              have HRd := Lib.hid (HR9.out.below hdb9)
                              have y0 := HY9.out.cells 0 _ rfl
                              have x0 := HXd.out.cells 0 _ rfl
                              have x1 := HXd.out.cells 1 _ rfl
                              have x2 := HXd.out.cells 2 _ rfl
                              have q0 := HRd.out.cells 0 _ rfl
                              have q1 := HRd.out.cells 1 _ rfl
                              have q2 := HRd.out.cells 2 _ rfl
                              have qf0 := HRd.out.fz 0
                              have qf1 := HRd.out.fz 1
                              have qf2 := HRd.out.fz 2
                              clear hdb9
                              generalize hPDl : (P.length + D.length) = PD at *
                              have HPD := Lib.hid hPDl
                              clear hPDl
                              go_upto_region 24 with fail
                              go_region
                              all_goals
                                clear xa0 xa1 xa2 qa0 qa1 qa2 qaf0 qaf1 qaf2 x0 x1 x2 q0 q1 q2 qf0 qf1 qf2 y0
                                go_simp
                                rw [show (((w9.setCell ⟨w.heap.size + 1, 0, none⟩ (.int .i64 i)).setCell ⟨w.heap.size + 1, 1, none⟩ (.int .i64 t)).setCell ⟨w.heap.size + 1, 2, none⟩ (.slice va8 PD vc8)).drew = (put3 w9 (w.heap.size + 1) (.int .i64 i) (.int .i64 t) (.slice va8 PD vc8)).drew from rfl]
                                have KK := (put3_dc (v0 := .int .i64 i) (v1 := .int .i64 t) (v2 := .slice va8 PD vc8) HR9.out).below (lay_drew (Below.refl _ _))
                                have hB2 := lay_drew (put3_below (b := w.heap.size + 1) (.int .i64 i) (.int .i64 t) (.slice va8 PD vc8) (HWB.out.trans (HB9.out.mono HWB.out.size)) (Nat.le_succ _))
                                have hO2 := World.ownsRow.drew (ownsRow_setCell_below (ownsRow_setCell_below (ownsRow_setCell_below HO9.out (a := ⟨w.heap.size + 1, 0, none⟩) (show w.heap.size + 1 < Xb + 1 by have := HSZ.out; omega) (.int .i64 i)) (a := ⟨w.heap.size + 1, 1, none⟩) (show w.heap.size + 1 < Xb + 1 by have := HSZ.out; omega) (.int .i64 t)) (a := ⟨w.heap.size + 1, 2, none⟩) (show w.heap.size + 1 < Xb + 1 by have := HSZ.out; omega) (.slice va8 PD vc8))
                                have hl2 : enL.In (put3 w9 (w.heap.size + 1) (.int .i64 i) (.int .i64 t) (.slice va8 PD vc8)).drew (.slice va8 PD vc8) (P ++ D) := Lay.in_own hO2 (by rw [List.length_append]; exact HPD.out.symm)
                                have hE2 := (HMt.out.below hB2).ein hl2
                                have hF2 : ∀ w0 : World, EIn w0 (.slice (some ⟨g, off, none⟩) ms.length cm) ms → EIn w0 (.slice (some ⟨g, off + k * 3, none⟩) (ms.length - k) (cm - k)) (ms.drop k) := fun w0 h0 => by
                                  have h1 := h0.drop k (Nat.le_of_lt hlt)
                                  rw [if_neg hcf] at h1
                                  simpa only [Option.map_some, lay_add] using h1
                                have r0 := KK.cells 0 _ rfl
                                have r1 := KK.cells 1 _ rfl
                                have r2 := KK.cells 2 _ rfl
                                clear hl2 hO2 KK HX9 HR9 HO9 HB9 HXd HRd HMt HDn HDm HLn
                                generalize (put3 w9 _ _ _ _).drew = w11 at *
                                go_wp2_with fail
                                exact bodyPost_ret (v := .tuple #[.agg #[.int .i64 i, .int .i64 t, .slice va8 PD vc8], .int .i64 (0), .slice (some ⟨g, off + k * 3, none⟩) (ms.length - k) (cm - k), .bool true]) (by simp [results, Try.results24, go_sem, r0, r1, r2]) rfl ⟨_, _, by rw [HJ.out], (by rw [HJ.out]; exact hE2), (by rw [HJ.out]; exact hF2), hB2⟩
                · obtain rfl : k = ms.length := by omega
                  have HE0 := HEw
                  have HJ : Hid (joinL i t es x u ms = ⟨es, 0, [], true⟩) := joinL_same HMM.out (fstO_miss hN.out)
                  have d0 := hV.out.d0
                  have d1 := hV.out.d1
                  have d2 := hV.out.d2
                  have y0 := hR.out.cells 0 _ rfl
                  have y1 := hR.out.cells 1 _ rfl
                  have y2 := hR.out.cells 2 _ rfl
                  have f0 := hR.out.fz 0
                  have f1 := hR.out.fz 1
                  have f2 := hR.out.fz 2
                  go_wp2_with fail
                  change bodyPost _ _ _ _ _ (put3 wr (w.heap.size + 1) (.int .i64 i) (.int .i64 t) (.slice a es.length c))
                  have KK := put3_dc (v0 := .int .i64 i) (v1 := .int .i64 t) (v2 := .slice a es.length c) hR.out
                  have hB2 := put3_below (b := w.heap.size + 1) (.int .i64 i) (.int .i64 t) (.slice a es.length c) hV.out.b (Nat.le_succ _)
                  have hE2 := HE0.out.later hB2
                  have r0 := KK.cells 0 _ rfl
                  have r1 := KK.cells 1 _ rfl
                  have r2 := KK.cells 2 _ rfl
                  clear d0 d1 d2 y0 y1 y2 f0 f1 f2
                  generalize put3 _ _ _ _ _ = w9 at *
                  exact bodyPost_ret (v := .tuple #[.agg #[.int .i64 i, .int .i64 t, .slice a es.length c], .int .i64 0, .slice none 0 0, .bool true]) (by simp [results, Try.results24, go_sem, r0, r1, r2]) rfl ⟨_, _, by rw [HJ.out], (by rw [HJ.out]; exact hE2), (by rw [HJ.out]; exact fun w0 _ => EIn.nil w0), hB2⟩
            · have hzb : (z == u) = false := by rw [beq_eq_false_iff_ne]; exact hz
              have HE0 := HEw
              have HJM : Hid (ME = false) := by show _ = _; rw [HMB.out, decide_eq_false (by omega), show (some z == some u) = false from by simpa using hz]; rfl
              clear hz
              have d0 := HV2.out.d0
              go_wp2_with fail
              go_fit hn
              rintro e3 w3 ⟨rfl, rfl⟩
              go_wp2_with fail
              go_fit HON.out
              rintro e3 w3 ⟨rfl, hb⟩
              have HV3 := Lib.hid (HV2.out.later hb)
              have HR3 := Lib.hid (HR2.out.below hb)
              clear hb d0
              have HJ : Hid (joinL i t es x u ms = ⟨es, 0, [], false⟩) := hJU.out HJM.out
              have d0 := HV3.out.d0
              have d1 := HV3.out.d1
              have d2 := HV3.out.d2
              have y0 := HR3.out.cells 0 _ rfl
              have y1 := HR3.out.cells 1 _ rfl
              have y2 := HR3.out.cells 2 _ rfl
              have f0 := HR3.out.fz 0
              have f1 := HR3.out.fz 1
              have f2 := HR3.out.fz 2
              go_wp2_with fail
              change bodyPost _ _ _ _ _ (put3 w3 (w.heap.size + 1) (.int .i64 i) (.int .i64 t) (.slice a es.length c))
              have KK := put3_dc (v0 := .int .i64 i) (v1 := .int .i64 t) (v2 := .slice a es.length c) HR3.out
              have hB2 := put3_below (b := w.heap.size + 1) (.int .i64 i) (.int .i64 t) (.slice a es.length c) HV3.out.b (Nat.le_succ _)
              have hE2 := HE0.out.later hB2
              have r0 := KK.cells 0 _ rfl
              have r1 := KK.cells 1 _ rfl
              have r2 := KK.cells 2 _ rfl
              clear d0 d1 d2 y0 y1 y2 f0 f1 f2
              generalize put3 _ _ _ _ _ = w9 at *
              exact bodyPost_ret (v := .tuple #[.agg #[.int .i64 i, .int .i64 t, .slice a es.length c], .int .i64 0, .slice none 0 0, .bool false]) (by simp [results, Try.results24, go_sem, r0, r1, r2]) rfl ⟨_, _, by rw [HJ.out], (by rw [HJ.out]; exact hE2), (by rw [HJ.out]; exact fun w0 _ => EIn.nil w0), hB2⟩
        · have hxib := decide_eq_false hxi
          have hMT : ME = true := by rw [HMB.out, decide_eq_true (by omega)]; simp
          generalize O.getD 0 = oz0 at *
          generalize O.isSome = ob0 at *
          have d0 := HV2.out.d0
          go_wp2_with fail
          go_fit hn
          rintro e3 w3 ⟨rfl, rfl⟩
          go_wp2_with fail
          go_fit HON.out
          rintro e3 w3 ⟨rfl, hb⟩
          have HV3 := Lib.hid (HV2.out.later hb)
          have HR3 := Lib.hid (HR2.out.below hb)
          have HB3 := Lib.hid (HB2.out.trans (hb.mono HB2.out.size))
          clear hb HV2 HR2 HB2 d0
          have d0 := HV3.out.d0
          have HV2 := HV3
          have HR2 := HR3
          have HB2 := HB3
          clear HV3 HR3 HB3
          have HMM : Hid (meetB i t es x u ms = true) := HME.out.trans hMT
          clear hMT HUN HMB HFAR HON
          go_wp2_with fail
          clear d0
          (try clear hzb hMT)
          (try clear hzb)
          go_loopw [70] (fun j wr => ∃ k : Nat, j = .int .i64 k ∧ k ≤ ms.length ∧ Hid (∀ (q : Nat) (y : Er), q < k → ms[q]? = some y → oth i t es y = false) ∧ Hid (Kv w wr w.heap.size i t a c es) ∧ Hid (DC wr (w.heap.size + 1) [.int .i64 0, .int .i64 0, .slice none 0 0]) ∧ Hid (Below W.heap.size W wr)) (fun j _ => ms.length - (intOf j).toNat)
          case atStart => exact ⟨0, rfl, Nat.zero_le _, (by show ∀ _ _, _; intro q y hq; omega), HV2, HR2, HB2⟩
          case round =>
            clear HV2 HR2 HB2
            obtain ⟨k, rfl, hk, hN, hV, hR, hB⟩ := hrel
            by_cases hlt : k < ms.length
            · have he : ms[k]? = some ms[k] := List.getElem?_eq_getElem hlt
              generalize ms[k] = y at *
              obtain ⟨g, off, pp, c', rfl, k0, k1, k2, _⟩ := (HMs.out.later hB.out).at he
              have hkk : (k : Int) < (ms.length : Int) := by omega
              have hal := lay_alloc wr (.cells #[.int .i64 y.i, .int .i64 y.t, .slice pp y.d.length c'] 44)
              have HV3 := Lib.hid (hV.out.later hal)
              have HR3 := Lib.hid (hR.out.below hal)
              have HB3 := Lib.hid (hB.out.trans (hal.mono hB.out.size))
              have HY3 := Lib.hid (DC.alloc wr [.int .i64 y.i, .int .i64 y.t, .slice pp y.d.length c'] 44)
              have HE := Lib.hid he
              have d0 := HV3.out.d0
              have d1 := HV3.out.d1
              have d2 := HV3.out.d2
              have HAt := Lib.hid (At_any HV3.out.e i t y.i HK.out)
              clear hal he hV hR hB
              go_wp2_with fail
              generalize wr.alloc _ = W3 at *
              clear k0 k1 k2
              generalize wr.heap.size = Yb at *
              go_fit HAt.out
              rintro e4 w4 ⟨rfl, hb⟩
              have HV4 := Lib.hid (HV3.out.later hb)
              have HR4 := Lib.hid (HR3.out.below hb)
              have HY4 := Lib.hid (HY3.out.below hb)
              have HB4 := Lib.hid (HB3.out.trans (hb.mono HB3.out.size))
              clear hb HV3 HR3 HY3 HB3 HAt d0 d1 d2
              have d0 := HV4.out.d0
              have y0 := HY4.out.cells 0 _ rfl
              have y1 := HY4.out.cells 1 _ rfl
              have HOT : Hid (oth i t es y = (decide (i < y.i) && !(atL i t es y.i == some y.t))) := rfl
              have HTH : Hid ((atL i t es y.i).isSome = true → i ≤ y.i ∧ y.i ≤ i + es.length) := fun h => by
                unfold atL at h
                split at h
                · assumption
                · cases h
              have HTN : Hid (atL i t es y.i = none → ¬ (i ≤ y.i ∧ y.i ≤ i + es.length)) := fun h hh => by
                unfold atL at h
                rw [if_pos hh] at h
                cases h
              generalize atL i t es y.i = O2 at *
              by_cases hyi : y.i ≤ i
              · have HOF : Hid (oth i t es y = false) := by show _ = _; rw [HOT.out, decide_eq_false (by omega)]; rfl
                have HN2 : Hid (∀ (q : Nat) (z : Er), q < k + 1 → ms[q]? = some z → oth i t es z = false) := fun q z hq hz => by
                  by_cases e : q < k
                  · exact hN.out q z e hz
                  · obtain rfl : q = k := by omega
                    rw [HE.out] at hz; cases hz; exact HOF.out
                clear hN HOT HTH HTN
                generalize O2.getD 0 = oz at *
                generalize O2.isSome = ob at *
                go_wp2_with fail
                exact ⟨⟨k + 1, by go_num, hlt, HN2, HV4, HR4, HB4⟩, by show ms.length - ((k : Int) + 1).toNat < ms.length - (k : Int).toNat; omega⟩
              · have hyb := decide_eq_false hyi
                cases O2 with
                | some z =>
                  simp only [Option.getD_some, Option.isSome_some]
                  by_cases hz : z = y.t
                  · have hzb : (z == y.t) = true := by rw [beq_iff_eq]; exact hz
                    have HOF : Hid (oth i t es y = false) := by show _ = _; rw [HOT.out, hz]; simp
                    have HN2 : Hid (∀ (q : Nat) (z : Er), q < k + 1 → ms[q]? = some z → oth i t es z = false) := fun q z hq hz => by
                      by_cases e : q < k
                      · exact hN.out q z e hz
                      · obtain rfl : q = k := by omega
                        rw [HE.out] at hz; cases hz; exact HOF.out
                    clear hN HOT HTH HTN hz
                    go_wp2_with fail
                    exact ⟨⟨k + 1, by go_num, hlt, HN2, HV4, HR4, HB4⟩, by show ms.length - ((k : Int) + 1).toNat < ms.length - (k : Int).toNat; omega⟩
                  · have hzb : (z == y.t) = false := by rw [beq_eq_false_iff_ne]; exact hz
                    have HOF : Hid (oth i t es y = true) := by
                      show _ = _
                      rw [HOT.out, decide_eq_true (by omega), show (some z == some y.t) = false from by simpa using hz]; rfl
                    have HCUT : Hid ((if y.i ≤ i + es.length then y.i else 0) = y.i) := by show _ = _; rw [if_pos (HTH.out rfl).2]
                    clear HOT HTH HTN hz
                    have HFS := Lib.hid (fstO_hit HE.out HOF.out hN.out)
                    have HAH := Lib.hid (fst_ahead HMM.out HFS.out HE.out)
                    have ew : IntKind.i64.wrap (y.i - 1) = y.i - 1 := IntWalk.i64_in _ (by have := HAH.out; have := HI.out; omega)
                    have d1 := HV4.out.d1
                    have d2 := HV4.out.d2
                    have HAt := Lib.hid (At_any HV4.out.e i t (y.i - 1) HK.out)
                    clear hN
                    go_wp2_with fail
                    go_fit HAt.out
                    rintro e5 w5 ⟨rfl, hb⟩
                    have HV5 := Lib.hid (HV4.out.later hb)
                    have HR5 := Lib.hid (HR4.out.below hb)
                    have HY5 := Lib.hid (HY4.out.below hb)
                    have HB5 := Lib.hid (HB4.out.trans (hb.mono HB4.out.size))
                    clear hb HV4 HR4 HY4 HB4 HAt d0 d1 d2 y0 y1 ew
                    have y0 := HY5.out.cells 0 _ rfl
                    have y1 := HY5.out.cells 1 _ rfl
                    have HJB : Hid (y.t < (atL i t es (y.i - 1)).getD 0 → joinL i t es x u ms = ⟨es, 0, [], false⟩) := fun h => joinL_bad HMM.out HFS.out HE.out h
                    have HJN : Hid (¬ y.t < (atL i t es (y.i - 1)).getD 0 → joinL i t es x u ms = ⟨es.take (y.i - 1 - i).toNat ++ ms.drop k, y.i, ms.drop k, true⟩) := fun h => by
                      have h0 := joinL_new HMM.out HFS.out HE.out h
                      rw [HCUT.out] at h0
                      exact h0
                    generalize (atL i t es (y.i - 1)).getD 0 = T at *
                    generalize (atL i t es (y.i - 1)).isSome = is at *
                    by_cases hT : y.t < T
                    · have HE0 := HEw
                      have HJ : Hid (joinL i t es x u ms = ⟨es, 0, [], false⟩) := HJB.out hT
                      have d0 := HV5.out.d0
                      have d1 := HV5.out.d1
                      have d2 := HV5.out.d2
                      have y0 := HR5.out.cells 0 _ rfl
                      have y1 := HR5.out.cells 1 _ rfl
                      have y2 := HR5.out.cells 2 _ rfl
                      have f0 := HR5.out.fz 0
                      have f1 := HR5.out.fz 1
                      have f2 := HR5.out.fz 2
                      go_wp2_with fail
                      change bodyPost _ _ _ _ _ (put3 w5 (w.heap.size + 1) (.int .i64 i) (.int .i64 t) (.slice a es.length c))
                      have KK := put3_dc (v0 := .int .i64 i) (v1 := .int .i64 t) (v2 := .slice a es.length c) HR5.out
                      have hB2 := put3_below (b := w.heap.size + 1) (.int .i64 i) (.int .i64 t) (.slice a es.length c) HV5.out.b (Nat.le_succ _)
                      have hE2 := HE0.out.later hB2
                      have r0 := KK.cells 0 _ rfl
                      have r1 := KK.cells 1 _ rfl
                      have r2 := KK.cells 2 _ rfl
                      clear d0 d1 d2 y0 y1 y2 f0 f1 f2
                      generalize put3 _ _ _ _ _ = w9 at *
                      exact bodyPost_ret (v := .tuple #[.agg #[.int .i64 i, .int .i64 t, .slice a es.length c], .int .i64 0, .slice none 0 0, .bool false]) (by simp [results, Try.results24, go_sem, r0, r1, r2]) rfl ⟨_, _, by rw [HJ.out], (by rw [HJ.out]; exact hE2), (by rw [HJ.out]; exact fun w0 _ => EIn.nil w0), hB2⟩
                    · obtain ⟨K, hK⟩ : ∃ K : Nat, (y.i - 1 - i).toNat = K := ⟨_, rfl⟩
                      have HJ := Lib.hid (HJN.out hT)
                      rw [hK] at HJ
                      have HKy : Hid (y.i = i + K + 1 ∧ K ≤ es.length) := by show _ ∧ _; have := HAH.out; omega
                      clear HJN HJB hK
                      have d0 := HV5.out.d0
                      have d1 := HV5.out.d1
                      have hal := lay_alloc w5 (.cells #[.int .i64 i, .int .i64 t, .slice none 0 0] 27)
                      have HX6 := Lib.hid (DC.alloc w5 [.int .i64 i, .int .i64 t, .slice none 0 0] 27)
                      have HV6 := Lib.hid (HV5.out.later hal)
                      have HR6 := Lib.hid (HR5.out.below hal)
                      have HY6 := Lib.hid (HY5.out.below hal)
                      have HB6 := Lib.hid (HB5.out.trans (hal.mono HB5.out.size))
                      have HSZ : Hid (w.heap.size + 1 < w5.heap.size) := HR5.out.lt
                      have HSY : Hid (Yb < w5.heap.size) := HY5.out.lt
                      have hs6 : Hid (w5.heap.size + 1 ≤ (w5.alloc (.cells #[.int .i64 i, .int .i64 t, .slice none 0 0] 27)).heap.size) := by show _ ≤ _; simp
                      have HWS : Hid (W.heap.size ≤ w5.heap.size) := HB5.out.size
                      have d2 := HV6.out.d2
                      clear hal HV5 HR5 HY5 HB5
                      go_wp2_with fail
                      generalize w5.alloc _ = W6 at *
                      generalize w5.heap.size = Xb at *
                      clear d0 d1 d2 y0 y1
                      go_loopw [117] (fun j wr => ∃ (q : Nat) (v' : Value), j = .int .i64 q ∧ q ≤ es.length ∧ Hid (DC wr Xb [.int .i64 i, .int .i64 t, v']) ∧ Hid (DC wr Yb [.int .i64 y.i, .int .i64 y.t, .slice pp y.d.length c']) ∧ Hid (DC wr (w.heap.size + 1) [.int .i64 0, .int .i64 0, .slice none 0 0]) ∧ Hid (wr.ownsRow (Xb + 1) 44 enL.sz v' (ls.take (min q K)).length (enL.all (ls.take (min q K)))) ∧ Hid (Below W.heap.size W wr) ∧ Hid (Xb + 1 ≤ wr.heap.size)) (fun j _ => es.length - (intOf j).toNat)
                      case atStart => exact ⟨0, .slice none 0 0, rfl, Nat.zero_le _, HX6, HY6, HR6, (by show World.ownsRow _ _ _ _ _ _ _; rw [show ls.take (min 0 K) = [] from by simp]; exact World.ownsRow_nil _ _ _ _), HB6, hs6⟩
                      case round =>
                        clear HX6 HY6 HR6 HB6 hs6
                        obtain ⟨q, v', rfl, hq, hX, hY, hR, hO, hB, hW⟩ := hrel
                        obtain ⟨va, vc, rfl⟩ := row_slice1 hO.out
                        by_cases hqt : q < es.length
                        · have hln : ls.length = es.length := HM.out.len
                          have hg : ls[q]? = some (ls[q]'(by omega)) := List.getElem?_eq_getElem (by omega)
                          have he2 : es[q]? = some es[q] := List.getElem?_eq_getElem hqt
                          have hxi := (HM.out.each q _ _ hg he2).1
                          have hei := (goR_get HG.out he2).1
                          generalize es[q] = ye at *
                          generalize hy : ls[q]'(by omega) = z at *
                          obtain ⟨zi, zt, p, pn, pc⟩ := z
                          obtain ⟨g2, off2, hga, k0, k1, k2⟩ := en_at (HLs.out.later hB.out) hg
                          subst hga
                          have hqq : (q : Int) < (es.length : Int) := by omega
                          have hzi : zi = i + q + 1 := by simp only at hxi; omega
                          have hal := lay_alloc wr (.cells #[.int .i64 zi, .int .i64 zt, .slice p pn pc] 44)
                          have HX2 := Lib.hid (hX.out.below hal)
                          have HY2 := Lib.hid (hY.out.below hal)
                          have HR2 := Lib.hid (hR.out.below hal)
                          have HB2 := Lib.hid (hB.out.trans (hal.mono hB.out.size))
                          have HO2 := Lib.hid (hO.out.alloc (.cells #[.int .i64 zi, .int .i64 zt, .slice p pn pc] 44))
                          have HW2 : Hid (Xb + 1 ≤ (wr.alloc (.cells #[.int .i64 zi, .int .i64 zt, .slice p pn pc] 44)).heap.size) := by show _ ≤ _; exact Nat.le_trans hW.out hal.size
                          have HD := Lib.hid (DC.alloc wr [.int .i64 zi, .int .i64 zt, .slice p pn pc] 44)
                          have q0 := HY2.out.cells 0 _ rfl
                          by_cases hqK : q < K
                          · have hgt : zi < y.i := by have := HKy.out.1; omega
                            have HST : Hid (ls.take (min (q + 1) K) = ls.take (min q K) ++ [⟨zi, zt, (p, pn, pc)⟩]) := by
                              show _ = _
                              rw [show min (q + 1) K = q + 1 by omega, show min q K = q by omega, List.take_add_one, hg]; rfl
                            have HPL : Hid ((ls.take (min q K)).length ≤ 1000) := by show _ ≤ _; rw [List.length_take]; omega
                            clear hal hg he2 hxi hei hzi hy hqK
                            go_upto_region 18 with fail
                            generalize wr.alloc _ = W7 at *
                            have m0 := HD.out.cells 0 _ rfl
                            have m1 := HD.out.cells 1 _ rfl
                            have m2 := HD.out.cells 2 _ rfl
                            have x2 := HX2.out.cells 2 _ rfl
                            clear k0 k1 k2 hX hR hO hB hW hY q0
                            generalize hPd : ls.take (min q K) = P at *
                            go_wp2_with (at_builtin; refine wpList_pushI rfl _ _ 22 44 _ 3 40 rfl Try.underlying22 Try.infoEn rfl (by decide) (Xb + 1) P.length _ (enL.all P) rfl HO2.out #[.int .i64 zi, .int .i64 zt, .slice p pn pc] rfl (enL.one ⟨zi, zt, (p, pn, pc)⟩) rfl (by have := HPL.out; omega) (by decide) HW2.out ?_; intro g4 c4 w8 hown hgrow hat2 hlt4; have HO4 := Lib.hid hown; have HX4 := Lib.hid (HX2.out.keep hgrow.size (hgrow.block _ HX2.out.lt (fun e => by have := (HO2.out.lt _ e.symm).1; omega))); have HY4 := Lib.hid (HY2.out.keep hgrow.size (hgrow.block _ HY2.out.lt (fun e => by have := (HO2.out.lt _ e.symm).1; have := HSY.out; omega))); have HR4 := Lib.hid (HR2.out.keep hgrow.size (hgrow.block _ HR2.out.lt (fun e => by have := (HO2.out.lt _ e.symm).1; have := HSZ.out; omega))); have HB4 : Hid (Below W.heap.size W w8) := ⟨hgrow.os.trans HB2.out.os, hgrow.tape.trans HB2.out.tape, hgrow.output.trans HB2.out.output, Nat.le_trans HB2.out.size hgrow.size, fun j hj => (hgrow.block j (Nat.lt_of_lt_of_le hj HB2.out.size) (fun e => by have := (HO2.out.lt _ e.symm).1; have := HWS.out; omega)).trans (HB2.out.block j hj)⟩; have y2' := HX4.out.cells 2 _ rfl; have yf := HX4.out.fz 2; clear hown hgrow hat2)
                            have HX5 := Lib.hid (HX4.out.set 2 (.slice (some ⟨g4, 0, none⟩) (P.length + 1) c4) (by simp))
                            have HY5 := Lib.hid (HY4.out.other (k := Xb) (o := 2) (x := .slice (some ⟨g4, 0, none⟩) (P.length + 1) c4) (by have := HSY.out; omega))
                            have HR5 := Lib.hid (HR4.out.other (k := Xb) (o := 2) (x := .slice (some ⟨g4, 0, none⟩) (P.length + 1) c4) (by have := HSZ.out; omega))
                            have HB5 := Lib.hid (HB4.out.setCell (p := ⟨Xb, 2, none⟩) HWS.out (.slice (some ⟨g4, 0, none⟩) (P.length + 1) c4))
                            have HO5 := Lib.hid (ownsRow_setCell_below HO4.out (a := ⟨Xb, 2, none⟩) (Nat.lt_succ_self _) (.slice (some ⟨g4, 0, none⟩) (P.length + 1) c4))
                            have HW5 : Hid (Xb + 1 ≤ (w8.setCell ⟨Xb, 2, none⟩ (.slice (some ⟨g4, 0, none⟩) (P.length + 1) c4)).heap.size) := by show _ ≤ _; simp only [World.setCell, Array.size_modify]; have := HW2.out; omega
                            exact ⟨⟨q + 1, _, by go_num, hqt, HX5, HY5, HR5, (by show World.ownsRow _ _ _ _ _ _ _; rw [HST.out, Lay.all_app, Lay.all_one, List.length_append]; exact HO5.out), HB5, HW5⟩, by show es.length - ((q : Int) + 1).toNat < es.length - (q : Int).toNat; omega⟩
                          · have hgt : ¬ (zi < y.i) := by have := HKy.out.1; omega
                            have hgtb := decide_eq_false hgt
                            have HSK : Hid (min (q + 1) K = min q K) := by show _ = _; omega
                            clear hal hg he2 hxi hei hzi hy
                            go_wp2_with fail
                            exact ⟨⟨q + 1, _, by go_num, hqt, HX2, HY2, HR2, (by show World.ownsRow _ _ _ _ _ _ _; rw [HSK.out]; exact HO2.out), HB2, HW2⟩, by show es.length - ((q : Int) + 1).toNat < es.length - (q : Int).toNat; omega⟩
                        · obtain rfl : q = es.length := by omega
                          have hP : ls.take (min es.length K) = ls.take K := by rw [Nat.min_eq_right HKy.out.2]
                          rw [hP] at hO hX
                          clear hP
                          have hcf : ¬ cm = k := by have := HCM.out; omega
                          have hdn := (HNs.out.later hB.out).drop k (Nat.le_of_lt hlt)
                          have hdm := (HMs.out.later hB.out).drop k (Nat.le_of_lt hlt)
                          rw [if_neg hcf] at hdn hdm
                          simp only [Option.map_some, lay_add] at hdn hdm
                          have hdb := lay_drew (Below.refl wr.heap.size wr)
                          have HO1 := Lib.hid (World.ownsRow.drew hO.out)
                          have HDn := Lib.hid (hdn.later hdb)
                          have HDm := Lib.hid (hdm.later hdb)
                          have HX1 := Lib.hid (hX.out.below hdb)
                          have HY1 := Lib.hid (hY.out.below hdb)
                          have HR1 := Lib.hid (hR.out.below hdb)
                          have HB1 : Hid (Below W.heap.size W wr.drew) := hB.out.trans (hdb.mono hB.out.size)
                          have HW1 : Hid (Xb + 1 ≤ wr.drew.heap.size) := hW.out
                          have HLn : Hid ((ls.take K).length + (ns.drop k).length ≤ 1073741825) := by
                            show _ ≤ _
                            rw [List.length_take, List.length_drop]
                            have := HM.out.len
                            have := HMn.out.len
                            omega
                          have hMt := ((HLw.out.take K).app (HNw.out.drop k))
                          have HMt := Lib.hid hMt
                          have hkm : (k : Int) ≤ (ms.length : Int) := by omega
                          have hkc : (k : Int) ≤ (cm : Int) := by have := HCM.out; omega
                          have hcf2 : ¬ ((cm : Int) = (k : Int)) := by omega
                          have x2 := HX1.out.cells 2 _ rfl
                          generalize hPd : ls.take K = P at *
                          generalize hNd : ns.drop k = D at *
                          clear hO hdn hdm hX hY hR hB hW hdb hMt
                          go_upto_region 20 with fail
                          go_region_law (refine step_catI (I := enL) (by rfl) _ _ 22 44 (by rfl) Try.underlying22 Try.infoEn rfl (by decide) (by decide) HO1.out HDn.out HLn.out HW1.out (by rfl) (by rfl) ?_; intro v8 w8 hown hgrow; (rw [List.length_append] at hown); (obtain ⟨va8, vc8, rfl⟩ := row_slice1 hown); have HO8 := Lib.hid hown; have HX8 := Lib.hid (HX1.out.keep hgrow.size (hgrow.block _ HX1.out.lt (fun e => by have := (HO1.out.lt _ e.symm).1; omega))); have HY8 := Lib.hid (HY1.out.keep hgrow.size (hgrow.block _ HY1.out.lt (fun e => by have := (HO1.out.lt _ e.symm).1; have := HSY.out; omega))); have HR8 := Lib.hid (HR1.out.keep hgrow.size (hgrow.block _ HR1.out.lt (fun e => by have := (HO1.out.lt _ e.symm).1; have := HSZ.out; omega))); have HB8 : Hid (Below W.heap.size W w8) := ⟨hgrow.os.trans HB1.out.os, hgrow.tape.trans HB1.out.tape, hgrow.output.trans HB1.out.output, Nat.le_trans HB1.out.size hgrow.size, fun j hj => (hgrow.block j (Nat.lt_of_lt_of_le hj HB1.out.size) (fun e => by have := (HO1.out.lt _ e.symm).1; have := HWS.out; omega)).trans (HB1.out.block j hj)⟩; have z2 := HX8.out.cells 2 _ rfl; have zf := HX8.out.fz 2; clear hown hgrow x2)
                          all_goals
                            have HX9 := Lib.hid (HX8.out.set 2 (.slice va8 (P.length + D.length) vc8) (by simp))
                            have HY9 := Lib.hid (HY8.out.other (k := Xb) (o := 2) (x := .slice va8 (P.length + D.length) vc8) (by have := HSY.out; omega))
                            have HR9 := Lib.hid (HR8.out.other (k := Xb) (o := 2) (x := .slice va8 (P.length + D.length) vc8) (by have := HSZ.out; omega))
                            have HB9 := Lib.hid (HB8.out.setCell (p := ⟨Xb, 2, none⟩) HWS.out (.slice va8 (P.length + D.length) vc8))
                            have HO9 := Lib.hid (ownsRow_setCell_below HO8.out (a := ⟨Xb, 2, none⟩) (Nat.lt_succ_self _) (.slice va8 (P.length + D.length) vc8))
                            clear z2 zf HX8 HY8 HR8 HB8 HO8 HX1 HY1 HR1 HB1 HO1 HW1
                            generalize w8.setCell _ _ = w9 at *
                            have hdb9 := lay_drew (Below.refl w9.heap.size w9)
                            have xa0 := HX9.out.cells 0 _ rfl
                            have xa1 := HX9.out.cells 1 _ rfl
                            have xa2 := HX9.out.cells 2 _ rfl
                            have qa0 := HR9.out.cells 0 _ rfl
                            have qa1 := HR9.out.cells 1 _ rfl
                            have qa2 := HR9.out.cells 2 _ rfl
                            have qaf0 := HR9.out.fz 0
                            have qaf1 := HR9.out.fz 1
                            have qaf2 := HR9.out.fz 2
                            have HXd := Lib.hid (HX9.out.below hdb9)
                            have HRd := Lib.hid (HR9.out.below hdb9)
                            have y0 := HY9.out.cells 0 _ rfl
                            have x0 := HXd.out.cells 0 _ rfl
                            have x1 := HXd.out.cells 1 _ rfl
                            have x2 := HXd.out.cells 2 _ rfl
                            have q0 := HRd.out.cells 0 _ rfl
                            have q1 := HRd.out.cells 1 _ rfl
                            have q2 := HRd.out.cells 2 _ rfl
                            have qf0 := HRd.out.fz 0
                            have qf1 := HRd.out.fz 1
                            have qf2 := HRd.out.fz 2
                            clear hdb9
                            generalize hPDl : (P.length + D.length) = PD at *
                            have HPD := Lib.hid hPDl
                            clear hPDl
                            go_upto_region 24 with fail
                            go_region
                            all_goals
                              clear xa0 xa1 xa2 qa0 qa1 qa2 qaf0 qaf1 qaf2 x0 x1 x2 q0 q1 q2 qf0 qf1 qf2 y0
                              go_simp
                              rw [show (((w9.setCell ⟨w.heap.size + 1, 0, none⟩ (.int .i64 i)).setCell ⟨w.heap.size + 1, 1, none⟩ (.int .i64 t)).setCell ⟨w.heap.size + 1, 2, none⟩ (.slice va8 PD vc8)).drew = (put3 w9 (w.heap.size + 1) (.int .i64 i) (.int .i64 t) (.slice va8 PD vc8)).drew from rfl]
                              have KK := (put3_dc (v0 := .int .i64 i) (v1 := .int .i64 t) (v2 := .slice va8 PD vc8) HR9.out).below (lay_drew (Below.refl _ _))
                              have hB2 := lay_drew (put3_below (b := w.heap.size + 1) (.int .i64 i) (.int .i64 t) (.slice va8 PD vc8) (HWB.out.trans (HB9.out.mono HWB.out.size)) (Nat.le_succ _))
                              have hO2 := World.ownsRow.drew (ownsRow_setCell_below (ownsRow_setCell_below (ownsRow_setCell_below HO9.out (a := ⟨w.heap.size + 1, 0, none⟩) (show w.heap.size + 1 < Xb + 1 by have := HSZ.out; omega) (.int .i64 i)) (a := ⟨w.heap.size + 1, 1, none⟩) (show w.heap.size + 1 < Xb + 1 by have := HSZ.out; omega) (.int .i64 t)) (a := ⟨w.heap.size + 1, 2, none⟩) (show w.heap.size + 1 < Xb + 1 by have := HSZ.out; omega) (.slice va8 PD vc8))
                              have hl2 : enL.In (put3 w9 (w.heap.size + 1) (.int .i64 i) (.int .i64 t) (.slice va8 PD vc8)).drew (.slice va8 PD vc8) (P ++ D) := Lay.in_own hO2 (by rw [List.length_append]; exact HPD.out.symm)
                              have hE2 := (HMt.out.below hB2).ein hl2
                              have hF2 : ∀ w0 : World, EIn w0 (.slice (some ⟨g, off, none⟩) ms.length cm) ms → EIn w0 (.slice (some ⟨g, off + k * 3, none⟩) (ms.length - k) (cm - k)) (ms.drop k) := fun w0 h0 => by
                                have h1 := h0.drop k (Nat.le_of_lt hlt)
                                rw [if_neg hcf] at h1
                                simpa only [Option.map_some, lay_add] using h1
                              have r0 := KK.cells 0 _ rfl
                              have r1 := KK.cells 1 _ rfl
                              have r2 := KK.cells 2 _ rfl
                              clear hl2 hO2 KK HX9 HR9 HO9 HB9 HXd HRd HMt HDn HDm HLn
                              generalize (put3 w9 _ _ _ _).drew = w11 at *
                              go_wp2_with fail
                              exact bodyPost_ret (v := .tuple #[.agg #[.int .i64 i, .int .i64 t, .slice va8 PD vc8], .int .i64 (y.i), .slice (some ⟨g, off + k * 3, none⟩) (ms.length - k) (cm - k), .bool true]) (by simp [results, Try.results24, go_sem, r0, r1, r2]) rfl ⟨_, _, by rw [HJ.out], (by rw [HJ.out]; exact hE2), (by rw [HJ.out]; exact hF2), hB2⟩
                | none =>
                  simp only [Option.getD_none, Option.isSome_none]
                  have HOF : Hid (oth i t es y = true) := by
                    show _ = _
                    rw [HOT.out, decide_eq_true (by omega)]; rfl
                  have HCUT : Hid ((if y.i ≤ i + es.length then y.i else 0) = 0) := by show _ = _; rw [if_neg (fun h => HTN.out rfl ⟨by omega, h⟩)]
                  clear HOT HTH HTN
                  have HFS := Lib.hid (fstO_hit HE.out HOF.out hN.out)
                  have HAH := Lib.hid (fst_ahead HMM.out HFS.out HE.out)
                  have ew : IntKind.i64.wrap (y.i - 1) = y.i - 1 := IntWalk.i64_in _ (by have := HAH.out; have := HI.out; omega)
                  have d1 := HV4.out.d1
                  have d2 := HV4.out.d2
                  have HAt := Lib.hid (At_any HV4.out.e i t (y.i - 1) HK.out)
                  clear hN
                  go_wp2_with fail
                  go_fit HAt.out
                  rintro e5 w5 ⟨rfl, hb⟩
                  have HV5 := Lib.hid (HV4.out.later hb)
                  have HR5 := Lib.hid (HR4.out.below hb)
                  have HY5 := Lib.hid (HY4.out.below hb)
                  have HB5 := Lib.hid (HB4.out.trans (hb.mono HB4.out.size))
                  clear hb HV4 HR4 HY4 HB4 HAt d0 d1 d2 y0 y1 ew
                  have y0 := HY5.out.cells 0 _ rfl
                  have y1 := HY5.out.cells 1 _ rfl
                  have HJB : Hid (y.t < (atL i t es (y.i - 1)).getD 0 → joinL i t es x u ms = ⟨es, 0, [], false⟩) := fun h => joinL_bad HMM.out HFS.out HE.out h
                  have HJN : Hid (¬ y.t < (atL i t es (y.i - 1)).getD 0 → joinL i t es x u ms = ⟨es.take (y.i - 1 - i).toNat ++ ms.drop k, 0, ms.drop k, true⟩) := fun h => by
                    have h0 := joinL_new HMM.out HFS.out HE.out h
                    rw [HCUT.out] at h0
                    exact h0
                  generalize (atL i t es (y.i - 1)).getD 0 = T at *
                  generalize (atL i t es (y.i - 1)).isSome = is at *
                  by_cases hT : y.t < T
                  · have HE0 := HEw
                    have HJ : Hid (joinL i t es x u ms = ⟨es, 0, [], false⟩) := HJB.out hT
                    have d0 := HV5.out.d0
                    have d1 := HV5.out.d1
                    have d2 := HV5.out.d2
                    have y0 := HR5.out.cells 0 _ rfl
                    have y1 := HR5.out.cells 1 _ rfl
                    have y2 := HR5.out.cells 2 _ rfl
                    have f0 := HR5.out.fz 0
                    have f1 := HR5.out.fz 1
                    have f2 := HR5.out.fz 2
                    go_wp2_with fail
                    change bodyPost _ _ _ _ _ (put3 w5 (w.heap.size + 1) (.int .i64 i) (.int .i64 t) (.slice a es.length c))
                    have KK := put3_dc (v0 := .int .i64 i) (v1 := .int .i64 t) (v2 := .slice a es.length c) HR5.out
                    have hB2 := put3_below (b := w.heap.size + 1) (.int .i64 i) (.int .i64 t) (.slice a es.length c) HV5.out.b (Nat.le_succ _)
                    have hE2 := HE0.out.later hB2
                    have r0 := KK.cells 0 _ rfl
                    have r1 := KK.cells 1 _ rfl
                    have r2 := KK.cells 2 _ rfl
                    clear d0 d1 d2 y0 y1 y2 f0 f1 f2
                    generalize put3 _ _ _ _ _ = w9 at *
                    exact bodyPost_ret (v := .tuple #[.agg #[.int .i64 i, .int .i64 t, .slice a es.length c], .int .i64 0, .slice none 0 0, .bool false]) (by simp [results, Try.results24, go_sem, r0, r1, r2]) rfl ⟨_, _, by rw [HJ.out], (by rw [HJ.out]; exact hE2), (by rw [HJ.out]; exact fun w0 _ => EIn.nil w0), hB2⟩
                  · obtain ⟨K, hK⟩ : ∃ K : Nat, (y.i - 1 - i).toNat = K := ⟨_, rfl⟩
                    have HJ := Lib.hid (HJN.out hT)
                    rw [hK] at HJ
                    have HKy : Hid (y.i = i + K + 1 ∧ K ≤ es.length) := by show _ ∧ _; have := HAH.out; omega
                    clear HJN HJB hK
                    have d0 := HV5.out.d0
                    have d1 := HV5.out.d1
                    have hal := lay_alloc w5 (.cells #[.int .i64 i, .int .i64 t, .slice none 0 0] 27)
                    have HX6 := Lib.hid (DC.alloc w5 [.int .i64 i, .int .i64 t, .slice none 0 0] 27)
                    have HV6 := Lib.hid (HV5.out.later hal)
                    have HR6 := Lib.hid (HR5.out.below hal)
                    have HY6 := Lib.hid (HY5.out.below hal)
                    have HB6 := Lib.hid (HB5.out.trans (hal.mono HB5.out.size))
                    have HSZ : Hid (w.heap.size + 1 < w5.heap.size) := HR5.out.lt
                    have HSY : Hid (Yb < w5.heap.size) := HY5.out.lt
                    have hs6 : Hid (w5.heap.size + 1 ≤ (w5.alloc (.cells #[.int .i64 i, .int .i64 t, .slice none 0 0] 27)).heap.size) := by show _ ≤ _; simp
                    have HWS : Hid (W.heap.size ≤ w5.heap.size) := HB5.out.size
                    have d2 := HV6.out.d2
                    clear hal HV5 HR5 HY5 HB5
                    go_wp2_with fail
                    generalize w5.alloc _ = W6 at *
                    generalize w5.heap.size = Xb at *
                    clear d0 d1 d2 y0 y1
                    go_loopw [117] (fun j wr => ∃ (q : Nat) (v' : Value), j = .int .i64 q ∧ q ≤ es.length ∧ Hid (DC wr Xb [.int .i64 i, .int .i64 t, v']) ∧ Hid (DC wr Yb [.int .i64 y.i, .int .i64 y.t, .slice pp y.d.length c']) ∧ Hid (DC wr (w.heap.size + 1) [.int .i64 0, .int .i64 0, .slice none 0 0]) ∧ Hid (wr.ownsRow (Xb + 1) 44 enL.sz v' (ls.take (min q K)).length (enL.all (ls.take (min q K)))) ∧ Hid (Below W.heap.size W wr) ∧ Hid (Xb + 1 ≤ wr.heap.size)) (fun j _ => es.length - (intOf j).toNat)
                    case atStart => exact ⟨0, .slice none 0 0, rfl, Nat.zero_le _, HX6, HY6, HR6, (by show World.ownsRow _ _ _ _ _ _ _; rw [show ls.take (min 0 K) = [] from by simp]; exact World.ownsRow_nil _ _ _ _), HB6, hs6⟩
                    case round =>
                      clear HX6 HY6 HR6 HB6 hs6
                      obtain ⟨q, v', rfl, hq, hX, hY, hR, hO, hB, hW⟩ := hrel
                      obtain ⟨va, vc, rfl⟩ := row_slice1 hO.out
                      by_cases hqt : q < es.length
                      · have hln : ls.length = es.length := HM.out.len
                        have hg : ls[q]? = some (ls[q]'(by omega)) := List.getElem?_eq_getElem (by omega)
                        have he2 : es[q]? = some es[q] := List.getElem?_eq_getElem hqt
                        have hxi := (HM.out.each q _ _ hg he2).1
                        have hei := (goR_get HG.out he2).1
                        generalize es[q] = ye at *
                        generalize hy : ls[q]'(by omega) = z at *
                        obtain ⟨zi, zt, p, pn, pc⟩ := z
                        obtain ⟨g2, off2, hga, k0, k1, k2⟩ := en_at (HLs.out.later hB.out) hg
                        subst hga
                        have hqq : (q : Int) < (es.length : Int) := by omega
                        have hzi : zi = i + q + 1 := by simp only at hxi; omega
                        have hal := lay_alloc wr (.cells #[.int .i64 zi, .int .i64 zt, .slice p pn pc] 44)
                        have HX2 := Lib.hid (hX.out.below hal)
                        have HY2 := Lib.hid (hY.out.below hal)
                        have HR2 := Lib.hid (hR.out.below hal)
                        have HB2 := Lib.hid (hB.out.trans (hal.mono hB.out.size))
                        have HO2 := Lib.hid (hO.out.alloc (.cells #[.int .i64 zi, .int .i64 zt, .slice p pn pc] 44))
                        have HW2 : Hid (Xb + 1 ≤ (wr.alloc (.cells #[.int .i64 zi, .int .i64 zt, .slice p pn pc] 44)).heap.size) := by show _ ≤ _; exact Nat.le_trans hW.out hal.size
                        have HD := Lib.hid (DC.alloc wr [.int .i64 zi, .int .i64 zt, .slice p pn pc] 44)
                        have q0 := HY2.out.cells 0 _ rfl
                        by_cases hqK : q < K
                        · have hgt : zi < y.i := by have := HKy.out.1; omega
                          have HST : Hid (ls.take (min (q + 1) K) = ls.take (min q K) ++ [⟨zi, zt, (p, pn, pc)⟩]) := by
                            show _ = _
                            rw [show min (q + 1) K = q + 1 by omega, show min q K = q by omega, List.take_add_one, hg]; rfl
                          have HPL : Hid ((ls.take (min q K)).length ≤ 1000) := by show _ ≤ _; rw [List.length_take]; omega
                          clear hal hg he2 hxi hei hzi hy hqK
                          go_upto_region 18 with fail
                          generalize wr.alloc _ = W7 at *
                          have m0 := HD.out.cells 0 _ rfl
                          have m1 := HD.out.cells 1 _ rfl
                          have m2 := HD.out.cells 2 _ rfl
                          have x2 := HX2.out.cells 2 _ rfl
                          clear k0 k1 k2 hX hR hO hB hW hY q0
                          generalize hPd : ls.take (min q K) = P at *
                          go_wp2_with (at_builtin; refine wpList_pushI rfl _ _ 22 44 _ 3 40 rfl Try.underlying22 Try.infoEn rfl (by decide) (Xb + 1) P.length _ (enL.all P) rfl HO2.out #[.int .i64 zi, .int .i64 zt, .slice p pn pc] rfl (enL.one ⟨zi, zt, (p, pn, pc)⟩) rfl (by have := HPL.out; omega) (by decide) HW2.out ?_; intro g4 c4 w8 hown hgrow hat2 hlt4; have HO4 := Lib.hid hown; have HX4 := Lib.hid (HX2.out.keep hgrow.size (hgrow.block _ HX2.out.lt (fun e => by have := (HO2.out.lt _ e.symm).1; omega))); have HY4 := Lib.hid (HY2.out.keep hgrow.size (hgrow.block _ HY2.out.lt (fun e => by have := (HO2.out.lt _ e.symm).1; have := HSY.out; omega))); have HR4 := Lib.hid (HR2.out.keep hgrow.size (hgrow.block _ HR2.out.lt (fun e => by have := (HO2.out.lt _ e.symm).1; have := HSZ.out; omega))); have HB4 : Hid (Below W.heap.size W w8) := ⟨hgrow.os.trans HB2.out.os, hgrow.tape.trans HB2.out.tape, hgrow.output.trans HB2.out.output, Nat.le_trans HB2.out.size hgrow.size, fun j hj => (hgrow.block j (Nat.lt_of_lt_of_le hj HB2.out.size) (fun e => by have := (HO2.out.lt _ e.symm).1; have := HWS.out; omega)).trans (HB2.out.block j hj)⟩; have y2' := HX4.out.cells 2 _ rfl; have yf := HX4.out.fz 2; clear hown hgrow hat2)
                          have HX5 := Lib.hid (HX4.out.set 2 (.slice (some ⟨g4, 0, none⟩) (P.length + 1) c4) (by simp))
                          have HY5 := Lib.hid (HY4.out.other (k := Xb) (o := 2) (x := .slice (some ⟨g4, 0, none⟩) (P.length + 1) c4) (by have := HSY.out; omega))
                          have HR5 := Lib.hid (HR4.out.other (k := Xb) (o := 2) (x := .slice (some ⟨g4, 0, none⟩) (P.length + 1) c4) (by have := HSZ.out; omega))
                          have HB5 := Lib.hid (HB4.out.setCell (p := ⟨Xb, 2, none⟩) HWS.out (.slice (some ⟨g4, 0, none⟩) (P.length + 1) c4))
                          have HO5 := Lib.hid (ownsRow_setCell_below HO4.out (a := ⟨Xb, 2, none⟩) (Nat.lt_succ_self _) (.slice (some ⟨g4, 0, none⟩) (P.length + 1) c4))
                          have HW5 : Hid (Xb + 1 ≤ (w8.setCell ⟨Xb, 2, none⟩ (.slice (some ⟨g4, 0, none⟩) (P.length + 1) c4)).heap.size) := by show _ ≤ _; simp only [World.setCell, Array.size_modify]; have := HW2.out; omega
                          exact ⟨⟨q + 1, _, by go_num, hqt, HX5, HY5, HR5, (by show World.ownsRow _ _ _ _ _ _ _; rw [HST.out, Lay.all_app, Lay.all_one, List.length_append]; exact HO5.out), HB5, HW5⟩, by show es.length - ((q : Int) + 1).toNat < es.length - (q : Int).toNat; omega⟩
                        · have hgt : ¬ (zi < y.i) := by have := HKy.out.1; omega
                          have hgtb := decide_eq_false hgt
                          have HSK : Hid (min (q + 1) K = min q K) := by show _ = _; omega
                          clear hal hg he2 hxi hei hzi hy
                          go_wp2_with fail
                          exact ⟨⟨q + 1, _, by go_num, hqt, HX2, HY2, HR2, (by show World.ownsRow _ _ _ _ _ _ _; rw [HSK.out]; exact HO2.out), HB2, HW2⟩, by show es.length - ((q : Int) + 1).toNat < es.length - (q : Int).toNat; omega⟩
                      · obtain rfl : q = es.length := by omega
                        have hP : ls.take (min es.length K) = ls.take K := by rw [Nat.min_eq_right HKy.out.2]
                        rw [hP] at hO hX
                        clear hP
                        have hcf : ¬ cm = k := by have := HCM.out; omega
                        have hdn := (HNs.out.later hB.out).drop k (Nat.le_of_lt hlt)
                        have hdm := (HMs.out.later hB.out).drop k (Nat.le_of_lt hlt)
                        rw [if_neg hcf] at hdn hdm
                        simp only [Option.map_some, lay_add] at hdn hdm
                        have hdb := lay_drew (Below.refl wr.heap.size wr)
                        have HO1 := Lib.hid (World.ownsRow.drew hO.out)
                        have HDn := Lib.hid (hdn.later hdb)
                        have HDm := Lib.hid (hdm.later hdb)
                        have HX1 := Lib.hid (hX.out.below hdb)
                        have HY1 := Lib.hid (hY.out.below hdb)
                        have HR1 := Lib.hid (hR.out.below hdb)
                        have HB1 : Hid (Below W.heap.size W wr.drew) := hB.out.trans (hdb.mono hB.out.size)
                        have HW1 : Hid (Xb + 1 ≤ wr.drew.heap.size) := hW.out
                        have HLn : Hid ((ls.take K).length + (ns.drop k).length ≤ 1073741825) := by
                          show _ ≤ _
                          rw [List.length_take, List.length_drop]
                          have := HM.out.len
                          have := HMn.out.len
                          omega
                        have hMt := ((HLw.out.take K).app (HNw.out.drop k))
                        have HMt := Lib.hid hMt
                        have hkm : (k : Int) ≤ (ms.length : Int) := by omega
                        have hkc : (k : Int) ≤ (cm : Int) := by have := HCM.out; omega
                        have hcf2 : ¬ ((cm : Int) = (k : Int)) := by omega
                        have x2 := HX1.out.cells 2 _ rfl
                        generalize hPd : ls.take K = P at *
                        generalize hNd : ns.drop k = D at *
                        clear hO hdn hdm hX hY hR hB hW hdb hMt
                        go_upto_region 20 with fail
                        go_region_law (refine step_catI (I := enL) (by rfl) _ _ 22 44 (by rfl) Try.underlying22 Try.infoEn rfl (by decide) (by decide) HO1.out HDn.out HLn.out HW1.out (by rfl) (by rfl) ?_; intro v8 w8 hown hgrow; (rw [List.length_append] at hown); (obtain ⟨va8, vc8, rfl⟩ := row_slice1 hown); have HO8 := Lib.hid hown; have HX8 := Lib.hid (HX1.out.keep hgrow.size (hgrow.block _ HX1.out.lt (fun e => by have := (HO1.out.lt _ e.symm).1; omega))); have HY8 := Lib.hid (HY1.out.keep hgrow.size (hgrow.block _ HY1.out.lt (fun e => by have := (HO1.out.lt _ e.symm).1; have := HSY.out; omega))); have HR8 := Lib.hid (HR1.out.keep hgrow.size (hgrow.block _ HR1.out.lt (fun e => by have := (HO1.out.lt _ e.symm).1; have := HSZ.out; omega))); have HB8 : Hid (Below W.heap.size W w8) := ⟨hgrow.os.trans HB1.out.os, hgrow.tape.trans HB1.out.tape, hgrow.output.trans HB1.out.output, Nat.le_trans HB1.out.size hgrow.size, fun j hj => (hgrow.block j (Nat.lt_of_lt_of_le hj HB1.out.size) (fun e => by have := (HO1.out.lt _ e.symm).1; have := HWS.out; omega)).trans (HB1.out.block j hj)⟩; have z2 := HX8.out.cells 2 _ rfl; have zf := HX8.out.fz 2; clear hown hgrow x2)
                        all_goals
                          have HX9 := Lib.hid (HX8.out.set 2 (.slice va8 (P.length + D.length) vc8) (by simp))
                          have HY9 := Lib.hid (HY8.out.other (k := Xb) (o := 2) (x := .slice va8 (P.length + D.length) vc8) (by have := HSY.out; omega))
                          have HR9 := Lib.hid (HR8.out.other (k := Xb) (o := 2) (x := .slice va8 (P.length + D.length) vc8) (by have := HSZ.out; omega))
                          have HB9 := Lib.hid (HB8.out.setCell (p := ⟨Xb, 2, none⟩) HWS.out (.slice va8 (P.length + D.length) vc8))
                          have HO9 := Lib.hid (ownsRow_setCell_below HO8.out (a := ⟨Xb, 2, none⟩) (Nat.lt_succ_self _) (.slice va8 (P.length + D.length) vc8))
                          clear z2 zf HX8 HY8 HR8 HB8 HO8 HX1 HY1 HR1 HB1 HO1 HW1
                          generalize w8.setCell _ _ = w9 at *
                          have hdb9 := lay_drew (Below.refl w9.heap.size w9)
                          have xa0 := HX9.out.cells 0 _ rfl
                          have xa1 := HX9.out.cells 1 _ rfl
                          have xa2 := HX9.out.cells 2 _ rfl
                          have qa0 := HR9.out.cells 0 _ rfl
                          have qa1 := HR9.out.cells 1 _ rfl
                          have qa2 := HR9.out.cells 2 _ rfl
                          have qaf0 := HR9.out.fz 0
                          have qaf1 := HR9.out.fz 1
                          have qaf2 := HR9.out.fz 2
                          have HXd := Lib.hid (HX9.out.below hdb9)
                          have HRd := Lib.hid (HR9.out.below hdb9)
                          have y0 := HY9.out.cells 0 _ rfl
                          have x0 := HXd.out.cells 0 _ rfl
                          have x1 := HXd.out.cells 1 _ rfl
                          have x2 := HXd.out.cells 2 _ rfl
                          have q0 := HRd.out.cells 0 _ rfl
                          have q1 := HRd.out.cells 1 _ rfl
                          have q2 := HRd.out.cells 2 _ rfl
                          have qf0 := HRd.out.fz 0
                          have qf1 := HRd.out.fz 1
                          have qf2 := HRd.out.fz 2
                          clear hdb9
                          generalize hPDl : (P.length + D.length) = PD at *
                          have HPD := Lib.hid hPDl
                          clear hPDl
                          go_upto_region 24 with fail
                          go_region
                          all_goals
                            clear xa0 xa1 xa2 qa0 qa1 qa2 qaf0 qaf1 qaf2 x0 x1 x2 q0 q1 q2 qf0 qf1 qf2 y0
                            go_simp
                            rw [show (((w9.setCell ⟨w.heap.size + 1, 0, none⟩ (.int .i64 i)).setCell ⟨w.heap.size + 1, 1, none⟩ (.int .i64 t)).setCell ⟨w.heap.size + 1, 2, none⟩ (.slice va8 PD vc8)).drew = (put3 w9 (w.heap.size + 1) (.int .i64 i) (.int .i64 t) (.slice va8 PD vc8)).drew from rfl]
                            have KK := (put3_dc (v0 := .int .i64 i) (v1 := .int .i64 t) (v2 := .slice va8 PD vc8) HR9.out).below (lay_drew (Below.refl _ _))
                            have hB2 := lay_drew (put3_below (b := w.heap.size + 1) (.int .i64 i) (.int .i64 t) (.slice va8 PD vc8) (HWB.out.trans (HB9.out.mono HWB.out.size)) (Nat.le_succ _))
                            have hO2 := World.ownsRow.drew (ownsRow_setCell_below (ownsRow_setCell_below (ownsRow_setCell_below HO9.out (a := ⟨w.heap.size + 1, 0, none⟩) (show w.heap.size + 1 < Xb + 1 by have := HSZ.out; omega) (.int .i64 i)) (a := ⟨w.heap.size + 1, 1, none⟩) (show w.heap.size + 1 < Xb + 1 by have := HSZ.out; omega) (.int .i64 t)) (a := ⟨w.heap.size + 1, 2, none⟩) (show w.heap.size + 1 < Xb + 1 by have := HSZ.out; omega) (.slice va8 PD vc8))
                            have hl2 : enL.In (put3 w9 (w.heap.size + 1) (.int .i64 i) (.int .i64 t) (.slice va8 PD vc8)).drew (.slice va8 PD vc8) (P ++ D) := Lay.in_own hO2 (by rw [List.length_append]; exact HPD.out.symm)
                            have hE2 := (HMt.out.below hB2).ein hl2
                            have hF2 : ∀ w0 : World, EIn w0 (.slice (some ⟨g, off, none⟩) ms.length cm) ms → EIn w0 (.slice (some ⟨g, off + k * 3, none⟩) (ms.length - k) (cm - k)) (ms.drop k) := fun w0 h0 => by
                              have h1 := h0.drop k (Nat.le_of_lt hlt)
                              rw [if_neg hcf] at h1
                              simpa only [Option.map_some, lay_add] using h1
                            have r0 := KK.cells 0 _ rfl
                            have r1 := KK.cells 1 _ rfl
                            have r2 := KK.cells 2 _ rfl
                            clear hl2 hO2 KK HX9 HR9 HO9 HB9 HXd HRd HMt HDn HDm HLn
                            generalize (put3 w9 _ _ _ _).drew = w11 at *
                            go_wp2_with fail
                            exact bodyPost_ret (v := .tuple #[.agg #[.int .i64 i, .int .i64 t, .slice va8 PD vc8], .int .i64 (0), .slice (some ⟨g, off + k * 3, none⟩) (ms.length - k) (cm - k), .bool true]) (by simp [results, Try.results24, go_sem, r0, r1, r2]) rfl ⟨_, _, by rw [HJ.out], (by rw [HJ.out]; exact hE2), (by rw [HJ.out]; exact hF2), hB2⟩
            · obtain rfl : k = ms.length := by omega
              have HE0 := HEw
              have HJ : Hid (joinL i t es x u ms = ⟨es, 0, [], true⟩) := joinL_same HMM.out (fstO_miss hN.out)
              have d0 := hV.out.d0
              have d1 := hV.out.d1
              have d2 := hV.out.d2
              have y0 := hR.out.cells 0 _ rfl
              have y1 := hR.out.cells 1 _ rfl
              have y2 := hR.out.cells 2 _ rfl
              have f0 := hR.out.fz 0
              have f1 := hR.out.fz 1
              have f2 := hR.out.fz 2
              go_wp2_with fail
              change bodyPost _ _ _ _ _ (put3 wr (w.heap.size + 1) (.int .i64 i) (.int .i64 t) (.slice a es.length c))
              have KK := put3_dc (v0 := .int .i64 i) (v1 := .int .i64 t) (v2 := .slice a es.length c) hR.out
              have hB2 := put3_below (b := w.heap.size + 1) (.int .i64 i) (.int .i64 t) (.slice a es.length c) hV.out.b (Nat.le_succ _)
              have hE2 := HE0.out.later hB2
              have r0 := KK.cells 0 _ rfl
              have r1 := KK.cells 1 _ rfl
              have r2 := KK.cells 2 _ rfl
              clear d0 d1 d2 y0 y1 y2 f0 f1 f2
              generalize put3 _ _ _ _ _ = w9 at *
              exact bodyPost_ret (v := .tuple #[.agg #[.int .i64 i, .int .i64 t, .slice a es.length c], .int .i64 0, .slice none 0 0, .bool true]) (by simp [results, Try.results24, go_sem, r0, r1, r2]) rfl ⟨_, _, by rw [HJ.out], (by rw [HJ.out]; exact hE2), (by rw [HJ.out]; exact fun w0 _ => EIn.nil w0), hB2⟩
end Go.Proofs.Ytcmfnokpbgfioaa
