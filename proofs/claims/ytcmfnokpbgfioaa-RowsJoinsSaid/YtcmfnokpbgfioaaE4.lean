/-
  rows.Join. (Written by genjoin.py.)
-/
import Derived.Test.YtcmfnokpbgfioaaE3
namespace Go.Proofs.Ytcmfnokpbgfioaa
set_option linter.unusedVariables false
set_option linter.unusedSimpArgs false
open Go.RowKit

/-- What Join answers. -/
def JoinP (i t : Int) (J : Jn) (w : World) (e : Ending) (w' : World) : Prop := ∃ v f, e = .returned (.tuple #[.agg #[.int .i64 i, .int .i64 t, v], .int .i64 J.cut, f, .bool J.ok]) ∧ EInB w' w.heap.size v J.l ∧ EInB w' w.heap.size f J.fresh ∧ Below w.heap.size w w'
/-- Two lists in rows of their own, the data of the first one in none of the second one's blocks. -/
def EPair (w : World) (B : Nat) (v : Value) (es : List Er) (f : Value) (fs : List Er) : Prop := ∃ ls ns : List En,
  (w.ownsRow B 44 enL.sz v ls.length (enL.all ls) ∧ ls.length = es.length ∧ ∀ (k : Nat) (x : En) (e : Er), ls[k]? = some x → es[k]? = some e → x.i = e.i ∧ x.t = e.t ∧ w.ownsRow B 5 1 x.s.v e.d.length (u8s e.d)) ∧
  (w.ownsRow B 44 enL.sz f ns.length (enL.all ns) ∧ ns.length = fs.length ∧ ∀ (k : Nat) (x : En) (e : Er), ns[k]? = some x → fs[k]? = some e → x.i = e.i ∧ x.t = e.t ∧ w.ownsRow B 5 1 x.s.v e.d.length (u8s e.d)) ∧
  (∀ (k : Nat) (x : En) (g : Nat), ls[k]? = some x → x.s.v.ownBlock = some g → f.ownBlock ≠ some g ∧ ∀ (j : Nat) (y : En), ns[j]? = some y → y.s.v.ownBlock ≠ some g)
theorem EPair.one {w : World} {B : Nat} {v f : Value} {es fs : List Er} (h : EPair w B v es f fs) : EInB w B v es := by
  obtain ⟨ls, ns, h1, _, _⟩ := h
  exact ⟨ls, h1⟩
theorem EPair.two {w : World} {B : Nat} {v f : Value} {es fs : List Er} (h : EPair w B v es f fs) : EInB w B f fs := by
  obtain ⟨ls, ns, _, h2, _⟩ := h
  exact ⟨ns, h2⟩
theorem EPair.keep {w w' : World} {B B' : Nat} {v f : Value} {es fs : List Er} (h : EPair w B v es f fs) (hB : B' ≤ B) (hk : ∀ k, B ≤ k → k < w.heap.size → w'.heap[k]? = w.heap[k]?) : EPair w' B' v es f fs := by
  obtain ⟨ls, ns, ⟨a1, a2, a3⟩, ⟨b1, b2, b3⟩, h3⟩ := h
  exact ⟨ls, ns, ⟨row_keep a1 hB hk, a2, fun k x e hx he => ⟨(a3 k x e hx he).1, (a3 k x e hx he).2.1, row_keep (a3 k x e hx he).2.2 hB hk⟩⟩, ⟨row_keep b1 hB hk, b2, fun k x e hx he => ⟨(b3 k x e hx he).1, (b3 k x e hx he).2.1, row_keep (b3 k x e hx he).2.2 hB hk⟩⟩, h3⟩
theorem EPair.nil {w : World} {B : Nat} {v : Value} {es : List Er} (h : EInB w B v es) : EPair w B v es (.slice none 0 0) [] := by
  obtain ⟨ls, h1⟩ := h
  exact ⟨ls, [], h1, ⟨World.ownsRow_nil _ _ _ _, rfl, fun k x e hx => by simp at hx⟩, fun k x g hx hg => ⟨by simp [Value.ownBlock], fun j y hy => by simp at hy⟩⟩
theorem pair_of {w w' : World} {B : Nat} {v f : Value} {es fs : List Er} (h : EInB w B v es) (hb : Below w.heap.size w w') (hf : EInB w' w.heap.size f fs) (hB : B ≤ w.heap.size) : EPair w' B v es f fs := by
  obtain ⟨ls, a1, a2, a3⟩ := h
  obtain ⟨ns, b1, b2, b3⟩ := hf
  refine ⟨ls, ns, ⟨row_keep a1 (Nat.le_refl _) (fun k _ hk => hb.block k hk), a2, fun k x e hx he => ⟨(a3 k x e hx he).1, (a3 k x e hx he).2.1, row_keep (a3 k x e hx he).2.2 (Nat.le_refl _) (fun k _ hk => hb.block k hk)⟩⟩, ⟨row_keep b1 hB (fun _ _ _ => rfl), b2, fun k x e hx he => ⟨(b3 k x e hx he).1, (b3 k x e hx he).2.1, row_keep (b3 k x e hx he).2.2 hB (fun _ _ _ => rfl)⟩⟩, fun k x g hx hg => ?_⟩
  have hke : k < es.length := by rw [← a2]; exact (List.getElem?_eq_some_iff.1 hx).1
  have hlt := ((a3 k x _ hx (List.getElem?_eq_getElem hke)).2.2.lt g hg).2
  refine ⟨fun e => by have := (b1.lt g e).1; omega, fun j y hy e => ?_⟩
  have hjf : j < fs.length := by rw [← b2]; exact (List.getElem?_eq_some_iff.1 hy).1
  have := ((b3 j y _ hy (List.getElem?_eq_getElem hjf)).2.2.lt g e).1
  omega
def JoinQ (i t : Int) (J : Jn) (w : World) (e : Ending) (w' : World) : Prop := ∃ v f, e = .returned (.tuple #[.agg #[.int .i64 i, .int .i64 t, v], .int .i64 J.cut, f, .bool J.ok]) ∧ EPair w' w.heap.size v J.l f J.fresh ∧ Below w.heap.size w w'
def joinA (i t : Int) (l : List Er) (x u : Int) (m : List Er) : Jn := if okL i t l then joinL i t l x u m else ⟨[], 0, [], false⟩
theorem join_unmet {i t : Int} {l : List Er} {x u : Int} {m : List Er} (h0 : okL i t l = true) (h : meetB i t l x u m = false) : joinA i t l x u m = ⟨l, 0, [], false⟩ := by
  unfold joinA joinL; rw [if_pos h0, h]; rfl
theorem join_same {i t : Int} {l : List Er} {x u : Int} {m : List Er} (h0 : okL i t l = true) (h : meetB i t l x u m = true) (hf : fstO i t l m = none) : joinA i t l x u m = ⟨l, 0, [], true⟩ := by
  unfold joinA joinL; rw [if_pos h0, if_pos h, hf]
theorem join_bad {i t : Int} {l : List Er} {x u : Int} {m : List Er} {f : Nat} {e : Er} (h0 : okL i t l = true) (h : meetB i t l x u m = true) (hf : fstO i t l m = some f) (he : m[f]? = some e) (hb : e.t < (atL i t l (e.i - 1)).getD 0) : joinA i t l x u m = ⟨l, 0, [], false⟩ := by
  unfold joinA joinL; rw [if_pos h0, if_pos h, hf]; simp only [he, if_pos hb]
theorem join_new {i t : Int} {l : List Er} {x u : Int} {m : List Er} {f : Nat} {e : Er} (h0 : okL i t l = true) (h : meetB i t l x u m = true) (hf : fstO i t l m = some f) (he : m[f]? = some e) (hb : ¬ e.t < (atL i t l (e.i - 1)).getD 0) :
    joinA i t l x u m = ⟨l.take (e.i - 1 - i).toNat ++ m.drop f, if e.i ≤ i + l.length then e.i else 0, m.drop f, true⟩ := by
  unfold joinA joinL; rw [if_pos h0, if_pos h, hf]; simp only [he, if_neg hb]
theorem goR_short {i t : Int} {l : List Er} (h : goR i t l = true) : ∀ e ∈ l, e.d.length ≤ 1000000 := fun e he => by
  obtain ⟨k, hk, rfl⟩ := List.getElem_of_mem he
  have := (goR_get h (List.getElem?_eq_getElem hk)).2.2.2.2.2
  omega
theorem meet_goR {i t : Int} {l : List Er} {x u : Int} {m : List Er} (h : meetB i t l x u m = true) : goR x u m = true ∧ (0 < m.length → 0 ≤ x ∧ x ≤ 1099511627776) := by
  unfold meetB at h
  simp only [Bool.and_eq_true, Bool.or_eq_true, decide_eq_true_eq] at h
  refine ⟨h.1.2.2, fun hp => ?_⟩
  rcases h.1.2.1 with h | h
  · omega
  · simpa [inM'] using h

/-- Three cells laid in a block. -/
def put3 (w : World) (b : Nat) (v0 v1 v2 : Value) : World := ((w.setCell ⟨b, 0, none⟩ v0).setCell ⟨b, 1, none⟩ v1).setCell ⟨b, 2, none⟩ v2
theorem put3_dc {w : World} {b : Nat} {x0 x1 x2 v0 v1 v2 : Value} (h : DC w b [x0, x1, x2]) : DC (put3 w b v0 v1 v2) b [v0, v1, v2] := ((h.set 0 v0 (by simp)).set 1 v1 (by simp)).set 2 v2 (by simp)
theorem put3_below {B b : Nat} {w w' : World} (v0 v1 v2 : Value) (h : Below B w w') (hB : B ≤ b) : Below B w (put3 w' b v0 v1 v2) :=
  ((h.setCell (p := ⟨b, 0, none⟩) hB v0).setCell (p := ⟨b, 1, none⟩) hB v1).setCell (p := ⟨b, 2, none⟩) hB v2
theorem put3_ein {w : World} {B B' b : Nat} {v : Value} {es : List Er} (v0 v1 v2 : Value) (h : EInB w B v es) (hb : b < B) (hB : B' ≤ B) : EInB (put3 w b v0 v1 v2) B' v es :=
  (((h.set hb).set hb).set hb).keep hB (Nat.le_refl _) (fun _ _ _ => rfl)
theorem put3_blk (w : World) (b k : Nat) (v0 v1 v2 : Value) (h : k ≠ b) : (put3 w b v0 v1 v2).heap[k]? = w.heap[k]? := by
  unfold put3
  rw [Below.heap_setCell _ _ _ _ h, Below.heap_setCell _ _ _ _ h, Below.heap_setCell _ _ _ _ h]
theorem slice_shape {w : World} {B : Nat} {v : Value} {es : List Er} (h : EInB w B v es) : ∃ a n c, v = .slice a n c := by
  obtain ⟨a, c, hv, _⟩ := h.ein.slice; exact ⟨a, _, c, hv⟩

set_option maxRecDepth 100000 in
set_option maxHeartbeats 12800000 in
theorem Join_anyQ {w : World} {v m : Value} {es ms : List Er} (h : EIn w v es) (hm : EIn w m ms) (i t x u : Int) (l1 : es.length ≤ 50000) (l2 : ms.length ≤ 50000) :
    Calls Try.prog 23 #[.agg #[.int .i64 i, .int .i64 t, v], .int .i64 x, .int .i64 u, m] w (JoinQ (if okL i t es then i else 0) (if okL i t es then t else 0) (joinA i t es x u ms) w) := by
  obtain ⟨a, c, rfl, _, _⟩ := h.slice
  obtain ⟨a2, c2, rfl, hc2, _⟩ := hm.slice
  have hal := lay_alloc w (.cells #[.int .i64 i, .int .i64 t, .slice a es.length c] 24)
  have hal2 := lay_alloc (w.alloc (.cells #[.int .i64 i, .int .i64 t, .slice a es.length c] 24)) (.cells #[.int .i64 0, .int .i64 0, .slice none 0 0] 24)
  have hd2 := DC.alloc (w.alloc (.cells #[.int .i64 i, .int .i64 t, .slice a es.length c] 24)) [.int .i64 0, .int .i64 0, .slice none 0 0] 24
  have hs : (w.alloc (.cells #[.int .i64 i, .int .i64 t, .slice a es.length c] 24)).heap.size = w.heap.size + 1 := by simp
  rw [hs] at hd2
  have hb := hal.trans (hal2.mono hal.size)
  have HZ := Lib.hid hd2
  have HB0 := Lib.hid hb
  have HE0 := Lib.hid (h.later hb)
  have HM0 := Lib.hid (hm.later hb)
  have HK := Lib.hid (known_any (h.later hb) i t)
  clear hal hal2 hd2 hs hb h hm
  cases hok : okL i t es with
  | false =>
    have HR : Hid (joinA i t es x u ms = ⟨[], 0, [], false⟩) := by show _ = _; unfold joinA; rw [hok]; rfl
    rw [hok] at HK
    go_enter Try.func23, Try.ntmps23
    go_wp2_with fail
    go_fit HK.out
    rintro e w1 ⟨rfl, hb⟩
    have HB1 := Lib.hid (HB0.out.trans (hb.mono HB0.out.size))
    have HE1 := Lib.hid (HE0.out.later hb)
    have HM1 := Lib.hid (HM0.out.later hb)
    have HZ1 := Lib.hid (HZ.out.below hb)
    clear hb HE0 HB0 HM0 HZ HK
    have HB2 := Lib.hid (HB1.out.trans ((lay_alloc w1 (.cells #[.int .i64 i, .int .i64 t, .slice a es.length c] 63)).mono HB1.out.size))
    have HZ2 := Lib.hid (HZ1.out.below (lay_alloc w1 (.cells #[.int .i64 i, .int .i64 t, .slice a es.length c] 63)))
    have z0 := HZ2.out.cells 0 _ rfl
    have z1 := HZ2.out.cells 1 _ rfl
    have z2 := HZ2.out.cells 2 _ rfl
    have zf0 := HZ2.out.fz 0
    have zf1 := HZ2.out.fz 1
    have zf2 := HZ2.out.fz 2
    go_wp2_with fail
    change bodyPost _ _ _ _ _ (put3 (w1.alloc (.cells #[.int .i64 i, .int .i64 t, .slice a es.length c] 63)) (w.heap.size + 1) (.int .i64 0) (.int .i64 0) (.slice none 0 0))
    have K := put3_dc (v0 := .int .i64 0) (v1 := .int .i64 0) (v2 := .slice none 0 0) HZ2.out
    have hB := put3_below (b := w.heap.size + 1) (.int .i64 0) (.int .i64 0) (.slice none 0 0) HB2.out (Nat.le_succ _)
    have r0 := K.cells 0 _ rfl
    have r1 := K.cells 1 _ rfl
    have r2 := K.cells 2 _ rfl
    clear z0 z1 z2 zf0 zf1 zf2 HZ2 HB2
    generalize put3 _ _ _ _ _ = w5 at *
    exact bodyPost_ret (v := .tuple #[.agg #[.int .i64 0, .int .i64 0, .slice none 0 0], .int .i64 0, .slice none 0 0, .bool false]) (by simp [results, Try.results23, go_sem, r0, r1, r2]) rfl ⟨_, _, by rw [HR.out], (by rw [HR.out]; exact EPair.nil (EInB.nil _ _)), hB⟩
  | true =>
    rw [hok] at HK
    have HJ := Lib.hid hok
    have hi : 0 ≤ i ∧ i + es.length ≤ 1099511627776 := ⟨(okL_iff.1 hok).1.1, okL_end hok⟩
    have HI := Lib.hid hi
    have HS := Lib.hid (goR_short (okL_iff.1 hok).2.2)
    have HTE : Hid (es.take es.length ++ [] = es) := by show _ = _; simp
    clear hok
    go_enter Try.func23, Try.ntmps23
    go_wp2_with fail
    go_fit HK.out
    rintro e w1 ⟨rfl, hb⟩
    have HB1 := Lib.hid (HB0.out.trans (hb.mono HB0.out.size))
    have HE1 := Lib.hid (HE0.out.later hb)
    have HM1 := Lib.hid (HM0.out.later hb)
    have HZ1 := Lib.hid (HZ.out.below hb)
    clear hb HE0 HB0 HM0 HZ HK
    have HV := Lib.hid (Kv.new (i := i) (t := t) HE1.out HB1.out 63)
    have HZ2 := Lib.hid (HZ1.out.below (lay_alloc w1 (.cells #[.int .i64 i, .int .i64 t, .slice a es.length c] 63)))
    have HM2 := Lib.hid (HM1.out.later (lay_alloc w1 (.cells #[.int .i64 i, .int .i64 t, .slice a es.length c] 63)))
    clear HE1 HZ1 HM1 HB1
    go_wp2_with fail
    generalize w1.alloc _ = W at *
    have HMe := Lib.hid (meets_any HV.out.e HM2.out i t x u hi)
    cases hme : meetB i t es x u ms with
    | false =>
      rw [hme] at HMe
      have HR : Hid (joinA i t es x u ms = ⟨es, 0, [], false⟩) := join_unmet HJ.out hme
      clear hme
      go_fit HMe.out
      rintro e w2 ⟨rfl, hb⟩
      have HV2 := Lib.hid (HV.out.later hb)
      have HZ3 := Lib.hid (HZ2.out.below hb)
      have HZ2 := HZ3
      clear hb HV HM2 HMe HZ3
      have d0 := HV2.out.d0
      have d1 := HV2.out.d1
      have d2 := HV2.out.d2
      have HVd := Lib.hid HV2.out.drew
      have HZd := Lib.hid (HZ2.out.below (lay_drew (Below.refl _ w2)))
      have HEd := Lib.hid (end_any w2.drew i t a es.length c HI.out)
      go_wp2_with fail
      go_region_with (first
        | (go_at_call 35; (with_reducible refine HEd.out.mono ?_); rintro e8 w8 ⟨rfl, hb8⟩; have HV8 := Lib.hid (HVd.out.later hb8); have HZ8 := Lib.hid (HZd.out.below hb8); have p0 := HV8.out.d0; have p1 := HV8.out.d1; have p2 := HV8.out.d2; have HW8 := Lib.hid (with_any HV8.out.e (EIn.nil w8) i t es.length (Nat.le_refl _) HI.out l1 (Nat.zero_le _) (by rw [HTE.out]; exact HS.out)); clear hb8)
        | (go_at_call 44; (with_reducible refine HW8.out.mono ?_); rintro e9 w9 ⟨v9, rfl, hv9, hb9⟩; (obtain ⟨a9, n9, c9, rfl⟩ := slice_shape hv9); rw [HTE.out] at hv9; have HV9 := Lib.hid (HV8.out.later hb9); have HZ9 := Lib.hid (HZ8.out.below hb9); have HE9 := Lib.hid hv9; have q0 := HZ9.out.cells 0 _ rfl; have q1 := HZ9.out.cells 1 _ rfl; have q2 := HZ9.out.cells 2 _ rfl; have qf0 := HZ9.out.fz 0; have qf1 := HZ9.out.fz 1; have qf2 := HZ9.out.fz 2; clear hb9 hv9))
      all_goals
        change Exit.then _ _ _ _ (put3 w9 (w.heap.size + 1) (.int .i64 i) (.int .i64 t) (.slice a9 n9 c9))
        have K := put3_dc (v0 := .int .i64 i) (v1 := .int .i64 t) (v2 := .slice a9 n9 c9) HZ9.out
        have hB := put3_below (b := w.heap.size + 1) (.int .i64 i) (.int .i64 t) (.slice a9 n9 c9) HV9.out.b (Nat.le_succ _)
        have hE := put3_ein (b := w.heap.size + 1) (.int .i64 i) (.int .i64 t) (.slice a9 n9 c9) HE9.out HZ8.out.lt HV8.out.b.size
        have r0 := K.cells 0 _ rfl
        have r1 := K.cells 1 _ rfl
        have r2 := K.cells 2 _ rfl
        clear q0 q1 q2 qf0 qf1 qf2 p0 p1 p2 d0 d1 d2 HV8 HZ8 HV9 HZ9 HE9 HVd HZd HEd HW8 K
        generalize put3 _ _ _ _ _ = w10 at *
        go_simp
        go_wp2_with fail
        exact bodyPost_ret (v := .tuple #[.agg #[.int .i64 i, .int .i64 t, .slice a9 n9 c9], .int .i64 0, .slice none 0 0, .bool false]) (by simp [results, Try.results23, go_sem, r0, r1, r2]) rfl ⟨_, _, by rw [HR.out], (by rw [HR.out]; exact EPair.nil hE), hB⟩
    | true =>
      rw [hme] at HMe
      have HMT := Lib.hid hme
      clear hme
      go_fit HMe.out
      rintro e w2 ⟨rfl, hb⟩
      have HV2 := Lib.hid (HV.out.later hb)
      have HZ3 := Lib.hid (HZ2.out.below hb)
      have HZ2 := HZ3
      have HM3 := Lib.hid (HM2.out.later hb)
      have HM2 := HM3
      clear hb HV HMe HZ3 HM3
      have HIx := Lib.hid (index_any HV2.out hi HM2.out (by omega))
      cases hf : fstO i t es ms with
      | none =>
        rw [hf] at HIx
        have HR : Hid (joinA i t es x u ms = ⟨es, 0, [], true⟩) := join_same HJ.out HMT.out hf
        have HQ : Hid (fstI none 0 = -1) := by show _ = _; rfl
        rw [HQ.out] at HIx
        clear hf
        go_wp2_with fail
        go_fit HIx.out
        rintro e w3 ⟨rfl, hb⟩
        have HV3 := Lib.hid (HV2.out.later hb)
        have HZ3 := Lib.hid (HZ2.out.below hb)
        have HM3 := Lib.hid (HM2.out.later hb)
        clear hb HV2 HZ2 HM2
        clear HIx HM3
        have d0 := HV3.out.d0
        have d1 := HV3.out.d1
        have d2 := HV3.out.d2
        have HVd := Lib.hid HV3.out.drew
        have HZd := Lib.hid (HZ3.out.below (lay_drew (Below.refl _ w3)))
        have HEd := Lib.hid (end_any w3.drew i t a es.length c HI.out)
        go_wp2_with fail
        go_region_with (first
          | (go_at_call 35; (with_reducible refine HEd.out.mono ?_); rintro e8 w8 ⟨rfl, hb8⟩; have HV8 := Lib.hid (HVd.out.later hb8); have HZ8 := Lib.hid (HZd.out.below hb8); have p0 := HV8.out.d0; have p1 := HV8.out.d1; have p2 := HV8.out.d2; have HW8 := Lib.hid (with_any HV8.out.e (EIn.nil w8) i t es.length (Nat.le_refl _) HI.out l1 (Nat.zero_le _) (by rw [HTE.out]; exact HS.out)); clear hb8)
          | (go_at_call 44; (with_reducible refine HW8.out.mono ?_); rintro e9 w9 ⟨v9, rfl, hv9, hb9⟩; (obtain ⟨a9, n9, c9, rfl⟩ := slice_shape hv9); rw [HTE.out] at hv9; have HV9 := Lib.hid (HV8.out.later hb9); have HZ9 := Lib.hid (HZ8.out.below hb9); have HE9 := Lib.hid hv9; have q0 := HZ9.out.cells 0 _ rfl; have q1 := HZ9.out.cells 1 _ rfl; have q2 := HZ9.out.cells 2 _ rfl; have qf0 := HZ9.out.fz 0; have qf1 := HZ9.out.fz 1; have qf2 := HZ9.out.fz 2; clear hb9 hv9))
        all_goals
          change Exit.then _ _ _ _ (put3 w9 (w.heap.size + 1) (.int .i64 i) (.int .i64 t) (.slice a9 n9 c9))
          have K := put3_dc (v0 := .int .i64 i) (v1 := .int .i64 t) (v2 := .slice a9 n9 c9) HZ9.out
          have hB := put3_below (b := w.heap.size + 1) (.int .i64 i) (.int .i64 t) (.slice a9 n9 c9) HV9.out.b (Nat.le_succ _)
          have hE := put3_ein (b := w.heap.size + 1) (.int .i64 i) (.int .i64 t) (.slice a9 n9 c9) HE9.out HZ8.out.lt HV8.out.b.size
          have r0 := K.cells 0 _ rfl
          have r1 := K.cells 1 _ rfl
          have r2 := K.cells 2 _ rfl
          clear q0 q1 q2 qf0 qf1 qf2 p0 p1 p2 d0 d1 d2 HV8 HZ8 HV9 HZ9 HE9 HVd HZd HEd HW8 K
          generalize put3 _ _ _ _ _ = w10 at *
          go_simp
          go_wp2_with fail
          exact bodyPost_ret (v := .tuple #[.agg #[.int .i64 i, .int .i64 t, .slice a9 n9 c9], .int .i64 0, .slice none 0 0, .bool true]) (by simp [results, Try.results23, go_sem, r0, r1, r2]) rfl ⟨_, _, by rw [HR.out], (by rw [HR.out]; exact EPair.nil hE), hB⟩
      | some f =>
        rw [hf] at HIx
        obtain ⟨e, he, ho, _⟩ := fstO_some hf
        have HQ : Hid (fstI (some f) 0 = f) := by show (f : Int) + (0 : Nat) = f; omega
        rw [HQ.out] at HIx
        obtain ⟨hA1, hA2⟩ := fst_ahead HMT.out hf he
        have hfl : f < ms.length := (List.getElem?_eq_some_iff.1 he).1
        obtain ⟨g2, off, p, c', ha2, _⟩ := HM2.out.at he
        subst ha2
        have hgm := (meet_goR HMT.out).1
        have hei := (goR_get hgm he).2.2
        have HSm := Lib.hid (goR_short hgm)
        obtain ⟨k, hk⟩ : ∃ k : Nat, i + (k : Int) = e.i - 1 := ⟨(e.i - 1 - i).toNat, by omega⟩
        have hkl : k ≤ es.length := by omega
        have HKK : Hid ((e.i - 1 - i).toNat = k) := by show _ = _; omega
        have HK2 := Lib.hid hk
        have HBD : Hid (∀ y ∈ es.take k ++ ms.drop f, y.d.length ≤ 1000000) := fun y hy => by
          rcases List.mem_append.1 hy with h | h
          · exact HS.out y (List.mem_of_mem_take h)
          · exact HSm.out y (List.mem_of_mem_drop h)
        have HAT : Hid (atL i t es (e.i - 1) = some (tm t es k)) := by show _ = _; unfold atL; rw [if_pos ⟨hA1, hA2⟩, HKK.out]
        have HF := Lib.hid hf
        have HG := Lib.hid he
        have e1 : IntKind.i64.wrap (e.i - 1) = e.i - 1 := IntWalk.i64_in _ (by omega)
        have bf : (f : Int) ≤ (ms.length : Int) := by omega
        have bl : (f : Int) < (ms.length : Int) := by omega
        have b0 : ¬ ((f : Int) < 0) := by omega
        have hcf : ¬ c2 = f := by omega
        clear hf ho hgm hei
        go_wp2_with fail
        go_fit HIx.out
        rintro e3 w3 ⟨rfl, hb⟩
        have HV3 := Lib.hid (HV2.out.later hb)
        have HZ3 := Lib.hid (HZ2.out.below hb)
        have HM3 := Lib.hid (HM2.out.later hb)
        clear hb HV2 HZ2 HM2
        clear HIx
        have HT := term_any HV3.out.e i t (e.i - 1) hi
        unfold TermP at HT
        rw [HAT.out] at HT
        have HT := Lib.hid HT
        obtain ⟨g', off', p', c3, hga, k0, k1, k2, _⟩ := HM3.out.at HG.out
        simp only [Option.some.injEq, Addr.mk.injEq, and_true] at hga
        obtain ⟨rfl, rfl⟩ := hga
        have d0 := HV3.out.d0
        have d1 := HV3.out.d1
        have d2 := HV3.out.d2
        go_wp2_with fail
        go_fit HT.out
        rintro e4 w4 ⟨rfl, hb⟩
        clear k0 k1 k2 d0 d1 d2
        have HV4 := Lib.hid (HV3.out.later hb)
        have HZ4 := Lib.hid (HZ3.out.below hb)
        have HM4 := Lib.hid (HM3.out.later hb)
        clear hb HV3 HZ3 HM3
        obtain ⟨g', off', p', c3, hga, k0, k1, k2, _⟩ := HM4.out.at HG.out
        simp only [Option.some.injEq, Addr.mk.injEq, and_true] at hga
        obtain ⟨rfl, rfl⟩ := hga
        clear HT k0 k2
        by_cases hlt : e.t < tm t es k
        · have HR : Hid (joinA i t es x u ms = ⟨es, 0, [], false⟩) := join_bad HJ.out HMT.out HF.out HG.out (by rw [HAT.out]; exact hlt)
          clear hA1 hA2 hfl hk hkl
          have d0 := HV4.out.d0
          have d1 := HV4.out.d1
          have d2 := HV4.out.d2
          have HVd := Lib.hid HV4.out.drew
          have HZd := Lib.hid (HZ4.out.below (lay_drew (Below.refl _ w4)))
          have HEd := Lib.hid (end_any w4.drew i t a es.length c HI.out)
          go_wp2_with fail
          go_region_with (first
            | (go_at_call 35; (with_reducible refine HEd.out.mono ?_); rintro e8 w8 ⟨rfl, hb8⟩; have HV8 := Lib.hid (HVd.out.later hb8); have HZ8 := Lib.hid (HZd.out.below hb8); have p0 := HV8.out.d0; have p1 := HV8.out.d1; have p2 := HV8.out.d2; have HW8 := Lib.hid (with_any HV8.out.e (EIn.nil w8) i t es.length (Nat.le_refl _) HI.out l1 (Nat.zero_le _) (by rw [HTE.out]; exact HS.out)); clear hb8)
            | (go_at_call 44; (with_reducible refine HW8.out.mono ?_); rintro e9 w9 ⟨v9, rfl, hv9, hb9⟩; (obtain ⟨a9, n9, c9, rfl⟩ := slice_shape hv9); rw [HTE.out] at hv9; have HV9 := Lib.hid (HV8.out.later hb9); have HZ9 := Lib.hid (HZ8.out.below hb9); have HE9 := Lib.hid hv9; have q0 := HZ9.out.cells 0 _ rfl; have q1 := HZ9.out.cells 1 _ rfl; have q2 := HZ9.out.cells 2 _ rfl; have qf0 := HZ9.out.fz 0; have qf1 := HZ9.out.fz 1; have qf2 := HZ9.out.fz 2; clear hb9 hv9))
          all_goals
            change Exit.then _ _ _ _ (put3 w9 (w.heap.size + 1) (.int .i64 i) (.int .i64 t) (.slice a9 n9 c9))
            have K := put3_dc (v0 := .int .i64 i) (v1 := .int .i64 t) (v2 := .slice a9 n9 c9) HZ9.out
            have hB := put3_below (b := w.heap.size + 1) (.int .i64 i) (.int .i64 t) (.slice a9 n9 c9) HV9.out.b (Nat.le_succ _)
            have hE := put3_ein (b := w.heap.size + 1) (.int .i64 i) (.int .i64 t) (.slice a9 n9 c9) HE9.out HZ8.out.lt HV8.out.b.size
            have r0 := K.cells 0 _ rfl
            have r1 := K.cells 1 _ rfl
            have r2 := K.cells 2 _ rfl
            clear q0 q1 q2 qf0 qf1 qf2 p0 p1 p2 d0 d1 d2 HV8 HZ8 HV9 HZ9 HE9 HVd HZd HEd HW8 K
            generalize put3 _ _ _ _ _ = w10 at *
            go_simp
            go_wp2_with fail
            exact bodyPost_ret (v := .tuple #[.agg #[.int .i64 i, .int .i64 t, .slice a9 n9 c9], .int .i64 0, .slice none 0 0, .bool false]) (by simp [results, Try.results23, go_sem, r0, r1, r2]) rfl ⟨_, _, by rw [HR.out], (by rw [HR.out]; exact EPair.nil hE), hB⟩
        · have HR0 : Hid (joinA i t es x u ms = ⟨es.take k ++ ms.drop f, if e.i ≤ i + es.length then e.i else 0, ms.drop f, true⟩) := by
            show _ = _
            rw [join_new HJ.out HMT.out HF.out HG.out (by rw [HAT.out]; exact hlt), HKK.out]
          have HRo := Lib.hid (rowed_any w4 i t a es.length c e.i hi)
          have d0 := HV4.out.d0
          have d1 := HV4.out.d1
          have d2 := HV4.out.d2
          by_cases hin : e.i ≤ i + es.length
          · have HR : Hid (joinA i t es x u ms = ⟨es.take k ++ ms.drop f, e.i, ms.drop f, true⟩) := by show _ = _; rw [HR0.out, if_pos hin]
            have HQ2 : Hid (rowB i es.length e.i = true) := by show _ = _; unfold rowB; rw [decide_eq_true (by omega)]
            rw [HQ2.out] at HRo
            go_wp2_with fail
            go_fit HRo.out
            rintro e5 w5 ⟨rfl, hb⟩
            clear d0 d1 d2 k1
            have HV5 := Lib.hid (HV4.out.later hb)
            have HZ5 := Lib.hid (HZ4.out.below hb)
            have HM5 := Lib.hid (HM4.out.later hb)
            clear hb HV4 HZ4 HM4
            clear HRo
            have d0 := HV5.out.d0
            have d1 := HV5.out.d1
            have d2 := HV5.out.d2
            have HVd := Lib.hid HV5.out.drew
            have HZd := Lib.hid (HZ5.out.below (lay_drew (Below.refl _ w5)))
            have HMd := Lib.hid (HM5.out.later (lay_drew (Below.refl _ w5)))
            have hdr := HMd.out.drop f (Nat.le_of_lt hfl)
            rw [if_neg hcf] at hdr
            simp only [Option.map_some, lay_add] at hdr
            have HDr := Lib.hid hdr
            have hww := with_any HVd.out.e hdr i t k hkl HI.out l1 (by rw [List.length_drop]; omega) HBD.out
            rw [HK2.out] at hww
            have HWd := Lib.hid hww
            clear hdr hww HMd
            go_wp2_with fail
            go_region_with (first
              | (go_at_call 44; (with_reducible refine HWd.out.mono ?_); rintro e9 w9 ⟨v9, rfl, hv9, hb9⟩; (obtain ⟨a9, n9, c9, rfl⟩ := slice_shape hv9); have HV9 := Lib.hid (HVd.out.later hb9); have HZ9 := Lib.hid (HZd.out.below hb9); have HE9 := Lib.hid hv9; have HO9 := Lib.hid (own_any (HDr.out.later hb9) (by rw [List.length_drop]; omega) (fun y hy => HSm.out y (List.mem_of_mem_drop hy))); have HS9 := Lib.hid hb9.size; clear hb9 hv9)
              | (go_at_call 40; (with_reducible refine HO9.out.mono ?_); rintro e10 w10 ⟨v10, rfl, hv10, hb10⟩; (obtain ⟨a10, n10, c10, rfl⟩ := slice_shape hv10); have HV10 := Lib.hid (HV9.out.later hb10); have HZ10 := Lib.hid (HZ9.out.below hb10); have HE10 := Lib.hid (HE9.out.later hb10); have HP10 := Lib.hid (pair_of HE9.out hb10 hv10 HS9.out); have q0 := HZ10.out.cells 0 _ rfl; have q1 := HZ10.out.cells 1 _ rfl; have q2 := HZ10.out.cells 2 _ rfl; have qf0 := HZ10.out.fz 0; have qf1 := HZ10.out.fz 1; have qf2 := HZ10.out.fz 2; clear hb10 hv10))
            all_goals
              change Exit.then _ _ _ _ (put3 w10 (w.heap.size + 1) (.int .i64 i) (.int .i64 t) (.slice a9 n9 c9))
              have K := put3_dc (v0 := .int .i64 i) (v1 := .int .i64 t) (v2 := .slice a9 n9 c9) HZ10.out
              have hB := put3_below (b := w.heap.size + 1) (.int .i64 i) (.int .i64 t) (.slice a9 n9 c9) HV10.out.b (Nat.le_succ _)
              have hE := put3_ein (b := w.heap.size + 1) (.int .i64 i) (.int .i64 t) (.slice a9 n9 c9) HE10.out HZd.out.lt HVd.out.b.size
              have hP := HP10.out.keep (w' := put3 w10 (w.heap.size + 1) (.int .i64 i) (.int .i64 t) (.slice a9 n9 c9)) HVd.out.b.size (fun k hk _ => put3_blk _ _ _ _ _ _ (by have := HZd.out.lt; omega))
              have r0 := K.cells 0 _ rfl
              have r1 := K.cells 1 _ rfl
              have r2 := K.cells 2 _ rfl
              clear q0 q1 q2 qf0 qf1 qf2 d0 d1 d2 HV9 HZ9 HE9 HVd HZd HWd HO9 HV10 HZ10 HE10 HP10 HS9 K
              generalize put3 _ _ _ _ _ = w11 at *
              go_simp
              go_wp2_with fail
              exact bodyPost_ret (v := .tuple #[.agg #[.int .i64 i, .int .i64 t, .slice a9 n9 c9], .int .i64 e.i, .slice a10 n10 c10, .bool true]) (by simp [results, Try.results23, go_sem, r0, r1, r2]) rfl ⟨_, _, by rw [HR.out], (by rw [HR.out]; exact hP), hB⟩
          · have HR : Hid (joinA i t es x u ms = ⟨es.take k ++ ms.drop f, 0, ms.drop f, true⟩) := by show _ = _; rw [HR0.out, if_neg hin]
            have HQ2 : Hid (rowB i es.length e.i = false) := by show _ = _; unfold rowB; rw [decide_eq_false (by omega)]
            rw [HQ2.out] at HRo
            go_wp2_with fail
            go_fit HRo.out
            rintro e5 w5 ⟨rfl, hb⟩
            clear d0 d1 d2 k1
            have HV5 := Lib.hid (HV4.out.later hb)
            have HZ5 := Lib.hid (HZ4.out.below hb)
            have HM5 := Lib.hid (HM4.out.later hb)
            clear hb HV4 HZ4 HM4
            clear HRo
            have d0 := HV5.out.d0
            have d1 := HV5.out.d1
            have d2 := HV5.out.d2
            have HVd := Lib.hid HV5.out.drew
            have HZd := Lib.hid (HZ5.out.below (lay_drew (Below.refl _ w5)))
            have HMd := Lib.hid (HM5.out.later (lay_drew (Below.refl _ w5)))
            have hdr := HMd.out.drop f (Nat.le_of_lt hfl)
            rw [if_neg hcf] at hdr
            simp only [Option.map_some, lay_add] at hdr
            have HDr := Lib.hid hdr
            have hww := with_any HVd.out.e hdr i t k hkl HI.out l1 (by rw [List.length_drop]; omega) HBD.out
            rw [HK2.out] at hww
            have HWd := Lib.hid hww
            clear hdr hww HMd
            go_wp2_with fail
            go_region_with (first
              | (go_at_call 44; (with_reducible refine HWd.out.mono ?_); rintro e9 w9 ⟨v9, rfl, hv9, hb9⟩; (obtain ⟨a9, n9, c9, rfl⟩ := slice_shape hv9); have HV9 := Lib.hid (HVd.out.later hb9); have HZ9 := Lib.hid (HZd.out.below hb9); have HE9 := Lib.hid hv9; have HO9 := Lib.hid (own_any (HDr.out.later hb9) (by rw [List.length_drop]; omega) (fun y hy => HSm.out y (List.mem_of_mem_drop hy))); have HS9 := Lib.hid hb9.size; clear hb9 hv9)
              | (go_at_call 40; (with_reducible refine HO9.out.mono ?_); rintro e10 w10 ⟨v10, rfl, hv10, hb10⟩; (obtain ⟨a10, n10, c10, rfl⟩ := slice_shape hv10); have HV10 := Lib.hid (HV9.out.later hb10); have HZ10 := Lib.hid (HZ9.out.below hb10); have HE10 := Lib.hid (HE9.out.later hb10); have HP10 := Lib.hid (pair_of HE9.out hb10 hv10 HS9.out); have q0 := HZ10.out.cells 0 _ rfl; have q1 := HZ10.out.cells 1 _ rfl; have q2 := HZ10.out.cells 2 _ rfl; have qf0 := HZ10.out.fz 0; have qf1 := HZ10.out.fz 1; have qf2 := HZ10.out.fz 2; clear hb10 hv10))
            all_goals
              change Exit.then _ _ _ _ (put3 w10 (w.heap.size + 1) (.int .i64 i) (.int .i64 t) (.slice a9 n9 c9))
              have K := put3_dc (v0 := .int .i64 i) (v1 := .int .i64 t) (v2 := .slice a9 n9 c9) HZ10.out
              have hB := put3_below (b := w.heap.size + 1) (.int .i64 i) (.int .i64 t) (.slice a9 n9 c9) HV10.out.b (Nat.le_succ _)
              have hE := put3_ein (b := w.heap.size + 1) (.int .i64 i) (.int .i64 t) (.slice a9 n9 c9) HE10.out HZd.out.lt HVd.out.b.size
              have hP := HP10.out.keep (w' := put3 w10 (w.heap.size + 1) (.int .i64 i) (.int .i64 t) (.slice a9 n9 c9)) HVd.out.b.size (fun k hk _ => put3_blk _ _ _ _ _ _ (by have := HZd.out.lt; omega))
              have r0 := K.cells 0 _ rfl
              have r1 := K.cells 1 _ rfl
              have r2 := K.cells 2 _ rfl
              clear q0 q1 q2 qf0 qf1 qf2 d0 d1 d2 HV9 HZ9 HE9 HVd HZd HWd HO9 HV10 HZ10 HE10 HP10 HS9 K
              generalize put3 _ _ _ _ _ = w11 at *
              go_simp
              go_wp2_with fail
              exact bodyPost_ret (v := .tuple #[.agg #[.int .i64 i, .int .i64 t, .slice a9 n9 c9], .int .i64 0, .slice a10 n10 c10, .bool true]) (by simp [results, Try.results23, go_sem, r0, r1, r2]) rfl ⟨_, _, by rw [HR.out], (by rw [HR.out]; exact hP), hB⟩
theorem Join_any {w : World} {v m : Value} {es ms : List Er} (h : EIn w v es) (hm : EIn w m ms) (i t x u : Int) (l1 : es.length ≤ 50000) (l2 : ms.length ≤ 50000) :
    Calls Try.prog 23 #[.agg #[.int .i64 i, .int .i64 t, v], .int .i64 x, .int .i64 u, m] w (JoinP (if okL i t es then i else 0) (if okL i t es then t else 0) (joinA i t es x u ms) w) := by
  refine (Join_anyQ h hm i t x u l1 l2).mono ?_
  rintro e w' ⟨v', f, he, hp, hb⟩
  exact ⟨v', f, he, hp.one, hp.two, hb⟩
end Go.Proofs.Ytcmfnokpbgfioaa
