/-
  The laws' both: a log, and the document's. (Written by genboth.py.)
-/
import Derived.Test.YtcmfnokpbgfioaaFlow7
import Derived.Test.YtcmfnokpbgfioaaCp
import Derived.Test.YtcmfnokpbgfioaaE4
namespace Go.Proofs.Ytcmfnokpbgfioaa
set_option linter.unusedVariables false
set_option linter.unusedSimpArgs false
open Go.RowKit

/-- One block has been written. -/
structure RS (g : Nat) (w w' : World) : Prop where
  os : w'.os = w.os
  tape : w'.tape = w.tape
  output : w'.output = w.output
  size : w.heap.size ≤ w'.heap.size
  block : ∀ k, k < w.heap.size → k ≠ g → w'.heap[k]? = w.heap[k]?
  dc : ∃ x0 x1 x2, DC w' g [x0, x1, x2]
/-- The worlds of the region: the call's own, but for two blocks. -/
structure BI (w0 W : World) (g2 g3 : Nat) (w : World) : Prop where
  b : Below w0.heap.size w0 w
  sz : W.heap.size ≤ w.heap.size
  blk : ∀ k, k < W.heap.size → k ≠ g2 → k ≠ g3 → w.heap[k]? = W.heap[k]?
  d2 : ∃ x0 x1 x2, DC w g2 [x0, x1, x2]
  d3 : ∃ x0 x1 x2, DC w g3 [x0, x1, x2]
def RB (g2 g3 : Nat) : Nat → World → World → Prop
  | 12 => RS g2
  | 13 => RS g3
  | _ => fun w w' => Below w.heap.size w w'
theorem RB_cases {g2 g3 i : Nat} {w w' : World} (h : RB g2 g3 i w w') : (i = 12 ∧ RS g2 w w') ∨ (i = 13 ∧ RS g3 w w') ∨ Below w.heap.size w w' := by
  by_cases e : i = 12
  · subst e; exact .inl ⟨rfl, h⟩
  · by_cases e2 : i = 13
    · subst e2; exact .inr (.inl ⟨rfl, h⟩)
    · refine .inr (.inr ?_)
      unfold RB at h
      split at h
      · exact absurd rfl e
      · exact absurd rfl e2
      · exact h
theorem BI.rs {w0 W : World} {g2 g3 g : Nat} {w w' : World} (hI : BI w0 W g2 g3 w) (h : RS g w w') (hg : g = g2 ∨ g = g3) (h0 : w0.heap.size ≤ g) : BI w0 W g2 g3 w' := by
  refine ⟨⟨h.os.trans hI.b.os, h.tape.trans hI.b.tape, h.output.trans hI.b.output, Nat.le_trans hI.b.size h.size, fun k hk => (h.block k (Nat.lt_of_lt_of_le hk hI.b.size) (by omega)).trans (hI.b.block k hk)⟩, Nat.le_trans hI.sz h.size, fun k hk h2 h3 => (h.block k (Nat.lt_of_lt_of_le hk hI.sz) (by rcases hg with rfl | rfl <;> assumption)).trans (hI.blk k hk h2 h3), ?_, ?_⟩
  · by_cases e : g = g2
    · subst e; exact h.dc
    · obtain ⟨x0, x1, x2, hd⟩ := hI.d2
      exact ⟨x0, x1, x2, hd.keep h.size (h.block _ hd.lt (fun e' => e e'.symm))⟩
  · by_cases e : g = g3
    · subst e; exact h.dc
    · obtain ⟨x0, x1, x2, hd⟩ := hI.d3
      exact ⟨x0, x1, x2, hd.keep h.size (h.block _ hd.lt (fun e' => e e'.symm))⟩
theorem BI.below {w0 W : World} {g2 g3 : Nat} {w w' : World} (hI : BI w0 W g2 g3 w) (h : Below w.heap.size w w') : BI w0 W g2 g3 w' := by
  obtain ⟨x0, x1, x2, hd⟩ := hI.d2
  obtain ⟨y0, y1, y2, he⟩ := hI.d3
  exact ⟨hI.b.trans (h.mono hI.b.size), Nat.le_trans hI.sz h.size, fun k hk h2 h3 => (h.block k (Nat.lt_of_lt_of_le hk hI.sz)).trans (hI.blk k hk h2 h3), ⟨x0, x1, x2, hd.below h⟩, ⟨y0, y1, y2, he.below h⟩⟩
theorem BI.cell {w0 W : World} {g2 g3 : Nat} {w : World} (hI : BI w0 W g2 g3 w) {b q : Nat} {v : Value} (h : W.cell? ⟨b, q, none⟩ = some v) (h2 : b ≠ g2) (h3 : b ≠ g3) : w.cell? ⟨b, q, none⟩ = some v :=
  (World.cell?_of_block (a := ⟨b, q, none⟩) (hI.blk b (World.block_lt_of_cell? W _ h) h2 h3)).trans h
inductive Kb where
  | val (v : Value)
  | cop
  | agg
  | st2
  | st3
def SKb (B g2 g3 : Nat) (i t : Int) (v0 : Value) (es : List Er) : Kb → World → Value → Prop
  | .val u, _, v => v = u
  | .cop, w, v => ∃ a n c, v = .slice a n c ∧ EInB w B v es
  | .agg, w, v => ∃ a n c, v = .agg #[.int .i64 i, .int .i64 t, .slice a n c] ∧ EInB w B (.slice a n c) es
  | .st2, w, _ => ∃ a n c, DC w g2 [.int .i64 i, .int .i64 t, .slice a n c] ∧ EInB w B (.slice a n c) es
  | .st3, w, _ => DC w g3 [.int .i64 i, .int .i64 t, v0]
def SB (B g2 g3 : Nat) (i t : Int) (v0 : Value) (es : List Er) (ks : List Kb) (j : Nat) (w : World) (v : Value) : Prop := match ks[j]? with
  | some k => SKb B g2 g3 i t v0 es k w v
  | none => True
theorem SKb_below {B g2 g3 : Nat} {i t : Int} {v0 : Value} {es : List Er} {w w' : World} (h : Below w.heap.size w w') : ∀ (k : Kb) (v : Value), SKb B g2 g3 i t v0 es k w v → SKb B g2 g3 i t v0 es k w' v
  | .val u, v, e => e
  | .cop, v, ⟨a, n, c, e, hE⟩ => ⟨a, n, c, e, hE.later h⟩
  | .agg, v, ⟨a, n, c, e, hE⟩ => ⟨a, n, c, e, hE.later h⟩
  | .st2, v, ⟨a, n, c, e, hE⟩ => ⟨a, n, c, e.below h, hE.later h⟩
  | .st3, v, e => DC.below e h
theorem EInB.rs {w w' : World} {B g : Nat} {v : Value} {es : List Er} (h : EInB w B v es) (hr : RS g w w') (hg : g < B) : EInB w' B v es :=
  h.keep (Nat.le_refl _) hr.size (fun k hk hl => hr.block k hl (by omega))
/-- What has been yielded stands under another operation. -/
theorem SB_stable {B g2 g3 : Nat} {i t : Int} {v0 : Value} {es : List Er} {ks : List Kb} (hk2 : ∀ j, ks[j]? = some .st2 → j = 12) (hk3 : ∀ j, ks[j]? = some .st3 → j = 13) (hne : g2 ≠ g3) (h2 : g2 < B) (h3 : g3 < B) (m j : Nat) (w w' : World) (v : Value) (hj : j ≠ m) (h : SB B g2 g3 i t v0 es ks j w v) (hr : RB g2 g3 m w w') : SB B g2 g3 i t v0 es ks j w' v := by
  unfold SB at *
  cases hk : ks[j]? with
  | none => trivial
  | some k =>
    rw [hk] at h
    rcases RB_cases hr with ⟨rfl, hs⟩ | ⟨rfl, hs⟩ | hb
    · cases k with
      | val u => exact h
      | cop => obtain ⟨a, n, c, e, hE⟩ := h; exact ⟨a, n, c, e, hE.rs hs h2⟩
      | agg => obtain ⟨a, n, c, e, hE⟩ := h; exact ⟨a, n, c, e, hE.rs hs h2⟩
      | st2 => exact absurd (hk2 j hk) hj
      | st3 => exact DC.keep h hs.size (hs.block _ h.lt (fun e => hne e.symm))
    · cases k with
      | val u => exact h
      | cop => obtain ⟨a, n, c, e, hE⟩ := h; exact ⟨a, n, c, e, hE.rs hs h3⟩
      | agg => obtain ⟨a, n, c, e, hE⟩ := h; exact ⟨a, n, c, e, hE.rs hs h3⟩
      | st2 => obtain ⟨a, n, c, hd, hE⟩ := h; exact ⟨a, n, c, hd.keep hs.size (hs.block _ hd.lt hne), hE.rs hs h3⟩
      | st3 => exact absurd (hk3 j hk) hj
    · exact SKb_below hb k v h
def BothP (i t : Int) (v0 : Value) (es : List Er) (w : World) (e : Ending) (w' : World) : Prop := ∃ u, e = .returned (.tuple #[.agg #[.int .i64 i, .int .i64 t, u], .agg #[.int .i64 i, .int .i64 t, v0], .bool (okL i t es)]) ∧ EInB w' w.heap.size u es ∧ Below w.heap.size w w'

set_option maxRecDepth 100000 in
set_option maxHeartbeats 6400000 in
theorem both_any {w : World} {v : Value} {es : List Er} (h : EIn w v es) (hl : es.length ≤ 100000) (hd : ∀ e ∈ es, e.d.length ≤ 140737488351232) (i t : Int) : Calls Try.prog 13 #[.agg #[.int .i64 i, .int .i64 t, v]] w (BothP i t v es w) := by
  obtain ⟨a, c, rfl, _, _⟩ := h.slice
  have s1 : (w.alloc (.cells #[.int .i64 i, .int .i64 t, .slice a es.length c] 24)).heap.size = w.heap.size + 1 := by simp
  have s2 : ((w.alloc (.cells #[.int .i64 i, .int .i64 t, .slice a es.length c] 24)).alloc (.cells #[.int .i64 0, .int .i64 0, .slice none 0 0] 24)).heap.size = w.heap.size + 2 := by simp
  have s3 : (((w.alloc (.cells #[.int .i64 i, .int .i64 t, .slice a es.length c] 24)).alloc (.cells #[.int .i64 0, .int .i64 0, .slice none 0 0] 24)).alloc (.cells #[.int .i64 0, .int .i64 0, .slice none 0 0] 27)).heap.size = w.heap.size + 3 := by simp
  have s5 : ((((w.alloc (.cells #[.int .i64 i, .int .i64 t, .slice a es.length c] 24)).alloc (.cells #[.int .i64 0, .int .i64 0, .slice none 0 0] 24)).alloc (.cells #[.int .i64 0, .int .i64 0, .slice none 0 0] 27)).alloc (.cells #[.int .i64 i, .int .i64 t, .slice a es.length c] 27)).heap.size = w.heap.size + 4 := by simp
  have a1 := lay_alloc w (.cells #[.int .i64 i, .int .i64 t, .slice a es.length c] 24)
  have a2 := lay_alloc (w.alloc (.cells #[.int .i64 i, .int .i64 t, .slice a es.length c] 24)) (.cells #[.int .i64 0, .int .i64 0, .slice none 0 0] 24)
  have a3 := lay_alloc ((w.alloc (.cells #[.int .i64 i, .int .i64 t, .slice a es.length c] 24)).alloc (.cells #[.int .i64 0, .int .i64 0, .slice none 0 0] 24)) (.cells #[.int .i64 0, .int .i64 0, .slice none 0 0] 27)
  have a5 := lay_alloc (((w.alloc (.cells #[.int .i64 i, .int .i64 t, .slice a es.length c] 24)).alloc (.cells #[.int .i64 0, .int .i64 0, .slice none 0 0] 24)).alloc (.cells #[.int .i64 0, .int .i64 0, .slice none 0 0] 27)) (.cells #[.int .i64 i, .int .i64 t, .slice a es.length c] 27)
  have h1 := ((DC.alloc w [.int .i64 i, .int .i64 t, .slice a es.length c] 24).below a2).below a3
  have h1 := h1.below a5
  have h2 := ((DC.alloc (w.alloc (.cells #[.int .i64 i, .int .i64 t, .slice a es.length c] 24)) [.int .i64 0, .int .i64 0, .slice none 0 0] 24).below a3).below a5
  have h3 := (DC.alloc ((w.alloc (.cells #[.int .i64 i, .int .i64 t, .slice a es.length c] 24)).alloc (.cells #[.int .i64 0, .int .i64 0, .slice none 0 0] 24)) [.int .i64 0, .int .i64 0, .slice none 0 0] 27).below a5
  have h5 := DC.alloc (((w.alloc (.cells #[.int .i64 i, .int .i64 t, .slice a es.length c] 24)).alloc (.cells #[.int .i64 0, .int .i64 0, .slice none 0 0] 24)).alloc (.cells #[.int .i64 0, .int .i64 0, .slice none 0 0] 27)) [.int .i64 i, .int .i64 t, .slice a es.length c] 27
  rw [s1] at h2
  rw [s2] at h3
  rw [s3] at h5
  have b2 := a1.trans (a2.mono a1.size)
  have b3 := b2.trans (a3.mono b2.size)
  have b5 := b3.trans (a5.mono b3.size)
  have H1 := Lib.hid h1
  have H2 := Lib.hid h2
  have H3 := Lib.hid h3
  have H5 := Lib.hid h5
  have HB := Lib.hid b5
  have HS := Lib.hid s5
  have HE := Lib.hid h
  have HD := Lib.hid hd
  clear s1 s2 s3 s5 a1 a2 a3 a5 h1 h2 h3 h5 b2 b3 b5 h hd
  go_enter Try.func13, Try.ntmps13
  go_wp2_with fail
  generalize (((w.alloc _).alloc _).alloc _).alloc _ = W at *
  have HI0 : Hid (BI w W (w.heap.size + 1) (w.heap.size + 2) W) := ⟨HB.out, Nat.le_refl _, fun _ _ _ _ => rfl, ⟨_, _, _, H2.out⟩, ⟨_, _, _, H3.out⟩⟩
  have hk2 : Hid (∀ j, ([.val (.pointer (some ⟨w.heap.size, 0, none⟩)), .val (.int .i64 i), .val (.pointer (some ⟨w.heap.size, 1, none⟩)), .val (.int .i64 t), .val (.pointer (some ⟨w.heap.size, 2, none⟩)), .val (.slice a es.length c), .cop, .agg, .val (.agg #[.int .i64 i, .int .i64 t, .slice a es.length c]), .val (.agg #[.int .i64 i, .int .i64 t, .slice a es.length c]), .val (.int .i64 (ckL i t es)), .val (.bool (ckL i t es == 0)), .st2, .st3, .val (.bool (ckL i t es == 0))] : List Kb)[j]? = some .st2 → j = 12) := fun j hj => by
    match j, hj with
    | 0, hj => simp at hj
    | 1, hj => simp at hj
    | 2, hj => simp at hj
    | 3, hj => simp at hj
    | 4, hj => simp at hj
    | 5, hj => simp at hj
    | 6, hj => simp at hj
    | 7, hj => simp at hj
    | 8, hj => simp at hj
    | 9, hj => simp at hj
    | 10, hj => simp at hj
    | 11, hj => simp at hj
    | 12, _ => rfl
    | 13, hj => simp at hj
    | 14, hj => simp at hj
    | n + 15, hj => simp at hj
  have hk3 : Hid (∀ j, ([.val (.pointer (some ⟨w.heap.size, 0, none⟩)), .val (.int .i64 i), .val (.pointer (some ⟨w.heap.size, 1, none⟩)), .val (.int .i64 t), .val (.pointer (some ⟨w.heap.size, 2, none⟩)), .val (.slice a es.length c), .cop, .agg, .val (.agg #[.int .i64 i, .int .i64 t, .slice a es.length c]), .val (.agg #[.int .i64 i, .int .i64 t, .slice a es.length c]), .val (.int .i64 (ckL i t es)), .val (.bool (ckL i t es == 0)), .st2, .st3, .val (.bool (ckL i t es == 0))] : List Kb)[j]? = some .st3 → j = 13) := fun j hj => by
    match j, hj with
    | 0, hj => simp at hj
    | 1, hj => simp at hj
    | 2, hj => simp at hj
    | 3, hj => simp at hj
    | 4, hj => simp at hj
    | 5, hj => simp at hj
    | 6, hj => simp at hj
    | 7, hj => simp at hj
    | 8, hj => simp at hj
    | 9, hj => simp at hj
    | 10, hj => simp at hj
    | 11, hj => simp at hj
    | 12, hj => simp at hj
    | 13, _ => rfl
    | 14, hj => simp at hj
    | n + 15, hj => simp at hj
  refine wp_region_flowW (I := BI w W (w.heap.size + 1) (w.heap.size + 2)) (S := SB W.heap.size (w.heap.size + 1) (w.heap.size + 2) i t (.slice a es.length c) es [.val (.pointer (some ⟨w.heap.size, 0, none⟩)), .val (.int .i64 i), .val (.pointer (some ⟨w.heap.size, 1, none⟩)), .val (.int .i64 t), .val (.pointer (some ⟨w.heap.size, 2, none⟩)), .val (.slice a es.length c), .cop, .agg, .val (.agg #[.int .i64 i, .int .i64 t, .slice a es.length c]), .val (.agg #[.int .i64 i, .int .i64 t, .slice a es.length c]), .val (.int .i64 (ckL i t es)), .val (.bool (ckL i t es == 0)), .st2, .st3, .val (.bool (ckL i t es == 0))]) (R := RB (w.heap.size + 1) (w.heap.size + 2)) (by kernel_rfl) ?_ ?_ ?_ (by kernel_rfl) (by kernel_rfl) ?_ ?_
  · intro w1 e1 e2 e3 e4
    have h0 := HI0.out
    exact ⟨⟨e1.trans h0.b.os, e2.trans h0.b.tape, e3.trans h0.b.output, by rw [e4]; exact h0.b.size, fun k hk => by rw [e4]; exact h0.b.block k hk⟩, by rw [e4]; exact Nat.le_refl _, fun k _ _ _ => by rw [e4], by
      obtain ⟨x0, x1, x2, hd⟩ := h0.d2
      exact ⟨x0, x1, x2, hd.keep (by rw [e4]; exact Nat.le_refl _) (by rw [e4])⟩, by
      obtain ⟨x0, x1, x2, hd⟩ := h0.d3
      exact ⟨x0, x1, x2, hd.keep (by rw [e4]; exact Nat.le_refl _) (by rw [e4])⟩⟩
  · intro m w1 w2 hI hr
    rcases RB_cases hr with ⟨_, hs⟩ | ⟨_, hs⟩ | hb
    · exact hI.rs hs (.inl rfl) (by omega)
    · exact hI.rs hs (.inr rfl) (by omega)
    · exact hI.below hb
  · intro m j w1 w2 v1 hj _ hS hr
    exact SB_stable hk2.out hk3.out (by omega) (by have := HS.out; omega) (by have := HS.out; omega) m j w1 w2 v1 hj hS hr
  · intro m hm
    match m, hm with
    | 0, _ =>
      refine fsW_plain _ _ rfl rfl rfl ?_
      intro a1 w1 hI hrest hneed
      have p1 : a1.tmps.getD 1 undef = .pointer (some ⟨w.heap.size, 0, none⟩) := (hrest 1 (by kernel_rfl)).trans rfl
      have p1' := (Array.getD_eq_getD_getElem? ..).symm.trans p1
      clear hneed hrest
      go_simp
      first | exact ⟨_, rfl, rfl, Below.refl _ _⟩ | exact ⟨_, rfl, rfl, by exact Below.refl _ _⟩
    | 1, _ =>
      refine fsW_plain _ _ rfl rfl rfl ?_
      intro a1 w1 hI hrest hneed
      have e13 : a1.tmps.getD 13 undef = (.pointer (some ⟨w.heap.size, 0, none⟩)) := hneed 0 13 rfl rfl
      have e13' := (Array.getD_eq_getD_getElem? ..).symm.trans e13
      have q0 := hI.cell (H1.out.cells 0 _ rfl) (by omega) (by omega)
      clear hneed hrest
      go_simp
      first | exact ⟨_, rfl, rfl, Below.refl _ _⟩ | exact ⟨_, rfl, rfl, by exact Below.refl _ _⟩
    | 2, _ =>
      refine fsW_plain _ _ rfl rfl rfl ?_
      intro a1 w1 hI hrest hneed
      have p1 : a1.tmps.getD 1 undef = .pointer (some ⟨w.heap.size, 0, none⟩) := (hrest 1 (by kernel_rfl)).trans rfl
      have p1' := (Array.getD_eq_getD_getElem? ..).symm.trans p1
      clear hneed hrest
      go_simp
      first | exact ⟨_, rfl, rfl, Below.refl _ _⟩ | exact ⟨_, rfl, rfl, by exact Below.refl _ _⟩
    | 3, _ =>
      refine fsW_plain _ _ rfl rfl rfl ?_
      intro a1 w1 hI hrest hneed
      have e15 : a1.tmps.getD 15 undef = (.pointer (some ⟨w.heap.size, 1, none⟩)) := hneed 2 15 rfl rfl
      have e15' := (Array.getD_eq_getD_getElem? ..).symm.trans e15
      have q1 := hI.cell (H1.out.cells 1 _ rfl) (by omega) (by omega)
      clear hneed hrest
      go_simp
      first | exact ⟨_, rfl, rfl, Below.refl _ _⟩ | exact ⟨_, rfl, rfl, by exact Below.refl _ _⟩
    | 4, _ =>
      refine fsW_plain _ _ rfl rfl rfl ?_
      intro a1 w1 hI hrest hneed
      have p1 : a1.tmps.getD 1 undef = .pointer (some ⟨w.heap.size, 0, none⟩) := (hrest 1 (by kernel_rfl)).trans rfl
      have p1' := (Array.getD_eq_getD_getElem? ..).symm.trans p1
      clear hneed hrest
      go_simp
      first | exact ⟨_, rfl, rfl, Below.refl _ _⟩ | exact ⟨_, rfl, rfl, by exact Below.refl _ _⟩
    | 5, _ =>
      refine fsW_plain _ _ rfl rfl rfl ?_
      intro a1 w1 hI hrest hneed
      have e17 : a1.tmps.getD 17 undef = (.pointer (some ⟨w.heap.size, 2, none⟩)) := hneed 4 17 rfl rfl
      have e17' := (Array.getD_eq_getD_getElem? ..).symm.trans e17
      have q2 := hI.cell (H1.out.cells 2 _ rfl) (by omega) (by omega)
      clear hneed hrest
      go_simp
      first | exact ⟨_, rfl, rfl, Below.refl _ _⟩ | exact ⟨_, rfl, rfl, by exact Below.refl _ _⟩
    | 6, _ =>
      refine fsW_plain _ _ rfl rfl rfl ?_
      intro a1 w1 hI hrest hneed
      have e18 : a1.tmps.getD 18 undef = (.slice a es.length c) := hneed 5 18 rfl rfl
      have e18' := (Array.getD_eq_getD_getElem? ..).symm.trans e18
      have hc := copied_any (HE.out.later hI.b) hl HD.out
      clear hneed hrest
      go_simp
      refine hc.mono ?_
      rintro e w2 ⟨u, rfl, hu, hb⟩
      obtain ⟨ua, un, uc, rfl⟩ := slice_shape hu
      exact ⟨_, rfl, ⟨_, _, _, rfl, hu.keep hI.sz (Nat.le_refl _) (fun _ _ _ => rfl)⟩, hb⟩
    | 7, _ =>
      refine fsW_plain _ _ rfl rfl rfl ?_
      intro a1 w1 hI hrest hneed
      have e14 : a1.tmps.getD 14 undef = (.int .i64 i) := hneed 1 14 rfl rfl
      have e14' := (Array.getD_eq_getD_getElem? ..).symm.trans e14
      have e16 : a1.tmps.getD 16 undef = (.int .i64 t) := hneed 3 16 rfl rfl
      have e16' := (Array.getD_eq_getD_getElem? ..).symm.trans e16
      have r19 : SKb W.heap.size (w.heap.size + 1) (w.heap.size + 2) i t (.slice a es.length c) es .cop w1 (a1.tmps.getD 19 undef) := hneed 6 19 rfl rfl
      obtain ⟨ua, un, uc, e19, hu⟩ := r19
      rw [e19] at hu
      have e19' := (Array.getD_eq_getD_getElem? ..).symm.trans e19
      clear hneed hrest
      go_simp
      exact ⟨_, rfl, ⟨_, _, _, rfl, hu⟩, Below.refl _ _⟩
    | 8, _ =>
      refine fsW_plain _ _ rfl rfl rfl ?_
      intro a1 w1 hI hrest hneed
      have p5 : a1.tmps.getD 5 undef = .pointer (some ⟨w.heap.size + 3, 0, none⟩) := (hrest 5 (by kernel_rfl)).trans rfl
      have p5' := (Array.getD_eq_getD_getElem? ..).symm.trans p5
      have q0 := hI.cell (H5.out.cells 0 _ rfl) (by omega) (by omega)
      have q1 := hI.cell (H5.out.cells 1 _ rfl) (by omega) (by omega)
      have q2 := hI.cell (H5.out.cells 2 _ rfl) (by omega) (by omega)
      clear hneed hrest
      go_simp
      first | exact ⟨_, rfl, rfl, Below.refl _ _⟩ | exact ⟨_, rfl, rfl, by exact Below.refl _ _⟩
    | 9, _ =>
      refine fsW_plain _ _ rfl rfl rfl ?_
      intro a1 w1 hI hrest hneed
      have p1 : a1.tmps.getD 1 undef = .pointer (some ⟨w.heap.size, 0, none⟩) := (hrest 1 (by kernel_rfl)).trans rfl
      have p1' := (Array.getD_eq_getD_getElem? ..).symm.trans p1
      have q0 := hI.cell (H1.out.cells 0 _ rfl) (by omega) (by omega)
      have q1 := hI.cell (H1.out.cells 1 _ rfl) (by omega) (by omega)
      have q2 := hI.cell (H1.out.cells 2 _ rfl) (by omega) (by omega)
      clear hneed hrest
      go_simp
      first | exact ⟨_, rfl, rfl, Below.refl _ _⟩ | exact ⟨_, rfl, rfl, by exact Below.refl _ _⟩
    | 10, _ =>
      refine fsW_plain _ _ rfl rfl rfl ?_
      intro a1 w1 hI hrest hneed
      have e22 : a1.tmps.getD 22 undef = (.agg #[.int .i64 i, .int .i64 t, .slice a es.length c]) := hneed 9 22 rfl rfl
      have e22' := (Array.getD_eq_getD_getElem? ..).symm.trans e22
      have hc := Check_any (HE.out.later hI.b) i t
      clear hneed hrest
      go_simp
      refine hc.mono ?_
      rintro e w2 ⟨rfl, hb⟩
      exact ⟨_, rfl, rfl, hb⟩
    | 11, _ =>
      refine fsW_plain _ _ rfl rfl rfl ?_
      intro a1 w1 hI hrest hneed
      have e23 : a1.tmps.getD 23 undef = (.int .i64 (ckL i t es)) := hneed 10 23 rfl rfl
      have e23' := (Array.getD_eq_getD_getElem? ..).symm.trans e23
      clear hneed hrest
      go_simp
      first | exact ⟨_, rfl, rfl, Below.refl _ _⟩ | exact ⟨_, rfl, rfl, by exact Below.refl _ _⟩
    | 12, _ =>
      refine fsW_store _ rfl rfl rfl ?_
      intro a1 w1 hI hrest hneed
      have p2 : a1.tmps.getD 2 undef = .pointer (some ⟨w.heap.size + 1, 0, none⟩) := (hrest 2 (by kernel_rfl)).trans rfl
      have p2' := (Array.getD_eq_getD_getElem? ..).symm.trans p2
      have r20 : SKb W.heap.size (w.heap.size + 1) (w.heap.size + 2) i t (.slice a es.length c) es .agg w1 (a1.tmps.getD 20 undef) := hneed 7 20 rfl rfl
      obtain ⟨ua, un, uc, e20, hu⟩ := r20
      have e20' := (Array.getD_eq_getD_getElem? ..).symm.trans e20
      obtain ⟨y0, y1, y2, hd2⟩ := hI.d2
      have z0 := hd2.cells 0 _ rfl
      have z1 := hd2.cells 1 _ rfl
      have z2 := hd2.cells 2 _ rfl
      have zf0 := hd2.fz 0
      have zf1 := hd2.fz 1
      have zf2 := hd2.fz 2
      clear hneed hrest
      go_simp
      change _ ∧ RS (w.heap.size + 1) w1 (put3 w1 (w.heap.size + 1) (.int .i64 i) (.int .i64 t) (.slice ua un uc))
      have hK := put3_dc (v0 := .int .i64 i) (v1 := .int .i64 t) (v2 := .slice ua un uc) hd2
      have hR : RS (w.heap.size + 1) w1 (put3 w1 (w.heap.size + 1) (.int .i64 i) (.int .i64 t) (.slice ua un uc)) :=
        ⟨rfl, rfl, rfl, by simp [put3, World.setCell], fun k _ hk => by unfold put3; rw [Below.heap_setCell _ _ _ _ hk, Below.heap_setCell _ _ _ _ hk, Below.heap_setCell _ _ _ _ hk], ⟨_, _, _, hK⟩⟩
      exact ⟨⟨_, _, _, hK, hu.rs hR (by have := HS.out; omega)⟩, hR⟩
    | 13, _ =>
      refine fsW_store _ rfl rfl rfl ?_
      intro a1 w1 hI hrest hneed
      have p3 : a1.tmps.getD 3 undef = .pointer (some ⟨w.heap.size + 2, 0, none⟩) := (hrest 3 (by kernel_rfl)).trans rfl
      have p3' := (Array.getD_eq_getD_getElem? ..).symm.trans p3
      have e21 : a1.tmps.getD 21 undef = (.agg #[.int .i64 i, .int .i64 t, .slice a es.length c]) := hneed 8 21 rfl rfl
      have e21' := (Array.getD_eq_getD_getElem? ..).symm.trans e21
      obtain ⟨y0, y1, y2, hd3⟩ := hI.d3
      have z0 := hd3.cells 0 _ rfl
      have z1 := hd3.cells 1 _ rfl
      have z2 := hd3.cells 2 _ rfl
      have zf0 := hd3.fz 0
      have zf1 := hd3.fz 1
      have zf2 := hd3.fz 2
      clear hneed hrest
      go_simp
      change _ ∧ RS (w.heap.size + 2) w1 (put3 w1 (w.heap.size + 2) (.int .i64 i) (.int .i64 t) (.slice a es.length c))
      have hK := put3_dc (v0 := .int .i64 i) (v1 := .int .i64 t) (v2 := .slice a es.length c) hd3
      have hR : RS (w.heap.size + 2) w1 (put3 w1 (w.heap.size + 2) (.int .i64 i) (.int .i64 t) (.slice a es.length c)) :=
        ⟨rfl, rfl, rfl, by simp [put3, World.setCell], fun k _ hk => by unfold put3; rw [Below.heap_setCell _ _ _ _ hk, Below.heap_setCell _ _ _ _ hk, Below.heap_setCell _ _ _ _ hk], ⟨_, _, _, hK⟩⟩
      exact ⟨hK, hR⟩
    | 14, _ =>
      refine fsW_plain _ _ rfl rfl rfl ?_
      intro a1 w1 hI hrest hneed
      have e24 : a1.tmps.getD 24 undef = (.bool (ckL i t es == 0)) := hneed 11 24 rfl rfl
      have e24' := (Array.getD_eq_getD_getElem? ..).symm.trans e24
      clear hneed hrest
      go_simp
      first | exact ⟨_, rfl, rfl, Below.refl _ _⟩ | exact ⟨_, rfl, rfl, by exact Below.refl _ _⟩
    | n + 15, h => exact absurd h (by simp)
  · intro a1 w1 hI hd hs hr hg
    obtain ⟨na, nn, nc, hd2, hE2⟩ : SKb W.heap.size (w.heap.size + 1) (w.heap.size + 2) i t (.slice a es.length c) es .st2 w1 undef := hg 12 (by decide)
    have hd3 : DC w1 (w.heap.size + 2) [.int .i64 i, .int .i64 t, .slice a es.length c] := hg 13 (by decide)
    have e4 : a1.tmps.getD 4 undef = .bool (ckL i t es == 0) := hg 14 (by decide)
    obtain ⟨u13, e13⟩ : ∃ u, a1.tmps.getD 13 undef = u := ⟨_, rfl⟩
    obtain ⟨u14, e14⟩ : ∃ u, a1.tmps.getD 14 undef = u := ⟨_, rfl⟩
    obtain ⟨u15, e15⟩ : ∃ u, a1.tmps.getD 15 undef = u := ⟨_, rfl⟩
    obtain ⟨u16, e16⟩ : ∃ u, a1.tmps.getD 16 undef = u := ⟨_, rfl⟩
    obtain ⟨u17, e17⟩ : ∃ u, a1.tmps.getD 17 undef = u := ⟨_, rfl⟩
    obtain ⟨u18, e18⟩ : ∃ u, a1.tmps.getD 18 undef = u := ⟨_, rfl⟩
    obtain ⟨u19, e19⟩ : ∃ u, a1.tmps.getD 19 undef = u := ⟨_, rfl⟩
    obtain ⟨u20, e20⟩ : ∃ u, a1.tmps.getD 20 undef = u := ⟨_, rfl⟩
    obtain ⟨u21, e21⟩ : ∃ u, a1.tmps.getD 21 undef = u := ⟨_, rfl⟩
    obtain ⟨u22, e22⟩ : ∃ u, a1.tmps.getD 22 undef = u := ⟨_, rfl⟩
    obtain ⟨u23, e23⟩ : ∃ u, a1.tmps.getD 23 undef = u := ⟨_, rfl⟩
    obtain ⟨u24, e24⟩ : ∃ u, a1.tmps.getD 24 undef = u := ⟨_, rfl⟩
    have ha := act_flow [13, 14, 15, 16, 17, 18, 19, 20, 21, 22, 23, 24, 4] (by kernel_rfl) hd hs hr
    simp only [putsOf, List.foldl_cons, List.foldl_nil, e13, e14, e15, e16, e17, e18, e19, e20, e21, e22, e23, e24, e4] at ha
    have r0 := hd2.cells 0 _ rfl
    have r1 := hd2.cells 1 _ rfl
    have r2 := hd2.cells 2 _ rfl
    have q0 := hd3.cells 0 _ rfl
    have q1 := hd3.cells 1 _ rfl
    have q2 := hd3.cells 2 _ rfl
    have HE2 := Lib.hid hE2
    have HIb := Lib.hid hI.b
    have HOK : Hid ((ckL i t es == 0) = okL i t es) := by
      show _ = _
      unfold ckL
      cases okL i t es <;> rfl
    have HSz : Hid (w.heap.size ≤ W.heap.size) := HB.out.size
    clear e13 e14 e15 e16 e17 e18 e19 e20 e21 e22 e23 e24 e4 hd hs hr hg hd2 hd3 hE2 hI
    subst ha
    go_simp
    go_wp2_with fail
    refine bodyPost_ret (v := .tuple #[.agg #[.int .i64 i, .int .i64 t, .slice na nn nc], .agg #[.int .i64 i, .int .i64 t, .slice a es.length c], .bool (ckL i t es == 0)]) (by simp [results, Try.results13, go_sem, r0, r1, r2, q0, q1, q2]) rfl ⟨_, by rw [HOK.out], HE2.out.keep HSz.out (Nat.le_refl _) (fun _ _ _ => rfl), HIb.out⟩
end Go.Proofs.Ytcmfnokpbgfioaa
