/-
  QuorumAsks walked.
-/
import Derived.Test.YticcmjiekopnbaaRAll
import Derived.Test.YticcmjiekopnbaaOv1
import Derived.Test.YticcmjiekopnbaaFlow2
namespace Go.Proofs.Yticcmjiekopnbaa
set_option linter.unusedVariables false
set_option linter.unusedSimpArgs false
open Go.RowKit Go.Shelf

theorem Clone_any {w : World} {v : Value} {l : List Int} (h : intL.In w v l) (hl : l.length ≤ 100000) : Calls Try.prog 19 #[v] w (RwP l w) := by
  obtain ⟨a, c, rfl, h1, h2⟩ := h.slice
  by_cases hne : l = []
  · subst hne
    cases a with
    | none => exact (Try.slices_Clone_int_nil 0 c w).mono fun e w' ⟨he, hw⟩ => ⟨_, he, by rw [hw]; exact Rw.nil w⟩
    | some p => exact (Try.slices_Clone_int_zero p c w).mono fun e w' ⟨v', he, ho, _, hb⟩ => ⟨v', he, ⟨ho, hb⟩⟩
  · obtain ⟨g, off, rfl, _, hg, hc⟩ := intL_cells h hne
    refine (Try.slices_Clone_int g off l.length c l w (Nat.le_refl _) (by omega) hc).mono fun e w' ⟨v', he, ho, _, hb⟩ => ⟨v', he, ⟨?_, hb⟩⟩
    rw [intL_all]; rw [List.take_length] at ho; exact ho

inductive Kc where
  | val (v : Value)
  | own (l : List Int)
  | roO (vs ls : List Int)
  | fresh
def ownI (B : Nat) (w : World) (v : Value) (l : List Int) : Prop := w.ownsRow B 3 1 v l.length (l.map (Value.int .i64))
def SKc (B : Nat) : Kc → World → Value → Prop
  | .val u, _, v => v = u
  | .own l, w, v => ownI B w v l
  | .roO vs ls, w, v => ∃ x y, v = .agg #[x, y] ∧ ownI B w x vs ∧ ownI B w y ls
  | .fresh, w, v => ∃ g u x, v = .pointer (some ⟨g, 0, none⟩) ∧ B ≤ g ∧ w.heap[g]? = some (.cells #[u, x] 24 (0, 0))
def SLc (B : Nat) (ks : List Kc) (i : Nat) (w : World) (v : Value) : Prop := match ks[i]? with
  | some k => SKc B k w v
  | none => True
theorem ownI_later {B : Nat} {w w' : World} {v : Value} {l : List Int} (h : ownI B w v l) (hb : Below w.heap.size w w') : ownI B w' v l :=
  World.ownsRow.kept (row := none) h ⟨hb.os, hb.tape, hb.output, hb.size, fun k hk _ => hb.block k hk⟩ (by cases v.ownBlock <;> simp)
theorem SLc_stable (B : Nat) (ks : List Kc) (i : Nat) (w w' : World) (v : Value) (h : SLc B ks i w v) (hb : Below w.heap.size w w') : SLc B ks i w' v := by
  unfold SLc at *
  cases hk : ks[i]? with
  | none => trivial
  | some k =>
    rw [hk] at h
    cases k with
    | val u => exact h
    | own l => exact ownI_later h hb
    | roO vs ls => obtain ⟨x, y, hv, h1, h2⟩ := h; exact ⟨x, y, hv, ownI_later h1 hb, ownI_later h2 hb⟩
    | fresh => obtain ⟨g, u, x, hv, hg, hh⟩ := h; exact ⟨g, u, x, hv, hg, (hb.block g (Array.getElem?_eq_some_iff.1 hh).1).trans hh⟩
theorem own_fresh {B g : Nat} {w : World} {v u x : Value} {l : List Int} (h : ownI B w v l) (hh : w.heap[g]? = some (.cells #[u, x] 24 (0, 0))) : v.ownBlock ≠ some g := by
  intro e
  rcases h.2 with ⟨rfl, _⟩ | ⟨g', cap, cur, rfl, _, hg', _⟩
  · cases e
  · obtain rfl : g' = g := by simpa [Value.ownBlock] using e
    rw [hg'] at hh
    simp at hh
theorem own_told {B : Nat} {w : World} {v : Value} {l : List Int} (h : ownI B w v l) : intL.In w v l := Lay.in_own (B := B) (E := 3) (by rw [intL_all]; exact h) rfl

/-- A row that is written over. -/
structure Wr (w3 wr : World) (g n : Nat) : Prop where
  below : Below w3.heap.size w3 wr
  has : ∀ j, j < n → ∃ x, wr.cell? ⟨g, j, none⟩ = some x
  fz : ∀ j, wr.frozen? ⟨g, j, none⟩ = false
theorem Wr.put {w3 wr : World} {g n j : Nat} (h : Wr w3 wr g n) (hg : w3.heap.size ≤ g) (v : Value) : Wr w3 (wr.setCell ⟨g, j, none⟩ v) g n := by
  refine ⟨h.below.setCell (p := ⟨g, j, none⟩) hg _, fun k hk => ?_, fun k => by rw [World.frozen?_setCell]; exact h.fz k⟩
  obtain ⟨x, hx⟩ := h.has k hk
  by_cases e : k = j
  · subst e; exact ⟨v, World.cell?_setCell_same' _ _ _ (by rw [hx]; rfl)⟩
  · exact ⟨x, (World.cell?_setCell_other _ _ _ _ (by intro he; injection he with h1 h2; omega)).trans hx⟩

set_option maxRecDepth 100000 in
set_option maxHeartbeats 12800000 in
theorem Asks_law {w : World} {u v : Value} {vs ls : List Int} (h : RoCs w u v vs ls) (n : Int) : Calls Try.prog 5 #[.agg #[u, v], .int .i64 n] w (BoolP true w) := by
  have hb0 := lay_alloc w (.cells #[u, v] 24)
  have hk := Go.heap_alloc_new w (.cells #[u, v] 24)
  have HI := Lib.hid (h.later hb0)
  have HB := Lib.hid hb0
  obtain ⟨a1, c1, rfl, _, _⟩ := h.1.slice
  obtain ⟨a2, c2, rfl, _, _⟩ := h.2.slice
  have hz : (w.alloc (.cells #[.slice a1 vs.length c1, .slice a2 ls.length c2] 24)).heap.size = w.heap.size + 1 := by simp
  clear h hb0
  go_enter Try.func5, Try.ntmps5
  go_wp2_with fail
  generalize w.alloc _ = w0 at *
  have c0 : w0.cell? ⟨w.heap.size, 0, none⟩ = .some (.slice a1 vs.length c1) := by rw [cell_of_row w0 _ _ _ _ _ hk]; rfl
  have c1' : w0.cell? ⟨w.heap.size, 1, none⟩ = .some (.slice a2 ls.length c2) := by rw [cell_of_row w0 _ _ _ _ _ hk]; rfl
  clear hk
  have HR := block_in roL w0 [((a1, vs.length, c1), (a2, ls.length, c2))] #[.slice a1 vs.length c1, .slice a2 ls.length c2] 24 1 rfl rfl (by decide)
  rw [hz] at HR
  have HR := Lib.hid HR
  have hb1 := lay_alloc w0 (.cells #[.slice a1 vs.length c1, .slice a2 ls.length c2] 24)
  have c0 := lay_later hb1 c0
  have c1' := lay_later hb1 c1'
  have HI := Lib.hid (HI.out.later hb1)
  have HB := Lib.hid (HB.out.trans (hb1.mono HB.out.size))
  clear hb1
  generalize World.alloc _ _ = w1 at *
  have HLo := Lib.hid (long_any HR.out (by simp))
  go_fit HLo.out
  rintro e w2 ⟨rfl, hb2⟩
  have c0 := lay_later hb2 c0
  have c1' := lay_later hb2 c1'
  have HI := Lib.hid (HI.out.later hb2)
  have HB := Lib.hid (HB.out.trans (hb2.mono HB.out.size))
  clear hb2 HR HLo
  cases hlo : longB [((a1, vs.length, c1), (a2, ls.length, c2))] with
  | true =>
    go_wp2_with fail
    go_fit (awake_any w2)
    rintro e wz ⟨rfl, hbz⟩
    have HB := Lib.hid (HB.out.trans (hbz.mono HB.out.size))
    clear hbz
    go_wp2_with fail
    go_ret
    exact ⟨rfl, HB.out⟩
  | false =>
    have hl1 : vs.length ≤ 100000 := by have := short1 hlo; omega
    have hl2 : ls.length ≤ 100000 := by have := short1 hlo; omega
    clear hlo
    go_wp2_with fail
    refine wp_region_flowL (S := SLc w2.heap.size [.val (.pointer (some ⟨w.heap.size, 0, none⟩)), .val (.slice a1 vs.length c1), .own vs, .val (.pointer (some ⟨w.heap.size, 1, none⟩)), .val (.slice a2 ls.length c2), .own ls, .roO vs ls, .fresh]) 8 (by kernel_rfl) rfl (SLc_stable _ _) (by kernel_rfl) (by kernel_rfl) (by kernel_rfl) ?_ ?_
    · intro i hi
      match i, hi with
      | 0, _ =>
        refine fsL_plain _ _ rfl rfl rfl ?_
        intro a w1 hb hrest hneed
        have ep : a.tmps.getD 2 undef = .pointer (some ⟨w.heap.size, 0, none⟩) := (hrest 2 (by kernel_rfl)).trans rfl
        have ep' := (Array.getD_eq_getD_getElem? ..).symm.trans ep
        clear hneed hrest
        go_simp
        exact ⟨_, rfl, rfl, Below.refl _ _⟩
      | 1, _ =>
        refine fsL_plain _ _ rfl rfl rfl ?_
        intro a w1 hb hrest hneed
        have e13 : a.tmps.getD 13 undef = .pointer (some ⟨w.heap.size, 0, none⟩) := hneed 0 13 rfl rfl
        have e13' := (Array.getD_eq_getD_getElem? ..).symm.trans e13
        have d0 := lay_later hb c0
        clear hneed hrest
        go_simp
        exact ⟨_, rfl, rfl, Below.refl _ _⟩
      | 2, _ =>
        refine fsL_plain _ _ rfl rfl rfl ?_
        intro a w1 hb hrest hneed
        have e14 : a.tmps.getD 14 undef = .slice a1 vs.length c1 := hneed 1 14 rfl rfl
        have e14' := (Array.getD_eq_getD_getElem? ..).symm.trans e14
        have H := Clone_any (HI.out.1.later hb) hl1
        have hsz := hb.size
        clear hneed hrest
        go_simp
        refine H.mono ?_
        rintro e w2' ⟨v2, rfl, hR⟩
        have hO := (hR.base hb).own
        rw [intL_all] at hO
        exact ⟨_, rfl, hO, hR.grown⟩
      | 3, _ =>
        refine fsL_plain _ _ rfl rfl rfl ?_
        intro a w1 hb hrest hneed
        have ep : a.tmps.getD 2 undef = .pointer (some ⟨w.heap.size, 0, none⟩) := (hrest 2 (by kernel_rfl)).trans rfl
        have ep' := (Array.getD_eq_getD_getElem? ..).symm.trans ep
        clear hneed hrest
        go_simp
        exact ⟨_, rfl, rfl, Below.refl _ _⟩
      | 4, _ =>
        refine fsL_plain _ _ rfl rfl rfl ?_
        intro a w1 hb hrest hneed
        have e16 : a.tmps.getD 16 undef = .pointer (some ⟨w.heap.size, 1, none⟩) := hneed 3 16 rfl rfl
        have e16' := (Array.getD_eq_getD_getElem? ..).symm.trans e16
        have d0 := lay_later hb c1'
        clear hneed hrest
        go_simp
        exact ⟨_, rfl, rfl, Below.refl _ _⟩
      | 5, _ =>
        refine fsL_plain _ _ rfl rfl rfl ?_
        intro a w1 hb hrest hneed
        have e17 : a.tmps.getD 17 undef = .slice a2 ls.length c2 := hneed 4 17 rfl rfl
        have e17' := (Array.getD_eq_getD_getElem? ..).symm.trans e17
        have H := Clone_any (HI.out.2.later hb) hl2
        clear hneed hrest
        go_simp
        refine H.mono ?_
        rintro e w2' ⟨v2, rfl, hR⟩
        have hO := (hR.base hb).own
        rw [intL_all] at hO
        exact ⟨_, rfl, hO, hR.grown⟩
      | 6, _ =>
        refine fsL_plain _ _ rfl rfl rfl ?_
        intro a w1 hb hrest hneed
        have r15 : ownI w2.heap.size w1 (a.tmps.getD 15 undef) vs := hneed 2 15 rfl rfl
        have r18 : ownI w2.heap.size w1 (a.tmps.getD 18 undef) ls := hneed 5 18 rfl rfl
        obtain ⟨u15, e15⟩ : ∃ u, a.tmps.getD 15 undef = u := ⟨_, rfl⟩
        obtain ⟨u18, e18⟩ : ∃ u, a.tmps.getD 18 undef = u := ⟨_, rfl⟩
        rw [e15] at r15
        rw [e18] at r18
        have e15' := (Array.getD_eq_getD_getElem? ..).symm.trans e15
        have e18' := (Array.getD_eq_getD_getElem? ..).symm.trans e18
        obtain ⟨x1, y1, z1, rfl⟩ : ∃ p n c, u15 = .slice p n c := by
          obtain ⟨p, c, he, _⟩ := (own_told r15).slice; exact ⟨p, _, c, he⟩
        obtain ⟨x2, y2, z2, rfl⟩ : ∃ p n c, u18 = .slice p n c := by
          obtain ⟨p, c, he, _⟩ := (own_told r18).slice; exact ⟨p, _, c, he⟩
        clear hneed hrest
        go_simp
        exact ⟨_, rfl, ⟨_, _, rfl, r15, r18⟩, Below.refl _ _⟩
      | 7, _ =>
        refine fsL_plain _ _ rfl rfl rfl ?_
        intro a w1 hb hrest hneed
        have hsz := hb.size
        clear hneed hrest
        go_simp
        exact ⟨_, rfl, ⟨_, _, _, rfl, hsz, Go.heap_alloc_new w1 _⟩, lay_alloc _ _⟩
      | n + 8, h => exact absurd h (by omega)
    · intro a w3 hb hd hs hr hg
      have r19 : SKc w2.heap.size (.roO vs ls) w3 (a.tmps.getD 19 undef) := hg 6 (by decide) 19 rfl
      have r5 : SKc w2.heap.size .fresh w3 (a.tmps.getD 5 undef) := hg 7 (by decide) 5 rfl
      obtain ⟨x, y, e19, ox, oy⟩ := r19
      obtain ⟨g, z1, z2, e5, hgB, hh⟩ := r5
      have e13 : a.tmps.getD 13 undef = .pointer (some ⟨w.heap.size, 0, none⟩) := hg 0 (by decide) 13 rfl
      have e14 : a.tmps.getD 14 undef = .slice a1 vs.length c1 := hg 1 (by decide) 14 rfl
      have e16 : a.tmps.getD 16 undef = .pointer (some ⟨w.heap.size, 1, none⟩) := hg 3 (by decide) 16 rfl
      have e17 : a.tmps.getD 17 undef = .slice a2 ls.length c2 := hg 4 (by decide) 17 rfl
      obtain ⟨u15, e15⟩ : ∃ u, a.tmps.getD 15 undef = u := ⟨_, rfl⟩
      obtain ⟨u18, e18⟩ : ∃ u, a.tmps.getD 18 undef = u := ⟨_, rfl⟩
      have ha := act_flow [13, 14, 15, 16, 17, 18, 19, 5] (by kernel_rfl) hd hs (fun t ht => hr t fun j hj => ht j (Nat.lt_trans hj (by decide)))
      simp only [putsOf, List.foldl_cons, List.foldl_nil, e13, e14, e15, e16, e17, e18, e19, e5] at ha
      obtain ⟨x1, y1, rfl⟩ : ∃ p c, x = .slice p vs.length c := by
        obtain ⟨p, c, he, _⟩ := (own_told ox).slice; exact ⟨p, c, he⟩
      obtain ⟨x2, y2, rfl⟩ : ∃ p c, y = .slice p ls.length c := by
        obtain ⟨p, c, he, _⟩ := (own_told oy).slice; exact ⟨p, c, he⟩
      have k0 : w3.cell? ⟨g, 0, none⟩ = some z1 := by rw [cell_of_row w3 _ _ _ _ _ hh]; rfl
      have k1 : w3.cell? ⟨g, 1, none⟩ = some z2 := by rw [cell_of_row w3 _ _ _ _ _ hh]; rfl
      have f0 := frozen_of_row w3 g 0 _ _ hh
      have f1 := frozen_of_row w3 g 1 _ _ hh
      clear e13 e14 e15 e16 e17 e18 e19 e5 hd hs hr hg
      subst ha
      refine flow_plain rfl rfl ?_
      go_simp
      have ox' := own_fresh ox hh
      have oy' := own_fresh oy hh
      have hB4 : Below w2.heap.size w2 ((w3.setCell ⟨g, 0, none⟩ (.slice x1 vs.length y1)).setCell ⟨g, 1, none⟩ (.slice x2 ls.length y2)) := (hb.setCell (p := ⟨g, 0, none⟩) hgB _).setCell (p := ⟨g, 1, none⟩) hgB _
      have hgr : w3.grownBy ((w3.setCell ⟨g, 0, none⟩ (.slice x1 vs.length y1)).setCell ⟨g, 1, none⟩ (.slice x2 ls.length y2)) (some g) := by
        refine ⟨rfl, rfl, rfl, by simp [World.setCell], fun k _ hk => ?_⟩
        have h : k ≠ g := fun e => hk (by rw [e])
        rw [set_heap h, set_heap h]
      have HG := Lib.hid (show RoCs ((w3.setCell ⟨g, 0, none⟩ (.slice x1 vs.length y1)).setCell ⟨g, 1, none⟩ (.slice x2 ls.length y2)) (.slice x1 vs.length y1) (.slice x2 ls.length y2) vs ls from ⟨own_told (B := w2.heap.size) (World.ownsRow.kept ox hgr (.inr ox')), own_told (B := w2.heap.size) (World.ownsRow.kept oy hgr (.inr oy'))⟩)
      have hs0 : w3.heap.size ≤ ((w3.setCell ⟨g, 0, none⟩ (.slice x1 vs.length y1)).setCell ⟨g, 1, none⟩ (.slice x2 ls.length y2)).heap.size := by simp [World.setCell]
      have hgl : g < w3.heap.size := (Array.getElem?_eq_some_iff.1 hh).1
      have g0 : ((w3.setCell ⟨g, 0, none⟩ (.slice x1 vs.length y1)).setCell ⟨g, 1, none⟩ (.slice x2 ls.length y2)).cell? ⟨g, 0, none⟩ = some (.slice x1 vs.length y1) := (World.cell?_setCell_other _ _ _ _ (by simp)).trans (World.cell?_setCell_same' _ _ _ (by rw [k0]; rfl))
      have g1 : ((w3.setCell ⟨g, 0, none⟩ (.slice x1 vs.length y1)).setCell ⟨g, 1, none⟩ (.slice x2 ls.length y2)).cell? ⟨g, 1, none⟩ = some (.slice x2 ls.length y2) := World.cell?_setCell_same' _ _ _ (by rw [(World.cell?_setCell_other (w := w3) (a := ⟨g, 0, none⟩) (b := ⟨g, 1, none⟩) (v := .slice x1 vs.length y1) (by simp))]; rw [k1]; rfl)
      generalize (w3.setCell _ _).setCell _ _ = w4 at *
      have c0 := lay_later hB4 c0
      have c1' := lay_later hB4 c1'
      have HI := Lib.hid (HI.out.later hB4)
      have HB := Lib.hid (HB.out.trans (hB4.mono HB.out.size))
      clear ox oy ox' oy' hB4 hgr hs0 k0 k1 f0 f1 hh hb
      have H4 := Lib.hid (And.intro (And.intro (And.intro c0 c1') (And.intro g0 g1)) (And.intro (And.intro HI.out HG.out) HB.out))
      go_wp2_with fail
      go_fit (All_any HG.out hl1 hl2)
      rintro e w5 ⟨lv, rfl, hL⟩
      have hb5 := hL.grown
      have c0 := lay_later hb5 c0
      have c1' := lay_later hb5 c1'
      have g0 := lay_later hb5 g0
      have g1 := lay_later hb5 g1
      have HI := Lib.hid (HI.out.later hb5)
      have HG := Lib.hid (HG.out.later hb5)
      have HB := Lib.hid (HB.out.trans (hb5.mono HB.out.size))
      have HL := Lib.hid hL
      obtain ⟨la, lc, rfl, _, _⟩ := hL.slice
      clear hb5 hL hgl hgB
      go_wp2_with fail
      refine wp_region_flow (S := SL [Kn.val (.slice la (allE (vs ++ ls)).length lc), Kn.val (.agg #[.slice a1 vs.length c1, .slice a2 ls.length c2]), Kn.ints (allE (vs ++ ls)), Kn.val (.bool true), Kn.val (.bool true), Kn.val (.agg #[.slice x1 vs.length y1, .slice x2 ls.length y2]), Kn.val (.int .i64 n), Kn.val (.bool (hasI vs n)), Kn.val (.agg #[.slice a1 vs.length c1, .slice a2 ls.length c2]), Kn.val (.int .i64 n), Kn.val (.bool (hasI vs n)), Kn.val (.bool true), Kn.val (.bool true), Kn.val (.bool true), Kn.val (.agg #[.slice x1 vs.length y1, .slice x2 ls.length y2]), Kn.val (.int .i64 n), Kn.val (.bool (hasI vs n || hasI ls n)), Kn.val (.agg #[.slice a1 vs.length c1, .slice a2 ls.length c2]), Kn.val (.int .i64 n), Kn.val (.bool (hasI vs n || hasI ls n)), Kn.val (.bool true), Kn.val (.bool true), Kn.val (.bool true)]) (by kernel_rfl) (SL_stable _) (by kernel_rfl) (by kernel_rfl) ?_ ?_
      · intro i hi
        match i, hi with
          | 0, _ =>
            refine fs_plain _ _ rfl rfl rfl ?_
            intro a w1 hb hrest hneed
            have ep : a.tmps.getD 6 undef = .slice la (allE (vs ++ ls)).length lc := (hrest 6 (by kernel_rfl)).trans rfl
            have ep' := (Array.getD_eq_getD_getElem? ..).symm.trans ep
            
            clear hneed hrest
            go_simp
            exact ⟨_, rfl, rfl, Below.refl _ _⟩
          | 1, _ =>
            refine fs_plain _ _ rfl rfl rfl ?_
            intro a w1 hb hrest hneed
            have ep : a.tmps.getD 2 undef = .pointer (some ⟨w.heap.size, 0, none⟩) := (hrest 2 (by kernel_rfl)).trans rfl
            have ep' := (Array.getD_eq_getD_getElem? ..).symm.trans ep
            have d0 := lay_later hb c0
            have d1 := lay_later hb c1'
            clear hneed hrest
            go_simp
            exact ⟨_, rfl, rfl, Below.refl _ _⟩
          | 2, _ =>
            refine fs_plain _ _ rfl rfl rfl ?_
            intro a w1 hb hrest hneed
            have e23 : a.tmps.getD 23 undef = (.agg #[.slice a1 vs.length c1, .slice a2 ls.length c2]) := hneed 1 23 rfl rfl
            have e23' := (Array.getD_eq_getD_getElem? ..).symm.trans e23
            clear hneed hrest
            have H := RAll_any (HI.out.later hb) hl1 hl2
            go_simp
            refine H.mono ?_
            rintro e w2 ⟨v2, rfl, hR2⟩
            exact ⟨_, rfl, hR2.told, hR2.grown⟩
          | 3, _ =>
            refine fs_plain _ _ rfl rfl rfl ?_
            intro a w1 hb hrest hneed
            have e22 : a.tmps.getD 22 undef = (.slice la (allE (vs ++ ls)).length lc) := hneed 0 22 rfl rfl
            have e22' := (Array.getD_eq_getD_getElem? ..).symm.trans e22
            have r24 : SK (.ints (allE (vs ++ ls))) w1 (a.tmps.getD 24 undef) := hneed 2 24 rfl rfl
            obtain ⟨u24, e24⟩ : ∃ u, a.tmps.getD 24 undef = u := ⟨_, rfl⟩
            rw [e24] at r24
            have e24' := (Array.getD_eq_getD_getElem? ..).symm.trans e24
            clear hneed hrest
            have H := Equal_any (HL.out.told.later hb) r24
            rw [show (allE (vs ++ ls) == allE (vs ++ ls)) = true from beq_self_eq_true _] at H
            go_simp
            refine H.mono ?_
            rintro e w2 ⟨rfl, hD2⟩
            exact ⟨_, rfl, rfl, hD2.below (Below.refl _ _)⟩
          | 4, _ =>
            refine fs_plain _ _ rfl rfl rfl ?_
            intro a w1 hb hrest hneed
            have e25 : a.tmps.getD 25 undef = (.bool true) := hneed 3 25 rfl rfl
            have e25' := (Array.getD_eq_getD_getElem? ..).symm.trans e25
            clear hneed hrest
            go_simp
            exact ⟨_, rfl, rfl, Below.refl _ _⟩
          | 5, _ =>
            refine fs_guard _ _ 4 26 true rfl rfl rfl rfl rfl (fun w v h => h) ?_
            intro a w1 hb hrest hneed
            have ep : a.tmps.getD 5 undef = .pointer (some ⟨g, 0, none⟩) := (hrest 5 (by kernel_rfl)).trans rfl
            have ep' := (Array.getD_eq_getD_getElem? ..).symm.trans ep
            have d0 := lay_later hb g0
            have d1 := lay_later hb g1
            clear hneed hrest
            go_simp
            exact ⟨_, rfl, rfl, Below.refl _ _⟩
          | 6, _ =>
            refine fs_guard _ _ 4 26 true rfl rfl rfl rfl rfl (fun w v h => h) ?_
            intro a w1 hb hrest hneed
            have ep : a.tmps.getD 1 undef = .int .i64 n := (hrest 1 (by kernel_rfl)).trans rfl
            have ep' := (Array.getD_eq_getD_getElem? ..).symm.trans ep
            
            clear hneed hrest
            go_simp
            exact ⟨_, rfl, rfl, Below.refl _ _⟩
          | 7, _ =>
            refine fs_guard _ _ 4 26 true rfl rfl rfl rfl rfl (fun w v h => h) ?_
            intro a w1 hb hrest hneed
            have e27 : a.tmps.getD 27 undef = (.agg #[.slice x1 vs.length y1, .slice x2 ls.length y2]) := hneed 5 27 rfl rfl
            have e27' := (Array.getD_eq_getD_getElem? ..).symm.trans e27
            have e28 : a.tmps.getD 28 undef = (.int .i64 n) := hneed 6 28 rfl rfl
            have e28' := (Array.getD_eq_getD_getElem? ..).symm.trans e28
            clear hneed hrest
            have H := Votes_any (HG.out.later hb) n
            go_simp
            refine H.mono ?_
            rintro e w2 ⟨rfl, hb2⟩
            exact ⟨_, rfl, rfl, hb2⟩
          | 8, _ =>
            refine fs_guard _ _ 4 26 true rfl rfl rfl rfl rfl (fun w v h => h) ?_
            intro a w1 hb hrest hneed
            have ep : a.tmps.getD 2 undef = .pointer (some ⟨w.heap.size, 0, none⟩) := (hrest 2 (by kernel_rfl)).trans rfl
            have ep' := (Array.getD_eq_getD_getElem? ..).symm.trans ep
            have d0 := lay_later hb c0
            have d1 := lay_later hb c1'
            clear hneed hrest
            go_simp
            exact ⟨_, rfl, rfl, Below.refl _ _⟩
          | 9, _ =>
            refine fs_guard _ _ 4 26 true rfl rfl rfl rfl rfl (fun w v h => h) ?_
            intro a w1 hb hrest hneed
            have ep : a.tmps.getD 1 undef = .int .i64 n := (hrest 1 (by kernel_rfl)).trans rfl
            have ep' := (Array.getD_eq_getD_getElem? ..).symm.trans ep
            
            clear hneed hrest
            go_simp
            exact ⟨_, rfl, rfl, Below.refl _ _⟩
          | 10, _ =>
            refine fs_guard _ _ 4 26 true rfl rfl rfl rfl rfl (fun w v h => h) ?_
            intro a w1 hb hrest hneed
            have e30 : a.tmps.getD 30 undef = (.agg #[.slice a1 vs.length c1, .slice a2 ls.length c2]) := hneed 8 30 rfl rfl
            have e30' := (Array.getD_eq_getD_getElem? ..).symm.trans e30
            have e31 : a.tmps.getD 31 undef = (.int .i64 n) := hneed 9 31 rfl rfl
            have e31' := (Array.getD_eq_getD_getElem? ..).symm.trans e31
            clear hneed hrest
            have H := RVotes_any (HI.out.later hb) n
            go_simp
            refine H.mono ?_
            rintro e w2 ⟨rfl, hb2⟩
            exact ⟨_, rfl, rfl, hb2⟩
          | 11, _ =>
            refine fs_guard _ _ 4 26 true rfl rfl rfl rfl rfl (fun w v h => h) ?_
            intro a w1 hb hrest hneed
            have e29 : a.tmps.getD 29 undef = (.bool (hasI vs n)) := hneed 7 29 rfl rfl
            have e29' := (Array.getD_eq_getD_getElem? ..).symm.trans e29
            have e32 : a.tmps.getD 32 undef = (.bool (hasI vs n)) := hneed 10 32 rfl rfl
            have e32' := (Array.getD_eq_getD_getElem? ..).symm.trans e32
            clear hneed hrest
            go_simp
            exact ⟨_, rfl, (by show _ = _; simp), Below.refl _ _⟩
          | 12, _ =>
            refine fs_plain _ _ rfl rfl rfl ?_
            intro a w1 hb hrest hneed
            have e26 : a.tmps.getD 26 undef = (.bool true) := hneed 4 26 rfl rfl
            have e26' := (Array.getD_eq_getD_getElem? ..).symm.trans e26
            have e33 : a.tmps.getD 33 undef = (.bool true) := hneed 11 33 rfl rfl
            have e33' := (Array.getD_eq_getD_getElem? ..).symm.trans e33
            clear hneed hrest
            go_simp
            exact ⟨_, rfl, rfl, Below.refl _ _⟩
          | 13, _ =>
            refine fs_plain _ _ rfl rfl rfl ?_
            intro a w1 hb hrest hneed
            have e34 : a.tmps.getD 34 undef = (.bool true) := hneed 12 34 rfl rfl
            have e34' := (Array.getD_eq_getD_getElem? ..).symm.trans e34
            clear hneed hrest
            go_simp
            exact ⟨_, rfl, rfl, Below.refl _ _⟩
          | 14, _ =>
            refine fs_guard _ _ 13 35 true rfl rfl rfl rfl rfl (fun w v h => h) ?_
            intro a w1 hb hrest hneed
            have ep : a.tmps.getD 5 undef = .pointer (some ⟨g, 0, none⟩) := (hrest 5 (by kernel_rfl)).trans rfl
            have ep' := (Array.getD_eq_getD_getElem? ..).symm.trans ep
            have d0 := lay_later hb g0
            have d1 := lay_later hb g1
            clear hneed hrest
            go_simp
            exact ⟨_, rfl, rfl, Below.refl _ _⟩
          | 15, _ =>
            refine fs_guard _ _ 13 35 true rfl rfl rfl rfl rfl (fun w v h => h) ?_
            intro a w1 hb hrest hneed
            have ep : a.tmps.getD 1 undef = .int .i64 n := (hrest 1 (by kernel_rfl)).trans rfl
            have ep' := (Array.getD_eq_getD_getElem? ..).symm.trans ep
            
            clear hneed hrest
            go_simp
            exact ⟨_, rfl, rfl, Below.refl _ _⟩
          | 16, _ =>
            refine fs_guard _ _ 13 35 true rfl rfl rfl rfl rfl (fun w v h => h) ?_
            intro a w1 hb hrest hneed
            have e36 : a.tmps.getD 36 undef = (.agg #[.slice x1 vs.length y1, .slice x2 ls.length y2]) := hneed 14 36 rfl rfl
            have e36' := (Array.getD_eq_getD_getElem? ..).symm.trans e36
            have e37 : a.tmps.getD 37 undef = (.int .i64 n) := hneed 15 37 rfl rfl
            have e37' := (Array.getD_eq_getD_getElem? ..).symm.trans e37
            clear hneed hrest
            have H := Has_any (HG.out.later hb) n
            go_simp
            refine H.mono ?_
            rintro e w2 ⟨rfl, hb2⟩
            exact ⟨_, rfl, rfl, hb2⟩
          | 17, _ =>
            refine fs_guard _ _ 13 35 true rfl rfl rfl rfl rfl (fun w v h => h) ?_
            intro a w1 hb hrest hneed
            have ep : a.tmps.getD 2 undef = .pointer (some ⟨w.heap.size, 0, none⟩) := (hrest 2 (by kernel_rfl)).trans rfl
            have ep' := (Array.getD_eq_getD_getElem? ..).symm.trans ep
            have d0 := lay_later hb c0
            have d1 := lay_later hb c1'
            clear hneed hrest
            go_simp
            exact ⟨_, rfl, rfl, Below.refl _ _⟩
          | 18, _ =>
            refine fs_guard _ _ 13 35 true rfl rfl rfl rfl rfl (fun w v h => h) ?_
            intro a w1 hb hrest hneed
            have ep : a.tmps.getD 1 undef = .int .i64 n := (hrest 1 (by kernel_rfl)).trans rfl
            have ep' := (Array.getD_eq_getD_getElem? ..).symm.trans ep
            
            clear hneed hrest
            go_simp
            exact ⟨_, rfl, rfl, Below.refl _ _⟩
          | 19, _ =>
            refine fs_guard _ _ 13 35 true rfl rfl rfl rfl rfl (fun w v h => h) ?_
            intro a w1 hb hrest hneed
            have e39 : a.tmps.getD 39 undef = (.agg #[.slice a1 vs.length c1, .slice a2 ls.length c2]) := hneed 17 39 rfl rfl
            have e39' := (Array.getD_eq_getD_getElem? ..).symm.trans e39
            have e40 : a.tmps.getD 40 undef = (.int .i64 n) := hneed 18 40 rfl rfl
            have e40' := (Array.getD_eq_getD_getElem? ..).symm.trans e40
            clear hneed hrest
            have H := RHas_any (HI.out.later hb) n hl1 hl2
            go_simp
            refine H.mono ?_
            rintro e w2 ⟨rfl, hb2⟩
            exact ⟨_, rfl, rfl, hb2⟩
          | 20, _ =>
            refine fs_guard _ _ 13 35 true rfl rfl rfl rfl rfl (fun w v h => h) ?_
            intro a w1 hb hrest hneed
            have e38 : a.tmps.getD 38 undef = (.bool (hasI vs n || hasI ls n)) := hneed 16 38 rfl rfl
            have e38' := (Array.getD_eq_getD_getElem? ..).symm.trans e38
            have e41 : a.tmps.getD 41 undef = (.bool (hasI vs n || hasI ls n)) := hneed 19 41 rfl rfl
            have e41' := (Array.getD_eq_getD_getElem? ..).symm.trans e41
            clear hneed hrest
            go_simp
            exact ⟨_, rfl, (by show _ = _; simp), Below.refl _ _⟩
          | 21, _ =>
            refine fs_plain _ _ rfl rfl rfl ?_
            intro a w1 hb hrest hneed
            have e35 : a.tmps.getD 35 undef = (.bool true) := hneed 13 35 rfl rfl
            have e35' := (Array.getD_eq_getD_getElem? ..).symm.trans e35
            have e42 : a.tmps.getD 42 undef = (.bool true) := hneed 20 42 rfl rfl
            have e42' := (Array.getD_eq_getD_getElem? ..).symm.trans e42
            clear hneed hrest
            go_simp
            exact ⟨_, rfl, rfl, Below.refl _ _⟩
          | 22, _ =>
            refine fs_plain _ _ rfl rfl rfl ?_
            intro a w1 hb hrest hneed
            have e43 : a.tmps.getD 43 undef = (.bool true) := hneed 21 43 rfl rfl
            have e43' := (Array.getD_eq_getD_getElem? ..).symm.trans e43
            clear hneed hrest
            go_simp
            exact ⟨_, rfl, rfl, Below.refl _ _⟩
          | n + 23, h => exact absurd h (by simp)
      · intro a w6 hb hd hs hr hg
        have e22 : a.tmps.getD 22 undef = (.slice la (allE (vs ++ ls)).length lc) := hg 0 (by decide) 22 rfl
        have e23 : a.tmps.getD 23 undef = (.agg #[.slice a1 vs.length c1, .slice a2 ls.length c2]) := hg 1 (by decide) 23 rfl
        have e25 : a.tmps.getD 25 undef = (.bool true) := hg 3 (by decide) 25 rfl
        have e26 : a.tmps.getD 26 undef = (.bool true) := hg 4 (by decide) 26 rfl
        have e27 : a.tmps.getD 27 undef = (.agg #[.slice x1 vs.length y1, .slice x2 ls.length y2]) := hg 5 (by decide) 27 rfl
        have e28 : a.tmps.getD 28 undef = (.int .i64 n) := hg 6 (by decide) 28 rfl
        have e29 : a.tmps.getD 29 undef = (.bool (hasI vs n)) := hg 7 (by decide) 29 rfl
        have e30 : a.tmps.getD 30 undef = (.agg #[.slice a1 vs.length c1, .slice a2 ls.length c2]) := hg 8 (by decide) 30 rfl
        have e31 : a.tmps.getD 31 undef = (.int .i64 n) := hg 9 (by decide) 31 rfl
        have e32 : a.tmps.getD 32 undef = (.bool (hasI vs n)) := hg 10 (by decide) 32 rfl
        have e33 : a.tmps.getD 33 undef = (.bool true) := hg 11 (by decide) 33 rfl
        have e34 : a.tmps.getD 34 undef = (.bool true) := hg 12 (by decide) 34 rfl
        have e35 : a.tmps.getD 35 undef = (.bool true) := hg 13 (by decide) 35 rfl
        have e36 : a.tmps.getD 36 undef = (.agg #[.slice x1 vs.length y1, .slice x2 ls.length y2]) := hg 14 (by decide) 36 rfl
        have e37 : a.tmps.getD 37 undef = (.int .i64 n) := hg 15 (by decide) 37 rfl
        have e38 : a.tmps.getD 38 undef = (.bool (hasI vs n || hasI ls n)) := hg 16 (by decide) 38 rfl
        have e39 : a.tmps.getD 39 undef = (.agg #[.slice a1 vs.length c1, .slice a2 ls.length c2]) := hg 17 (by decide) 39 rfl
        have e40 : a.tmps.getD 40 undef = (.int .i64 n) := hg 18 (by decide) 40 rfl
        have e41 : a.tmps.getD 41 undef = (.bool (hasI vs n || hasI ls n)) := hg 19 (by decide) 41 rfl
        have e42 : a.tmps.getD 42 undef = (.bool true) := hg 20 (by decide) 42 rfl
        have e43 : a.tmps.getD 43 undef = (.bool true) := hg 21 (by decide) 43 rfl
        have e7 : a.tmps.getD 7 undef = (.bool true) := hg 22 (by decide) 7 rfl
        obtain ⟨u24, e24⟩ : ∃ u, a.tmps.getD 24 undef = u := ⟨_, rfl⟩
        have ha := act_flow [22, 23, 24, 25, 26, 27, 28, 29, 30, 31, 32, 33, 34, 35, 36, 37, 38, 39, 40, 41, 42, 43, 7] (by kernel_rfl) hd hs hr
        simp only [putsOf, List.foldl_cons, List.foldl_nil, e22, e23, e24, e25, e26, e27, e28, e29, e30, e31, e32, e33, e34, e35, e36, e37, e38, e39, e40, e41, e42, e43, e7] at ha
        clear hd hs hr hg e22 e23 e24 e25 e26 e27 e28 e29 e30 e31 e32 e33 e34 e35 e36 e37 e38 e39 e40 e41 e42 e43 e7
        subst ha
        go_simp
        have c0 := lay_later hb c0
        have c1' := lay_later hb c1'
        have g0 := lay_later hb g0
        have g1 := lay_later hb g1
        have HI := Lib.hid (HI.out.later hb)
        have HG := Lib.hid (HG.out.later hb)
        have HB := Lib.hid (HB.out.trans (hb.mono HB.out.size))
        have HL := Lib.hid (HL.out.below hb)
        clear hb c0 c1' g0 g1 HI HG HB
        generalize allE (vs ++ ls) = E at *
        have HL0 := HL.out.grown
        have HRow : Hid (E.length = 0 ∨ ∃ gL, la = some ⟨gL, 0, none⟩ ∧ w4.heap.size ≤ gL ∧ Wr w4 w6 gL E.length) := by
          show _ ∨ _
          rcases HL.out.own.2 with ⟨_, h0⟩ | ⟨gL, cap, cur, hv, hgB, hgg, _⟩
          · exact .inl h0
          · obtain ⟨rfl, rfl⟩ : la = some ⟨gL, 0, none⟩ ∧ lc = cap := by simpa using hv
            refine .inr ⟨gL, rfl, hgB, HL0, fun j hj => ?_, fun j => frozen_of_row w6 gL j _ _ hgg⟩
            have hne : E ≠ [] := fun e => by rw [e] at hj; exact absurd hj (Nat.not_lt_zero _)
            obtain ⟨g', o', he, _, _, hc⟩ := intL_cells HL.out.told hne
            obtain ⟨rfl, rfl⟩ : gL = g' ∧ 0 = o' := by simpa using he
            have := hc j hj
            rw [Nat.zero_add] at this
            exact ⟨_, this⟩
        have HLB := Lib.hid HL0
        clear HL0 HL
        go_wp2_with fail
        go_loopw [46] (fun i wr => ∃ k : Nat, i = .int .i64 k ∧ k ≤ E.length ∧ Hid (Below w4.heap.size w4 wr) ∧ Hid (E.length = 0 ∨ ∃ gL, la = some ⟨gL, 0, none⟩ ∧ w4.heap.size ≤ gL ∧ Wr w4 wr gL E.length)) (fun i _ => E.length - (intOf i).toNat)
        case atStart => exact ⟨0, rfl, Nat.zero_le _, HLB, HRow⟩
        case round =>
          clear HLB HRow
          obtain ⟨k, rfl, hk, HLB, HRow⟩ := hrel
          by_cases hlt : k < E.length
          · obtain ⟨gL, rfl, hgB, hW⟩ := HRow.out.resolve_left (by omega)
            obtain ⟨x, hx⟩ := hW.has k hlt
            have fx := hW.fz k
            have HW := Lib.hid (hW.put (j := k) hgB (.int .i64 (-1)))
            have HGB := Lib.hid hgB
            clear hW hgB
            go_wp2_with fail
            exact ⟨⟨k + 1, by go_num, by omega, HW.out.below, .inr ⟨gL, rfl, HGB.out, HW.out⟩⟩, by simp [intOf]; omega⟩
          · obtain rfl : k = E.length := by omega
            have hb := HLB.out
            have c0 := lay_later hb H4.out.1.1.1
            have c1' := lay_later hb H4.out.1.1.2
            have g0 := lay_later hb H4.out.1.2.1
            have g1 := lay_later hb H4.out.1.2.2
            have HI := Lib.hid (H4.out.2.1.1.later hb)
            have HG := Lib.hid (H4.out.2.1.2.later hb)
            have HB := Lib.hid (H4.out.2.2.trans (hb.mono H4.out.2.2.size))
            clear hb HLB HRow
            have HE1 := Equal_any HG.out.1 HI.out.1
            rw [show (vs == vs) = true from beq_self_eq_true _] at HE1
            have HE1 := Lib.hid HE1
            go_wp2_with fail
            go_fit HE1.out
            rintro e w7 ⟨rfl, hD⟩
            have c1' := hD.cell c1'
            have g1 := hD.cell g1
            have HE2 := Equal_any (hD.cs HG.out).2 (hD.cs HI.out).2
            rw [show (ls == ls) = true from beq_self_eq_true _] at HE2
            have HE2 := Lib.hid HE2
            have HB := Lib.hid (hD.below HB.out)
            clear hD HE1
            go_wp2_with fail
            go_fit HE2.out
            rintro e w8 ⟨rfl, hD⟩
            have HB := Lib.hid (hD.below HB.out)
            clear hD HE2
            go_wp2_with fail
            go_fit (awake_any w8)
            rintro e wz ⟨rfl, hbz⟩
            have HB := Lib.hid (HB.out.trans (hbz.mono HB.out.size))
            clear hbz
            go_wp2_with fail
            go_ret
            exact ⟨rfl, HB.out⟩
end Go.Proofs.Yticcmjiekopnbaa
