/-
  Walks: all pairs but the last one; two sides without a pair between.
-/
import Derived.Test.YtdfjnpnkfjcpcaaTB3
namespace Go.Proofs.Ytdfjnpnkfjcpcaa
set_option linter.unusedVariables false
set_option linter.unusedSimpArgs false
open Go.RowKit

theorem Knot.set {w : World} {B g o : Nat} {val : Value} (hg : w.cell? ⟨g, 5, none⟩ = none) : ∀ {t : T} {v : Option Addr}, Knot w B t v → Knot (w.setCell ⟨g, o, none⟩ val) B t v
  | .nil, _, h => h
  | .node l p r, _, ⟨b, x, y, hv, hB, h0, h1, h2, h3, h4, h5, hl, hr⟩ => by
    have hne : b ≠ g := fun e => by rw [e, hg] at h5; cases h5
    exact ⟨b, x, y, hv, ⟨hB.1, hB.2.elim fun cs hc => ⟨cs, (Below.heap_setCell _ _ _ _ (by simpa using hne)).trans hc⟩⟩, (World.cell?_setCell_other _ _ _ _ (by simp [hne])).trans h0, (World.cell?_setCell_other _ _ _ _ (by simp [hne])).trans h1, (World.cell?_setCell_other _ _ _ _ (by simp [hne])).trans h2,
      (World.cell?_setCell_other _ _ _ _ (by simp [hne])).trans h3, (World.cell?_setCell_other _ _ _ _ (by simp [hne])).trans h4, (World.cell?_setCell_other _ _ _ _ (by simp [hne])).trans h5, hl.set hg, hr.set hg⟩
theorem cell_set_none {w : World} {g o i : Nat} {v : Value} (h : w.cell? ⟨g, i, none⟩ = none) (ho : i ≠ o) : (w.setCell ⟨g, o, none⟩ v).cell? ⟨g, i, none⟩ = none :=
  (World.cell?_setCell_other _ _ _ _ (by simp [ho])).trans h

/-- A pair in a block of its own. -/
structure Box (w : World) (g : Nat) (k v : ByteArray) : Prop where
  c0 : w.cell? ⟨g, 0, none⟩ = some (.string k)
  c1 : w.cell? ⟨g, 1, none⟩ = some (.string v)
  c5 : w.cell? ⟨g, 5, none⟩ = none
  f0 : w.frozen? ⟨g, 0, none⟩ = false
  f1 : w.frozen? ⟨g, 1, none⟩ = false
theorem box_alloc (w : World) (k v : ByteArray) (t : TypeId) : Box (w.alloc (Obj.cells #[.string k, .string v] t)) w.heap.size k v := by
  refine ⟨?_, ?_, ?_, World.frozen?_alloc_at _ _ _ _ rfl, World.frozen?_alloc_at _ _ _ _ rfl⟩
  all_goals rw [World.cell?_alloc_at _ _ _ _ rfl]; rfl
theorem Box.lt {w : World} {g : Nat} {k v : ByteArray} (h : Box w g k v) : g < w.heap.size := World.block_lt_of_cell? w _ h.c0
theorem Box.later {w w' : World} {g : Nat} {k v : ByteArray} (h : Box w g k v) (hb : Below w.heap.size w w') : Box w' g k v :=
  ⟨cell_later hb h.c0, cell_later hb h.c1, (hb.cell (p := ⟨g, 5, none⟩) h.lt).trans h.c5, (hb.frozen (p := ⟨g, 0, none⟩) h.lt).trans h.f0, (hb.frozen (p := ⟨g, 1, none⟩) h.lt).trans h.f1⟩
/-- What is behind a store of a pair into a box. -/
theorem Box.store {w : World} {g : Nat} {k v : ByteArray} (h : Box w g k v) (k' v' : ByteArray) : Box ((w.setCell ⟨g, 0, none⟩ (.string k')).setCell ⟨g, 1, none⟩ (.string v')) g k' v' := by
  refine ⟨?_, ?_, ?_, ?_, ?_⟩
  · rw [World.cell?_setCell_other _ _ _ _ (by simp)]; exact World.cell?_setCell_same _ _ _ h.c0
  · exact World.cell?_setCell_same _ _ _ ((World.cell?_setCell_other _ _ _ _ (by simp)).trans h.c1)
  · rw [World.cell?_setCell_other _ _ _ _ (by simp), World.cell?_setCell_other _ _ _ _ (by simp)]; exact h.c5
  · exact (World.frozen?_setCell _ _ _ _).trans ((World.frozen?_setCell _ _ _ _).trans h.f0)
  · exact (World.frozen?_setCell _ _ _ _).trans ((World.frozen?_setCell _ _ _ _).trans h.f1)
theorem Knot.stored {w : World} {g B : Nat} {k v k' v' : ByteArray} (h : Box w g k v) {t : T} {x : Option Addr} (K : Knot w B t x) : Knot ((w.setCell ⟨g, 0, none⟩ (.string k')).setCell ⟨g, 1, none⟩ (.string v')) B t x :=
  (K.set h.c5).set (cell_set_none h.c5 (by omega))
theorem heap_stored {w : World} {g : Nat} {x y : Value} : ((w.setCell ⟨g, 0, none⟩ x).setCell ⟨g, 1, none⟩ y).heap.size = w.heap.size := by simp [World.setCell]
theorem below_stored {w : World} {g B : Nat} {x y : Value} (h : B ≤ g) : Below B w ((w.setCell ⟨g, 0, none⟩ x).setCell ⟨g, 1, none⟩ y) := by
  have h1 : Below B w (w.setCell ⟨g, 0, none⟩ x) := ⟨rfl, rfl, rfl, by simp [World.setCell], fun k hk => Below.heap_setCell _ _ _ _ (by simp only; omega)⟩
  have h2 : Below B (w.setCell ⟨g, 0, none⟩ x) ((w.setCell ⟨g, 0, none⟩ x).setCell ⟨g, 1, none⟩ y) := ⟨rfl, rfl, rfl, by simp [World.setCell], fun k hk => Below.heap_setCell _ _ _ _ (by simp only; omega)⟩
  exact h1.trans h2

/-- All pairs but the last one, and that. -/
def CutOff (t : T) (w : World) (e : Ending) (w' : World) : Prop :=
  ∃ v u q, e = .returned (.tuple #[.pointer v, .agg #[.string q.1, .string q.2]]) ∧ u.Bal ∧ t.list = u.list ++ [q] ∧ Knot w' w'.heap.size u v ∧ Below w.heap.size w w'

set_option maxRecDepth 100000 in
set_option maxHeartbeats 3200000 in
theorem cutLast_end {w : World} {l : T} {p : Pr} {x : Option Addr} (h : Knot w w.heap.size (.node l p .nil) x) (hb : (T.node l p .nil).Bal) :
    Calls Try.prog 106 #[.pointer x] w (CutOff (.node l p .nil) w) := by
  have HA := Lib.hid (below_alloc w (Obj.cells #[Value.string { data := #[] }, Value.string { data := #[] }] 87))
  have HX := Lib.hid (box_alloc w { data := #[] } { data := #[] } 87)
  obtain ⟨b, xl, xr, rfl, hbb, c0, c1, c2, c3, c4, c5, kl, kr⟩ := h.all HA.out
  obtain rfl : xr = none := kr
  have Kl := Lib.hid kl
  have BL := Lib.hid hb.1
  clear kl c4 c5 hb
  go_enter Try.func106, Try.ntmps106
  go_wp2_with fail
  generalize w.alloc (Obj.cells #[Value.string { data := #[] }, Value.string { data := #[] }] 87) = W at *
  go_wp2_with fail
  have x0 := HX.out.c0
  have x1 := HX.out.c1
  have x2 := HX.out.f0
  have x3 := HX.out.f1
  go_region_with (fail)
  go_wp2_with fail
  all_goals
    have hsx := HX.out.store p.1 p.2
    have s0 : ((W.setCell ⟨w.heap.size, 0, none⟩ (.string p.1)).setCell ⟨w.heap.size, 1, none⟩ (.string p.2)).drew.cell? ⟨w.heap.size, 0, none⟩ = some (.string p.1) := hsx.c0
    have s1 : ((W.setCell ⟨w.heap.size, 0, none⟩ (.string p.1)).setCell ⟨w.heap.size, 1, none⟩ (.string p.2)).drew.cell? ⟨w.heap.size, 1, none⟩ = some (.string p.2) := hsx.c1
    (try simp only [Exit.inBlock, Exit.then])
    refine bodyPost_ret (v := .tuple #[.pointer xl, .agg #[.string p.1, .string p.2]]) (by simp [results, Try.results106, go_sem, s0, s1]) rfl ?_
    refine ⟨xl, l, p, rfl, BL.out, by simp [T.list], ?_, HA.out.trans (below_drew (below_stored (Nat.le_refl _)))⟩
    have K2 := (Kl.out.stored (k' := p.1) (v' := p.2) HX.out).drew
    exact K2.mono (Nat.le_of_eq (heap_stored (w := W)).symm)

set_option maxRecDepth 100000 in
set_option maxHeartbeats 3200000 in
theorem cutLast_more {w : World} {l r : T} {p : Pr} {x : Option Addr} (h : Knot w w.heap.size (.node l p r) x) (hr : r ≠ .nil) (hb : (T.node l p r).Bal) (hs : (T.node l p r).size ≤ 1073741822)
    (IH : ∀ (w : World) (x : Option Addr), Knot w w.heap.size r x → Calls Try.prog 106 #[.pointer x] w (CutOff r w)) :
    Calls Try.prog 106 #[.pointer x] w (CutOff (.node l p r) w) := by
  have HA := Lib.hid (below_alloc w (Obj.cells #[Value.string { data := #[] }, Value.string { data := #[] }] 87))
  have HX := Lib.hid (box_alloc w { data := #[] } { data := #[] } 87)
  obtain ⟨b, xl, xr, rfl, hbb, c0, c1, c2, c3, c4, c5, kl, kr⟩ := h.all HA.out
  obtain ⟨br, hxr⟩ : ∃ br, xr = some br := by
    cases r with
    | nil => exact absurd rfl hr
    | node a q b => obtain ⟨b, _, _, rfl, _⟩ := kr; exact ⟨_, rfl⟩
  subst hxr
  have Kl := Lib.hid kl
  have HI := Lib.hid (IH _ _ kr)
  have BL := Lib.hid hb.1
  have Hs := Lib.hid hs
  clear kl c4 c5 hb kr hs hr IH h
  go_enter Try.func106, Try.ntmps106
  go_wp2_with fail
  generalize w.alloc (Obj.cells #[Value.string { data := #[] }, Value.string { data := #[] }] 87) = W at *
  go_fit HI.out
  rintro e w1 ⟨v1, u, q, rfl, bu, hl, hk1, hb1⟩
  have hz : l.size + u.size ≤ 1073741822 := by
    have h1 := congrArg List.length hl
    rw [List.length_append, T.size_list, T.size_list] at h1
    have h2 := Hs.out
    simp only [T.size, List.length_cons, List.length_nil] at h1 h2
    omega
  have hA1 := below_alloc w1 (Obj.cells #[Value.string q.fst, Value.string q.snd] 87)
  have hbb := hb1.trans (hA1.mono hb1.size)
  have y := box_alloc w1 q.1 q.2 87
  have y0 := y.c0
  have y1 := y.c1
  have d0 := cell_later hbb c0
  have d1 := cell_later hbb c1
  have d2 := cell_later hbb c2
  have HX1 := Lib.hid (HX.out.later hbb)
  have x0 := HX1.out.c0
  have x1 := HX1.out.c1
  have x2 := HX1.out.f0
  have x3 := HX1.out.f1
  have HB2 := Lib.hid (HA.out.trans (hbb.mono HA.out.size))
  have HT := Lib.hid (join_any p ((Kl.out.all hbb).all (below_drew1 _)) ((hk1.all hA1).all (below_drew1 _)) BL.out bu hz)
  have HL := Lib.hid hl
  clear hb1 hk1 hl hbb c0 c1 c2 c3 HI Kl hA1 hz bu y HX HA
  go_wp2_with fail
  generalize w1.alloc (Obj.cells #[Value.string q.fst, Value.string q.snd] 87) = W2 at *
  go_region_with
    (first
      | (go_at_call 105; (with_reducible refine HT.out.mono ?_); rintro e w2 ⟨v2, t2, rfl, hj, hk2, hb2⟩; have hbd : Below W2.heap.size W2 w2 := (below_drew1 W2).trans hb2; have j0 := cell_later hbd d0; have j1 := cell_later hbd d1; have j2 := cell_later hbd d2; have j3 := cell_later hbd y0; have j4 := cell_later hbd y1; have HX3 := Lib.hid (HX1.out.later hbd); have j5 := HX3.out.c0; have j6 := HX3.out.c1; have j7 := HX3.out.f0; have j8 := HX3.out.f1; have HB3 := Lib.hid (HB2.out.trans (hbd.mono HB2.out.size)); have HJ := Lib.hid hj; have HK2 := Lib.hid hk2; clear hbd hb2 hj hk2))
  go_wp2_with fail
  all_goals
    have hsx := HX3.out.store q.1 q.2
    have s0 : ((w2.setCell ⟨w.heap.size, 0, none⟩ (.string q.1)).setCell ⟨w.heap.size, 1, none⟩ (.string q.2)).cell? ⟨w.heap.size, 0, none⟩ = some (.string q.1) := hsx.c0
    have s1 : ((w2.setCell ⟨w.heap.size, 0, none⟩ (.string q.1)).setCell ⟨w.heap.size, 1, none⟩ (.string q.2)).cell? ⟨w.heap.size, 1, none⟩ = some (.string q.2) := hsx.c1
    (try simp only [Exit.inBlock, Exit.then])
    refine bodyPost_ret (v := .tuple #[.pointer v2, .agg #[.string q.1, .string q.2]]) (by simp [results, Try.results106, go_sem, s0, s1]) rfl ?_
    refine ⟨v2, t2, q, rfl, HJ.out.bal, by rw [HJ.out.list]; simp [T.list, HL.out], ?_, HB3.out.trans (below_stored (Nat.le_refl _))⟩
    exact (HK2.out.stored HX3.out).mono (Nat.le_of_eq (heap_stored (w := w2)).symm)
end Go.Proofs.Ytdfjnpnkfjcpcaa
