/-
  A group in new memory.
-/
import Derived.Test.YtdgnjalbpiciiaaG1
import Derived.Laws.ResultCell
namespace Go.Proofs.Ytdgnjalbpiciiaa
set_option linter.unusedVariables false
set_option linter.unusedSimpArgs false
open Go.RowKit Go.Shelf

theorem results_cell {fn : Func} {p : Tmp} {ty : TypeId} (h : fn.results = #[.cell p ty]) (tmps : Array Value) (P : Program) (w : World) :
    (results fn tmps).run P w = ((asAddr (tmps.getD p undef)).run P w).andThen fun a w₁ => (loadVar ty a).run P w₁ := by
  simp only [results, h]
  simp [Sem.run_bind, Result.andThen]
/-- A group that is told, in memory of its own since a world. -/
def OwnP (x : Gr) (w : World) (e : Ending) (w' : World) : Prop := ∃ u v t : Value, e = .returned (.agg #[.string x.name, .int .i64 x.sub, .int .i64 x.term, .int .i64 x.next, u, v, t]) ∧ Rw intL 3 w w' u x.members ∧ Rw intL 3 w w' v x.owners ∧ Rw intL 3 w w' t x.done
theorem own_apart {α : Type} {I : Lay α} {E : TypeId} {V V' : World} {v : Value} {l : List α} {b : Nat} (h : Rw I E V V' v l) (hb : b < V.heap.size) : v.ownBlock ≠ some b := fun e => by
  have := (h.lt b e).1; omega
theorem Rw.other {α : Type} {I : Lay α} {E : TypeId} {w0 w : World} {v : Value} {l : List α} {b i : Nat} {x : Value} (h : Rw I E w0 w v l) (hn : v.ownBlock ≠ some b) (hb : w0.heap.size ≤ b) : Rw I E w0 (w.setCell ⟨b, i, none⟩ x) v l :=
  ⟨ownsRow_setCell_other h.own (by simpa using hn) x, h.grown.setCell (p := ⟨b, i, none⟩) hb x⟩
theorem own_end {w V W3 : World} {c0 c1 c2 c3 c4 c5 c6 u1 u2 u3 : Value} {ys : List Value} {mm oo dd : List Int} (HX : DC V w.heap.size [c0, c1, c2, c3, c4, c5, c6]) (HY : DC V (w.heap.size + 1) ys) (R1 : Rw intL 3 w V u1 mm) (R2 : Rw intL 3 w V u2 oo) (R3 : Rw intL 3 w V u3 dd)
    (N1 : u1.ownBlock ≠ some w.heap.size ∧ u1.ownBlock ≠ some (w.heap.size + 1)) (N2 : u2.ownBlock ≠ some w.heap.size ∧ u2.ownBlock ≠ some (w.heap.size + 1)) (N3 : u3.ownBlock ≠ some w.heap.size ∧ u3.ownBlock ≠ some (w.heap.size + 1))
    (hW : ((V.setCell ⟨w.heap.size, 4, none⟩ u1).setCell ⟨w.heap.size, 5, none⟩ u2).setCell ⟨w.heap.size, 6, none⟩ u3 = W3) :
    DC W3 w.heap.size [c0, c1, c2, c3, u1, u2, u3] ∧ DC W3 (w.heap.size + 1) ys ∧ Rw intL 3 w W3 u1 mm ∧ Rw intL 3 w W3 u2 oo ∧ Rw intL 3 w W3 u3 dd := by
  subst hW
  refine ⟨((HX.set 4 u1 (by simp)).set 5 u2 (by simp)).set 6 u3 (by simp), ?_, ((R1.other N1.1 (Nat.le_refl _)).other N1.1 (Nat.le_refl _)).other N1.1 (Nat.le_refl _), ((R2.other N2.1 (Nat.le_refl _)).other N2.1 (Nat.le_refl _)).other N2.1 (Nat.le_refl _), ((R3.other N3.1 (Nat.le_refl _)).other N3.1 (Nat.le_refl _)).other N3.1 (Nat.le_refl _)⟩
  refine HY.keep (by simp) ?_
  rw [Below.heap_setCell _ _ _ _ (by simp), Below.heap_setCell _ _ _ _ (by simp), Below.heap_setCell _ _ _ _ (by simp)]
theorem own_last {w W3 W4 : World} {t : Nat} {ys cs : List Value} {u1 u2 u3 : Value} {mm oo dd : List Int} (R1 : Rw intL 3 w W3 u1 mm) (R2 : Rw intL 3 w W3 u2 oo) (R3 : Rw intL 3 w W3 u3 dd) (hb : Below W3.heap.size W3 W4) : Rw intL 3 w W4 u1 mm ∧ Rw intL 3 w W4 u2 oo ∧ Rw intL 3 w W4 u3 dd := ⟨R1.below hb, R2.below hb, R3.below hb⟩
set_option maxRecDepth 100000 in
set_option maxHeartbeats 6400000 in
theorem own_any {w : World} {x : Gr} {vm vo va : Value} (hm : intL.In w vm x.members) (ho : intL.In w vo x.owners) (ha : intL.In w va x.done) (lm : x.members.length ≤ 1000) (lo : x.owners.length ≤ 1000) (la : x.done.length ≤ 1000) :
    Calls Try.prog 56 #[.agg #[.string x.name, .int .i64 x.sub, .int .i64 x.term, .int .i64 x.next, vm, vo, va]] w (OwnP x w) := by
  obtain ⟨nm, sb, tm, nx, mm, oo, dd⟩ := x
  simp only at hm ho ha lm lo la ⊢
  obtain ⟨a1, c1, rfl, _, _⟩ := hm.slice
  obtain ⟨a2, c2, rfl, _, _⟩ := ho.slice
  obtain ⟨a3, c3, rfl, _, _⟩ := ha.slice
  have q1 : Hid (∀ V, Below w.heap.size w V → Calls Try.prog 27 #[.slice a1 mm.length c1] V (RwP mm V)) := fun V hV => Clone_any (hm.later hV) (by omega)
  have q2 : Hid (∀ V, Below w.heap.size w V → Calls Try.prog 27 #[.slice a2 oo.length c2] V (RwP oo V)) := fun V hV => Clone_any (ho.later hV) (by omega)
  have q3 : Hid (∀ V, Below w.heap.size w V → Calls Try.prog 27 #[.slice a3 dd.length c3] V (RwP dd V)) := fun V hV => Clone_any (ha.later hV) (by omega)
  clear hm ho ha
  generalize mm.length = n1 at *
  generalize oo.length = n2 at *
  generalize dd.length = n3 at *
  have hbW := (below_alloc w (.cells #[.string nm, .int .i64 sb, .int .i64 tm, .int .i64 nx, .slice a1 n1 c1, .slice a2 n2 c2, .slice a3 n3 c3] 45)).trans ((below_alloc _ (.cells #[.string ⟨#[]⟩, .int .i64 0, .int .i64 0, .int .i64 0, .slice none 0 0, .slice none 0 0, .slice none 0 0] 45)).mono (by simp))
  have hx := (DC.alloc w [.string nm, .int .i64 sb, .int .i64 tm, .int .i64 nx, .slice a1 n1 c1, .slice a2 n2 c2, .slice a3 n3 c3] 45).below (below_alloc _ (.cells #[.string ⟨#[]⟩, .int .i64 0, .int .i64 0, .int .i64 0, .slice none 0 0, .slice none 0 0, .slice none 0 0] 45))
  have hy := DC.alloc (w.alloc (.cells #[.string nm, .int .i64 sb, .int .i64 tm, .int .i64 nx, .slice a1 n1 c1, .slice a2 n2 c2, .slice a3 n3 c3] 45)) [.string ⟨#[]⟩, .int .i64 0, .int .i64 0, .int .i64 0, .slice none 0 0, .slice none 0 0, .slice none 0 0] 45
  have hs1 : (w.alloc (.cells #[.string nm, .int .i64 sb, .int .i64 tm, .int .i64 nx, .slice a1 n1 c1, .slice a2 n2 c2, .slice a3 n3 c3] 45)).heap.size = w.heap.size + 1 := by simp
  rw [hs1] at hy
  clear hs1
  go_enter Try.func56, Try.ntmps56
  go_upto_region 1 with fail
  generalize (w.alloc (.cells #[.string nm, .int .i64 sb, .int .i64 tm, .int .i64 nx, .slice a1 n1 c1, .slice a2 n2 c2, .slice a3 n3 c3] 45)).alloc (.cells #[.string ⟨#[]⟩, .int .i64 0, .int .i64 0, .int .i64 0, .slice none 0 0, .slice none 0 0, .slice none 0 0] 45) = W at *
  have C1 := q1
  have C2 := q2
  have C3 := q3
  clear q1 q2 q3
  have hbV := below_drew hbW
  replace hx := hx.below (below_drew1 W)
  replace hy := hy.below (below_drew1 W)
  have k4 := hx.cells 4 _ rfl
  have k5 := hx.cells 5 _ rfl
  have k6 := hx.cells 6 _ rfl
  have z4 := hx.fz 4
  have z5 := hx.fz 5
  have z6 := hx.fz 6
  have HX := Lib.hid hx
  have HY := Lib.hid hy
  clear hx hy hbW
  have T := True.intro
  go_region_law (first
    | (go_simp; (with_reducible refine (C1.out _ hbV).mono ?_); rintro e w2 ⟨u1, rfl, R1⟩; obtain ⟨e1, d1, rfl, _, _⟩ := R1.slice; have N1 := And.intro (own_apart R1 HX.out.lt) (own_apart R1 HY.out.lt); have G1 := R1.grown; replace R1 := R1.base hbV; replace k4 := cell_later G1 k4; replace k5 := cell_later G1 k5; replace k6 := cell_later G1 k6; replace HX := Lib.hid (HX.out.below G1); replace HY := Lib.hid (HY.out.below G1); replace z4 := HX.out.fz 4; replace z5 := HX.out.fz 5; replace z6 := HX.out.fz 6; replace hbV := hbV.trans (G1.mono hbV.size); (try replace R2 := R2.below G1); (try replace R3 := R3.below G1); clear G1)
    | (go_simp; (with_reducible refine (C2.out _ hbV).mono ?_); rintro e w2 ⟨u2, rfl, R2⟩; obtain ⟨e2, d2, rfl, _, _⟩ := R2.slice; have N2 := And.intro (own_apart R2 HX.out.lt) (own_apart R2 HY.out.lt); have G2 := R2.grown; replace R2 := R2.base hbV; replace k4 := cell_later G2 k4; replace k5 := cell_later G2 k5; replace k6 := cell_later G2 k6; replace HX := Lib.hid (HX.out.below G2); replace HY := Lib.hid (HY.out.below G2); replace z4 := HX.out.fz 4; replace z5 := HX.out.fz 5; replace z6 := HX.out.fz 6; replace hbV := hbV.trans (G2.mono hbV.size); (try replace R1 := R1.below G2); (try replace R3 := R3.below G2); clear G2)
    | (go_simp; (with_reducible refine (C3.out _ hbV).mono ?_); rintro e w2 ⟨u3, rfl, R3⟩; obtain ⟨e3, d3, rfl, _, _⟩ := R3.slice; have N3 := And.intro (own_apart R3 HX.out.lt) (own_apart R3 HY.out.lt); have G3 := R3.grown; replace R3 := R3.base hbV; replace k4 := cell_later G3 k4; replace k5 := cell_later G3 k5; replace k6 := cell_later G3 k6; replace HX := Lib.hid (HX.out.below G3); replace HY := Lib.hid (HY.out.below G3); replace z4 := HX.out.fz 4; replace z5 := HX.out.fz 5; replace z6 := HX.out.fz 6; replace hbV := hbV.trans (G3.mono hbV.size); (try replace R1 := R1.below G3); (try replace R2 := R2.below G3); clear G3))
  all_goals
    generalize hW : World.setCell _ _ _ = W3
    obtain ⟨X3, Y3, S1, S2, S3⟩ := own_end HX.out HY.out R1 R2 R3 N1 N2 N3 hW
    have HS := Lib.hid (⟨S1, S2, S3, N1.2, N2.2, N3.2⟩ : _ ∧ _ ∧ _ ∧ _ ∧ _ ∧ _)
    have x0 := X3.cells 0 _ rfl
    have x1 := X3.cells 1 _ rfl
    have x2 := X3.cells 2 _ rfl
    have x3 := X3.cells 3 _ rfl
    have x4 := X3.cells 4 _ rfl
    have x5 := X3.cells 5 _ rfl
    have x6 := X3.cells 6 _ rfl
    have y0 := Y3.cells 0 _ rfl
    have y1 := Y3.cells 1 _ rfl
    have y2 := Y3.cells 2 _ rfl
    have y3 := Y3.cells 3 _ rfl
    have y4 := Y3.cells 4 _ rfl
    have y5 := Y3.cells 5 _ rfl
    have y6 := Y3.cells 6 _ rfl
    have f0 := Y3.fz 0
    have f1 := Y3.fz 1
    have f2 := Y3.fz 2
    have f3 := Y3.fz 3
    have f4 := Y3.fz 4
    have f5 := Y3.fz 5
    have f6 := Y3.fz 6
    clear hW R1 R2 R3 N1 N2 N3 HX HY S1 S2 S3 hbV k4 k5 k6 z4 z5 z6 X3 Y3
    go_simp
    go_wp2_with fail
    refine bodyPost_ret (v := .agg #[.string nm, .int .i64 sb, .int .i64 tm, .int .i64 nx, .slice e1 mm.length d1, .slice e2 oo.length d2, .slice e3 dd.length d3]) ?_ rfl ?_
    · rw [results_cell rfl]
      go_simp
    · obtain ⟨S1, S2, S3, N1, N2, N3⟩ := HS.out
      refine ⟨_, _, _, rfl, ?_, ?_, ?_⟩
      · repeat (refine Rw.other ?_ N1 (Nat.le_succ _))
        exact S1
      · repeat (refine Rw.other ?_ N2 (Nat.le_succ _))
        exact S2
      · repeat (refine Rw.other ?_ N3 (Nat.le_succ _))
        exact S3
end Go.Proofs.Ytdgnjalbpiciiaa
