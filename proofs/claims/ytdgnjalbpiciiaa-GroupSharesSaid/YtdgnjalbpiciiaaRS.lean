/-
  The document's Share walked.
-/
import Derived.Test.YtdgnjalbpiciiaaRM
import Derived.Test.YtdgnjalbpiciiaaEvenW
import Derived.BigQuiet
namespace Go.Proofs.Ytdgnjalbpiciiaa
set_option linter.unusedVariables false
set_option linter.unusedSimpArgs false
open Go.RowKit Go.Shelf

/-- A row of bools. -/
def BRow (w : World) (g : Nat) (l : List Bool) : Prop := w.heap[g]? = some (.cells (l.map Value.bool).toArray 4 (0, 0))
theorem BRow.lt {w : World} {g : Nat} {l : List Bool} (h : BRow w g l) : g < w.heap.size := (Array.getElem?_eq_some_iff.1 h).1
theorem BRow.cell {w : World} {g : Nat} {l : List Bool} (h : BRow w g l) {i : Nat} {x : Bool} (hx : l[i]? = some x) : w.cell? ⟨g, i, none⟩ = some (.bool x) := by
  rw [cell_of_row w g _ _ _ _ h]
  simp [hx]
theorem BRow.fz {w : World} {g : Nat} {l : List Bool} (h : BRow w g l) (i : Nat) : w.frozen? ⟨g, i, none⟩ = false := frozen_of_row w g i _ _ h
theorem BRow.kept {w w' : World} {g : Nat} {l : List Bool} (h : BRow w g l) (hk : w'.heap[g]? = w.heap[g]?) : BRow w' g l := hk.trans h
theorem BRow.below {w w' : World} {g : Nat} {l : List Bool} (h : BRow w g l) (hb : Below w.heap.size w w') : BRow w' g l := h.kept (hb.block g h.lt)
theorem BRow.set {w : World} {g : Nat} {l : List Bool} (h : BRow w g l) (i : Nat) (x : Bool) : BRow (w.setCell ⟨g, i, none⟩ (.bool x)) g (l.set i x) := by
  unfold BRow
  rw [heap_setCell_same w g i _ _ _ h]
  congr 2
  simp
theorem BRow.made (w : World) (n : Nat) : BRow (w.alloc (.cells (madeCells #[.bool false] n) 4)) w.heap.size (List.replicate n false) := by
  unfold BRow
  rw [Go.heap_alloc_new]
  congr 2
  apply Array.ext
  · simp [size_madeCells]
  · intro i h1 h2
    simp [madeCells, Nat.mod_one]
theorem infoBool : (Try.prog.info? 4).map (fun i => (i.zero, i.size, i.bytes)) = some (some (.bool false), 1, 1) := by kernel_rfl
theorem exR_zero (o t : List Int) : exR o t 0 = List.replicate t.length false := by
  unfold exR
  apply List.ext_getElem?
  intro i
  rw [List.getElem?_map, List.getElem?_replicate]
  by_cases h : i < t.length
  · rw [List.getElem?_eq_getElem h, if_pos h]; simp
  · rw [List.getElem?_eq_none (by omega), if_neg h]; rfl

/-- What stands between the document's steps: its row of owners, what each may have, who was taken. -/
structure SW (w1 w : World) (out may : List Int) (ex : List Bool) : Prop where
  out : IRow w w1.heap.size out
  may : IRow w (w1.heap.size + 1) may
  ex : BRow w (w1.heap.size + 1 + 1) ex
  bel : Below w1.heap.size w1 w
theorem SW.drewN {w1 w : World} {out may : List Int} {ex : List Bool} (h : SW w1 w out may ex) (n : Nat) : SW w1 (w.drewN n) out may ex := ⟨h.out, h.may, h.ex, below_drewN h.bel n⟩
theorem SW.setOut {w1 w : World} {out may : List Int} {ex : List Bool} (h : SW w1 w out may ex) (i : Nat) (x : Int) : SW w1 (w.setCell ⟨w1.heap.size, i, none⟩ (.int .i64 x)) (out.set i x) may ex :=
  ⟨h.out.set i x, h.may.kept (Below.heap_setCell _ _ _ _ (by dsimp only; omega)), h.ex.kept (Below.heap_setCell _ _ _ _ (by dsimp only; omega)), h.bel.setCell (p := ⟨w1.heap.size, i, none⟩) (Nat.le_refl _) _⟩
theorem SW.setMay {w1 w : World} {out may : List Int} {ex : List Bool} (h : SW w1 w out may ex) (i : Nat) (x : Int) : SW w1 (w.setCell ⟨w1.heap.size + 1, i, none⟩ (.int .i64 x)) out (may.set i x) ex :=
  ⟨h.out.kept (Below.heap_setCell _ _ _ _ (by dsimp only; omega)), h.may.set i x, h.ex.kept (Below.heap_setCell _ _ _ _ (by dsimp only; omega)), h.bel.setCell (p := ⟨w1.heap.size + 1, i, none⟩) (by show _ ≤ w1.heap.size + 1; omega) _⟩
theorem SW.setEx {w1 w : World} {out may : List Int} {ex : List Bool} (h : SW w1 w out may ex) (i : Nat) (x : Bool) : SW w1 (w.setCell ⟨w1.heap.size + 1 + 1, i, none⟩ (.bool x)) out may (ex.set i x) :=
  ⟨h.out.kept (Below.heap_setCell _ _ _ _ (by dsimp only; omega)), h.may.kept (Below.heap_setCell _ _ _ _ (by dsimp only; omega)), h.ex.set i x, h.bel.setCell (p := ⟨w1.heap.size + 1 + 1, i, none⟩) (by show _ ≤ w1.heap.size + 1 + 1; omega) _⟩
theorem SW.made (w1 : World) (n t : Nat) : SW w1 (((w1.alloc (.cells (madeCells #[.int .i64 0] n) 3)).alloc (.cells (madeCells #[.int .i64 0] t) 3)).alloc (.cells (madeCells #[.bool false] t) 4)) (List.replicate n 0) (List.replicate t 0) (List.replicate t false) := by
  have h1 := IRow.made w1 n
  have b1 := below_alloc w1 (.cells (madeCells #[.int .i64 0] n) 3)
  have s1 : (w1.alloc (.cells (madeCells #[.int .i64 0] n) 3)).heap.size = w1.heap.size + 1 := by simp
  generalize w1.alloc _ = w2 at *
  have h2 := IRow.made w2 t
  have b2 := below_alloc w2 (.cells (madeCells #[.int .i64 0] t) 3)
  have s2 : (w2.alloc (.cells (madeCells #[.int .i64 0] t) 3)).heap.size = w2.heap.size + 1 := by simp
  rw [s1] at h2
  have h1' := h1.below b2
  generalize w2.alloc _ = w3 at *
  have h3 := BRow.made w3 t
  have b3 := below_alloc w3 (.cells (madeCells #[.bool false] t) 4)
  rw [s2, s1] at h3
  have b12 := b1.trans (b2.mono b1.size)
  exact ⟨h1'.below b3, h2.below b3, h3, b12.trans (b3.mono b12.size)⟩
end Go.Proofs.Ytdgnjalbpiciiaa
