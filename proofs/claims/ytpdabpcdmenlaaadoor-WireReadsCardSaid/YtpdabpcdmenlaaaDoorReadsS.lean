/-
  WireReads' walk, whole; an argument of type []Ask, opened; where a slice lies.
-/
import Derived.Test.YtpdabpcdmenlaaaDoorReadsZ
import Derived.Test.YtpdabpcdmenlaaaDoorPost
import Derived.Deep.Strs
namespace Go.Proofs.YtpdabpcdmenlaaaDoor
set_option linter.unusedVariables false
set_option linter.unusedSimpArgs false
open Go.ChangeShapes Go.WideShapes Go.ChangeAt Go.WideMaps Go.WideElems Go.RowKit

theorem shape_block {w : World} {b : Nat} {x : TypeId × Nat} (h : w.shape? b = some x) : b < w.heap.size := by
  rcases Nat.lt_or_ge b w.heap.size with h1 | h1
  · exact h1
  · unfold World.shape? at h
    rw [Array.getElem?_eq_none h1] at h
    simp at h

theorem slice_block {W : World} {base : Nat} {t e : TypeId} {a : Addr} {len cap : Nat} (hu : Tryd.prog.underlying t = some (.slice e)) (h : Value.okWide Tryd.prog W .any base t (.slice (some a) len cap)) : a.block < W.heap.size := by
  unfold Value.okWide Cell.okWide Cell.ok at h
  simp only [hu] at h
  obtain ⟨_, _, _, _, row, cells, hs, _⟩ := h
  exact shape_block hs

/-- What the asks are. -/
def AsksIn (w : World) (q : Option Addr) (m : Nat) : Prop :=
  0 < m → ∃ lb lo, q = some ⟨lb, lo, none⟩ ∧ lb < w.heap.size ∧ ∀ t, t < m → ∃ x y z : Int, w.cell? ⟨lb, lo + t * 3, none⟩ = some (.int .i64 x) ∧ w.cell? ⟨lb, lo + t * 3 + 1, none⟩ = some (.int .i64 y) ∧ w.cell? ⟨lb, lo + t * 3 + 2, none⟩ = some (.int .i64 z) ∧ -9223372036854775808 ≤ z ∧ z ≤ 9223372036854775807

theorem opened_asks {H : Type} {enc : TypeId × Value → H} {W : World} {a0 : Option Addr} {len cap : Nat} {d0 : DataW H} {p : List MemPlace}
    (h0 : DataW.Trod enc Tryd.prog W 0 (fun _ => true) true 40 (.slice a0 len cap) d0 p) : AsksIn W a0 len := by
  obtain ⟨fuel, hf⟩ := h0
  have c3 : Tryd.prog.cellsOf 47 = 3 := by kernel_rfl
  have c1 : Tryd.prog.cellsOf 3 = 1 := by kernel_rfl
  rcases DataW.trod_slice Tryd.underlying40 hf with ⟨hcs, _⟩ | ⟨a, len', cap', elems, rest, k, _, hcs, _, hb, hl, hm, hlen, hel, _, _⟩
  · simp [Value.cells] at hcs
    obtain ⟨rfl, rfl, rfl⟩ := hcs
    exact fun h => absurd h (by omega)
  · simp [Value.cells] at hcs
    obtain ⟨rfl, rfl, rfl⟩ := hcs
    have each : ∀ i, i < len → ∃ x y z : Int, W.cell? ((a.add (i * 3)).add 0) = some (.int .i64 x) ∧ W.cell? ((a.add (i * 3)).add 1) = some (.int .i64 y) ∧ W.cell? ((a.add (i * 3)).add 2) = some (.int .i64 z) ∧ -9223372036854775808 ≤ z ∧ z ≤ 9223372036854775807 := by
      intro i hi
      have h := hel i hi
      rw [List.getElem?_eq_getElem (by omega), Option.bind_eq_some_iff, c3] at h
      obtain ⟨cs, hc, hy⟩ := h
      obtain ⟨_, hcl, hcc⟩ := World.cells?_some hc
      obtain ⟨y0, y1, y2, n', _, _, h0, h1, h2⟩ := Go.Deep.trod_struct3 Tryd.underlying47 hy
      obtain ⟨x, e0, _, _⟩ := DataW.trod_int Tryd.underlying3 h0
      obtain ⟨y, e1, _, _⟩ := DataW.trod_int Tryd.underlying3 h1
      obtain ⟨z, e2, _, wz⟩ := DataW.trod_int Tryd.underlying3 h2
      match cs, hcl with
      | [v0, v1, v2], _ =>
        simp [c1] at e0 e1 e2
        subst e0 e1 e2
        simp only [Lit.wf, Bool.and_eq_true, decide_eq_true_eq] at wz
        exact ⟨x, y, z, hcc 0 (by omega), hcc 1 (by omega), hcc 2 (by omega), wz.1, wz.2⟩
    intro hn
    obtain ⟨x, y, z, hc, _⟩ := each 0 hn
    obtain ⟨b, o, t⟩ := a
    obtain rfl : t = none := by simpa [Addr.add] using World.cell?_spot hc
    refine ⟨b, o, rfl, World.block_lt_of_cell? W _ hc, fun i hi => ?_⟩
    obtain ⟨x, y, z, e0, e1, e2, b1, b2⟩ := each i hi
    simp only [addLit, Nat.add_zero] at e0 e1 e2
    exact ⟨x, y, z, e0, e1, e2, b1, b2⟩

theorem Reads_all (p q : Option Addr) (n c m d : Nat) (xs : List Int) (w : World) (hT : TabIn w) (hx : xs.length = n) (hb : Lib.BytesIn w p n xs) (hp : p = none → n = 0 ∧ c = 0) (hpb : ∀ ad, p = some ad → ad.block < w.heap.size) (hr : ∀ x ∈ xs, 0 ≤ x ∧ x < 256) (hnc : n ≤ c) (hA : AsksIn w q m) :
    Calls Tryd.prog 6 #[.slice p n c, .slice q m d] w (Yes w) := by
  by_cases hn : 65536 < n
  · exact Reads_far p q n c m d w hT (.inl hn)
  by_cases hm : 1000 < m
  · exact Reads_far p q n c m d w hT (.inr ⟨by omega, hm⟩)
  rcases Nat.eq_zero_or_pos m with h0 | h0
  · subst h0
    exact Reads_zero p q n c d xs w hT hx hb hp hpb hr hnc (by omega)
  · obtain ⟨lb, lo, rfl, hlb, hA⟩ := hA h0
    exact Reads_near p _ n c m d xs w hT hx hb hp hpb hr hnc (by omega) (by omega) lb lo rfl hlb hA

end Go.Proofs.YtpdabpcdmenlaaaDoor
