/-
  A whole list put behind a row of one's own.
-/
import Derived.Test.YtdgnjalbpiciiaaLs
import Derived.Maps.OwnRows
namespace Go.Proofs.Ytdgnjalbpiciiaa
set_option linter.unusedVariables false
set_option linter.unusedSimpArgs false
open Go.RowKit

theorem lay_cells {α : Type} {I : Lay α} {w : World} {g off : Nat} {ys : List α} (h : I.At w g off ys) : ∀ j u, (I.all ys)[j]? = some u → w.cell? ((⟨g, off, none⟩ : Addr).add j) = some u := by
  intro j u hj
  rw [lay_add]
  have hlt : j < (I.all ys).length := (List.getElem?_eq_some_iff.1 hj).1
  rw [Lay.all_len] at hlt
  have hsz : 0 < I.sz := by
    rcases Nat.eq_zero_or_pos I.sz with e | e
    · rw [e] at hlt; omega
    · exact e
  have hd : j / I.sz < ys.length := by
    rw [Nat.div_lt_iff_lt_mul hsz]; exact hlt
  have hm : j % I.sz < I.sz := Nat.mod_lt _ hsz
  have e : j / I.sz * I.sz + j % I.sz = j := by rw [Nat.mul_comm]; exact Nat.div_add_mod j I.sz
  have hat := Lay.all_at I ys (j / I.sz) (j % I.sz) hm
  rw [e, hj, List.getElem?_eq_getElem hd] at hat
  have := h (j / I.sz) _ (List.getElem?_eq_getElem hd) (j % I.sz) u hat.symm
  rw [← this]
  congr 2
  omega

/-- 'append(l, more...)', l a row of one's own. -/
theorem wpList_catI {P : Program} {α : Type} {I : Lay α} {w : World} {B bytes : Nat} {v u zero : Value} {xs ys : List α} {ops : Array Oper} {rest : List Oper} {o : Oper} {a : Act} {Q : Exit → Act → World → Prop} (hgd : o.guard = none) (s x : Operand) (T E : TypeId)
    (ho : o.op = .call { callee := .builtin .append, args := #[s, x], argTypes := #[T, T] })
    (hT : P.underlying T = some (.slice E)) (hinfo : (P.info? E).map (fun i => (i.zero, i.size, i.bytes)) = some (some zero, I.sz, bytes)) (hz : zero.cells.size = I.sz) (hsz : 0 < I.sz) (hb : bytes ≤ 65536)
    (hown : w.ownsRow B E I.sz v xs.length (I.all xs)) (hu : I.In w u ys) (hl : xs.length + ys.length ≤ 1073741825) (hB : B ≤ w.heap.size) (hs : a.eval s = v) (hx : a.eval x = u)
    (hk : ∀ v' w', w'.ownsRow B E I.sz v' (xs ++ ys).length (I.all (xs ++ ys)) → w.grownBy w' v.ownBlock → wpList P ops Q rest (a.put o.dst v') w') : wpList P ops Q (o :: rest) a w := by
  refine wpList_plain hgd fun _ hK => ?_
  obtain ⟨i0, hi, hz0, hz1, hz2⟩ := info_parts hinfo
  have main : ∃ v' w', (Builtin.append_ #[T, T] o.type #[v, u]).run P w = .ok v' w' ∧ w'.ownsRow B E I.sz v' (xs ++ ys).length (I.all (xs ++ ys)) ∧ w.grownBy w' v.ownBlock := by
    obtain ⟨a', c, rfl, hc1, hc2, hu⟩ := hu
    by_cases hy : ys = []
    · subst hy
      refine ⟨v, w, ?_, by rw [List.append_nil]; exact hown, World.grownBy.refl w _⟩
      rcases hown.2 with ⟨rfl, hn⟩ | ⟨g, cap, cur, rfl, _, _, hnc, _⟩
      · cases a' <;> simp [Builtin.append_, run_underlying hT, sizeOf, typeInfo, hi, Builtin.lenOf, Builtin.firstCells, loadCellsFrom, loadCells]
      · cases a' <;> simp [Builtin.append_, run_underlying hT, sizeOf, typeInfo, hi, Builtin.lenOf, Builtin.firstCells, hnc, storeCells, loadCellsFrom, loadCells]
    · obtain ⟨g, off, rfl, _, hp⟩ := hu.resolve_left hy
      obtain ⟨v', w', hr, h2, h3, _, h5⟩ := run_append_own_at (P := P) w B T o.type E i0 zero I.sz bytes hT hi hz0 hz1 hz2 hz hsz v xs.length (I.all xs) hown ⟨g, off, none⟩ ys.length c (I.all ys) (Lay.all_len I ys) (lay_cells hp) (Lay.all_ones I ys) (by unfold maxLen; omega) (Nat.le_trans (Nat.mul_le_mul hl hb) (by decide)) hB
      exact ⟨v', w', hr, by rw [Lay.all_app, List.length_append]; exact h2, h3⟩
  obtain ⟨v', w', hr, h2, h3⟩ := main
  unfold Oper.wp execOp
  simp only [ho, resolve, invoke, builtin, Sem.run_bind, Sem.run_pure, Result.andThen_ok, List.map_toArray, List.map_cons, List.map_nil, hs, hx, hr]
  exact hK _ _ (hk v' w' h2 h3)
end Go.Proofs.Ytdgnjalbpiciiaa
