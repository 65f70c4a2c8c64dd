/-
  A call put ahead of a law's calls.
-/
import Derived.Test.YtdfjnpnkfjcpcaaK11
import Derived.Test.YtdfjnpnkfjcpcaaK13
namespace Go.Proofs.Ytdfjnpnkfjcpcaa
set_option linter.unusedVariables false
set_option linter.unusedSimpArgs false
open Go.RowKit

/-- A list of items is told, whatever its room. -/
def Lay.In0 {α : Type} (I : Lay α) (w : World) (v : Value) (l : List α) : Prop := ∃ a c, v = .slice a l.length c ∧ (l = [] ∨ ∃ g off, a = some ⟨g, off, none⟩ ∧ I.At w g off l)
/-- 'append(l, more...)', l a row of one's own, however many more. -/
theorem wpList_catI0 {P : Program} {α : Type} {I : Lay α} {w : World} {B bytes : Nat} {v u zero : Value} {xs ys : List α} {ops : Array Oper} {rest : List Oper} {o : Oper} {a : Act} {Q : Exit → Act → World → Prop} (hgd : o.guard = none) (s x : Operand) (T E : TypeId)
    (ho : o.op = .call { callee := .builtin .append, args := #[s, x], argTypes := #[T, T] })
    (hT : P.underlying T = some (.slice E)) (hinfo : (P.info? E).map (fun i => (i.zero, i.size, i.bytes)) = some (some zero, I.sz, bytes)) (hz : zero.cells.size = I.sz) (hsz : 0 < I.sz)
    (hown : w.ownsRow B E I.sz v xs.length (I.all xs)) (hu : I.In0 w u ys) (hl : xs.length + ys.length ≤ 140737488355328) (hlb : (xs.length + ys.length) * bytes ≤ 140737488355328) (hB : B ≤ w.heap.size) (hs : a.eval s = v) (hx : a.eval x = u)
    (hk : ∀ v' w', w'.ownsRow B E I.sz v' (xs ++ ys).length (I.all (xs ++ ys)) → w.grownBy w' v.ownBlock → wpList P ops Q rest (a.put o.dst v') w') : wpList P ops Q (o :: rest) a w := by
  refine wpList_plain hgd fun _ hK => ?_
  obtain ⟨i0, hi, hz0, hz1, hz2⟩ := info_parts hinfo
  have main : ∃ v' w', (Builtin.append_ #[T, T] o.type #[v, u]).run P w = .ok v' w' ∧ w'.ownsRow B E I.sz v' (xs ++ ys).length (I.all (xs ++ ys)) ∧ w.grownBy w' v.ownBlock := by
    obtain ⟨a', c, rfl, hu⟩ := hu
    by_cases hy : ys = []
    · subst hy
      refine ⟨v, w, ?_, by rw [List.append_nil]; exact hown, World.grownBy.refl w _⟩
      rcases hown.2 with ⟨rfl, hn⟩ | ⟨g, cap, cur, rfl, _, _, hnc, _⟩
      · cases a' <;> simp [Builtin.append_, run_underlying hT, sizeOf, typeInfo, hi, Builtin.lenOf, Builtin.firstCells, loadCellsFrom, loadCells]
      · cases a' <;> simp [Builtin.append_, run_underlying hT, sizeOf, typeInfo, hi, Builtin.lenOf, Builtin.firstCells, hnc, storeCells, loadCellsFrom, loadCells]
    · obtain ⟨g, off, rfl, hp⟩ := hu.resolve_left hy
      obtain ⟨v', w', hr, h2, h3, _, h5⟩ := run_append_own_at (P := P) w B T o.type E i0 zero I.sz bytes hT hi hz0 hz1 hz2 hz hsz v xs.length (I.all xs) hown ⟨g, off, none⟩ ys.length c (I.all ys) (Lay.all_len I ys) (lay_cells hp) (Lay.all_ones I ys) (by unfold maxLen; omega) hlb hB
      exact ⟨v', w', hr, by rw [Lay.all_app, List.length_append]; exact h2, h3⟩
  obtain ⟨v', w', hr, h2, h3⟩ := main
  unfold Oper.wp execOp
  simp only [ho, resolve, invoke, builtin, Sem.run_bind, Sem.run_pure, Result.andThen_ok, List.map_toArray, List.map_cons, List.map_nil, hs, hx, hr]
  exact hK _ _ (hk v' w' h2 h3)

/-- A call as it lies in cells. -/
structure Kr where
  k : Kd
  ua : Option Addr
  uc : Nat
  va : Option Addr
  vc : Nat
def krCs (r : Kr) : List Value := [.int .i64 r.k.op, .int .i64 r.k.pos, .slice r.ua r.k.conds.length r.uc, .slice r.va r.k.ops.length r.vc, .string r.k.fr, .string r.k.to, .int .i64 r.k.ev.pos, .string r.k.ev.key, .bool r.k.ev.had, .string r.k.ev.old, .bool r.k.ev.has, .string r.k.ev.now]
def krL : Lay Kr := ⟨krCs, 12, fun _ => rfl, by intro o u hu; simp [krCs] at hu; rcases hu with rfl | rfl | rfl | rfl | rfl | rfl | rfl | rfl | rfl | rfl | rfl | rfl <;> rfl⟩
def Kr.In (w : World) (r : Kr) : Prop := opL.In w (.slice r.ua r.k.conds.length r.uc) r.k.conds ∧ opL.In w (.slice r.va r.k.ops.length r.vc) r.k.ops
theorem Kr.In.later {w w' : World} {r : Kr} (h : r.In w) (hb : Below w.heap.size w w') : r.In w' := ⟨h.1.later hb, h.2.later hb⟩
theorem kr_at {w : World} {g off : Nat} {k : Kd} (h : KdAt w g off k) : ∃ r : Kr, r.k = k ∧ r.In w ∧ ∀ j v, (krCs r)[j]? = some v → w.cell? ⟨g, off + j, none⟩ = some v := by
  obtain ⟨u, v, h0, h1, h2, h3, h4, h5, h6, h7, h8, h9, h10, h11, hu, hv⟩ := h
  obtain ⟨ua, uc, rfl, _, _⟩ := hu.slice
  obtain ⟨va, vc, rfl, _, _⟩ := hv.slice
  refine ⟨⟨k, ua, uc, va, vc⟩, rfl, ⟨hu, hv⟩, fun j x hx => ?_⟩
  match j, hx with
  | 0, hx => cases hx; exact h0
  | 1, hx => cases hx; exact h1
  | 2, hx => cases hx; exact h2
  | 3, hx => cases hx; exact h3
  | 4, hx => cases hx; exact h4
  | 5, hx => cases hx; exact h5
  | 6, hx => cases hx; exact h6
  | 7, hx => cases hx; exact h7
  | 8, hx => cases hx; exact h8
  | 9, hx => cases hx; exact h9
  | 10, hx => cases hx; exact h10
  | 11, hx => cases hx; exact h11
  | j + 12, hx => simp [krCs] at hx
theorem kr_list {w : World} : ∀ (ks : List Kd) (P : Nat → Kr → Prop), (∀ i k, ks[i]? = some k → ∃ r : Kr, r.k = k ∧ r.In w ∧ P i r) → ∃ rs : List Kr, rs.map (·.k) = ks ∧ (∀ r ∈ rs, r.In w) ∧ ∀ i r, rs[i]? = some r → P i r
  | [], P, _ => ⟨[], rfl, (fun r hr => by cases hr), fun i r hr => by simp at hr⟩
  | k :: ks, P, h => by
    obtain ⟨r, h1, h2, h3⟩ := h 0 k rfl
    obtain ⟨rs, g1, g2, g3⟩ := kr_list ks (fun i r => P (i + 1) r) (fun i x hx => h (i + 1) x (by simpa using hx))
    refine ⟨r :: rs, by rw [List.map_cons, h1, g1], fun x hx => ?_, fun i x hx => ?_⟩
    · rcases List.mem_cons.1 hx with rfl | hx
      · exact h2
      · exact g2 x hx
    · match i, hx with
      | 0, hx => simp at hx; subst hx; exact h3
      | i + 1, hx => exact g3 i x (by simpa using hx)
theorem KdsIn.raw {w : World} {v : Value} {ks : List Kd} (h : KdsIn w v ks) : ∃ rs : List Kr, rs.map (·.k) = ks ∧ (∀ r ∈ rs, r.In w) ∧ krL.In0 w v rs := by
  obtain ⟨a, c, rfl, h⟩ := h
  rcases h with rfl | ⟨g, off, rfl, h⟩
  · exact ⟨[], rfl, (fun r hr => by cases hr), a, c, rfl, .inl rfl⟩
  · obtain ⟨rs, h1, h2, h3⟩ := kr_list ks (fun i r => ∀ j v, (krCs r)[j]? = some v → w.cell? ⟨g, off + i * 12 + j, none⟩ = some v) (fun i k hk => kr_at (h i k hk))
    exact ⟨rs, h1, h2, _, c, by rw [← h1, List.length_map], .inr ⟨g, off, rfl, h3⟩⟩
theorem KdsIn.of_raw {w : World} {v : Value} {rs : List Kr} (h : krL.In0 w v rs) (hi : ∀ r ∈ rs, r.In w) : KdsIn w v (rs.map (·.k)) := by
  obtain ⟨a, c, rfl, h⟩ := h
  refine ⟨a, c, by rw [List.length_map], ?_⟩
  rcases h with rfl | ⟨g, off, rfl, h⟩
  · exact .inl rfl
  · refine .inr ⟨g, off, rfl, fun i k hk => ?_⟩
    rw [List.getElem?_map] at hk
    cases hr : rs[i]? with
    | none => rw [hr] at hk; cases hk
    | some r =>
      rw [hr] at hk
      obtain rfl : r.k = k := by simpa using hk
      have hc := h i r hr
      exact ⟨_, _, hc 0 _ rfl, hc 1 _ rfl, hc 2 _ rfl, hc 3 _ rfl, hc 4 _ rfl, hc 5 _ rfl, hc 6 _ rfl, hc 7 _ rfl, hc 8 _ rfl, hc 9 _ rfl, hc 10 _ rfl, hc 11 _ rfl, (hi r (List.mem_of_getElem? hr)).1, (hi r (List.mem_of_getElem? hr)).2⟩
theorem own_in0 {w : World} {B n : Nat} {v : Value} {rs : List Kr} {E : TypeId} (h : w.ownsRow B E krL.sz v n (krL.all rs)) (hn : n = rs.length) : krL.In0 w v rs := by
  obtain ⟨a, c, hv, _, _, h⟩ := Lay.in_own h hn
  refine ⟨a, c, hv, h.imp id ?_⟩
  rintro ⟨g, off, ha, _, h⟩
  exact ⟨g, off, ha, h⟩
theorem Try.infoDo : (Try.prog.info? 34).map (fun i => (i.zero, i.size, i.bytes)) = some (some (.agg #[.int .i64 0, .int .i64 0, .slice none 0 0, .slice none 0 0, .string ByteArray.empty, .string ByteArray.empty, .int .i64 0, .string ByteArray.empty, .bool false, .string ByteArray.empty, .bool false, .string ByteArray.empty]), 12, 168) := by kernel_rfl
/-- One call ahead of a list of calls. -/
theorem kds_ahead {w w0 w' : World} {v v' : Value} {ks : List Kd} {r0 : Kr} {rs : List Kr} {B : Nat} (hrs : rs.map (·.k) = ks) (h0 : r0.In w') (hi : ∀ r ∈ rs, r.In w') (hown : w'.ownsRow B 34 krL.sz v' ([r0] ++ rs).length (krL.all ([r0] ++ rs))) : KdsIn w' v' (r0.k :: ks) := by
  have := KdsIn.of_raw (own_in0 hown rfl) (fun r hr => by
    rcases List.mem_append.1 hr with hr | hr
    · obtain rfl : r = r0 := by simpa using hr
      exact h0
    · exact hi r hr)
  rw [← hrs]
  simpa using this
end Go.Proofs.Ytdfjnpnkfjcpcaa
