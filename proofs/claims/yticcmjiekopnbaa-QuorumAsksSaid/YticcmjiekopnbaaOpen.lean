/-
  Arguments opened: ints, rosters, five ints.
-/
import Derived.Test.YticcmjiekopnbaaPost
import Derived.Test.YticcmjiekopnbaaW5
import Derived.Deep.Strs
import Derived.Lib.SmallJoins
namespace Go.Proofs.Yticcmjiekopnbaa
set_option linter.unusedVariables false
set_option linter.unusedSimpArgs false
open Go.ChangeShapes Go.WideShapes Go.ChangeAt Go.WideMaps Go.WideElems Go.RowKit

theorem list_of_each {α : Type} : ∀ (n : Nat) (P : Nat → α → Prop), (∀ i, i < n → ∃ x, P i x) → ∃ l : List α, l.length = n ∧ ∀ i x, l[i]? = some x → P i x
  | 0, P, _ => ⟨[], rfl, fun i x h => by simp at h⟩
  | n + 1, P, h => by
    obtain ⟨l, hl, hP⟩ := list_of_each n P (fun i hi => h i (by omega))
    obtain ⟨x, hx⟩ := h n (by omega)
    refine ⟨l ++ [x], by simp [hl], fun i y hy => ?_⟩
    rcases Nat.lt_or_ge i n with hi | hi
    · rw [List.getElem?_append_left (by omega)] at hy
      exact hP i y hy
    · rw [List.getElem?_append_right (by omega), hl] at hy
      have : i - n = 0 := by
        have := (List.getElem?_eq_some_iff.1 hy).1
        simp at this; omega
      rw [this] at hy
      obtain rfl : x = y := by simpa using hy
      obtain rfl : i = n := by omega
      exact hx

/-- A list of items, opened. -/
theorem opened_list {α : Type} {I : Lay α} {Q : α → Prop} {H : Type} {enc : TypeId × Value → H} {P : Program} {W : World} {T E : TypeId} (hT : P.underlying T = some (.slice E)) (hc : P.cellsOf E = I.sz) (hsz : 0 < I.sz)
    (each0 : ∀ (n : Nat) (cs : List Value) (y : DataW H × List MemPlace), DataW.trod enc P W 0 (fun _ => true) true n E cs = some y → ∃ x, cs = I.enc x ∧ Q x)
    {n : Nat} {v : Value} {y : DataW H × List MemPlace} (hf : DataW.trod enc P W 0 (fun _ => true) true n T [v] = some y) : ∃ l, I.In W v l ∧ ∀ x ∈ l, Q x := by
  rcases DataW.trod_slice hT hf with ⟨hcs, _⟩ | ⟨a, len, cap, elems, rest, k, _, hcs, _, hb, hl, hm, hlen, hel, _, _⟩
  · obtain rfl : v = .slice none 0 0 := by simpa using hcs
    exact ⟨[], Lay.In.nil W, fun x hx => by cases hx⟩
  · obtain rfl : v = .slice (some a) len cap := by simpa using hcs
    have each : ∀ i, i < len → ∃ x : α, (∀ j u, (I.enc x)[j]? = some u → W.cell? ((a.add (i * I.sz)).add j) = some u) ∧ Q x := by
      intro i hi
      have h := hel i hi
      rw [List.getElem?_eq_getElem (by omega), Option.bind_eq_some_iff, hc] at h
      obtain ⟨cs', hcs', hy⟩ := h
      obtain ⟨_, hcl, hcc⟩ := World.cells?_some hcs'
      obtain ⟨x, rfl, hq⟩ := each0 _ _ _ hy
      refine ⟨x, fun j u hu => ?_, hq⟩
      have hj : j < I.sz := by rw [← I.len x]; exact (List.getElem?_eq_some_iff.1 hu).1
      have := hcc j hj
      rw [this]
      exact hu
    obtain ⟨xs, hxl, hxs⟩ := list_of_each len _ each
    refine ⟨xs, ⟨some a, cap, by rw [hxl], by omega, by unfold maxLen at hm; omega, ?_⟩, fun x hx => ?_⟩
    · by_cases hn : len = 0
      · exact .inl (List.eq_nil_of_length_eq_zero (by omega))
      · obtain ⟨x, hc0, _⟩ := each 0 (by omega)
        have h0 := hc0 0 ((I.enc x)[0]'(by rw [I.len]; exact hsz)) (List.getElem?_eq_getElem _)
        obtain ⟨b, o, t⟩ := a
        obtain rfl : t = none := by simpa [Addr.add] using World.cell?_spot h0
        refine .inr ⟨b, o, rfl, ?_, fun i x hx j u hu => ?_⟩
        · have := World.block_lt_of_cell? W _ h0
          rw [Addr.add_lit, Addr.add_lit] at this
          exact this
        · have := (hxs i x hx).1 j u hu
          rw [Addr.add_lit, Addr.add_lit] at this
          exact this
    · obtain ⟨i, hi⟩ := List.mem_iff_getElem?.1 hx
      exact (hxs i x hi).2

section
variable {H : Type} {enc : TypeId × Value → H} {W : World}
theorem c_int : Try.prog.cellsOf 3 = 1 := by kernel_rfl
theorem c_ints : Try.prog.cellsOf 22 = 1 := by kernel_rfl
theorem c_ro : Try.prog.cellsOf 24 = 2 := by kernel_rfl
theorem c_five : Try.prog.cellsOf 38 = 5 := by kernel_rfl
theorem list2 {α : Type} {cs : List α} (h : cs.length = 2) : ∃ c0 c1, cs = [c0, c1] := by
  match cs, h with
  | [c0, c1], _ => exact ⟨c0, c1, rfl⟩
theorem list5 {α : Type} {cs : List α} (h : cs.length = 5) : ∃ c0 c1 c2 c3 c4, cs = [c0, c1, c2, c3, c4] := by
  match cs, h with
  | [c0, c1, c2, c3, c4], _ => exact ⟨c0, c1, c2, c3, c4, rfl⟩
theorem opened_ints {n : Nat} {v : Value} {y : DataW H × List MemPlace} (hf : DataW.trod enc Try.prog W 0 (fun _ => true) true n 22 [v] = some y) : ∃ l, intL.In W v l := by
  obtain ⟨l, h, _⟩ := opened_list (I := intL) (Q := fun _ => True) Try.underlying22 c_int (by decide) (fun n cs y h => by
    obtain ⟨x, e, _, _⟩ := DataW.trod_int Try.underlying3 h
    exact ⟨x, e, trivial⟩) hf
  exact ⟨l, h⟩
theorem open_ints' {v : Value} {d : DataW H} {p : List MemPlace} {r : Reach} {b0 : Nat} (hv : Value.okWide Try.prog W r b0 22 v) (h : DataW.Trod enc Try.prog W 0 (fun _ => true) true 22 v d p) : ∃ l, intL.In W v l := by
  obtain ⟨a, len, cap, rfl⟩ := okWide_slice Try.underlying22 hv
  obtain ⟨fuel, hf⟩ := h
  exact opened_ints (by simpa [Value.cells] using hf)
theorem opened_ro {n : Nat} {cs : List Value} {y : DataW H × List MemPlace} (hf : DataW.trod enc Try.prog W 0 (fun _ => true) true n 24 cs = some y) : ∃ u v vs ls, cs = [u, v] ∧ RoCs W u v vs ls := by
  obtain ⟨xs, m, _, rfl, hl, hlen, hfs⟩ := DataW.trod_struct Try.underlying24 hf
  rw [c_ro] at hl
  obtain ⟨v0, v1, rfl⟩ := list2 hl
  obtain ⟨y0, y1, rfl⟩ := list2 hlen
  have h0 := hfs 0 _ rfl
  have h1 := hfs 1 _ rfl
  simp [c_ints] at h0 h1
  obtain ⟨vs, i0⟩ := opened_ints h0
  obtain ⟨ls, i1⟩ := opened_ints h1
  exact ⟨v0, v1, vs, ls, rfl, i0, i1⟩
theorem open_ro {r : Reach} {b0 : Nat} {v : Value} {d : DataW H} {p : List MemPlace} (hv : Value.okWide Try.prog W r b0 24 v) (h : DataW.Trod enc Try.prog W 0 (fun _ => true) true 24 v d p) :
    ∃ x y vs ls, v = .agg #[x, y] ∧ RoCs W x y vs ls := by
  obtain ⟨cs, rfl, hsz⟩ := okWide_struct Try.underlying24 hv
  obtain ⟨fuel, hf⟩ := h
  obtain ⟨u, v, vs, ls, he, hr⟩ := opened_ro hf
  refine ⟨u, v, vs, ls, ?_, hr⟩
  simp [Value.cells] at he
  obtain ⟨l⟩ := cs
  simp at he
  rw [he]
theorem open_five {r : Reach} {b0 : Nat} {v : Value} {d : DataW H} {p : List MemPlace} (hv : Value.okWide Try.prog W r b0 38 v) (h : DataW.Trod enc Try.prog W 0 (fun _ => true) true 38 v d p) :
    ∃ F : Int → Int, v = .agg #[.int .i64 (F 0), .int .i64 (F 1), .int .i64 (F 2), .int .i64 (F 3), .int .i64 (F 4)] := by
  simp only [Value.okWide, Try.underlying38] at hv
  obtain ⟨cs, rfl, _⟩ := hv
  obtain ⟨fuel, hf⟩ := h
  obtain ⟨xs, m, _, _, hlen, hl, hel⟩ := DataW.trod_array Try.underlying38 hf
  rw [c_five] at hlen
  rw [c_int] at hel
  obtain ⟨l⟩ := cs
  obtain ⟨v0, v1, v2, v3, v4, e⟩ := list5 hlen
  obtain ⟨y0, y1, y2, y3, y4, rfl⟩ := list5 hl
  simp [Value.cells] at e
  subst e
  have k0 := hel 0 (by omega); have k1 := hel 1 (by omega); have k2 := hel 2 (by omega); have k3 := hel 3 (by omega); have k4 := hel 4 (by omega)
  simp [Value.cells] at k0 k1 k2 k3 k4
  obtain ⟨x0, e0, _, _⟩ := DataW.trod_int Try.underlying3 k0
  obtain ⟨x1, e1, _, _⟩ := DataW.trod_int Try.underlying3 k1
  obtain ⟨x2, e2, _, _⟩ := DataW.trod_int Try.underlying3 k2
  obtain ⟨x3, e3, _, _⟩ := DataW.trod_int Try.underlying3 k3
  obtain ⟨x4, e4, _, _⟩ := DataW.trod_int Try.underlying3 k4
  simp at e0 e1 e2 e3 e4
  subst e0 e1 e2 e3 e4
  exact ⟨fun n => if n = 0 then x0 else if n = 1 then x1 else if n = 2 then x2 else if n = 3 then x3 else x4, rfl⟩
end
end Go.Proofs.Yticcmjiekopnbaa
