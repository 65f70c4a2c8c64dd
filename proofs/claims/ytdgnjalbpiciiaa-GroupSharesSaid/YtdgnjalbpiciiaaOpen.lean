/-
  Arguments opened: ints.
-/
import Derived.Test.YtdgnjalbpiciiaaPost
import Derived.Deep.Strs
import Derived.Lib.SmallJoins
namespace Go.Proofs.Ytdgnjalbpiciiaa
set_option linter.unusedVariables false
set_option linter.unusedSimpArgs false
open Go.ChangeShapes Go.WideShapes Go.ChangeAt Go.WideMaps Go.WideElems Go.RowKit

theorem list_of_each {α : Type} : ∀ (n : Nat) (P : Nat → α → Prop), (∀ i, i < n → ∃ x, P i x) → ∃ l : List α, l.length = n ∧ ∀ i x, l[i]? = some x → P i x
  | 0, P, _ => ⟨[], rfl, fun i x h => by simp at h⟩
  | n + 1, P, h => by
    obtain ⟨l, hl, hP⟩ := list_of_each n P (fun i hi => h i (by omega))
    obtain ⟨x, hx⟩ := h n (by omega)
    refine ⟨l ++ [x], by simp [hl], fun i y hy => ?_⟩
    rcases Nat.lt_or_ge i n with hi | hi
    · rw [List.getElem?_append_left (by omega)] at hy
      exact hP i y hy
    · rw [List.getElem?_append_right (by omega), hl] at hy
      have : i - n = 0 := by
        have := (List.getElem?_eq_some_iff.1 hy).1
        simp at this; omega
      rw [this] at hy
      obtain rfl : x = y := by simpa using hy
      obtain rfl : i = n := by omega
      exact hx

/-- A list of items, opened. -/
theorem opened_list {α : Type} {I : Lay α} {Q : α → Prop} {H : Type} {enc : TypeId × Value → H} {P : Program} {W : World} {T E : TypeId} (hT : P.underlying T = some (.slice E)) (hc : P.cellsOf E = I.sz) (hsz : 0 < I.sz)
    (each0 : ∀ (n : Nat) (cs : List Value) (y : DataW H × List MemPlace), DataW.trod enc P W 0 (fun _ => true) true n E cs = some y → ∃ x, cs = I.enc x ∧ Q x)
    {n : Nat} {v : Value} {y : DataW H × List MemPlace} (hf : DataW.trod enc P W 0 (fun _ => true) true n T [v] = some y) : ∃ l, I.In W v l ∧ ∀ x ∈ l, Q x := by
  rcases DataW.trod_slice hT hf with ⟨hcs, _⟩ | ⟨a, len, cap, elems, rest, k, _, hcs, _, hb, hl, hm, hlen, hel, _, _⟩
  · obtain rfl : v = .slice none 0 0 := by simpa using hcs
    exact ⟨[], Lay.In.nil W, fun x hx => by cases hx⟩
  · obtain rfl : v = .slice (some a) len cap := by simpa using hcs
    have each : ∀ i, i < len → ∃ x : α, (∀ j u, (I.enc x)[j]? = some u → W.cell? ((a.add (i * I.sz)).add j) = some u) ∧ Q x := by
      intro i hi
      have h := hel i hi
      rw [List.getElem?_eq_getElem (by omega), Option.bind_eq_some_iff, hc] at h
      obtain ⟨cs', hcs', hy⟩ := h
      obtain ⟨_, hcl, hcc⟩ := World.cells?_some hcs'
      obtain ⟨x, rfl, hq⟩ := each0 _ _ _ hy
      refine ⟨x, fun j u hu => ?_, hq⟩
      have hj : j < I.sz := by rw [← I.len x]; exact (List.getElem?_eq_some_iff.1 hu).1
      have := hcc j hj
      rw [this]
      exact hu
    obtain ⟨xs, hxl, hxs⟩ := list_of_each len _ each
    refine ⟨xs, ⟨some a, cap, by rw [hxl], by omega, by unfold maxLen at hm; omega, ?_⟩, fun x hx => ?_⟩
    · by_cases hn : len = 0
      · exact .inl (List.eq_nil_of_length_eq_zero (by omega))
      · obtain ⟨x, hc0, _⟩ := each 0 (by omega)
        have h0 := hc0 0 ((I.enc x)[0]'(by rw [I.len]; exact hsz)) (List.getElem?_eq_getElem _)
        obtain ⟨b, o, t⟩ := a
        obtain rfl : t = none := by simpa [Addr.add] using World.cell?_spot h0
        refine .inr ⟨b, o, rfl, ?_, fun i x hx j u hu => ?_⟩
        · have := World.block_lt_of_cell? W _ h0
          rw [Addr.add_lit, Addr.add_lit] at this
          exact this
        · have := (hxs i x hx).1 j u hu
          rw [Addr.add_lit, Addr.add_lit] at this
          exact this
    · obtain ⟨i, hi⟩ := List.mem_iff_getElem?.1 hx
      exact (hxs i x hi).2

section
variable {H : Type} {enc : TypeId × Value → H} {W : World}
theorem c_int : Try.prog.cellsOf 3 = 1 := by kernel_rfl
theorem c_ints : Try.prog.cellsOf 43 = 1 := by kernel_rfl
set_option maxRecDepth 10000 in
theorem opened_ints {n : Nat} {v : Value} {y : DataW H × List MemPlace} (hf : DataW.trod enc Try.prog W 0 (fun _ => true) true n 43 [v] = some y) : ∃ l, intL.In W v l ∧ ∀ x ∈ l, W64 x := by
  obtain ⟨l, h, hq⟩ := opened_list (I := intL) (Q := W64) Try.underlying43 c_int (by decide) (fun n cs y h => by
    obtain ⟨x, e, _, hx⟩ := DataW.trod_int Try.underlying3 h
    exact ⟨x, e, hx⟩) hf
  exact ⟨l, h, hq⟩
set_option maxRecDepth 10000 in
theorem open_ints' {v : Value} {d : DataW H} {p : List MemPlace} {r : Reach} {b0 : Nat} (hv : Value.okWide Try.prog W r b0 43 v) (h : DataW.Trod enc Try.prog W 0 (fun _ => true) true 43 v d p) : ∃ l, intL.In W v l ∧ ∀ x ∈ l, W64 x := by
  obtain ⟨a, len, cap, rfl⟩ := okWide_slice Try.underlying43 hv
  obtain ⟨fuel, hf⟩ := h
  exact opened_ints (by simpa [Value.cells] using hf)
end
end Go.Proofs.Ytdgnjalbpiciiaa
