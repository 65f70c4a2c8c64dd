/-
  An argument that is a list of bytes' lists, opened.
-/
import Derived.Test.YtlfknldgfeicmaaOpen
import Derived.Test.YtlfknldgfeicmaaC1
namespace Go.Proofs.Ytlfknldgfeicmaa
set_option linter.unusedVariables false
set_option linter.unusedSimpArgs false
open Go.ChangeShapes Go.WideShapes Go.ChangeAt Go.WideMaps Go.WideElems Go.RowKit

theorem two_lists {α β : Type} : ∀ (n : Nat) (P : Nat → α → β → Prop), (∀ i, i < n → ∃ x y, P i x y) → ∃ (l : List α) (m : List β), l.length = n ∧ m.length = n ∧ ∀ i x y, l[i]? = some x → m[i]? = some y → P i x y := by
  intro n P h
  obtain ⟨l, hl, hP⟩ := list_of_each n (fun i (p : α × β) => P i p.1 p.2) (fun i hi => by obtain ⟨x, y, h⟩ := h i hi; exact ⟨(x, y), h⟩)
  refine ⟨l.map (·.1), l.map (·.2), by simp [hl], by simp [hl], fun i x y hx hy => ?_⟩
  rw [List.getElem?_map, Option.map_eq_some_iff] at hx hy
  obtain ⟨p, hp, rfl⟩ := hx
  obtain ⟨q, hq, rfl⟩ := hy
  rw [hp] at hq
  obtain rfl := Option.some.inj hq
  exact hP i p hp

set_option maxRecDepth 100000 in
theorem opened_bss {H : Type} {enc : TypeId × Value → H} {W : World} {a0 : Option Addr} {len cap : Nat} {d0 : DataW H} {p : List MemPlace}
    (h0 : DataW.Trod enc Try.prog W 0 (fun _ => true) true 57 (.slice a0 len cap) d0 p) :
    ∃ (hs : List Sl) (bss : List (List Int)), slL.In W (.slice a0 len cap) hs ∧ Each W hs bss ∧ hs.length = len := by
  obtain ⟨fuel, hf⟩ := h0
  have c1 : Try.prog.cellsOf 32 = 1 := by kernel_rfl
  rcases DataW.trod_slice Try.underlying57 hf with ⟨hcs, _⟩ | ⟨a, len', cap', elems, rest, k, _, hcs, _, hb, hl, hm, hlen, hel, _, _⟩
  · simp [Value.cells] at hcs
    obtain ⟨rfl, rfl, rfl⟩ := hcs
    exact ⟨[], [], Lay.In.nil _, ⟨rfl, fun i h xs hh => by simp at hh⟩, rfl⟩
  · simp [Value.cells] at hcs
    obtain ⟨rfl, rfl, rfl⟩ := hcs
    have each : ∀ i, i < len → ∃ (h : Sl) (xs : List Int), W.cell? ((a.add i).add 0) = some (sv h) ∧ Byt W [] (sv h) xs := by
      intro i hi
      have h := hel i hi
      rw [List.getElem?_eq_getElem (by omega), Option.bind_eq_some_iff, c1, Nat.mul_one] at h
      obtain ⟨cs', hc, hy⟩ := h
      obtain ⟨_, hcl, hcc⟩ := World.cells?_some hc
      obtain ⟨x, rfl⟩ : ∃ x, cs' = [x] := by
        match cs', hcl with
        | [x], _ => exact ⟨x, rfl⟩
      obtain ⟨xs, hx⟩ := opened_byt hy
      obtain ⟨xa, xc, hv, _, _⟩ := hx.slice
      subst hv
      exact ⟨(xa, xs.length, xc), xs, hcc 0 (by simp), hx⟩
    obtain ⟨hs, bss, h1, h2, h3⟩ := two_lists len _ each
    refine ⟨hs, bss, ⟨some a, cap, by rw [h1], by omega, by unfold maxLen at hm; omega, ?_⟩, ⟨by rw [h1, h2], fun i h xs hh hx => (h3 i h xs hh hx).2⟩, h1⟩
    by_cases hn : len = 0
    · exact .inl (List.eq_nil_of_length_eq_zero (by omega))
    · obtain ⟨x, y, hc, _⟩ := each 0 (by omega)
      obtain ⟨b, o, t⟩ := a
      obtain rfl : t = none := by simpa [Addr.add] using World.cell?_spot hc
      refine .inr ⟨b, o, rfl, by have := World.block_lt_of_cell? W _ hc; simpa [Addr.add] using this, fun i h hi j u hj => ?_⟩
      have hlt : i < bss.length := by have := (List.getElem?_eq_some_iff.1 hi).1; omega
      have hc2 := (h3 i h (bss[i]) hi (List.getElem?_eq_getElem hlt)).1
      simp only [Addr.add_lit, Nat.add_zero] at hc2
      match j, hj with
      | 0, hj =>
        simp [slL] at hj
        subst hj
        simpa [slL] using hc2
end Go.Proofs.Ytlfknldgfeicmaa
