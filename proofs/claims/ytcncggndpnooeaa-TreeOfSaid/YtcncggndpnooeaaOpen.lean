/-
  An argument of type []Do, opened.
-/
import Derived.Test.YtcncggndpnooeaaB24
import Derived.Test.YtcncggndpnooeaaPost
import Derived.Deep.Strs
namespace Go.Proofs.Ytcncggndpnooeaa
set_option linter.unusedVariables false
set_option linter.unusedSimpArgs false
open Go.ChangeShapes Go.WideShapes Go.ChangeAt Go.WideMaps Go.WideElems Go.RowKit

theorem list_of_each {α : Type} : ∀ (n : Nat) (P : Nat → α → Prop), (∀ i, i < n → ∃ x, P i x) → ∃ l : List α, l.length = n ∧ ∀ i x, l[i]? = some x → P i x
  | 0, P, _ => ⟨[], rfl, fun i x h => by simp at h⟩
  | n + 1, P, h => by
    obtain ⟨l, hl, hP⟩ := list_of_each n P (fun i hi => h i (by omega))
    obtain ⟨x, hx⟩ := h n (by omega)
    refine ⟨l ++ [x], by simp [hl], fun i y hy => ?_⟩
    rcases Nat.lt_or_ge i n with hi | hi
    · rw [List.getElem?_append_left (by omega)] at hy
      exact hP i y hy
    · rw [List.getElem?_append_right (by omega), hl] at hy
      have : i - n = 0 := by
        have := (List.getElem?_eq_some_iff.1 hy).1
        simp at this; omega
      rw [this] at hy
      obtain rfl : x = y := by simpa using hy
      obtain rfl : i = n := by omega
      exact hx

set_option maxRecDepth 100000 in
theorem opened_dos {H : Type} {enc : TypeId × Value → H} {W : World} {a0 : Option Addr} {len cap : Nat} {d0 : DataW H} {p : List MemPlace}
    (h0 : DataW.Trod enc Try.prog W 0 (fun _ => true) true 22 (.slice a0 len cap) d0 p) :
    ∃ ks : List Dk, DosIn W (.slice a0 len cap) ks ∧ ks.length = len ∧ ∀ k ∈ ks, -9223372036854775808 ≤ k.op ∧ k.op ≤ 9223372036854775807 := by
  obtain ⟨fuel, hf⟩ := h0
  have c3 : Try.prog.cellsOf 30 = 3 := by kernel_rfl
  have c1 : Try.prog.cellsOf 3 = 1 := by kernel_rfl
  have cs : Try.prog.cellsOf 9 = 1 := by kernel_rfl
  rcases DataW.trod_slice Try.underlying22 hf with ⟨hcs, _⟩ | ⟨a, len', cap', elems, rest, k, _, hcs, _, hb, hl, hm, hlen, hel, _, _⟩
  · simp [Value.cells] at hcs
    obtain ⟨rfl, rfl, rfl⟩ := hcs
    exact ⟨[], ⟨none, 0, rfl, .inl rfl⟩, rfl, fun k hk => by simp at hk⟩
  · simp [Value.cells] at hcs
    obtain ⟨rfl, rfl, rfl⟩ := hcs
    have each : ∀ i, i < len → ∃ k : Dk, W.cell? ((a.add (i * 3)).add 0) = some (.int .i64 k.op) ∧ W.cell? ((a.add (i * 3)).add 1) = some (.string k.key) ∧ W.cell? ((a.add (i * 3)).add 2) = some (.string k.val) ∧ -9223372036854775808 ≤ k.op ∧ k.op ≤ 9223372036854775807 := by
      intro i hi
      have h := hel i hi
      rw [List.getElem?_eq_getElem (by omega), Option.bind_eq_some_iff, c3] at h
      obtain ⟨cs', hc, hy⟩ := h
      obtain ⟨_, hcl, hcc⟩ := World.cells?_some hc
      obtain ⟨y0, y1, y2, n', _, _, h0, h1, h2⟩ := Go.Deep.trod_struct3 Try.underlying30 hy
      obtain ⟨x, e0, _, wx⟩ := DataW.trod_int Try.underlying3 h0
      obtain ⟨s1, e1, _, _⟩ := DataW.trod_string Try.underlying9 h1
      obtain ⟨s2, e2, _, _⟩ := DataW.trod_string Try.underlying9 h2
      match cs', hcl with
      | [v0, v1, v2], _ =>
        simp [c1, cs] at e0 e1 e2
        subst e0 e1 e2
        simp only [Lit.wf, Bool.and_eq_true, decide_eq_true_eq] at wx
        exact ⟨⟨x, s1, s2⟩, hcc 0 (by omega), hcc 1 (by omega), hcc 2 (by omega), wx.1, wx.2⟩
    obtain ⟨ks, hkl, hks⟩ := list_of_each len _ each
    refine ⟨ks, ⟨some a, cap, by rw [hkl], ?_⟩, hkl, fun k hk => ?_⟩
    · by_cases hn : len = 0
      · exact .inl (List.eq_nil_of_length_eq_zero (by omega))
      · obtain ⟨x, hc, _⟩ := each 0 (by omega)
        obtain ⟨b, o, t⟩ := a
        obtain rfl : t = none := by simpa [Addr.add] using World.cell?_spot hc
        refine .inr ⟨b, o, rfl, fun i k hk => ?_⟩
        obtain ⟨h0, h1, h2, _⟩ := hks i k hk
        simp only [Addr.add_lit, Nat.add_zero] at h0 h1 h2
        exact ⟨h0, h1, h2⟩
    · obtain ⟨i, hi⟩ := List.mem_iff_getElem?.1 hk
      exact (hks i k hi).2.2.2
end Go.Proofs.Ytcncggndpnooeaa
