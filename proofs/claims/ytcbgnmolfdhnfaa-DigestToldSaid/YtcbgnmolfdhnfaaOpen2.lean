/-
  Arguments opened with their sizes: lists of pairs, of numbers.
-/
import Derived.Test.YtcbgnmolfdhnfaaPost
import Derived.Test.YtcbgnmolfdhnfaaRT
import Derived.Deep.Strs
import Derived.Lib.SmallJoins
namespace Go.Proofs.Ytcbgnmolfdhnfaa
set_option linter.unusedVariables false
set_option linter.unusedSimpArgs false
set_option maxRecDepth 100000
open Go.ChangeShapes Go.WideShapes Go.ChangeAt Go.WideMaps Go.WideElems Go.RowKit

theorem list_of_each {α : Type} : ∀ (n : Nat) (P : Nat → α → Prop), (∀ i, i < n → ∃ x, P i x) → ∃ l : List α, l.length = n ∧ ∀ i x, l[i]? = some x → P i x
  | 0, P, _ => ⟨[], rfl, fun i x h => by simp at h⟩
  | n + 1, P, h => by
    obtain ⟨l, hl, hP⟩ := list_of_each n P (fun i hi => h i (by omega))
    obtain ⟨x, hx⟩ := h n (by omega)
    refine ⟨l ++ [x], by simp [hl], fun i y hy => ?_⟩
    rcases Nat.lt_or_ge i n with hi | hi
    · rw [List.getElem?_append_left (by omega)] at hy
      exact hP i y hy
    · rw [List.getElem?_append_right (by omega), hl] at hy
      have : i - n = 0 := by
        have := (List.getElem?_eq_some_iff.1 hy).1
        simp at this; omega
      rw [this] at hy
      obtain rfl : x = y := by simpa using hy
      obtain rfl : i = n := by omega
      exact hx
theorem weights_all_mem {H : Type} {P : Program} {e : TypeId} : ∀ {ds : List (DataW H)} {d : DataW H} {n : Nat}, d ∈ ds → n ∈ d.weights P e → n ∈ DataW.weightsAll P e ds
  | x :: ds, d, n, hd, hn => by
    simp only [DataW.weightsAll, List.mem_append]
    rcases List.mem_cons.1 hd with rfl | hd
    · exact .inl hn
    · exact .inr (weights_all_mem hd hn)
/-- A list of items, opened. -/
theorem opened_listS {α : Type} {I : Lay α} {Q : α → Prop} {H : Type} {enc : TypeId × Value → H} {P : Program} {W : World} {T E : TypeId} (hT : P.underlying T = some (.slice E)) (hc : P.cellsOf E = I.sz) (hsz : 0 < I.sz)
    (each0 : ∀ (n : Nat) (cs : List Value) (y : DataW H × List MemPlace), DataW.trod enc P W 0 (fun _ => true) true n E cs = some y → (∀ k ∈ y.1.weights P E, k ≤ reachBytes) → ∃ x, cs = I.enc x ∧ Q x)
    {n : Nat} {v : Value} {y : DataW H × List MemPlace} (hf : DataW.trod enc P W 0 (fun _ => true) true n T [v] = some y) (hz : ∀ k ∈ y.1.weights P T, k ≤ reachBytes) : ∃ l, I.In W v l ∧ ∀ x ∈ l, Q x := by
  rcases DataW.trod_slice hT hf with ⟨hcs, _⟩ | ⟨a, len, cap, elems, rest, k, _, hcs, hx, hb, hl, hm, hlen, hel, _, _⟩
  · obtain rfl : v = .slice none 0 0 := by simpa using hcs
    exact ⟨[], Lay.In.nil W, fun x hx => by cases hx⟩
  · obtain rfl : v = .slice (some a) len cap := by simpa using hcs
    have each : ∀ i, i < len → ∃ x : α, (∀ j u, (I.enc x)[j]? = some u → W.cell? ((a.add (i * I.sz)).add j) = some u) ∧ Q x := by
      intro i hi
      have h := hel i hi
      rw [List.getElem?_eq_getElem (by omega), Option.bind_eq_some_iff, hc] at h
      obtain ⟨cs', hcs', hy⟩ := h
      obtain ⟨_, hcl, hcc⟩ := World.cells?_some hcs'
      have hzi : ∀ n ∈ (elems[i]'(by omega)).1.weights P E, n ≤ reachBytes := fun n hn => by
        refine hz n ?_
        rw [hx]
        simp only [DataW.weights, hT]
        refine List.mem_cons_of_mem _ (List.mem_append.2 (.inl (weights_all_mem (d := (elems[i]'(by omega)).1) (List.mem_map.2 ⟨_, List.getElem_mem _, rfl⟩) hn)))
      obtain ⟨x, rfl, hq⟩ := each0 _ _ _ hy hzi
      refine ⟨x, fun j u hu => ?_, hq⟩
      have hj : j < I.sz := by rw [← I.len x]; exact (List.getElem?_eq_some_iff.1 hu).1
      have := hcc j hj
      rw [this]
      exact hu
    obtain ⟨xs, hxl, hxs⟩ := list_of_each len _ each
    refine ⟨xs, ⟨some a, cap, by rw [hxl], by omega, by unfold maxLen at hm; omega, ?_⟩, fun x hx => ?_⟩
    · by_cases hn : len = 0
      · exact .inl (List.eq_nil_of_length_eq_zero (by omega))
      · obtain ⟨x, hc0, _⟩ := each 0 (by omega)
        have h0 := hc0 0 ((I.enc x)[0]'(by rw [I.len]; exact hsz)) (List.getElem?_eq_getElem _)
        obtain ⟨b, o, t⟩ := a
        obtain rfl : t = none := by simpa [Addr.add] using World.cell?_spot h0
        refine .inr ⟨b, o, rfl, ?_, fun i x hx j u hu => ?_⟩
        · have := World.block_lt_of_cell? W _ h0
          rw [Addr.add_lit, Addr.add_lit] at this
          exact this
        · have := (hxs i x hx).1 j u hu
          rw [Addr.add_lit, Addr.add_lit] at this
          exact this
    · obtain ⟨i, hi⟩ := List.mem_iff_getElem?.1 hx
      exact (hxs i x hi).2

section
variable {H : Type} {enc : TypeId × Value → H} {W : World}
theorem c_str : Try.prog.cellsOf 9 = 1 := by kernel_rfl
theorem c_int : Try.prog.cellsOf 3 = 1 := by kernel_rfl
theorem list2' {α : Type} {cs : List α} (h : cs.length = 2) : ∃ c0 c1, cs = [c0, c1] := by
  match cs, h with
  | [c0, c1], _ => exact ⟨c0, c1, rfl⟩
theorem opened_pr {n : Nat} {cs : List Value} {y : DataW H × List MemPlace} (hf : DataW.trod enc Try.prog W 0 (fun _ => true) true n 27 cs = some y) (hz : ∀ k ∈ y.1.weights Try.prog 27, k ≤ reachBytes) : ∃ p : Pr, cs = prL.enc p ∧ PrSz p := by
  obtain ⟨xs, m, _, rfl, hl, hlen, hfs⟩ := DataW.trod_struct Try.underlying27 hf
  rw [c_pair] at hl
  obtain ⟨v0, v1, rfl⟩ := list2' hl
  obtain ⟨y0, y1, rfl⟩ := list2' hlen
  have h0 := hfs 0 _ rfl
  have h1 := hfs 1 _ rfl
  simp [c_str] at h0 h1
  obtain ⟨x0, e0, f0, _⟩ := DataW.trod_string Try.underlying9 h0
  obtain ⟨x1, e1, f1, _⟩ := DataW.trod_string Try.underlying9 h1
  simp only [List.cons.injEq, and_true] at e0 e1
  subst e0 e1
  have hr : reachBytes = 140737488351232 := by decide
  rw [hr] at hz
  refine ⟨(x0, x1), rfl, ?_, ?_⟩
  · exact hz x0.data.toList.length (by simp [DataW.weights, DataW.weightsEach, Try.underlying27, f0])
  · exact hz x1.data.toList.length (by simp [DataW.weights, DataW.weightsEach, Try.underlying27, f1])
theorem open_prs {r : Reach} {b0 : Nat} {v : Value} {d : DataW H} {p : List MemPlace} (hv : Value.okWide Try.prog W r b0 29 v) (h : DataW.Trod enc Try.prog W 0 (fun _ => true) true 29 v d p) (hz : ∀ k ∈ d.weights Try.prog 29, k ≤ reachBytes) :
    ∃ l, prL.In W v l ∧ ∀ x ∈ l, PrSz x := by
  obtain ⟨a, n, c, rfl⟩ := okWide_slice Try.underlying29 hv
  obtain ⟨fuel, hf⟩ := h
  exact opened_listS (I := prL) (Q := PrSz) Try.underlying29 c_pair (by decide) (fun n cs y h hs => opened_pr h hs) (by simpa [Value.cells] using hf) hz
theorem open_int {r : Reach} {b0 : Nat} {v : Value} {d : DataW H} {p : List MemPlace} (hv : Value.okWide Try.prog W r b0 3 v) (h : DataW.Trod enc Try.prog W 0 (fun _ => true) true 3 v d p) : ∃ x : Int, v = .int .i64 x ∧ -9223372036854775808 ≤ x ∧ x ≤ 9223372036854775807 := by
  obtain ⟨x, rfl⟩ := okWide_int Try.underlying3 hv
  obtain ⟨fuel, hf⟩ := h
  obtain ⟨y, e, _, w0⟩ := DataW.trod_int Try.underlying3 hf
  simp [Value.cells] at e
  subst e
  simp only [Lit.wf, Bool.and_eq_true, decide_eq_true_eq] at w0
  exact ⟨_, rfl, w0⟩
/-- A list of numbers, each of 64 bits. -/
def Fit64 (l : List Int) : Prop := ∀ x ∈ l, -9223372036854775808 ≤ x ∧ x ≤ 9223372036854775807
theorem open_ints {r : Reach} {b0 : Nat} {v : Value} {d : DataW H} {p : List MemPlace} (hv : Value.okWide Try.prog W r b0 70 v) (h : DataW.Trod enc Try.prog W 0 (fun _ => true) true 70 v d p) (hz : ∀ k ∈ d.weights Try.prog 70, k ≤ reachBytes) : ∃ l, intL.In W v l ∧ Fit64 l := by
  obtain ⟨a, n, c, rfl⟩ := okWide_slice Try.underlying70 hv
  obtain ⟨fuel, hf⟩ := h
  exact opened_listS (I := intL) (Q := fun x => -9223372036854775808 ≤ x ∧ x ≤ 9223372036854775807) Try.underlying70 c_int (by decide) (fun n cs y h hs => by
    obtain ⟨x, e, _, w0⟩ := DataW.trod_int Try.underlying3 h
    simp only [Lit.wf, Bool.and_eq_true, decide_eq_true_eq] at w0
    exact ⟨x, e, w0⟩) (by simpa [Value.cells] using hf) hz
end
end Go.Proofs.Ytcbgnmolfdhnfaa
