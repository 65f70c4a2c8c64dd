/-
  Arguments opened: bytes, a call, a list of calls.
-/
import Derived.Test.YtlfknldgfeicmaaG13
import Derived.Test.YtlfknldgfeicmaaPost
import Derived.Deep.Strs
import Derived.Lib.SmallJoins
namespace Go.Proofs.Ytlfknldgfeicmaa
set_option linter.unusedVariables false
set_option linter.unusedSimpArgs false
open Go.ChangeShapes Go.WideShapes Go.ChangeAt Go.WideMaps Go.WideElems Go.RowKit

theorem list_of_each {α : Type} : ∀ (n : Nat) (P : Nat → α → Prop), (∀ i, i < n → ∃ x, P i x) → ∃ l : List α, l.length = n ∧ ∀ i x, l[i]? = some x → P i x
  | 0, P, _ => ⟨[], rfl, fun i x h => by simp at h⟩
  | n + 1, P, h => by
    obtain ⟨l, hl, hP⟩ := list_of_each n P (fun i hi => h i (by omega))
    obtain ⟨x, hx⟩ := h n (by omega)
    refine ⟨l ++ [x], by simp [hl], fun i y hy => ?_⟩
    rcases Nat.lt_or_ge i n with hi | hi
    · rw [List.getElem?_append_left (by omega)] at hy
      exact hP i y hy
    · rw [List.getElem?_append_right (by omega), hl] at hy
      have : i - n = 0 := by
        have := (List.getElem?_eq_some_iff.1 hy).1
        simp at this; omega
      rw [this] at hy
      obtain rfl : x = y := by simpa using hy
      obtain rfl : i = n := by omega
      exact hx

theorem array5 {α : Type} {cs : Array α} (h : cs.size = 5) : ∃ c0 c1 c2 c3 c4, cs = #[c0, c1, c2, c3, c4] := by
  obtain ⟨l⟩ := cs
  match l, h with
  | [c0, c1, c2, c3, c4], _ => exact ⟨c0, c1, c2, c3, c4, rfl⟩
theorem list5 {α : Type} {cs : List α} (h : cs.length = 5) : ∃ c0 c1 c2 c3 c4, cs = [c0, c1, c2, c3, c4] := by
  match cs, h with
  | [c0, c1, c2, c3, c4], _ => exact ⟨c0, c1, c2, c3, c4, rfl⟩

set_option maxRecDepth 100000 in
theorem opened_byt {H : Type} {enc : TypeId × Value → H} {W : World} {n : Nat} {v : Value} {y : DataW H × List MemPlace}
    (hf : DataW.trod enc Try.prog W 0 (fun _ => true) true n 32 [v] = some y) : ∃ xs, Byt W [] v xs := by
  have c1 : Try.prog.cellsOf 5 = 1 := by kernel_rfl
  rcases DataW.trod_slice Try.underlying32 hf with ⟨hcs, _⟩ | ⟨a, len, cap, elems, rest, k, _, hcs, _, hb, hl, hm, hlen, hel, _, _⟩
  · obtain rfl : v = .slice none 0 0 := by simpa using hcs
    exact ⟨[], Byt.nil _ _⟩
  · obtain rfl : v = .slice (some a) len cap := by simpa using hcs
    have each : ∀ i, i < len → ∃ x : Int, W.cell? (a.add i) = some (.int .u8 x) := by
      intro i hi
      have h := hel i hi
      rw [List.getElem?_eq_getElem (by omega), Option.bind_eq_some_iff, c1, Nat.mul_one] at h
      obtain ⟨cs', hc, hy⟩ := h
      obtain ⟨_, hcl, hcc⟩ := World.cells?_some hc
      obtain ⟨x, e0, _, wx⟩ := DataW.trod_int Try.underlying5 hy
      subst e0
      have := hcc 0 (by omega)
      exact ⟨x, by simpa [Addr.add] using this⟩
    obtain ⟨xs, hxl, hxs⟩ := list_of_each len _ each
    refine ⟨xs, some a, cap, by rw [hxl], by omega, by unfold maxLen at hm; omega, ?_⟩
    by_cases hn : len = 0
    · exact .inl (List.eq_nil_of_length_eq_zero (by omega))
    · obtain ⟨x, hc⟩ := each 0 (by omega)
      refine .inr ⟨a, rfl, by simp, by have := World.block_lt_of_cell? W _ hc; rwa [add_block] at this, fun j u hj => ?_⟩
      unfold u8s at hj
      rw [List.getElem?_map, Option.map_eq_some_iff] at hj
      obtain ⟨z, hz, rfl⟩ := hj
      exact hxs j z hz

/-- A call's five cells. -/
theorem opened_kd {H : Type} {enc : TypeId × Value → H} {W : World} {n : Nat} {cs : List Value} {y : DataW H × List MemPlace}
    (hf : DataW.trod enc Try.prog W 0 (fun _ => true) true n 34 cs = some y) :
    ∃ (k : Kd) (x : Value), cs = [.int .i64 k.op, .int .i64 k.i, .int .i64 k.keep, .int .i64 k.tear, x] ∧ Byt W [] x k.b ∧ k.i ≤ 9223372036854775807 := by
  have c5 : Try.prog.cellsOf 34 = 5 := by kernel_rfl
  have c1 : Try.prog.cellsOf 3 = 1 := by kernel_rfl
  have cb : Try.prog.cellsOf 32 = 1 := by kernel_rfl
  obtain ⟨xs, m, _, rfl, hl, hlen, hfs⟩ := DataW.trod_struct Try.underlying34 hf
  rw [c5] at hl
  obtain ⟨v0, v1, v2, v3, v4, rfl⟩ := list5 hl
  obtain ⟨y0, y1, y2, y3, y4, rfl⟩ := list5 hlen
  obtain ⟨x0, e0, _, w0⟩ := DataW.trod_int Try.underlying3 (hfs 0 _ rfl)
  obtain ⟨x1, e1, _, w1⟩ := DataW.trod_int Try.underlying3 (hfs 1 _ rfl)
  obtain ⟨x2, e2, _, w2⟩ := DataW.trod_int Try.underlying3 (hfs 2 _ rfl)
  obtain ⟨x3, e3, _, w3⟩ := DataW.trod_int Try.underlying3 (hfs 3 _ rfl)
  have h4 := hfs 4 _ rfl
  simp [c1, cb] at e0 e1 e2 e3 h4
  subst e0 e1 e2 e3
  obtain ⟨bs, hb⟩ := opened_byt h4
  simp only [Lit.wf, Bool.and_eq_true, decide_eq_true_eq] at w1
  exact ⟨⟨x0, x1, x2, x3, bs⟩, v4, rfl, hb, w1.2⟩

set_option maxRecDepth 100000 in
theorem opened_kds {H : Type} {enc : TypeId × Value → H} {W : World} {a0 : Option Addr} {len cap : Nat} {d0 : DataW H} {p : List MemPlace}
    (h0 : DataW.Trod enc Try.prog W 0 (fun _ => true) true 22 (.slice a0 len cap) d0 p) :
    ∃ ks : List Kd, KdsIn W (.slice a0 len cap) ks ∧ ks.length = len ∧ ∀ k ∈ ks, k.i ≤ 9223372036854775807 := by
  obtain ⟨fuel, hf⟩ := h0
  have c5 : Try.prog.cellsOf 34 = 5 := by kernel_rfl
  rcases DataW.trod_slice Try.underlying22 hf with ⟨hcs, _⟩ | ⟨a, len', cap', elems, rest, k, _, hcs, _, hb, hl, hm, hlen, hel, _, _⟩
  · simp [Value.cells] at hcs
    obtain ⟨rfl, rfl, rfl⟩ := hcs
    exact ⟨[], ⟨none, 0, rfl, .inl rfl⟩, rfl, fun k hk => by simp at hk⟩
  · simp [Value.cells] at hcs
    obtain ⟨rfl, rfl, rfl⟩ := hcs
    have each : ∀ i, i < len → ∃ k : Kd, (W.cell? ((a.add (i * 5)).add 0) = some (.int .i64 k.op) ∧ W.cell? ((a.add (i * 5)).add 1) = some (.int .i64 k.i) ∧ W.cell? ((a.add (i * 5)).add 2) = some (.int .i64 k.keep) ∧ W.cell? ((a.add (i * 5)).add 3) = some (.int .i64 k.tear) ∧ ∃ x, W.cell? ((a.add (i * 5)).add 4) = some x ∧ Byt W [] x k.b) ∧ k.i ≤ 9223372036854775807 := by
      intro i hi
      have h := hel i hi
      rw [List.getElem?_eq_getElem (by omega), Option.bind_eq_some_iff, c5] at h
      obtain ⟨cs', hc, hy⟩ := h
      obtain ⟨_, hcl, hcc⟩ := World.cells?_some hc
      obtain ⟨k, x, rfl, hx, hi2⟩ := opened_kd hy
      exact ⟨k, ⟨hcc 0 (by omega), hcc 1 (by omega), hcc 2 (by omega), hcc 3 (by omega), x, hcc 4 (by omega), hx⟩, hi2⟩
    obtain ⟨ks, hkl, hks⟩ := list_of_each len _ each
    refine ⟨ks, ⟨some a, cap, by rw [hkl], ?_⟩, hkl, fun k hk => ?_⟩
    · by_cases hn : len = 0
      · exact .inl (List.eq_nil_of_length_eq_zero (by omega))
      · obtain ⟨x, ⟨hc, _⟩, _⟩ := each 0 (by omega)
        obtain ⟨b, o, t⟩ := a
        obtain rfl : t = none := by simpa [Addr.add] using World.cell?_spot hc
        refine .inr ⟨b, o, rfl, fun i k hk => ?_⟩
        obtain ⟨⟨h0, h1, h2, h3, x, h4, hx⟩, _⟩ := hks i k hk
        simp only [Addr.add_lit, Nat.add_zero] at h0 h1 h2 h3 h4
        exact ⟨h0, h1, h2, h3, x, h4, hx⟩
    · obtain ⟨i, hi⟩ := List.mem_iff_getElem?.1 hk
      exact (hks i k hi).2

/-- A call, by value. -/
theorem open_kd {H : Type} {enc : TypeId × Value → H} {W : World} {r : Reach} {b0 : Nat} {v : Value} {d : DataW H} {p : List MemPlace}
    (hv : Value.okWide Try.prog W r b0 34 v) (h : DataW.Trod enc Try.prog W 0 (fun _ => true) true 34 v d p) :
    ∃ (k : Kd) (x : Value), v = .agg #[.int .i64 k.op, .int .i64 k.i, .int .i64 k.keep, .int .i64 k.tear, x] ∧ Byt W [] x k.b ∧ k.i ≤ 9223372036854775807 := by
  obtain ⟨cs, rfl, hsz⟩ := okWide_struct Try.underlying34 hv
  obtain ⟨fuel, hf⟩ := h
  obtain ⟨k, x, he, hx, hi⟩ := opened_kd hf
  refine ⟨k, x, ?_, hx, hi⟩
  simp [Value.cells] at he
  obtain ⟨l⟩ := cs
  simp at he
  rw [he]
end Go.Proofs.Ytlfknldgfeicmaa
