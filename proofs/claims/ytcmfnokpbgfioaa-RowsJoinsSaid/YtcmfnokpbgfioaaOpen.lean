/-
  Arguments opened: entries, logs.
-/
import Derived.Test.YtcmfnokpbgfioaaPost
import Derived.Deep.Strs
import Derived.Lib.SmallJoins
namespace Go.Proofs.Ytcmfnokpbgfioaa
set_option linter.unusedVariables false
set_option linter.unusedSimpArgs false
set_option maxRecDepth 100000
open Go.ChangeShapes Go.WideShapes Go.ChangeAt Go.WideMaps Go.WideElems Go.RowKit

theorem list_of_each {α : Type} : ∀ (n : Nat) (P : Nat → α → Prop), (∀ i, i < n → ∃ x, P i x) → ∃ l : List α, l.length = n ∧ ∀ i x, l[i]? = some x → P i x
  | 0, P, _ => ⟨[], rfl, fun i x h => by simp at h⟩
  | n + 1, P, h => by
    obtain ⟨l, hl, hP⟩ := list_of_each n P (fun i hi => h i (by omega))
    obtain ⟨x, hx⟩ := h n (by omega)
    refine ⟨l ++ [x], by simp [hl], fun i y hy => ?_⟩
    rcases Nat.lt_or_ge i n with hi | hi
    · rw [List.getElem?_append_left (by omega)] at hy
      exact hP i y hy
    · rw [List.getElem?_append_right (by omega), hl] at hy
      have : i - n = 0 := by
        have := (List.getElem?_eq_some_iff.1 hy).1
        simp at this; omega
      rw [this] at hy
      obtain rfl : x = y := by simpa using hy
      obtain rfl : i = n := by omega
      exact hx

/-- A list of items, opened. -/
theorem opened_list {α : Type} {I : Lay α} {Q : α → Prop} {H : Type} {enc : TypeId × Value → H} {P : Program} {W : World} {T E : TypeId} (hT : P.underlying T = some (.slice E)) (hc : P.cellsOf E = I.sz) (hsz : 0 < I.sz)
    (each0 : ∀ (n : Nat) (cs : List Value) (y : DataW H × List MemPlace), DataW.trod enc P W 0 (fun _ => true) true n E cs = some y → ∃ x, cs = I.enc x ∧ Q x)
    {n : Nat} {v : Value} {y : DataW H × List MemPlace} (hf : DataW.trod enc P W 0 (fun _ => true) true n T [v] = some y) : ∃ l, I.In W v l ∧ ∀ x ∈ l, Q x := by
  rcases DataW.trod_slice hT hf with ⟨hcs, _⟩ | ⟨a, len, cap, elems, rest, k, _, hcs, _, hb, hl, hm, hlen, hel, _, _⟩
  · obtain rfl : v = .slice none 0 0 := by simpa using hcs
    exact ⟨[], Lay.In.nil W, fun x hx => by cases hx⟩
  · obtain rfl : v = .slice (some a) len cap := by simpa using hcs
    have each : ∀ i, i < len → ∃ x : α, (∀ j u, (I.enc x)[j]? = some u → W.cell? ((a.add (i * I.sz)).add j) = some u) ∧ Q x := by
      intro i hi
      have h := hel i hi
      rw [List.getElem?_eq_getElem (by omega), Option.bind_eq_some_iff, hc] at h
      obtain ⟨cs', hcs', hy⟩ := h
      obtain ⟨_, hcl, hcc⟩ := World.cells?_some hcs'
      obtain ⟨x, rfl, hq⟩ := each0 _ _ _ hy
      refine ⟨x, fun j u hu => ?_, hq⟩
      have hj : j < I.sz := by rw [← I.len x]; exact (List.getElem?_eq_some_iff.1 hu).1
      have := hcc j hj
      rw [this]
      exact hu
    obtain ⟨xs, hxl, hxs⟩ := list_of_each len _ each
    refine ⟨xs, ⟨some a, cap, by rw [hxl], by omega, by unfold maxLen at hm; omega, ?_⟩, fun x hx => ?_⟩
    · by_cases hn : len = 0
      · exact .inl (List.eq_nil_of_length_eq_zero (by omega))
      · obtain ⟨x, hc0, _⟩ := each 0 (by omega)
        have h0 := hc0 0 ((I.enc x)[0]'(by rw [I.len]; exact hsz)) (List.getElem?_eq_getElem _)
        obtain ⟨b, o, t⟩ := a
        obtain rfl : t = none := by simpa [Addr.add] using World.cell?_spot h0
        refine .inr ⟨b, o, rfl, ?_, fun i x hx j u hu => ?_⟩
        · have := World.block_lt_of_cell? W _ h0
          rw [Addr.add_lit, Addr.add_lit] at this
          exact this
        · have := (hxs i x hx).1 j u hu
          rw [Addr.add_lit, Addr.add_lit] at this
          exact this
    · obtain ⟨i, hi⟩ := List.mem_iff_getElem?.1 hx
      exact (hxs i x hi).2

set_option maxRecDepth 100000 in
theorem opened_byt {H : Type} {enc : TypeId × Value → H} {W : World} {n : Nat} {v : Value} {y : DataW H × List MemPlace}
    (hf : DataW.trod enc Try.prog W 0 (fun _ => true) true n 42 [v] = some y) : ∃ xs, Byt W [] v xs := by
  have c1 : Try.prog.cellsOf 5 = 1 := by kernel_rfl
  rcases DataW.trod_slice Try.underlying42 hf with ⟨hcs, _⟩ | ⟨a, len, cap, elems, rest, k, _, hcs, _, hb, hl, hm, hlen, hel, _, _⟩
  · obtain rfl : v = .slice none 0 0 := by simpa using hcs
    exact ⟨[], Byt.nil _ _⟩
  · obtain rfl : v = .slice (some a) len cap := by simpa using hcs
    have each : ∀ i, i < len → ∃ x : Int, W.cell? (a.add i) = some (.int .u8 x) := by
      intro i hi
      have h := hel i hi
      rw [List.getElem?_eq_getElem (by omega), Option.bind_eq_some_iff, c1, Nat.mul_one] at h
      obtain ⟨cs', hc, hy⟩ := h
      obtain ⟨_, hcl, hcc⟩ := World.cells?_some hc
      obtain ⟨x, e0, _, wx⟩ := DataW.trod_int Try.underlying5 hy
      subst e0
      have := hcc 0 (by omega)
      exact ⟨x, by simpa [Addr.add] using this⟩
    obtain ⟨xs, hxl, hxs⟩ := list_of_each len _ each
    refine ⟨xs, some a, cap, by rw [hxl], by omega, by unfold maxLen at hm; omega, ?_⟩
    by_cases hn : len = 0
    · exact .inl (List.eq_nil_of_length_eq_zero (by omega))
    · obtain ⟨x, hc⟩ := each 0 (by omega)
      refine .inr ⟨a, rfl, by simp, by have := World.block_lt_of_cell? W _ hc; rwa [add_block] at this, fun j u hj => ?_⟩
      unfold u8s at hj
      rw [List.getElem?_map, Option.map_eq_some_iff] at hj
      obtain ⟨z, hz, rfl⟩ := hj
      exact hxs j z hz

theorem c_int : Try.prog.cellsOf 3 = 1 := by kernel_rfl
theorem c_en : Try.prog.cellsOf 44 = 3 := by kernel_rfl
theorem c_ens : Try.prog.cellsOf 22 = 1 := by kernel_rfl
theorem c_byt : Try.prog.cellsOf 42 = 1 := by kernel_rfl
theorem c_log : Try.prog.cellsOf 24 = 3 := by kernel_rfl
theorem list3 {α : Type} {cs : List α} (h : cs.length = 3) : ∃ c0 c1 c2, cs = [c0, c1, c2] := by
  match cs, h with
  | [c0, c1, c2], _ => exact ⟨c0, c1, c2, rfl⟩
section
variable {H : Type} {enc : TypeId × Value → H} {W : World}
theorem opened_en {n : Nat} {cs : List Value} {y : DataW H × List MemPlace} (hf : DataW.trod enc Try.prog W 0 (fun _ => true) true n 44 cs = some y) : ∃ x, cs = enL.enc x ∧ ∃ d, Byt W [] x.s.v d := by
  obtain ⟨xs, m, _, rfl, hl, hlen, hfs⟩ := DataW.trod_struct Try.underlying44 hf
  rw [c_en] at hl
  obtain ⟨v0, v1, v2, rfl⟩ := list3 hl
  obtain ⟨y0, y1, y2, rfl⟩ := list3 hlen
  obtain ⟨x0, e0, _, _⟩ := DataW.trod_int Try.underlying3 (hfs 0 _ rfl)
  obtain ⟨x1, e1, _, _⟩ := DataW.trod_int Try.underlying3 (hfs 1 _ rfl)
  have h2 := hfs 2 _ rfl
  simp [c_int, c_byt] at e0 e1 h2
  subst e0 e1
  obtain ⟨d, hd⟩ := opened_byt h2
  obtain ⟨a, c, rfl, _, _⟩ := hd.slice
  exact ⟨⟨x0, x1, (a, d.length, c)⟩, rfl, d, hd⟩
theorem ein_list : ∀ ls : List En, (∀ x ∈ ls, ∃ d, Byt W [] x.s.v d) → ∃ es : List Er, ls.length = es.length ∧ ∀ (k : Nat) (x : En) (e : Er), ls[k]? = some x → es[k]? = some e → x.i = e.i ∧ x.t = e.t ∧ Byt W [] x.s.v e.d
  | [], _ => ⟨[], rfl, fun k x e hx => by simp at hx⟩
  | x :: ls, h => by
    obtain ⟨es, h1, h2⟩ := ein_list ls (fun y hy => h y (List.mem_cons_of_mem _ hy))
    obtain ⟨d, hd⟩ := h x (List.mem_cons_self ..)
    refine ⟨⟨x.i, x.t, d⟩ :: es, by simp [h1], fun k y e hy he => ?_⟩
    match k, hy, he with
    | 0, hy, he =>
      simp only [List.getElem?_cons_zero, Option.some.injEq] at hy he
      subst hy he
      exact ⟨rfl, rfl, hd⟩
    | k + 1, hy, he =>
      rw [List.getElem?_cons_succ] at hy he
      exact h2 k y e hy he
theorem opened_ens {n : Nat} {v : Value} {y : DataW H × List MemPlace} (hf : DataW.trod enc Try.prog W 0 (fun _ => true) true n 22 [v] = some y) : ∃ es, EIn W v es := by
  obtain ⟨ls, h1, h2⟩ := opened_list (I := enL) (Q := fun x => ∃ d, Byt W [] x.s.v d) Try.underlying22 c_en (by decide) (fun n cs y h => opened_en h) hf
  obtain ⟨es, h3, h4⟩ := ein_list ls h2
  exact ⟨es, ls, h1, h3, h4⟩
theorem open_log {r : Reach} {b0 : Nat} {v : Value} {d0 : DataW H} {p : List MemPlace} (hv : Value.okWide Try.prog W r b0 24 v) (h0 : DataW.Trod enc Try.prog W 0 (fun _ => true) true 24 v d0 p) : ∃ (i t : Int) (u : Value) (es : List Er), v = .agg #[.int .i64 i, .int .i64 t, u] ∧ EIn W u es := by
  obtain ⟨cs, rfl, hsz⟩ := okWide_struct Try.underlying24 hv
  obtain ⟨fuel, hf⟩ := h0
  obtain ⟨xs, m, _, hm, hl, hlen, hfs⟩ := DataW.trod_struct Try.underlying24 hf
  rw [c_log] at hl
  obtain ⟨v0, v1, v2, he⟩ := list3 hl
  rw [he] at hfs
  obtain ⟨y0, y1, y2, rfl⟩ := list3 hlen
  obtain ⟨x0, e0, _, _⟩ := DataW.trod_int Try.underlying3 (hfs 0 _ rfl)
  obtain ⟨x1, e1, _, _⟩ := DataW.trod_int Try.underlying3 (hfs 1 _ rfl)
  have h2 := hfs 2 _ rfl
  simp [c_int, c_ens] at e0 e1 h2
  subst e0 e1
  obtain ⟨es, hes⟩ := opened_ens h2
  refine ⟨x0, x1, v2, es, ?_, hes⟩
  obtain ⟨l⟩ := cs
  simp [Value.cells] at he
  rw [he]
end
end Go.Proofs.Ytcmfnokpbgfioaa
