/-
  Arguments opened: operations, events, a call, a list of calls.
-/
import Derived.Test.YtdfjnpnkfjcpcaaK11
import Derived.Test.YtdfjnpnkfjcpcaaPost
import Derived.Deep.Strs
import Derived.Lib.SmallJoins
namespace Go.Proofs.Ytdfjnpnkfjcpcaa
set_option linter.unusedVariables false
set_option linter.unusedSimpArgs false
open Go.ChangeShapes Go.WideShapes Go.ChangeAt Go.WideMaps Go.WideElems Go.RowKit

theorem list_of_each {α : Type} : ∀ (n : Nat) (P : Nat → α → Prop), (∀ i, i < n → ∃ x, P i x) → ∃ l : List α, l.length = n ∧ ∀ i x, l[i]? = some x → P i x
  | 0, P, _ => ⟨[], rfl, fun i x h => by simp at h⟩
  | n + 1, P, h => by
    obtain ⟨l, hl, hP⟩ := list_of_each n P (fun i hi => h i (by omega))
    obtain ⟨x, hx⟩ := h n (by omega)
    refine ⟨l ++ [x], by simp [hl], fun i y hy => ?_⟩
    rcases Nat.lt_or_ge i n with hi | hi
    · rw [List.getElem?_append_left (by omega)] at hy
      exact hP i y hy
    · rw [List.getElem?_append_right (by omega), hl] at hy
      have : i - n = 0 := by
        have := (List.getElem?_eq_some_iff.1 hy).1
        simp at this; omega
      rw [this] at hy
      obtain rfl : x = y := by simpa using hy
      obtain rfl : i = n := by omega
      exact hx

/-- A list of items, opened. -/
theorem opened_list {α : Type} {I : Lay α} {Q : α → Prop} {H : Type} {enc : TypeId × Value → H} {P : Program} {W : World} {T E : TypeId} (hT : P.underlying T = some (.slice E)) (hc : P.cellsOf E = I.sz) (hsz : 0 < I.sz)
    (each0 : ∀ (n : Nat) (cs : List Value) (y : DataW H × List MemPlace), DataW.trod enc P W 0 (fun _ => true) true n E cs = some y → ∃ x, cs = I.enc x ∧ Q x)
    {n : Nat} {v : Value} {y : DataW H × List MemPlace} (hf : DataW.trod enc P W 0 (fun _ => true) true n T [v] = some y) : ∃ l, I.In W v l ∧ ∀ x ∈ l, Q x := by
  rcases DataW.trod_slice hT hf with ⟨hcs, _⟩ | ⟨a, len, cap, elems, rest, k, _, hcs, _, hb, hl, hm, hlen, hel, _, _⟩
  · obtain rfl : v = .slice none 0 0 := by simpa using hcs
    exact ⟨[], Lay.In.nil W, fun x hx => by cases hx⟩
  · obtain rfl : v = .slice (some a) len cap := by simpa using hcs
    have each : ∀ i, i < len → ∃ x : α, (∀ j u, (I.enc x)[j]? = some u → W.cell? ((a.add (i * I.sz)).add j) = some u) ∧ Q x := by
      intro i hi
      have h := hel i hi
      rw [List.getElem?_eq_getElem (by omega), Option.bind_eq_some_iff, hc] at h
      obtain ⟨cs', hcs', hy⟩ := h
      obtain ⟨_, hcl, hcc⟩ := World.cells?_some hcs'
      obtain ⟨x, rfl, hq⟩ := each0 _ _ _ hy
      refine ⟨x, fun j u hu => ?_, hq⟩
      have hj : j < I.sz := by rw [← I.len x]; exact (List.getElem?_eq_some_iff.1 hu).1
      have := hcc j hj
      rw [this]
      exact hu
    obtain ⟨xs, hxl, hxs⟩ := list_of_each len _ each
    refine ⟨xs, ⟨some a, cap, by rw [hxl], by omega, by unfold maxLen at hm; omega, ?_⟩, fun x hx => ?_⟩
    · by_cases hn : len = 0
      · exact .inl (List.eq_nil_of_length_eq_zero (by omega))
      · obtain ⟨x, hc0, _⟩ := each 0 (by omega)
        have h0 := hc0 0 ((I.enc x)[0]'(by rw [I.len]; exact hsz)) (List.getElem?_eq_getElem _)
        obtain ⟨b, o, t⟩ := a
        obtain rfl : t = none := by simpa [Addr.add] using World.cell?_spot h0
        refine .inr ⟨b, o, rfl, ?_, fun i x hx j u hu => ?_⟩
        · have := World.block_lt_of_cell? W _ h0
          rw [Addr.add_lit, Addr.add_lit] at this
          exact this
        · have := (hxs i x hx).1 j u hu
          rw [Addr.add_lit, Addr.add_lit] at this
          exact this
    · obtain ⟨i, hi⟩ := List.mem_iff_getElem?.1 hx
      exact (hxs i x hi).2

section
variable {H : Type} {enc : TypeId × Value → H} {W : World}
theorem c_int : Try.prog.cellsOf 3 = 1 := by kernel_rfl
theorem c_str : Try.prog.cellsOf 9 = 1 := by kernel_rfl
theorem c_bool : Try.prog.cellsOf 4 = 1 := by kernel_rfl
theorem c_op : Try.prog.cellsOf 37 = 3 := by kernel_rfl
theorem c_ev : Try.prog.cellsOf 32 = 6 := by kernel_rfl
theorem c_ops : Try.prog.cellsOf 28 = 1 := by kernel_rfl
theorem c_do : Try.prog.cellsOf 34 = 12 := by kernel_rfl
theorem list3 {α : Type} {cs : List α} (h : cs.length = 3) : ∃ c0 c1 c2, cs = [c0, c1, c2] := by
  match cs, h with
  | [c0, c1, c2], _ => exact ⟨c0, c1, c2, rfl⟩
theorem list6 {α : Type} {cs : List α} (h : cs.length = 6) : ∃ c0 c1 c2 c3 c4 c5, cs = [c0, c1, c2, c3, c4, c5] := by
  match cs, h with
  | [c0, c1, c2, c3, c4, c5], _ => exact ⟨c0, c1, c2, c3, c4, c5, rfl⟩
theorem list7 {α : Type} {cs : List α} (h : cs.length = 7) : ∃ c0 c1 c2 c3 c4 c5 c6, cs = [c0, c1, c2, c3, c4, c5, c6] := by
  match cs, h with
  | [c0, c1, c2, c3, c4, c5, c6], _ => exact ⟨c0, c1, c2, c3, c4, c5, c6, rfl⟩
theorem list12 {α : Type} {cs : List α} (h : cs.length = 12) : ∃ c0 c1 c2 c3 c4 c5 c6 c7 c8 c9 c10 c11, cs = [c0, c1, c2, c3, c4, c5, c6, c7, c8, c9, c10, c11] := by
  match cs, h with
  | [c0, c1, c2, c3, c4, c5, c6, c7, c8, c9, c10, c11], _ => exact ⟨c0, c1, c2, c3, c4, c5, c6, c7, c8, c9, c10, c11, rfl⟩
theorem opened_op {n : Nat} {cs : List Value} {y : DataW H × List MemPlace} (hf : DataW.trod enc Try.prog W 0 (fun _ => true) true n 37 cs = some y) : ∃ o, cs = opL.enc o ∧ True := by
  obtain ⟨xs, m, _, rfl, hl, hlen, hfs⟩ := DataW.trod_struct Try.underlying37 hf
  rw [c_op] at hl
  obtain ⟨v0, v1, v2, rfl⟩ := list3 hl
  obtain ⟨y0, y1, y2, rfl⟩ := list3 hlen
  obtain ⟨x0, e0, _, _⟩ := DataW.trod_string Try.underlying9 (hfs 0 _ rfl)
  obtain ⟨x1, e1, _⟩ := DataW.trod_bool Try.underlying4 (hfs 1 _ rfl)
  obtain ⟨x2, e2, _, _⟩ := DataW.trod_string Try.underlying9 (hfs 2 _ rfl)
  simp [c_str, c_bool] at e0 e1 e2
  subst e0 e1 e2
  exact ⟨⟨x0, x1, x2⟩, rfl, trivial⟩
theorem opened_ops {n : Nat} {v : Value} {y : DataW H × List MemPlace} (hf : DataW.trod enc Try.prog W 0 (fun _ => true) true n 28 [v] = some y) : ∃ l, opL.In W v l := by
  obtain ⟨l, h, _⟩ := opened_list (I := opL) (Q := fun _ => True) Try.underlying28 c_op (by decide) (fun n cs y h => opened_op h) hf
  exact ⟨l, h⟩
theorem opened_ev {n : Nat} {cs : List Value} {y : DataW H × List MemPlace} (hf : DataW.trod enc Try.prog W 0 (fun _ => true) true n 32 cs = some y) : ∃ o, cs = evL.enc o := by
  obtain ⟨xs, m, _, rfl, hl, hlen, hfs⟩ := DataW.trod_struct Try.underlying32 hf
  rw [c_ev] at hl
  obtain ⟨v0, v1, v2, v3, v4, v5, rfl⟩ := list6 hl
  obtain ⟨y0, y1, y2, y3, y4, y5, rfl⟩ := list6 hlen
  obtain ⟨x0, e0, _, _⟩ := DataW.trod_int Try.underlying3 (hfs 0 _ rfl)
  obtain ⟨x1, e1, _, _⟩ := DataW.trod_string Try.underlying9 (hfs 1 _ rfl)
  obtain ⟨x2, e2, _⟩ := DataW.trod_bool Try.underlying4 (hfs 2 _ rfl)
  obtain ⟨x3, e3, _, _⟩ := DataW.trod_string Try.underlying9 (hfs 3 _ rfl)
  obtain ⟨x4, e4, _⟩ := DataW.trod_bool Try.underlying4 (hfs 4 _ rfl)
  obtain ⟨x5, e5, _, _⟩ := DataW.trod_string Try.underlying9 (hfs 5 _ rfl)
  simp [c_str, c_bool, c_int] at e0 e1 e2 e3 e4 e5
  subst e0 e1 e2 e3 e4 e5
  exact ⟨⟨x0, x1, x2, x3, x4, x5⟩, rfl⟩
/-- A call's cells. -/
def KdCs (W : World) (k : Kd) (cs : List Value) : Prop := ∃ u v, cs = [.int .i64 k.op, .int .i64 k.pos, u, v, .string k.fr, .string k.to, .int .i64 k.ev.pos, .string k.ev.key, .bool k.ev.had, .string k.ev.old, .bool k.ev.has, .string k.ev.now] ∧ opL.In W u k.conds ∧ opL.In W v k.ops
theorem opened_kd {n : Nat} {cs : List Value} {y : DataW H × List MemPlace} (hf : DataW.trod enc Try.prog W 0 (fun _ => true) true n 34 cs = some y) : ∃ k, KdCs W k cs := by
  obtain ⟨xs, m, _, rfl, hl, hlen, hfs⟩ := DataW.trod_struct Try.underlying34 hf
  rw [c_do] at hl
  obtain ⟨v0, v1, v2, v3, v4, v5, v6, v7, v8, v9, v10, v11, rfl⟩ := list12 hl
  obtain ⟨y0, y1, y2, y3, y4, y5, y6, rfl⟩ := list7 hlen
  obtain ⟨x0, e0, _, _⟩ := DataW.trod_int Try.underlying3 (hfs 0 _ rfl)
  obtain ⟨x1, e1, _, _⟩ := DataW.trod_int Try.underlying3 (hfs 1 _ rfl)
  have h2 := hfs 2 _ rfl
  have h3 := hfs 3 _ rfl
  obtain ⟨x4, e4, _, _⟩ := DataW.trod_string Try.underlying9 (hfs 4 _ rfl)
  obtain ⟨x5, e5, _, _⟩ := DataW.trod_string Try.underlying9 (hfs 5 _ rfl)
  obtain ⟨ev, e6⟩ := opened_ev (hfs 6 _ rfl)
  simp [c_str, c_int, c_ops, c_ev, evL] at e0 e1 e4 e5 e6 h2 h3
  obtain ⟨rfl, rfl, rfl, rfl, rfl, rfl⟩ := e6
  subst e0 e1 e4 e5
  obtain ⟨l2, i2⟩ := opened_ops h2
  obtain ⟨l3, i3⟩ := opened_ops h3
  exact ⟨⟨x0, x1, l2, l3, x4, x5, ev⟩, v2, v3, rfl, i2, i3⟩
theorem opened_kds {a0 : Option Addr} {len cap : Nat} {d0 : DataW H} {p : List MemPlace}
    (h0 : DataW.Trod enc Try.prog W 0 (fun _ => true) true 22 (.slice a0 len cap) d0 p) : ∃ ks : List Kd, KdsIn W (.slice a0 len cap) ks := by
  obtain ⟨fuel, hf⟩ := h0
  rcases DataW.trod_slice Try.underlying22 hf with ⟨hcs, _⟩ | ⟨a, len', cap', elems, rest, k, _, hcs, _, hb, hl, hm, hlen, hel, _, _⟩
  · simp [Value.cells] at hcs
    obtain ⟨rfl, rfl, rfl⟩ := hcs
    exact ⟨[], none, 0, rfl, .inl rfl⟩
  · simp [Value.cells] at hcs
    obtain ⟨rfl, rfl, rfl⟩ := hcs
    have each : ∀ i, i < len → ∃ k : Kd, ∃ cs, KdCs W k cs ∧ ∀ j u, cs[j]? = some u → W.cell? ((a.add (i * 12)).add j) = some u := by
      intro i hi
      have h := hel i hi
      rw [List.getElem?_eq_getElem (by omega), Option.bind_eq_some_iff, c_do] at h
      obtain ⟨cs', hcs', hy⟩ := h
      obtain ⟨_, hcl, hcc⟩ := World.cells?_some hcs'
      obtain ⟨k, hk⟩ := opened_kd hy
      exact ⟨k, cs', hk, fun j u hu => by rw [hcc j (by rw [← hcl]; exact (List.getElem?_eq_some_iff.1 hu).1)]; exact hu⟩
    obtain ⟨ks, hkl, hks⟩ := list_of_each len _ each
    refine ⟨ks, some a, cap, by rw [hkl], ?_⟩
    by_cases hn : len = 0
    · exact .inl (List.eq_nil_of_length_eq_zero (by omega))
    · obtain ⟨k0, cs0, ⟨u0, v0, rfl, _⟩, hc0⟩ := each 0 (by omega)
      have h0 := hc0 0 _ rfl
      obtain ⟨b, o, t⟩ := a
      obtain rfl : t = none := by simpa [Addr.add] using World.cell?_spot h0
      refine .inr ⟨b, o, rfl, fun i k hk => ?_⟩
      obtain ⟨cs, ⟨u, v, rfl, hu, hv⟩, hc⟩ := hks i k hk
      have c : ∀ j x, [Value.int .i64 k.op, .int .i64 k.pos, u, v, .string k.fr, .string k.to, .int .i64 k.ev.pos, .string k.ev.key, .bool k.ev.had, .string k.ev.old, .bool k.ev.has, .string k.ev.now][j]? = some x → W.cell? ⟨b, o + i * 12 + j, none⟩ = some x := fun j x hx => by
        have := hc j x hx
        rw [Addr.add_lit, Addr.add_lit] at this
        exact this
      exact ⟨u, v, c 0 _ rfl, c 1 _ rfl, c 2 _ rfl, c 3 _ rfl, c 4 _ rfl, c 5 _ rfl, c 6 _ rfl, c 7 _ rfl, c 8 _ rfl, c 9 _ rfl, c 10 _ rfl, c 11 _ rfl, hu, hv⟩
end
end Go.Proofs.Ytdfjnpnkfjcpcaa
