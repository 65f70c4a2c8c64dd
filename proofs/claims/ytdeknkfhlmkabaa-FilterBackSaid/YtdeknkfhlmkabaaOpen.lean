/-
  Arguments opened: a filter, events.
-/
import Derived.Test.YtdeknkfhlmkabaaPost
import Derived.Deep.Strs
import Derived.Lib.SmallJoins
namespace Go.Proofs.Ytdeknkfhlmkabaa
set_option linter.unusedVariables false
set_option linter.unusedSimpArgs false
set_option maxRecDepth 100000
open Go.ChangeShapes Go.WideShapes Go.ChangeAt Go.WideMaps Go.WideElems Go.RowKit

theorem list_of_each {α : Type} : ∀ (n : Nat) (P : Nat → α → Prop), (∀ i, i < n → ∃ x, P i x) → ∃ l : List α, l.length = n ∧ ∀ i x, l[i]? = some x → P i x
  | 0, P, _ => ⟨[], rfl, fun i x h => by simp at h⟩
  | n + 1, P, h => by
    obtain ⟨l, hl, hP⟩ := list_of_each n P (fun i hi => h i (by omega))
    obtain ⟨x, hx⟩ := h n (by omega)
    refine ⟨l ++ [x], by simp [hl], fun i y hy => ?_⟩
    rcases Nat.lt_or_ge i n with hi | hi
    · rw [List.getElem?_append_left (by omega)] at hy
      exact hP i y hy
    · rw [List.getElem?_append_right (by omega), hl] at hy
      have : i - n = 0 := by
        have := (List.getElem?_eq_some_iff.1 hy).1
        simp at this; omega
      rw [this] at hy
      obtain rfl : x = y := by simpa using hy
      obtain rfl : i = n := by omega
      exact hx

/-- A list of items, opened. -/
theorem opened_list {α : Type} {I : Lay α} {Q : α → Prop} {H : Type} {enc : TypeId × Value → H} {P : Program} {W : World} {T E : TypeId} (hT : P.underlying T = some (.slice E)) (hc : P.cellsOf E = I.sz) (hsz : 0 < I.sz)
    (each0 : ∀ (n : Nat) (cs : List Value) (y : DataW H × List MemPlace), DataW.trod enc P W 0 (fun _ => true) true n E cs = some y → ∃ x, cs = I.enc x ∧ Q x)
    {n : Nat} {v : Value} {y : DataW H × List MemPlace} (hf : DataW.trod enc P W 0 (fun _ => true) true n T [v] = some y) : ∃ l, I.In W v l ∧ ∀ x ∈ l, Q x := by
  rcases DataW.trod_slice hT hf with ⟨hcs, _⟩ | ⟨a, len, cap, elems, rest, k, _, hcs, _, hb, hl, hm, hlen, hel, _, _⟩
  · obtain rfl : v = .slice none 0 0 := by simpa using hcs
    exact ⟨[], Lay.In.nil W, fun x hx => by cases hx⟩
  · obtain rfl : v = .slice (some a) len cap := by simpa using hcs
    have each : ∀ i, i < len → ∃ x : α, (∀ j u, (I.enc x)[j]? = some u → W.cell? ((a.add (i * I.sz)).add j) = some u) ∧ Q x := by
      intro i hi
      have h := hel i hi
      rw [List.getElem?_eq_getElem (by omega), Option.bind_eq_some_iff, hc] at h
      obtain ⟨cs', hcs', hy⟩ := h
      obtain ⟨_, hcl, hcc⟩ := World.cells?_some hcs'
      obtain ⟨x, rfl, hq⟩ := each0 _ _ _ hy
      refine ⟨x, fun j u hu => ?_, hq⟩
      have hj : j < I.sz := by rw [← I.len x]; exact (List.getElem?_eq_some_iff.1 hu).1
      have := hcc j hj
      rw [this]
      exact hu
    obtain ⟨xs, hxl, hxs⟩ := list_of_each len _ each
    refine ⟨xs, ⟨some a, cap, by rw [hxl], by omega, by unfold maxLen at hm; omega, ?_⟩, fun x hx => ?_⟩
    · by_cases hn : len = 0
      · exact .inl (List.eq_nil_of_length_eq_zero (by omega))
      · obtain ⟨x, hc0, _⟩ := each 0 (by omega)
        have h0 := hc0 0 ((I.enc x)[0]'(by rw [I.len]; exact hsz)) (List.getElem?_eq_getElem _)
        obtain ⟨b, o, t⟩ := a
        obtain rfl : t = none := by simpa [Addr.add] using World.cell?_spot h0
        refine .inr ⟨b, o, rfl, ?_, fun i x hx j u hu => ?_⟩
        · have := World.block_lt_of_cell? W _ h0
          rw [Addr.add_lit, Addr.add_lit] at this
          exact this
        · have := (hxs i x hx).1 j u hu
          rw [Addr.add_lit, Addr.add_lit] at this
          exact this
    · obtain ⟨i, hi⟩ := List.mem_iff_getElem?.1 hx
      exact (hxs i x hi).2

section
variable {H : Type} {enc : TypeId × Value → H} {W : World}
theorem c_int : Try.prog.cellsOf 3 = 1 := by kernel_rfl
theorem c_str : Try.prog.cellsOf 9 = 1 := by kernel_rfl
theorem c_bool : Try.prog.cellsOf 4 = 1 := by kernel_rfl
theorem c_ev : Try.prog.cellsOf 32 = 6 := by kernel_rfl
theorem c_fl : Try.prog.cellsOf 24 = 4 := by kernel_rfl
theorem c_fls : Try.prog.cellsOf 22 = 1 := by kernel_rfl
theorem list6 {α : Type} {cs : List α} (h : cs.length = 6) : ∃ c0 c1 c2 c3 c4 c5, cs = [c0, c1, c2, c3, c4, c5] := by
  match cs, h with
  | [c0, c1, c2, c3, c4, c5], _ => exact ⟨c0, c1, c2, c3, c4, c5, rfl⟩
theorem list4 {α : Type} {cs : List α} (h : cs.length = 4) : ∃ c0 c1 c2 c3, cs = [c0, c1, c2, c3] := by
  match cs, h with
  | [c0, c1, c2, c3], _ => exact ⟨c0, c1, c2, c3, rfl⟩
theorem opened_ev {n : Nat} {cs : List Value} {y : DataW H × List MemPlace} (hf : DataW.trod enc Try.prog W 0 (fun _ => true) true n 32 cs = some y) : ∃ o, cs = evL.enc o := by
  obtain ⟨xs, m, _, rfl, hl, hlen, hfs⟩ := DataW.trod_struct Try.underlying32 hf
  rw [c_ev] at hl
  obtain ⟨v0, v1, v2, v3, v4, v5, rfl⟩ := list6 hl
  obtain ⟨y0, y1, y2, y3, y4, y5, rfl⟩ := list6 hlen
  obtain ⟨x0, e0, _, _⟩ := DataW.trod_int Try.underlying3 (hfs 0 _ rfl)
  obtain ⟨x1, e1, _, _⟩ := DataW.trod_string Try.underlying9 (hfs 1 _ rfl)
  obtain ⟨x2, e2, _⟩ := DataW.trod_bool Try.underlying4 (hfs 2 _ rfl)
  obtain ⟨x3, e3, _, _⟩ := DataW.trod_string Try.underlying9 (hfs 3 _ rfl)
  obtain ⟨x4, e4, _⟩ := DataW.trod_bool Try.underlying4 (hfs 4 _ rfl)
  obtain ⟨x5, e5, _, _⟩ := DataW.trod_string Try.underlying9 (hfs 5 _ rfl)
  simp [c_str, c_bool, c_int] at e0 e1 e2 e3 e4 e5
  subst e0 e1 e2 e3 e4 e5
  exact ⟨⟨x0, x1, x2, x3, x4, x5⟩, rfl⟩
theorem opened_evs {n : Nat} {v : Value} {y : DataW H × List MemPlace} (hf : DataW.trod enc Try.prog W 0 (fun _ => true) true n 29 [v] = some y) : ∃ l, evL.In W v l := by
  obtain ⟨l, h, _⟩ := opened_list (I := evL) (Q := fun _ => True) Try.underlying29 c_ev (by decide) (fun n cs y h => by obtain ⟨o, h⟩ := opened_ev h; exact ⟨o, h, trivial⟩) hf
  exact ⟨l, h⟩
/-- A filter's cells. -/
def FlCs (W : World) (x : Fl × Value) (cs : List Value) : Prop := cs = [.int .i64 x.1.kind, .string x.1.name, .string x.1.text, x.2] ∧ KidsIn W W.heap.size x.2 x.1.kids ∧ Fits x.1
theorem opened_filter : ∀ (n : Nat) (cs : List Value) (y : DataW H × List MemPlace), DataW.trod enc Try.prog W 0 (fun _ => true) true n 24 cs = some y → ∃ x, FlCs W x cs := by
  intro n
  induction n using Nat.strongRecOn with
  | ind n ih =>
    intro cs y hf
    obtain ⟨xs, m, hm, rfl, hl, hlen, hfs⟩ := DataW.trod_struct Try.underlying24 hf
    rw [c_fl] at hl
    obtain ⟨v0, v1, v2, v3, rfl⟩ := list4 hl
    obtain ⟨y0, y1, y2, y3, rfl⟩ := list4 hlen
    obtain ⟨x0, e0, _, _⟩ := DataW.trod_int Try.underlying3 (hfs 0 _ rfl)
    obtain ⟨x1, e1, _, z1⟩ := DataW.trod_string Try.underlying9 (hfs 1 _ rfl)
    obtain ⟨x2, e2, _, z2⟩ := DataW.trod_string Try.underlying9 (hfs 2 _ rfl)
    have h3 := hfs 3 _ rfl
    simp [c_str, c_int, c_fls] at e0 e1 e2 h3
    subst e0 e1 e2
    have z1' : x1.size ≤ 9223372036854775807 := by unfold maxLen at z1; omega
    have z2' : x2.size ≤ 9223372036854775807 := by unfold maxLen at z2; omega
    rcases DataW.trod_slice Try.underlying22 h3 with ⟨hcs, _⟩ | ⟨a, len, cap, elems, rest, k, hk, hcs, _, hb, hl, hmx, hlen, hel, _, _⟩
    · obtain rfl : v3 = .slice none 0 0 := by simpa using hcs
      exact ⟨(.mk x0 x1 x2 [], .slice none 0 0), rfl, .nul none 0 (by decide), .mk _ ⟨z1', z2'⟩ (fun k hk => by simp [Fl.kids] at hk)⟩
    · obtain rfl : v3 = .slice (some a) len cap := by simpa using hcs
      have each : ∀ i, i < len → ∃ x : Fl × Value, ∃ cs, FlCs W x cs ∧ ∀ j u, cs[j]? = some u → W.cell? ((a.add (i * 4)).add j) = some u := by
        intro i hi
        have h := hel i hi
        rw [List.getElem?_eq_getElem (by omega), Option.bind_eq_some_iff, c_fl] at h
        obtain ⟨cs', hcs', hy⟩ := h
        obtain ⟨_, hcl, hcc⟩ := World.cells?_some hcs'
        obtain ⟨x, hx⟩ := ih k (by omega) _ _ hy
        exact ⟨x, cs', hx, fun j u hu => by rw [hcc j (by rw [← hcl]; exact (List.getElem?_eq_some_iff.1 hu).1)]; exact hu⟩
      obtain ⟨ps, hpl, hps⟩ := list_of_each len _ each
      have hcap : cap ≤ 9223372036854775807 := by unfold maxLen at hmx; omega
      have hfit : ∀ k ∈ ps.map (fun q : Fl × Value => q.1), Fits k := by
        intro k hk
        obtain ⟨x, hx, rfl⟩ := List.mem_map.1 hk
        obtain ⟨i, hi⟩ := List.mem_iff_getElem?.1 hx
        obtain ⟨_, hc, _⟩ := hps i x hi
        exact hc.2.2
      refine ⟨(Fl.mk x0 x1 x2 (ps.map (fun q : Fl × Value => q.1)), Value.slice (some a) len cap), rfl, ?_, Fits.mk (Fl.mk x0 x1 x2 (ps.map (fun q : Fl × Value => q.1))) ⟨z1', z2'⟩ hfit⟩
      show KidsIn W W.heap.size (.slice (some a) len cap) (ps.map (fun q : Fl × Value => q.1))
      by_cases hn : len = 0
      · obtain rfl : ps = [] := List.eq_nil_of_length_eq_zero (by omega)
        subst hn
        exact .nul _ _ hcap
      · obtain ⟨x0, cs0, ⟨rfl, _⟩, hc0⟩ := each 0 (by omega)
        have h0 := hc0 0 _ rfl
        have hlt := World.block_lt_of_cell? W _ h0
        obtain ⟨b, o, t⟩ := a
        obtain rfl : t = none := by simpa [Addr.add] using World.cell?_spot h0
        rw [Addr.add_lit, Addr.add_lit] at hlt
        have hll : (ps.map (fun q : Fl × Value => q.1)).length = len := by rw [List.length_map, hpl]
        rw [← hll]
        refine .more b o cap (ps.map (fun q : Fl × Value => q.1)) (fun i => (ps[i]?.map (fun q : Fl × Value => q.2)).getD .nilIface) hlt (by rw [hll]; omega) (by rw [hll]; omega) hcap ?_ ?_
        · intro i k hk
          rw [List.getElem?_map, Option.map_eq_some_iff] at hk
          obtain ⟨q, hq, rfl⟩ := hk
          obtain ⟨cs, ⟨rfl, _⟩, hc⟩ := hps i q hq
          have c : ∀ j u, [Value.int .i64 q.1.kind, .string q.1.name, .string q.1.text, q.2][j]? = some u → W.cell? ⟨b, o + i * 4 + j, none⟩ = some u := fun j u hu => by
            have := hc j u hu
            rw [Addr.add_lit, Addr.add_lit] at this
            exact this
          refine ⟨c 0 _ rfl, c 1 _ rfl, c 2 _ rfl, ?_⟩
          rw [hq]
          exact c 3 _ rfl
        · intro i k hk
          rw [List.getElem?_map, Option.map_eq_some_iff] at hk
          obtain ⟨q, hq, rfl⟩ := hk
          obtain ⟨cs, ⟨_, hin, _⟩, _⟩ := hps i q hq
          rw [hq]
          exact hin
theorem open_filter {r : Reach} {b0 : Nat} {v : Value} {d0 : DataW H} {p : List MemPlace} (hv : Value.okWide Try.prog W r b0 24 v) (h0 : DataW.Trod enc Try.prog W 0 (fun _ => true) true 24 v d0 p) : ∃ (f : Fl) (u : Value), v = flV f u ∧ KidsIn W W.heap.size u f.kids ∧ Fits f := by
  obtain ⟨cs, rfl, hsz⟩ := okWide_struct Try.underlying24 hv
  obtain ⟨fuel, hf⟩ := h0
  obtain ⟨x, he, hk, hfit⟩ := opened_filter _ _ _ hf
  refine ⟨x.1, x.2, ?_, hk, hfit⟩
  simp [Value.cells] at he
  obtain ⟨l⟩ := cs
  simp at he
  rw [he]
  rfl
theorem open_ev {r : Reach} {b0 : Nat} {v : Value} {d0 : DataW H} {p : List MemPlace} (hv : Value.okWide Try.prog W r b0 32 v) (h0 : DataW.Trod enc Try.prog W 0 (fun _ => true) true 32 v d0 p) : ∃ (e : Kev), v = evV e := by
  obtain ⟨cs, rfl, hsz⟩ := okWide_struct Try.underlying32 hv
  obtain ⟨fuel, hf⟩ := h0
  obtain ⟨x, he⟩ := opened_ev hf
  refine ⟨x, ?_⟩
  simp [Value.cells, evL] at he
  obtain ⟨l⟩ := cs
  simp at he
  rw [he]
  rfl
end
end Go.Proofs.Ytdeknkfhlmkabaa
