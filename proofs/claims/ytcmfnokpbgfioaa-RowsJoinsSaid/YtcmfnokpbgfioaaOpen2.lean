/-
  Arguments opened with their sizes; a law's contract that knows them.
-/
import Derived.Test.YtcmfnokpbgfioaaOpen
import Derived.Test.YtcmfnokpbgfioaaRf
import Derived.SizedLaws
namespace Go.Proofs.Ytcmfnokpbgfioaa
set_option linter.unusedVariables false
set_option linter.unusedSimpArgs false
set_option maxRecDepth 100000
open Go.ChangeShapes Go.WideShapes Go.ChangeAt Go.WideMaps Go.WideElems Go.RowKit

theorem weights_all_mem {H : Type} {P : Program} {e : TypeId} : ∀ {ds : List (DataW H)} {d : DataW H} {n : Nat}, d ∈ ds → n ∈ d.weights P e → n ∈ DataW.weightsAll P e ds
  | x :: ds, d, n, hd, hn => by
    simp only [DataW.weightsAll, List.mem_append]
    rcases List.mem_cons.1 hd with rfl | hd
    · exact .inl hn
    · exact .inr (weights_all_mem hd hn)
/-- A list of items, opened. -/
theorem opened_listS {α : Type} {I : Lay α} {Q : α → Prop} {H : Type} {enc : TypeId × Value → H} {P : Program} {W : World} {T E : TypeId} (hT : P.underlying T = some (.slice E)) (hc : P.cellsOf E = I.sz) (hsz : 0 < I.sz)
    (each0 : ∀ (n : Nat) (cs : List Value) (y : DataW H × List MemPlace), DataW.trod enc P W 0 (fun _ => true) true n E cs = some y → (∀ k ∈ y.1.weights P E, k ≤ reachBytes) → ∃ x, cs = I.enc x ∧ Q x)
    {n : Nat} {v : Value} {y : DataW H × List MemPlace} (hf : DataW.trod enc P W 0 (fun _ => true) true n T [v] = some y) (hz : ∀ k ∈ y.1.weights P T, k ≤ reachBytes) : ∃ l, I.In W v l ∧ ∀ x ∈ l, Q x := by
  rcases DataW.trod_slice hT hf with ⟨hcs, _⟩ | ⟨a, len, cap, elems, rest, k, _, hcs, hx, hb, hl, hm, hlen, hel, _, _⟩
  · obtain rfl : v = .slice none 0 0 := by simpa using hcs
    exact ⟨[], Lay.In.nil W, fun x hx => by cases hx⟩
  · obtain rfl : v = .slice (some a) len cap := by simpa using hcs
    have each : ∀ i, i < len → ∃ x : α, (∀ j u, (I.enc x)[j]? = some u → W.cell? ((a.add (i * I.sz)).add j) = some u) ∧ Q x := by
      intro i hi
      have h := hel i hi
      rw [List.getElem?_eq_getElem (by omega), Option.bind_eq_some_iff, hc] at h
      obtain ⟨cs', hcs', hy⟩ := h
      obtain ⟨_, hcl, hcc⟩ := World.cells?_some hcs'
      have hzi : ∀ n ∈ (elems[i]'(by omega)).1.weights P E, n ≤ reachBytes := fun n hn => by
        refine hz n ?_
        rw [hx]
        simp only [DataW.weights, hT]
        refine List.mem_cons_of_mem _ (List.mem_append.2 (.inl (weights_all_mem (d := (elems[i]'(by omega)).1) (List.mem_map.2 ⟨_, List.getElem_mem _, rfl⟩) hn)))
      obtain ⟨x, rfl, hq⟩ := each0 _ _ _ hy hzi
      refine ⟨x, fun j u hu => ?_, hq⟩
      have hj : j < I.sz := by rw [← I.len x]; exact (List.getElem?_eq_some_iff.1 hu).1
      have := hcc j hj
      rw [this]
      exact hu
    obtain ⟨xs, hxl, hxs⟩ := list_of_each len _ each
    refine ⟨xs, ⟨some a, cap, by rw [hxl], by omega, by unfold maxLen at hm; omega, ?_⟩, fun x hx => ?_⟩
    · by_cases hn : len = 0
      · exact .inl (List.eq_nil_of_length_eq_zero (by omega))
      · obtain ⟨x, hc0, _⟩ := each 0 (by omega)
        have h0 := hc0 0 ((I.enc x)[0]'(by rw [I.len]; exact hsz)) (List.getElem?_eq_getElem _)
        obtain ⟨b, o, t⟩ := a
        obtain rfl : t = none := by simpa [Addr.add] using World.cell?_spot h0
        refine .inr ⟨b, o, rfl, ?_, fun i x hx j u hu => ?_⟩
        · have := World.block_lt_of_cell? W _ h0
          rw [Addr.add_lit, Addr.add_lit] at this
          exact this
        · have := (hxs i x hx).1 j u hu
          rw [Addr.add_lit, Addr.add_lit] at this
          exact this
    · obtain ⟨i, hi⟩ := List.mem_iff_getElem?.1 hx
      exact (hxs i x hi).2


section
variable {H : Type} {enc : TypeId × Value → H} {W : World}
theorem opened_byt2 {n : Nat} {v : Value} {y : DataW H × List MemPlace} (hf : DataW.trod enc Try.prog W 0 (fun _ => true) true n 42 [v] = some y) (hz : ∀ k ∈ y.1.weights Try.prog 42, k ≤ reachBytes) : ∃ xs, Byt W [] v xs ∧ xs.length ≤ 140737488351232 := by
  obtain ⟨xs, hb⟩ := opened_byt hf
  refine ⟨xs, hb, ?_⟩
  have cb : Try.prog.bytesOf 5 = 1 := by kernel_rfl
  obtain ⟨a, c, hv, _, _⟩ := hb.slice
  rcases DataW.trod_slice Try.underlying42 hf with ⟨hcs, _⟩ | ⟨a', len, cap, elems, rest, k, _, hcs, hx, _, _, _, hlen, _, _, _⟩
  · rw [hv] at hcs
    simp at hcs
    rw [hcs.2.1]; decide
  · rw [hv] at hcs
    simp only [List.cons.injEq, Value.slice.injEq, and_true] at hcs
    have := hz ((elems.length + rest.length) * 1) (by rw [hx]; simp [DataW.weights, Try.underlying42, cb])
    have hr : reachBytes = 140737488351232 := by decide
    rw [hr] at this
    omega
theorem opened_en2 {n : Nat} {cs : List Value} {y : DataW H × List MemPlace} (hf : DataW.trod enc Try.prog W 0 (fun _ => true) true n 44 cs = some y) (hz : ∀ k ∈ y.1.weights Try.prog 44, k ≤ reachBytes) : ∃ x, cs = enL.enc x ∧ (-9223372036854775808 ≤ x.i ∧ x.i ≤ 9223372036854775807) ∧ ∃ d, Byt W [] x.s.v d ∧ d.length ≤ 140737488351232 := by
  obtain ⟨xs, m, _, rfl, hl, hlen, hfs⟩ := DataW.trod_struct Try.underlying44 hf
  rw [c_en] at hl
  obtain ⟨v0, v1, v2, rfl⟩ := list3 hl
  obtain ⟨y0, y1, y2, rfl⟩ := list3 hlen
  obtain ⟨x0, e0, _, w0⟩ := DataW.trod_int Try.underlying3 (hfs 0 _ rfl)
  obtain ⟨x1, e1, _, _⟩ := DataW.trod_int Try.underlying3 (hfs 1 _ rfl)
  have h2 := hfs 2 _ rfl
  simp [c_int, c_byt] at e0 e1 h2
  subst e0 e1
  obtain ⟨d, hd, hdl⟩ := opened_byt2 h2 (fun k hk => hz k (by simp [DataW.weights, DataW.weightsEach, Try.underlying44, hk]))
  obtain ⟨a, c, rfl, _, _⟩ := hd.slice
  simp only [Lit.wf, Bool.and_eq_true, decide_eq_true_eq] at w0
  exact ⟨⟨x0, x1, (a, d.length, c)⟩, rfl, w0, d, hd, hdl⟩
theorem ein_list2 : ∀ ls : List En, (∀ x ∈ ls, (-9223372036854775808 ≤ x.i ∧ x.i ≤ 9223372036854775807) ∧ ∃ d, Byt W [] x.s.v d ∧ d.length ≤ 140737488351232) → ∃ es : List Er, ls.length = es.length ∧ (∀ (k : Nat) (x : En) (e : Er), ls[k]? = some x → es[k]? = some e → x.i = e.i ∧ x.t = e.t ∧ Byt W [] x.s.v e.d) ∧ FitI es ∧ ∀ e ∈ es, e.d.length ≤ 140737488351232
  | [], _ => ⟨[], rfl, fun k x e hx => by simp at hx, fun e he => by simp at he, fun e he => by simp at he⟩
  | x :: ls, h => by
    obtain ⟨es, h1, h2, h3, h4⟩ := ein_list2 ls (fun y hy => h y (List.mem_cons_of_mem _ hy))
    obtain ⟨hr, d, hd, hdl⟩ := h x (List.mem_cons_self ..)
    refine ⟨⟨x.i, x.t, d⟩ :: es, by simp [h1], fun k y e hy he => ?_, fun e he => ?_, fun e he => ?_⟩
    · match k, hy, he with
      | 0, hy, he =>
        simp only [List.getElem?_cons_zero, Option.some.injEq] at hy he
        subst hy he
        exact ⟨rfl, rfl, hd⟩
      | k + 1, hy, he =>
        rw [List.getElem?_cons_succ] at hy he
        exact h2 k y e hy he
    · rcases List.mem_cons.1 he with rfl | he
      · exact hr
      · exact h3 e he
    · rcases List.mem_cons.1 he with rfl | he
      · exact hdl
      · exact h4 e he
theorem opened_ens2 {n : Nat} {v : Value} {y : DataW H × List MemPlace} (hf : DataW.trod enc Try.prog W 0 (fun _ => true) true n 22 [v] = some y) (hz : ∀ k ∈ y.1.weights Try.prog 22, k ≤ reachBytes) : ∃ es, EIn W v es ∧ FitI es ∧ ∀ e ∈ es, e.d.length ≤ 140737488351232 := by
  obtain ⟨ls, h1, h2⟩ := opened_listS (I := enL) (Q := fun x => (-9223372036854775808 ≤ x.i ∧ x.i ≤ 9223372036854775807) ∧ ∃ d, Byt W [] x.s.v d ∧ d.length ≤ 140737488351232) Try.underlying22 c_en (by decide) (fun n cs y h hs => opened_en2 h hs) hf hz
  obtain ⟨es, h3, h4, h5, h6⟩ := ein_list2 ls h2
  exact ⟨es, ⟨ls, h1, h3, h4⟩, h5, h6⟩
theorem open_log2 {r : Reach} {b0 : Nat} {v : Value} {d0 : DataW H} {p : List MemPlace} (hv : Value.okWide Try.prog W r b0 24 v) (h0 : DataW.Trod enc Try.prog W 0 (fun _ => true) true 24 v d0 p) (hz : ∀ k ∈ d0.weights Try.prog 24, k ≤ reachBytes) :
    ∃ (i t : Int) (u : Value) (es : List Er), v = .agg #[.int .i64 i, .int .i64 t, u] ∧ EIn W u es ∧ FitI es ∧ ∀ e ∈ es, e.d.length ≤ 140737488351232 := by
  obtain ⟨cs, rfl, hsz⟩ := okWide_struct Try.underlying24 hv
  obtain ⟨fuel, hf⟩ := h0
  obtain ⟨xs, m, _, hm, hl, hlen, hfs⟩ := DataW.trod_struct Try.underlying24 hf
  rw [c_log] at hl
  obtain ⟨v0, v1, v2, he⟩ := list3 hl
  rw [he] at hfs
  obtain ⟨y0, y1, y2, rfl⟩ := list3 hlen
  obtain ⟨x0, e0, _, _⟩ := DataW.trod_int Try.underlying3 (hfs 0 _ rfl)
  obtain ⟨x1, e1, _, _⟩ := DataW.trod_int Try.underlying3 (hfs 1 _ rfl)
  have h2 := hfs 2 _ rfl
  simp [c_int, c_ens] at e0 e1 h2
  subst e0 e1
  simp only [Prod.mk.injEq] at hm
  obtain ⟨es, hes, hfi, hds⟩ := opened_ens2 h2 (fun k hk => hz k (by rw [hm.1]; simp [DataW.weights, DataW.weightsEach, Try.underlying24, hk]))
  refine ⟨x0, x1, v2, es, ?_, hes, hfi, hds⟩
  obtain ⟨l⟩ := cs
  simp [Value.cells] at he
  rw [he]
end
/-- A law's contract, where the sizes of what came in are known. -/
theorem returns_sized {H : Type} {enc : TypeId × Value → H} {a : Assume} {C : Checked} {os : Os} {f : FuncId} {fn : Func} {s : ChangeSpec} {conds : List PathCond} {apart fresh handsOn again : Bool}
    (own : ownKnob C.prog.godebug = none) (started : os.Started) (noInit : C.prog.inits.idxOf? f = none) (hfn : C.prog.funcs[f]? = some fn)
    (witness : ∃ (w : World) (tape : Tape) (i : Input), w.os = os ∧ (w.forCall tape i).Shaped C.prog ∧ i.vars = [] ∧ Input.okWide C.prog (w.forCall tape i) .any w.heap.size f i ∧
      s.pre6 enc C.prog fn conds apart (w.forCall tape i).memory i.args ∧ a.holds C.prog (lone (Frame.enter C.prog f i.args .normal) [] (w.forCall tape i)))
    (contract : ∀ (W : World) (base : Nat) (args : Array Value) (ds gs : List (DataW H)) (before : List MemPlace),
      (∀ (j : Nat) t v, fn.params[j]? = some t → args[j]? = some v → Value.okWide C.prog W .any base t v) →
      DataW.Whole enc C.prog fn.params.toList s.vars apart W args.toList ds gs before →
      (DataW.weightsEach C.prog (fn.params.toList ++ s.plain.varTypes C.prog) (ds ++ gs)).all (· ≤ reachBytes) = true →
      Calls C.prog f args W fun e W' => ∃ v, e = .returned v ∧ s.post enc C.prog fn apart fresh handsOn again W args v W') :
    ReturnsInHanded a C os f .any (s.pre6 enc C.prog fn conds apart) (s.post enc C.prog fn apart fresh handsOn again) := by
  have e : s.pre6 enc C.prog fn conds apart = (fun w args => (s.pre enc C.prog fn conds apart w args ∧ (fun _ _ => True) w args) ∧ sizedMet enc C.prog fn (OpenSpec.ofChange s) apart w args) := by
    funext w args
    exact propext ⟨fun h => ⟨⟨h.1, trivial⟩, h.2⟩, fun h => ⟨h.1.1, h.2⟩⟩
  rw [e]
  refine returnsInHanded_of_change_and (X := fun _ _ => True) (fun _ _ _ _ _ => trivial) own started noInit hfn ?_ fun W base args ds gs before h1 h2 _ h4 _ _ => contract W base args ds gs before h1 h2 h4
  obtain ⟨w, tape, i, h1, h2, h3, h4, h5, h6⟩ := witness
  exact ⟨w, tape, i, h1, h2, h3, h4, ⟨⟨h5.1, trivial⟩, h5.2⟩, h6⟩
end Go.Proofs.Ytcmfnokpbgfioaa
