/-
  An argument of type []Do, opened, with how long its keys may be; a law's contract that knows the sizes of what came in.
-/
import Derived.Test.YthbjociddcddiaaOpen
import Derived.SizedLaws
namespace Go.Proofs.Ythbjociddcddiaa
set_option linter.unusedVariables false
set_option linter.unusedSimpArgs false
open Go.ChangeShapes Go.WideShapes Go.ChangeAt Go.WideMaps Go.WideElems Go.RowKit

theorem weightsAll_mem {H : Type} {P : Program} {e : TypeId} {d : DataW H} {n : Nat} (hn : n ∈ d.weights P e) : ∀ l : List (DataW H), d ∈ l → n ∈ DataW.weightsAll P e l
  | [], h => by simp at h
  | x :: l, h => by
    simp only [DataW.weightsAll, List.mem_append]
    rcases List.mem_cons.1 h with rfl | h
    · exact .inl hn
    · exact .inr (weightsAll_mem hn l h)

set_option maxRecDepth 100000 in
theorem opened_dos_sized {H : Type} {enc : TypeId × Value → H} {W : World} {a0 : Option Addr} {len cap : Nat} {d0 : DataW H} {p : List MemPlace}
    (h0 : DataW.Trod enc Try.prog W 0 (fun _ => true) true 22 (.slice a0 len cap) d0 p) (hd : ∀ n ∈ d0.weights Try.prog 22, n ≤ reachBytes) :
    ∃ ks : List Dk, DosIn W (.slice a0 len cap) ks ∧ ks.length = len ∧ ∀ k ∈ ks, k.key.size ≤ reachBytes := by
  obtain ⟨fuel, hf⟩ := h0
  have c3 : Try.prog.cellsOf 30 = 3 := by kernel_rfl
  have c1 : Try.prog.cellsOf 3 = 1 := by kernel_rfl
  have cs : Try.prog.cellsOf 9 = 1 := by kernel_rfl
  rcases DataW.trod_slice Try.underlying22 hf with ⟨hcs, _⟩ | ⟨a, len', cap', elems, rest, k, _, hcs, hx, hb, hl, hm, hlen, hel, _, _⟩
  · simp [Value.cells] at hcs
    obtain ⟨rfl, rfl, rfl⟩ := hcs
    exact ⟨[], ⟨none, 0, rfl, .inl rfl⟩, rfl, fun k hk => by simp at hk⟩
  · simp [Value.cells] at hcs
    obtain ⟨rfl, rfl, rfl⟩ := hcs
    have hdw : ∀ (i : Nat) (x : DataW H × List MemPlace), elems[i]? = some x → ∀ n ∈ x.1.weights Try.prog 30, n ≤ reachBytes := by
      intro i x hi n hn
      refine hd n ?_
      simp only [Prod.mk.injEq] at hx
      rw [hx.1]
      simp only [DataW.weights, Try.underlying22, List.mem_cons, List.mem_append]
      exact .inr (.inl (weightsAll_mem hn _ (List.mem_map.2 ⟨x, List.mem_of_getElem? hi, rfl⟩)))
    have each : ∀ i, i < len → ∃ k : Dk, W.cell? ((a.add (i * 3)).add 0) = some (.int .i64 k.op) ∧ W.cell? ((a.add (i * 3)).add 1) = some (.string k.key) ∧ W.cell? ((a.add (i * 3)).add 2) = some (.string k.val) ∧ k.key.size ≤ reachBytes := by
      intro i hi
      have hi' : elems[i]? = some (elems[i]'(by omega)) := List.getElem?_eq_getElem (by omega)
      have h := hel i hi
      rw [hi', Option.bind_eq_some_iff, c3] at h
      obtain ⟨cs', hc, hy⟩ := h
      have hw := hdw i _ hi'
      obtain ⟨_, hcl, hcc⟩ := World.cells?_some hc
      obtain ⟨y0, y1, y2, n', hxx, _, h0, h1, h2⟩ := Go.Deep.trod_struct3 Try.underlying30 hy
      obtain ⟨x, e0, _, wx⟩ := DataW.trod_int Try.underlying3 h0
      obtain ⟨s1, e1, ey1, _⟩ := DataW.trod_string Try.underlying9 h1
      obtain ⟨s2, e2, _, _⟩ := DataW.trod_string Try.underlying9 h2
      have hsz : s1.size ≤ reachBytes := by
        rw [Lib.size_eq]
        refine hw _ ?_
        rw [hxx]
        simp only [DataW.weights, Try.underlying30]
        exact DataW.weights_mem_each (j := 1) (t := 9) (d := y1.1) rfl rfl _ (by rw [ey1]; simp [DataW.weights])
      match cs', hcl with
      | [v0, v1, v2], _ =>
        simp [c1, cs] at e0 e1 e2
        subst e0 e1 e2
        exact ⟨⟨x, s1, s2⟩, hcc 0 (by omega), hcc 1 (by omega), hcc 2 (by omega), hsz⟩
    obtain ⟨ks, hkl, hks⟩ := list_of_each len _ each
    refine ⟨ks, ⟨some a, cap, by rw [hkl], ?_⟩, hkl, fun k hk => ?_⟩
    · by_cases hn : len = 0
      · exact .inl (List.eq_nil_of_length_eq_zero (by omega))
      · obtain ⟨x, hc, _⟩ := each 0 (by omega)
        obtain ⟨b, o, t⟩ := a
        obtain rfl : t = none := by simpa [Addr.add] using World.cell?_spot hc
        refine .inr ⟨b, o, rfl, fun i k hk => ?_⟩
        obtain ⟨h0, h1, h2, _⟩ := hks i k hk
        simp only [Addr.add_lit, Nat.add_zero] at h0 h1 h2
        exact ⟨h0, h1, h2⟩
    · obtain ⟨i, hi⟩ := List.mem_iff_getElem?.1 hk
      exact (hks i k hi).2.2.2

/-- A law's contract, where the sizes of what came in are known. -/
theorem returns_sized {H : Type} {enc : TypeId × Value → H} {a : Assume} {C : Checked} {os : Os} {f : FuncId} {fn : Func} {s : ChangeSpec} {conds : List PathCond} {apart fresh handsOn again : Bool}
    (own : ownKnob C.prog.godebug = none) (started : os.Started) (noInit : C.prog.inits.idxOf? f = none) (hfn : C.prog.funcs[f]? = some fn)
    (witness : ∃ (w : World) (tape : Tape) (i : Input), w.os = os ∧ (w.forCall tape i).Shaped C.prog ∧ i.vars = [] ∧ Input.okWide C.prog (w.forCall tape i) .any w.heap.size f i ∧
      s.pre6 enc C.prog fn conds apart (w.forCall tape i).memory i.args ∧ a.holds C.prog (lone (Frame.enter C.prog f i.args .normal) [] (w.forCall tape i)))
    (contract : ∀ (W : World) (base : Nat) (args : Array Value) (ds gs : List (DataW H)) (before : List MemPlace),
      (∀ (j : Nat) t v, fn.params[j]? = some t → args[j]? = some v → Value.okWide C.prog W .any base t v) →
      DataW.Whole enc C.prog fn.params.toList s.vars apart W args.toList ds gs before →
      (DataW.weightsEach C.prog (fn.params.toList ++ s.plain.varTypes C.prog) (ds ++ gs)).all (· ≤ reachBytes) = true →
      Calls C.prog f args W fun e W' => ∃ v, e = .returned v ∧ s.post enc C.prog fn apart fresh handsOn again W args v W') :
    ReturnsInHanded a C os f .any (s.pre6 enc C.prog fn conds apart) (s.post enc C.prog fn apart fresh handsOn again) := by
  have e : s.pre6 enc C.prog fn conds apart = (fun w args => (s.pre enc C.prog fn conds apart w args ∧ (fun _ _ => True) w args) ∧ sizedMet enc C.prog fn (OpenSpec.ofChange s) apart w args) := by
    funext w args
    exact propext ⟨fun h => ⟨⟨h.1, trivial⟩, h.2⟩, fun h => ⟨h.1.1, h.2⟩⟩
  rw [e]
  refine returnsInHanded_of_change_and (X := fun _ _ => True) (fun _ _ _ _ _ => trivial) own started noInit hfn ?_ fun W base args ds gs before h1 h2 _ h4 _ _ => contract W base args ds gs before h1 h2 h4
  obtain ⟨w, tape, i, h1, h2, h3, h4, h5, h6⟩ := witness
  exact ⟨w, tape, i, h1, h2, h3, h4, ⟨⟨h5.1, trivial⟩, h5.2⟩, h6⟩
end Go.Proofs.Ythbjociddcddiaa
