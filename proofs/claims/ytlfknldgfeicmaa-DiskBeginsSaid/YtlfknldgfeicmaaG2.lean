/-
  Blocks of cells; an act done to a store; an act that was torn.
-/
import Derived.Test.YtlfknldgfeicmaaG1
import Derived.Laws.Small
namespace Go.Proofs.Ytlfknldgfeicmaa
set_option linter.unusedVariables false
set_option linter.unusedSimpArgs false
open Go.RowKit

/-- A block's cells. -/
structure DC (w : World) (b : Nat) (cs : List Value) : Prop where
  cells : ∀ i v, cs[i]? = some v → w.cell? ⟨b, i, none⟩ = some v
  fz : ∀ i, w.frozen? ⟨b, i, none⟩ = false
  lt : b < w.heap.size
theorem DC.alloc (w : World) (cs : List Value) (t : TypeId) : DC (w.alloc (.cells cs.toArray t)) w.heap.size cs :=
  ⟨fun i v h => by rw [World.cell?_alloc_at _ _ _ _ rfl]; simpa using h, fun i => World.frozen?_alloc_at _ _ _ _ rfl, by simp⟩
theorem DC.keep {w w' : World} {b : Nat} {cs : List Value} (h : DC w b cs) (hs : w.heap.size ≤ w'.heap.size) (hk : w'.heap[b]? = w.heap[b]?) : DC w' b cs :=
  ⟨fun i v hv => (World.cell?_of_block (a := ⟨b, i, none⟩) hk).trans (h.cells i v hv), fun i => (World.frozen?_of_block (a := ⟨b, i, none⟩) hk).trans (h.fz i), Nat.lt_of_lt_of_le h.lt hs⟩
theorem DC.below {w w' : World} {b : Nat} {cs : List Value} (h : DC w b cs) (hb : Below w.heap.size w w') : DC w' b cs := h.keep hb.size (hb.block b h.lt)
theorem DC.tail {w w' : World} {b n : Nat} {Lt : List Nat} {cs : List Value} (h : DC w b cs) (ht : Tail w w' Lt n) (hn : b ∉ Lt) : DC w' b cs := h.keep ht.size (ht.block b h.lt hn)
theorem DC.set {w : World} {b : Nat} {cs : List Value} (h : DC w b cs) (i : Nat) (x : Value) (hi : i < cs.length) : DC (w.setCell ⟨b, i, none⟩ x) b (cs.set i x) := by
  refine ⟨fun j v hv => ?_, fun j => (World.frozen?_setCell _ _ _ _).trans (h.fz j), by simpa [World.setCell] using h.lt⟩
  by_cases e : i = j
  · subst e
    rw [List.getElem?_set_self hi] at hv
    obtain rfl := Option.some.inj hv
    exact World.cell?_setCell_same _ _ _ (h.cells i _ (List.getElem?_eq_getElem hi))
  · rw [List.getElem?_set_ne e] at hv
    exact (World.cell?_setCell_other _ _ _ _ (by simp [Ne.symm e])).trans (h.cells j v hv)
theorem DC.other {w : World} {b k o : Nat} {x : Value} {cs : List Value} (h : DC w b cs) (hk : b ≠ k) : DC (w.setCell ⟨k, o, none⟩ x) b cs :=
  h.keep (by simp [World.setCell]) (Below.heap_setCell _ _ _ _ hk)
theorem Byt.put {w : World} {L : List Nat} {v x : Value} {xs : List Int} {k o : Nat} (h : Byt w L v xs) (hk : k ∈ L) : Byt (w.setCell ⟨k, o, none⟩ x) L v xs :=
  h.keep (by simp [World.setCell]) (fun j _ hj => Below.heap_setCell _ _ _ _ (fun e => hj (by rw [e]; exact hk))) (fun j hj => .inl hj)
theorem Tp.more {w w' : World} {M M' Lt : List Nat} {v : Value} {xs : List Int} (h : Tp w M v xs Lt) (hb : Below w.heap.size w w') (hM : ∀ k ∈ M', k ∈ M ∨ w.heap.size ≤ k) : Tp w' M' v xs Lt := by
  have hlt := h.lt
  rcases h with ⟨e, h, ha⟩ | ⟨g, c, rfl, hg, hv, hown⟩
  · exact .inl ⟨e, h.keep hb.size (fun k hk _ => hb.block k hk) hM, ha⟩
  · refine .inr ⟨g, c, rfl, fun hm => ?_, hv, hown.kept (row := none) ⟨hb.os, hb.tape, hb.output, hb.size, fun k hk _ => hb.block k hk⟩ (by cases v.ownBlock <;> simp)⟩
    rcases hM g hm with h | h
    · exact hg h
    · have := (hlt g (by simp)).1; omega
theorem Tp.sub {w : World} {M M' Lt : List Nat} {v : Value} {xs : List Int} (h : Tp w M v xs Lt) (hM : ∀ k ∈ M', k ∈ M) : Tp w M' v xs Lt := h.more (Below.refl _ _) (fun k hk => .inl (hM k hk))
theorem Tp.put {w : World} {M Lt : List Nat} {v x : Value} {xs : List Int} {k o : Nat} (h : Tp w M v xs Lt) (hk : k ∈ M) : Tp (w.setCell ⟨k, o, none⟩ x) M v xs Lt := by
  rcases h with ⟨e, h, ha⟩ | ⟨g, c, rfl, hg, rfl, hown⟩
  · exact .inl ⟨e, h.put hk, ha⟩
  · refine .inr ⟨g, c, rfl, hg, rfl, hown.kept (row := some k) ⟨rfl, rfl, rfl, by simp [World.setCell], fun j _ hj => Below.heap_setCell _ _ _ _ (fun e => hj (by rw [e]))⟩ (.inr ?_)⟩
    intro e
    simp [Value.ownBlock] at e
    exact hg (e ▸ hk)

theorem wpList_tape {w : World} {M Lt : List Nat} {v u : Value} {xs ys : List Int} {ops : Array Oper} {rest : List Oper} {o : Oper} {a : Act} {Q : Exit → Act → World → Prop} (hgd : o.guard = none) (s x : Operand)
    (ho : o.op = .call { callee := .builtin .append, args := #[s, x], argTypes := #[32, 32] })
    (h : Tp w M v xs Lt) (hu : Byt w (M ++ Lt) u ys) (hM : ∀ k ∈ M, k < w.heap.size) (hl : xs.length + ys.length ≤ 70368744177664) (hs : a.eval s = v) (hx : a.eval x = u)
    (hk : ∀ v' w' Lt', Tp w' M v' (xs ++ ys) Lt' → Tail w w' Lt xs.length → (∀ k ∈ Lt', k ∈ Lt ∨ w.heap.size ≤ k) → wpList Try.prog ops Q rest (a.put o.dst v') w') : wpList Try.prog ops Q (o :: rest) a w :=
  wpList_plain hgd fun _ hK => by
    obtain ⟨v', w', Lt', hr, h2, h3, h4⟩ := tape_cat o.type h hu hM hl
    unfold Oper.wp execOp
    simp only [ho, resolve, invoke, builtin, Sem.run_bind, Sem.run_pure, Result.andThen_ok, List.map_toArray, List.map_cons, List.map_nil, hs, hx, hr]
    exact hK _ _ (hk v' w' Lt' h2 h3 h4)

/-- A store behind an act. -/
def Did (M Lt : List Nat) (f g : Fc) (w : World) (e : Ending) (w' : World) : Prop :=
  ∃ s0 s1 tv Lt', e = .returned (.agg #[s0, s1, tv]) ∧ Byt w' (M ++ Lt') s0 g.s0 ∧ Byt w' (M ++ Lt') s1 g.s1 ∧ Tp w' M tv g.tp Lt' ∧ Tail w w' Lt f.tp.length ∧ (∀ k ∈ Lt', k ∈ Lt ∨ w.heap.size ≤ k) ∧ (Lt' = [] ∨ f.tp.length ≤ g.tp.length)

theorem three (w : World) (A B C : Obj) : Below w.heap.size w (((w.alloc A).alloc B).alloc C) :=
  (((Below.refl _ _).alloc (Nat.le_refl _) _).alloc (by simp) _).alloc (by simp; omega) _

/-- The end of an act that made nothing but its own blocks. -/
theorem did_plain {w W : World} {M Lt Lt' : List Nat} {f g : Fc} {s0 s1 tv : Value} (hb : Below w.heap.size w W) (h0 : Byt w (M ++ Lt') s0 g.s0) (h1 : Byt w (M ++ Lt') s1 g.s1) (ht : Tp w M tv g.tp Lt') (hlt : ∀ k ∈ Lt, k < w.heap.size) (hl : ∀ k ∈ Lt', k ∈ Lt) (hle : Lt' = [] ∨ f.tp.length ≤ g.tp.length) :
    Did M Lt f g w (.returned (.agg #[s0, s1, tv])) W :=
  ⟨s0, s1, tv, Lt', rfl, h0.below hb, h1.below hb, ht.more hb (fun k hk => .inl hk), Tail.of_below hb hlt, fun k hk => .inl (hl k hk), hle⟩

set_option maxRecDepth 100000 in
set_option maxHeartbeats 3200000 in
theorem do_any {w : World} {M Lt : List Nat} (a : Ac) (f : Fc) (ok : a.Ok) {bv s0 s1 tv : Value} (hbv : Byt w (M ++ Lt) bv a.b) (h0 : Byt w (M ++ Lt) s0 f.s0) (h1 : Byt w (M ++ Lt) s1 f.s1) (ht : Tp w M tv f.tp Lt) (hM : ∀ k ∈ M, k < w.heap.size) (hl : f.tp.length ≤ 35184372088832) :
    Calls Try.prog 62 #[.agg #[.int .i64 a.kind, .int .i64 a.slot, bv], .agg #[s0, s1, tv]] w (Did M Lt f (a.does f) w) := by
  have hlt := ht.lt
  have HBV := Lib.hid hbv
  have H0 := Lib.hid h0
  have H1 := Lib.hid h1
  have HT := Lib.hid ht
  have HLT : Hid (∀ k ∈ Lt, k < w.heap.size) := fun k hk => (hlt k hk).1
  have HM := Lib.hid hM
  obtain ⟨ab, cb, hv, hcb1, hcb2⟩ := hbv.slice
  subst hv
  obtain ⟨a0, c0, hv, _, _⟩ := h0.slice
  subst hv
  obtain ⟨a1, c1, hv, _, _⟩ := h1.slice
  subst hv
  obtain ⟨at_, ct, hv, hct1, hct2⟩ := ht.slice
  subst hv
  have hsz := ok.size
  have hsl := ok.slot
  have hkd := ok.kind
  obtain ⟨kind, slot, bb⟩ := a
  simp only at hkd hsl hsz hcb1 hcb2 ⊢
  have HBV : Hid (Byt w (M ++ Lt) (.slice ab bb.length cb) bb) := HBV.out
  have HZ := Lib.hid hsz
  have HL := Lib.hid hl
  clear ok hbv h0 h1 ht hM hlt hsz hl
  rcases hkd with rfl | rfl | rfl | rfl
  · have HE : Hid (Ac.does ⟨0, slot, bb⟩ f = f) := by show _ = _; unfold Ac.does; simp
    go_enter Try.func62, Try.ntmps62
    go_wp2_with fail
    (try simp only [Exit.inBlock, Exit.then])
    refine bodyPost_ret (v := .agg #[.slice a0 f.s0.length c0, .slice a1 f.s1.length c1, .slice at_ f.tp.length ct]) (by simp [results, Try.results62, go_sem]) rfl ?_
    rw [HE.out]
    exact did_plain (three w _ _ _) H0.out H1.out HT.out HLT.out (fun k hk => hk) (.inr (Nat.le_refl _))
  · rcases hsl with rfl | rfl
    · have HE : Hid (Ac.does ⟨1, 0, bb⟩ f = ⟨bb, f.s1, f.tp⟩) := by show _ = _; unfold Ac.does; simp
      go_enter Try.func62, Try.ntmps62
      go_wp2_with fail
      (try simp only [Exit.inBlock, Exit.then])
      refine bodyPost_ret (v := .agg #[.slice ab bb.length cb, .slice a1 f.s1.length c1, .slice at_ f.tp.length ct]) (by simp [results, Try.results62, go_sem]) rfl ?_
      rw [HE.out]
      exact did_plain (three w _ _ _) HBV.out H1.out HT.out HLT.out (fun k hk => hk) (.inr (Nat.le_refl _))
    · have HE : Hid (Ac.does ⟨1, 1, bb⟩ f = ⟨f.s0, bb, f.tp⟩) := by show _ = _; unfold Ac.does; simp
      go_enter Try.func62, Try.ntmps62
      go_wp2_with fail
      (try simp only [Exit.inBlock, Exit.then])
      refine bodyPost_ret (v := .agg #[.slice a0 f.s0.length c0, .slice ab bb.length cb, .slice at_ f.tp.length ct]) (by simp [results, Try.results62, go_sem]) rfl ?_
      rw [HE.out]
      exact did_plain (three w _ _ _) H0.out HBV.out HT.out HLT.out (fun k hk => hk) (.inr (Nat.le_refl _))
  · have HE : Hid (Ac.does ⟨2, slot, bb⟩ f = ⟨f.s0, f.s1, f.tp ++ bb⟩) := by show _ = _; unfold Ac.does; simp
    have hA := three w (.cells #[.int .i64 2, .int .i64 slot, .slice ab bb.length cb] 89) (.cells #[.slice a0 f.s0.length c0, .slice a1 f.s1.length c1, .slice at_ f.tp.length ct] 67) (.cells #[.slice none 0 0, .slice none 0 0, .slice none 0 0] 67)
    have HA := Lib.hid hA
    have HMM : Hid (∀ k ∈ M ++ [w.heap.size + 1, w.heap.size + 1 + 1], k ∈ M ∨ w.heap.size ≤ k) := fun k hk => by
      rcases List.mem_append.1 hk with h | h
      · exact .inl h
      · simp at h; omega
    have HML : Hid (∀ k ∈ (M ++ [w.heap.size + 1, w.heap.size + 1 + 1]) ++ Lt, k ∈ M ++ Lt ∨ w.heap.size ≤ k) := fun k hk => by
      rcases List.mem_append.1 hk with h | h
      · exact (HMM.out k h).imp (fun h => List.mem_append.2 (.inl h)) id
      · exact .inl (List.mem_append.2 (.inr h))
    have HS1 := Lib.hid (((DC.alloc (w.alloc (.cells #[.int .i64 2, .int .i64 slot, .slice ab bb.length cb] 89)) [.slice a0 f.s0.length c0, .slice a1 f.s1.length c1, .slice at_ f.tp.length ct] 67)).below ((Below.refl _ _).alloc (Nat.le_refl _) (.cells #[.slice none 0 0, .slice none 0 0, .slice none 0 0] 67)))
    have HS2 := Lib.hid (DC.alloc ((w.alloc (.cells #[.int .i64 2, .int .i64 slot, .slice ab bb.length cb] 89)).alloc (.cells #[.slice a0 f.s0.length c0, .slice a1 f.s1.length c1, .slice at_ f.tp.length ct] 67)) [.slice none 0 0, .slice none 0 0, .slice none 0 0] 67)
    have HT3 := Lib.hid (HT.out.more HA.out HMM.out)
    have HB3 := Lib.hid (HBV.out.keep HA.out.size (fun k hk _ => HA.out.block k hk) HML.out)
    have HM3 : Hid (∀ k ∈ M ++ [w.heap.size + 1, w.heap.size + 1 + 1], k < (((w.alloc (.cells #[.int .i64 2, .int .i64 slot, .slice ab bb.length cb] 89)).alloc (.cells #[.slice a0 f.s0.length c0, .slice a1 f.s1.length c1, .slice at_ f.tp.length ct] 67)).alloc (.cells #[.slice none 0 0, .slice none 0 0, .slice none 0 0] 67)).heap.size) := fun k hk => by
      rcases List.mem_append.1 hk with h | h
      · have := HM.out k h; simp; omega
      · simp at h; simp; omega
    have HL3 : Hid (f.tp.length + bb.length ≤ 70368744177664) := by show _ ≤ _; have := HL.out; have := HZ.out; omega
    have hn1 : w.heap.size + 1 ∉ Lt := fun hm => by have := HLT.out _ hm; omega
    have hn2 : w.heap.size + 1 + 1 ∉ Lt := fun hm => by have := HLT.out _ hm; omega
    have HN1 := Lib.hid hn1
    have HN2 := Lib.hid hn2
    have HS1' : Hid (DC (((w.alloc (.cells #[.int .i64 2, .int .i64 slot, .slice ab bb.length cb] 89)).alloc (.cells #[.slice a0 f.s0.length c0, .slice a1 f.s1.length c1, .slice at_ f.tp.length ct] 67)).alloc (.cells #[.slice none 0 0, .slice none 0 0, .slice none 0 0] 67)) (w.heap.size + 1) [.slice a0 f.s0.length c0, .slice a1 f.s1.length c1, .slice at_ f.tp.length ct]) := by show DC _ _ _; have h := HS1.out; simpa using h
    have HS2' : Hid (DC (((w.alloc (.cells #[.int .i64 2, .int .i64 slot, .slice ab bb.length cb] 89)).alloc (.cells #[.slice a0 f.s0.length c0, .slice a1 f.s1.length c1, .slice at_ f.tp.length ct] 67)).alloc (.cells #[.slice none 0 0, .slice none 0 0, .slice none 0 0] 67)) (w.heap.size + 1 + 1) [.slice none 0 0, .slice none 0 0, .slice none 0 0]) := by show DC _ _ _; have h := HS2.out; simpa using h
    clear hA hn1 hn2 HS1 HS2
    go_enter Try.func62, Try.ntmps62
    go_wp2_with (at_builtin; go_loud (refine wpList_tape rfl _ _ rfl HT3.out HB3.out HM3.out HL3.out rfl rfl ?_; intro v' w' Lt' h2 h3 h4; have H2 := Lib.hid h2; have H3 := Lib.hid h3; have H4 := Lib.hid h4; have D1 := Lib.hid (HS1'.out.tail h3 HN1.out); have D2 := Lib.hid (HS2'.out.tail h3 HN2.out); obtain ⟨av, cv, hv, _, _⟩ := h2.slice; subst hv; have q0 := D1.out.cells 0 _ rfl; have q1 := D1.out.cells 1 _ rfl; have q2 := D1.out.cells 2 _ rfl; have q3 := D1.out.fz 2; have r0 := D2.out.cells 0 _ rfl; have r1 := D2.out.cells 1 _ rfl; have r2 := D2.out.cells 2 _ rfl; have r3 := D2.out.fz 0; have r4 := D2.out.fz 1; have r5 := D2.out.fz 2; clear h2 h3 h4))
    have H2 : Hid (Tp w' (M ++ [w.heap.size + 1, w.heap.size + 1 + 1]) (.slice av (f.tp.length + bb.length) cv) (f.tp ++ bb) Lt') := by show Tp _ _ _ _ _; have h := H2.out; rw [List.length_append] at h; exact h
    have D3 := (((D2.out.other (k := w.heap.size + 1) (o := 2) (x := .slice av (f.tp.length + bb.length) cv) (by omega)).set 0 (.slice a0 f.s0.length c0) (by simp)).set 1 (.slice a1 f.s1.length c1) (by simp)).set 2 (.slice av (f.tp.length + bb.length) cv) (by simp)
    have s0 := D3.cells 0 _ rfl
    have s1 := D3.cells 1 _ rfl
    have s2 := D3.cells 2 _ rfl
    have hb1 := Tail.behind HA.out HLT.out H3.out
    have hk1 : w.heap.size + 1 ∈ (M ++ [w.heap.size + 1, w.heap.size + 1 + 1]) := by simp
    have hk2 : w.heap.size + 1 + 1 ∈ (M ++ [w.heap.size + 1, w.heap.size + 1 + 1]) := by simp
    have ht2 := (((H2.out.put (o := 2) (x := .slice av (f.tp.length + bb.length) cv) hk1).put (o := 0) (x := .slice a0 f.s0.length c0) hk2).put (o := 1) (x := .slice a1 f.s1.length c1) hk2).put (o := 2) (x := .slice av (f.tp.length + bb.length) cv) hk2
    have hsz : ∀ (W : World) (k o : Nat) (x : Value), w.heap.size ≤ k → w.heap.size ≤ W.heap.size → Below w.heap.size W (W.setCell ⟨k, o, none⟩ x) := fun W k o x hk _ => ⟨rfl, rfl, rfl, by simp [World.setCell], fun j hj => Below.heap_setCell _ _ _ _ (by simp only; omega)⟩
    have hb2 := (((hsz w' (w.heap.size + 1) 2 (.slice av (f.tp.length + bb.length) cv) (by omega) hb1.size).trans (hsz _ (w.heap.size + 1 + 1) 0 (.slice a0 f.s0.length c0) (by omega) (by simp [World.setCell]; exact hb1.size))).trans (hsz _ (w.heap.size + 1 + 1) 1 (.slice a1 f.s1.length c1) (by omega) (by simp [World.setCell]; exact hb1.size))).trans (hsz _ (w.heap.size + 1 + 1) 2 (.slice av (f.tp.length + bb.length) cv) (by omega) (by simp [World.setCell]; exact hb1.size))
    generalize ((((w'.setCell ⟨w.heap.size + 1, 2, none⟩ (.slice av (f.tp.length + bb.length) cv)).setCell ⟨w.heap.size + 1 + 1, 0, none⟩ (.slice a0 f.s0.length c0)).setCell ⟨w.heap.size + 1 + 1, 1, none⟩ (.slice a1 f.s1.length c1)).setCell ⟨w.heap.size + 1 + 1, 2, none⟩ (.slice av (f.tp.length + bb.length) cv)) = w2 at *
    (try simp only [Exit.inBlock, Exit.then])
    refine bodyPost_ret (v := .agg #[.slice a0 f.s0.length c0, .slice a1 f.s1.length c1, .slice av (f.tp.length + bb.length) cv]) (by simp [results, Try.results62, go_sem, s0, s1, s2]) rfl ?_
    have htl := hb1.then HLT.out hb2
    have hnew : ∀ k ∈ Lt', k ∈ Lt ∨ w.heap.size ≤ k := fun k hk => (H4.out k hk).imp id (fun h => Nat.le_trans HA.out.size h)
    have hML : ∀ k ∈ M ++ Lt', k ∈ M ++ Lt ∨ w.heap.size ≤ k := fun k hk => by
      rcases List.mem_append.1 hk with h | h
      · exact .inl (List.mem_append.2 (.inl h))
      · exact (hnew k h).imp (fun h => List.mem_append.2 (.inr h)) id
    have hbk : ∀ k, k < w.heap.size → k ∉ M ++ Lt → w2.heap[k]? = w.heap[k]? := fun k hk hn => htl.block k hk (fun h => hn (List.mem_append.2 (.inr h)))
    rw [HE.out]
    refine ⟨_, _, _, Lt', rfl, H0.out.keep htl.size hbk hML, H1.out.keep htl.size hbk hML, ht2.sub (fun k hk => List.mem_append.2 (.inl hk)), htl, hnew, .inr (by simp)⟩
  · have HE : Hid (Ac.does ⟨3, slot, bb⟩ f = ⟨f.s0, f.s1, []⟩) := by show _ = _; unfold Ac.does; simp
    go_enter Try.func62, Try.ntmps62
    go_wp2_with fail
    (try simp only [Exit.inBlock, Exit.then])
    refine bodyPost_ret (v := .agg #[.slice a0 f.s0.length c0, .slice a1 f.s1.length c1, .slice none 0 0]) (by simp [results, Try.results62, go_sem]) rfl ?_
    rw [HE.out]
    exact did_plain (Lt' := []) (three w _ _ _) (H0.out.sub (fun k hk => by simp at hk ⊢; exact .inl hk)) (H1.out.sub (fun k hk => by simp at hk ⊢; exact .inl hk)) (Tp.nil w M) HLT.out (fun k hk => by cases hk) (.inl rfl)

theorem min_run (t : Int) (m : Nat) (n : Nat) (hn : (n : Int) = min t m) : ∀ (ts : Array TypeId) (ty : TypeId) (W : World), (Builtin.min_ ts ty #[.int .i64 t, .int .i64 m]).run Try.prog W = .ok (.int .i64 n) W := fun ts ty W => by
  rw [run_min_int2]
  congr 2
  split <;> omega

/-- An act as it is told: what it lays lies where nobody writes. -/
def Told (L : List Nat) (a : Ac) (w : World) (e : Ending) (w' : World) : Prop := ∃ bv, e = .returned (.agg #[.int .i64 a.kind, .int .i64 a.slot, bv]) ∧ Byt w' L bv a.b ∧ Below w.heap.size w w'

set_option maxRecDepth 100000 in
set_option maxHeartbeats 3200000 in
theorem torn_any {w : World} {L : List Nat} (a : Ac) (t : Int) {bv : Value} (hbv : Byt w L bv a.b) (ok : a.Ok) :
    Calls Try.prog 63 #[.agg #[.int .i64 a.kind, .int .i64 a.slot, bv], .int .i64 t] w (Told L (a.torn t) w) := by
  obtain ⟨ab, cb, hv, hcb1, hcb2⟩ := hbv.slice
  subst hv
  have HBV := Lib.hid hbv
  have hsz := ok.size
  obtain ⟨kind, slot, bb⟩ := a
  simp only at hcb1 hcb2 hsz ⊢
  have HBV : Hid (Byt w L (.slice ab bb.length cb) bb) := HBV.out
  clear ok hbv
  by_cases ht : t < 1
  · have HE : Hid (Ac.torn ⟨kind, slot, bb⟩ t = ⟨0, 0, []⟩) := by show _ = _; unfold Ac.torn; simp [ht]
    go_enter Try.func63, Try.ntmps63
    go_wp2_with fail
    (try simp only [Exit.inBlock, Exit.then])
    refine bodyPost_ret (v := .agg #[.int .i64 0, .int .i64 0, .slice none 0 0]) (by simp [results, Try.results63, go_sem]) rfl ?_
    rw [HE.out]
    exact ⟨_, rfl, Byt.nil _ _, ((Below.refl _ _).alloc (Nat.le_refl _) _).alloc (by simp) _⟩
  · by_cases hk : kind = 3
    · subst hk
      have HE : Hid (Ac.torn ⟨3, slot, bb⟩ t = ⟨0, 0, []⟩) := by show _ = _; unfold Ac.torn; simp
      go_enter Try.func63, Try.ntmps63
      go_wp2_with fail
      (try simp only [Exit.inBlock, Exit.then])
      refine bodyPost_ret (v := .agg #[.int .i64 0, .int .i64 0, .slice none 0 0]) (by simp [results, Try.results63, go_sem]) rfl ?_
      rw [HE.out]
      exact ⟨_, rfl, Byt.nil _ _, ((Below.refl _ _).alloc (Nat.le_refl _) _).alloc (by simp) _⟩
    · have hkb : (kind == 3) = false := by simp [hk]
      obtain ⟨n, hn⟩ : ∃ n : Nat, (n : Int) = min t (bb.length : Nat) := ⟨(min t (bb.length : Nat)).toNat, by omega⟩
      have hmin := min_run t bb.length n hn
      have hnl : n ≤ bb.length := by omega
      have HE : Hid (Ac.torn ⟨kind, slot, bb⟩ t = ⟨kind, slot, bb.take n⟩) := by
        show _ = _
        unfold Ac.torn
        rw [if_neg (by simp [hk]; omega)]
        simp only [Ac.mk.injEq, true_and]
        rw [show n = min t.toNat bb.length from by omega, List.take_eq_take_iff]
        omega
      have HB := Lib.hid (HBV.out.take n hnl)
      have hnc : n ≤ cb := by omega
      clear hn
      go_enter Try.func63, Try.ntmps63
      go_wp2_with fail
      (try simp only [Exit.inBlock, Exit.then])
      refine bodyPost_ret (v := .agg #[.int .i64 kind, .int .i64 slot, .slice ab n n]) (by simp [results, Try.results63, go_sem]) rfl ?_
      rw [HE.out]
      have hb : Below w.heap.size w ((w.alloc (.cells #[.int .i64 kind, .int .i64 slot, .slice ab n n] 89)).alloc (.cells #[.int .i64 kind, .int .i64 slot, .slice ab n n] 89)) := ((Below.refl _ _).alloc (Nat.le_refl _) _).alloc (by simp) _
      exact ⟨_, rfl, HB.out.below hb, hb⟩

set_option maxHeartbeats 800000 in
theorem shut_any (a0 a1 a : Option Addr) (n0 c0 n1 c1 n c : Nat) (hn : n ≤ c) (hc : c ≤ 9223372036854775807) (w : World) : Calls Try.prog 55 #[.agg #[.slice a0 n0 c0, .slice a1 n1 c1, .slice a n c]] w fun e w' => e = .returned (.agg #[.slice a0 n0 c0, .slice a1 n1 c1, .slice a n n]) ∧ Below w.heap.size w w' := by
  go_enter Try.func55, Try.ntmps55
  go_wp2_with fail
  (try simp only [Exit.inBlock, Exit.then])
  refine bodyPost_ret (v := .agg #[.slice a0 n0 c0, .slice a1 n1 c1, .slice a n n]) (by simp [results, Try.results55, go_sem]) rfl ?_
  exact ⟨rfl, ((Below.refl _ _).alloc (Nat.le_refl _) _).alloc (by simp) _⟩
end Go.Proofs.Ytlfknldgfeicmaa
