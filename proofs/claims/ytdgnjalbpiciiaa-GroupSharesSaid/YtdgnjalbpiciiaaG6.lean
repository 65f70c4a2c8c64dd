/-
  Members that come and go.
-/
import Derived.Test.YtdgnjalbpiciiaaG5
namespace Go.Proofs.Ytdgnjalbpiciiaa
set_option linter.unusedVariables false
set_option linter.unusedSimpArgs false
open Go.RowKit Go.Shelf

theorem own_push {w' : World} {l : List Int} {g c : Nat} {x : Int} (hown : w'.ownsRow 0 3 intL.sz (.slice (some ⟨g, 0, none⟩) (l.length + 1) c) (l.length + 1) (intL.all l ++ [.int .i64 x])) : Own intL 3 w' ⟨some ⟨g, 0, none⟩, l.length + 1, c⟩ (l ++ [x]) := by
  have h : w'.ownsRow 0 3 intL.sz (.slice (some ⟨g, 0, none⟩) (l.length + 1) c) (l ++ [x]).length (intL.all (l ++ [x])) := by
    rw [Lay.all_app, Lay.all_one, List.length_append]
    exact hown
  obtain ⟨s, hv, ho, _, _⟩ := own_row h
  have : s = ⟨some ⟨g, 0, none⟩, l.length + 1, c⟩ := by
    obtain ⟨a, n, c'⟩ := s
    simp only [Sl.v, Value.slice.injEq] at hv
    obtain ⟨rfl, rfl, rfl⟩ := hv
    rfl
  rw [← this]; exact ho
/-- A group behind a turn of its members. -/
def Gr.turn (g : Gr) (m : List Int) : Gr := { g with members := m, term := g.term + 1, owners := share g.owners (team m) }
set_option maxRecDepth 100000 in
set_option maxHeartbeats 3200000 in
theorem change_any {w : World} {s sv : Sl} {g i : Nat} {ys : List Gi} {x : Gi} {m' : List Int} (hl : Own giL 45 w s ys) (ha : s.a = some ⟨g, 0, none⟩) (hi : ys[i]? = some x) (hm : Own intL 3 w sv m') (hg1 : g ∉ blk sv) (ho : Own intL 3 w x.2.o x.1.owners) (hg2 : g ∉ blk x.2.o)
    (lo : x.1.owners.length ≤ 1000) (lm : m'.length ≤ 1000) (hwo : ∀ n ∈ x.1.owners, W64 n) (hwm : ∀ n ∈ m', W64 n) (ht : 0 ≤ x.1.term ∧ x.1.term ≤ 1099511627776) :
    Calls Try.prog 65 #[.pointer (some ⟨g, i * 7, none⟩), sv.v] w fun e w' => e = .returned (.tuple #[]) ∧ ∃ so : Sl, Own giL 45 w' s (ys.set i (x.1.turn m', { x.2 with m := sv, o := so })) ∧ Own intL 3 w' so (share x.1.owners (team m')) ∧ (∀ k ∈ blk so, w.heap.size ≤ k) ∧ (w'.os = w.os ∧ w'.tape = w.tape ∧ w'.output = w.output) ∧ w.heap.size ≤ w'.heap.size ∧ ∀ k, k < w.heap.size → k ≠ g → w'.heap[k]? = w.heap[k]? := by
  have hlt := (List.getElem?_eq_some_iff.1 hi).1
  have hgl : g < w.heap.size := hl.lt g (by rw [blk_some ha]; simp)
  have h1 : Own giL 45 (w.setCell ⟨g, i * 7 + 4, none⟩ sv.v) s (ys.set i ({ x.1 with members := m' }, { x.2 with m := sv })) := hl.set ha hi (j := 4) (by decide) sv.v rfl
  have h2 : Own giL 45 ((w.setCell ⟨g, i * 7 + 4, none⟩ sv.v).setCell ⟨g, i * 7 + 2, none⟩ (.int .i64 (x.1.term + 1))) s (ys.set i ({ x.1 with members := m', term := x.1.term + 1 }, { x.2 with m := sv })) := by
    have h := h1.set ha (List.getElem?_set_self hlt) (j := 2) (by decide) (.int .i64 (x.1.term + 1)) (x' := ({ x.1 with members := m', term := x.1.term + 1 }, { x.2 with m := sv })) rfl
    rw [List.set_set] at h
    exact h
  have hk2 : ∀ k, k ≠ g → ((w.setCell ⟨g, i * 7 + 4, none⟩ sv.v).setCell ⟨g, i * 7 + 2, none⟩ (.int .i64 (x.1.term + 1))).heap[k]? = w.heap[k]? := fun k hk => (Below.heap_setCell _ _ _ _ hk).trans (Below.heap_setCell _ _ _ _ hk)
  have hm2 := hm.kept (w' := (w.setCell ⟨g, i * 7 + 4, none⟩ sv.v).setCell ⟨g, i * 7 + 2, none⟩ (.int .i64 (x.1.term + 1))) fun k hk => hk2 k (fun e => hg1 (e ▸ hk))
  have ho2 := ho.kept (w' := (w.setCell ⟨g, i * 7 + 4, none⟩ sv.v).setCell ⟨g, i * 7 + 2, none⟩ (.int .i64 (x.1.term + 1))) fun k hk => hk2 k (fun e => hg2 (e ▸ hk))
  have HS := Lib.hid (Share_any ho2.told hm2.told hwo hwm lo lm)
  have H2 := Lib.hid h2
  have HK := Lib.hid hk2
  have c4 := hl.cell ha hi (j := 4) rfl
  have c2 := h1.cell ha (List.getElem?_set_self hlt) (j := 2) rfl
  have c5 := h2.cell ha (List.getElem?_set_self hlt) (j := 5) rfl
  have z4 := hl.fz ha (i * 7 + 4)
  have z2 := h1.fz ha (i * 7 + 2)
  change w.cell? ⟨g, i * 7 + 4, none⟩ = some (.slice x.2.m.a x.2.m.n x.2.m.c) at c4
  change (w.setCell ⟨g, i * 7 + 4, none⟩ (.slice sv.a sv.n sv.c)).cell? ⟨g, i * 7 + 2, none⟩ = some (.int .i64 x.1.term) at c2
  change ((w.setCell ⟨g, i * 7 + 4, none⟩ (.slice sv.a sv.n sv.c)).setCell ⟨g, i * 7 + 2, none⟩ (.int .i64 (x.1.term + 1))).cell? ⟨g, i * 7 + 5, none⟩ = some (.slice x.2.o.a x.2.o.n x.2.o.c) at c5
  change (w.setCell ⟨g, i * 7 + 4, none⟩ (.slice sv.a sv.n sv.c)).frozen? ⟨g, i * 7 + 2, none⟩ = false at z2
  have et : IntKind.i64.wrap (x.1.term + 1) = x.1.term + 1 := IntWalk.i64_in _ (by omega)
  have HLT := Lib.hid hlt
  have HA := Lib.hid ha
  have HGL := Lib.hid hgl
  unfold Sl.v at HS H2 HK ⊢
  clear hl hi hm ho hg1 hg2 hwo hwm h1 h2 hk2 hm2 ho2 ht lo lm hlt ha hgl
  go_enter Try.func65, Try.ntmps65
  go_wp2_with fail
  generalize hW : (w.setCell ⟨g, i * 7 + 4, none⟩ (.slice sv.a sv.n sv.c)).setCell ⟨g, i * 7 + 2, none⟩ (.int .i64 (x.1.term + 1)) = W at *
  have HZ : Hid (W.heap.size = w.heap.size ∧ W.os = w.os ∧ W.tape = w.tape ∧ W.output = w.output) := by rw [← hW]; exact ⟨by rw [set_size, set_size], rfl, rfl, rfl⟩
  clear hW c4 c2 z4 z2
  go_fit HS.out
  rintro e w3 ⟨v, rfl, hR⟩
  obtain ⟨so, hv, hso, hsb, _⟩ := hR.own'
  have hb3 := hR.grown
  have H3 := H2.out.below hb3
  have c5' := cell_later hb3 c5
  have z5 := H3.fz HA.out (i * 7 + 5)
  subst hv
  unfold Sl.v
  have HF : Hid (∃ so' : Sl, so' = so ∧ Own giL 45 (w3.setCell ⟨g, i * 7 + 5, none⟩ (.slice so.a so.n so.c)) s (ys.set i (x.1.turn m', { x.2 with m := sv, o := so })) ∧ Own intL 3 (w3.setCell ⟨g, i * 7 + 5, none⟩ (.slice so.a so.n so.c)) so (share x.1.owners (team m')) ∧ (∀ k ∈ blk so, w.heap.size ≤ k)) := by
    have h := H3.set HA.out (List.getElem?_set_self HLT.out) (j := 5) (by decide) so.v (x' := (x.1.turn m', { x.2 with m := sv, o := so })) rfl
    rw [List.set_set] at h
    refine ⟨so, rfl, h, hso.kept fun k hk => Below.heap_setCell _ _ _ _ (fun e => ?_), fun k hk => ?_⟩
    · have h1 := hsb k hk; rw [e, HZ.out.1] at h1; have := HGL.out; simp at h1; omega
    · have h1 := hsb k hk; rw [HZ.out.1] at h1; exact h1
  have HB3 := Lib.hid hb3
  clear hR hso hsb hb3 H3 c5 HS H2
  go_wp2_with fail
  go_end0
  obtain ⟨_, _, hF1, hF2, hF3⟩ := HF.out
  refine ⟨rfl, so, hF1, hF2, hF3, ⟨HB3.out.os.trans HZ.out.2.1, HB3.out.tape.trans HZ.out.2.2.1, HB3.out.output.trans HZ.out.2.2.2⟩, ?_, fun k hk hne => ?_⟩
  · rw [set_size, ← HZ.out.1]; exact HB3.out.size
  · exact ((Below.heap_setCell _ _ _ _ hne).trans (HB3.out.block k (by rw [HZ.out.1]; exact hk))).trans (HK.out k hne)
end Go.Proofs.Ytdgnjalbpiciiaa
