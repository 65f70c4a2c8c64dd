/-
  An act is done to what is told, and waits.
-/
import Derived.Test.YtlfknldgfeicmaaG5
namespace Go.Proofs.Ytlfknldgfeicmaa
set_option linter.unusedVariables false
set_option linter.unusedSimpArgs false
open Go.RowKit
variable {w : World} {B b : Nat} {L : List Nat} {d : Ds} {t0 t1 t2 l0 l1 l2 wt : Value} {ps : List Pa} {Lt Lw : List Nat} {room left keep tear : Int} {on : Bool} {told lasts : Fc}

theorem does_tp_cases (a : Ac) (f : Fc) : (a.does f).tp = f.tp ∨ (a.does f).tp = f.tp ++ a.b ∨ (a.does f).tp = [] := by
  unfold Ac.does
  split
  · split <;> exact .inl rfl
  · split
    · exact .inr (.inl rfl)
    · split
      · exact .inr (.inr rfl)
      · exact .inl rfl
theorem Dm.wlt (h : Dm w B b L room on told lasts left keep tear t0 t1 t2 l0 l1 l2 wt ps Lt Lw) : ∀ g ∈ Lw, g < w.heap.size ∧ wt.ownBlock = some g := by
  intro g hg
  rcases h.wa.at_ with ⟨rfl, _⟩ | ⟨g', c, rfl, hv⟩
  · cases hg
  · obtain rfl : g = g' := by simpa using hg
    have ho := h.wa.own
    rw [hv] at ho ⊢
    exact ⟨(ho.lt g rfl).2, rfl⟩

/-- What is told, behind an act that was done to it and stored. -/
theorem Dm.toldStep {w1 : World} {s0 s1 tv : Value} {Lt' : List Nat} (a : Ac) (h : Dm w B b L room on told lasts left keep tear t0 t1 t2 l0 l1 l2 wt ps Lt Lw)
    (g0 : Byt w1 ((b :: Lw) ++ Lt') s0 (a.does told).s0) (g1 : Byt w1 ((b :: Lw) ++ Lt') s1 (a.does told).s1) (gt : Tp w1 (b :: Lw) tv (a.does told).tp Lt') (tl : Tail w w1 Lt told.tp.length) (hnew : ∀ k ∈ Lt', k ∈ Lt ∨ w.heap.size ≤ k) (hle : Lt' = [] ∨ told.tp.length ≤ (a.does told).tp.length) :
    Dm (((w1.setCell ⟨b, 2, none⟩ s0).setCell ⟨b, 3, none⟩ s1).setCell ⟨b, 4, none⟩ tv) B b ((b :: Lw) ++ Lt') room on (a.does told) lasts left keep tear s0 s1 tv l0 l1 l2 wt ps Lt' Lw ∧
    Ext w L (((w1.setCell ⟨b, 2, none⟩ s0).setCell ⟨b, 3, none⟩ s1).setCell ⟨b, 4, none⟩ tv) ((b :: Lw) ++ Lt') := by
  have hL := h.hL
  subst hL
  have hbt : b ∉ Lt := fun hm => (h.ta.lt b hm).2 (by simp)
  have hnew' : ∀ k ∈ (b :: Lw) ++ Lt', k ∈ (b :: Lw) ++ Lt ∨ w.heap.size ≤ k := fun k hk => by
    rcases List.mem_append.1 hk with h | h
    · exact .inl (List.mem_append.2 (.inl h))
    · exact (hnew k h).imp (fun h => List.mem_append.2 (.inr h)) id
  have hbk : ∀ k, k < w.heap.size → k ∉ (b :: Lw) ++ Lt → w1.heap[k]? = w.heap[k]? := fun k hk hn => tl.block k hk (fun hm => hn (List.mem_append.2 (.inr hm)))
  have hw := fun g hg => tl.block g (h.wlt g hg).1 (fun hm => (h.ta.lt g hm).2 (List.mem_cons_of_mem _ hg))
  have ea : Lp w1 ((b :: Lw) ++ Lt') l2 lasts.tp tv (a.does told).tp Lt' := by
    refine ⟨h.ea.1, ?_⟩
    rcases h.ea.2 with h2 | ⟨g, c, hLt, ht2, hl2, hys⟩
    · exact .inl (h2.keep tl.size hbk hnew')
    · have hle2 : lasts.tp.length ≤ told.tp.length := by have := congrArg List.length hys; simp at this; omega
      have hta := h.ta
      rw [hLt] at hta
      have hgl := hta.lt g (by simp)
      by_cases hg : g ∈ Lt'
      · right
        rcases gt with ⟨e, _⟩ | ⟨g', c', e, hgM, hv, hown⟩
        · rw [e] at hg; cases hg
        · rw [e] at hg
          obtain rfl : g = g' := by simpa using hg
          refine ⟨g, c', e, hv, hl2, ?_⟩
          have hle3 := hle.resolve_left (by rw [e]; simp)
          rcases does_tp_cases a told with e2 | e2 | e2
          · rw [e2]; exact hys
          · rw [e2, List.take_append_of_le_length hle2]; exact hys
          · rw [e2] at hle3
            have h0 : told.tp = [] := List.eq_nil_of_length_eq_zero (by simpa using hle3)
            rw [h0] at hys
            rw [e2]; exact hys
      · left
        rcases hta with ⟨e, _⟩ | ⟨g', c', e, hgM, hv, hown⟩
        · cases e
        · obtain rfl : g = g' := by simpa using e
          have hr : Reads w ⟨g, 0, none⟩ told.tp := by rw [hv] at hown; exact hown.cells (g := g) rfl
          refine ⟨_, lasts.tp.length, hl2, Nat.le_refl _, by have := h.ta.slice; obtain ⟨_, _, _, h1, h3⟩ := this; omega, .inr ⟨⟨g, 0, none⟩, rfl, ?_, Nat.lt_of_lt_of_le hgl.1 tl.size, ?_⟩⟩
          · intro hm
            rcases List.mem_append.1 hm with hm | hm
            · exact hgM hm
            · exact hg hm
          · intro j u hj
            have hj1 : j < lasts.tp.length := by have := (List.getElem?_eq_some_iff.1 hj).1; rw [u8s_length] at this; exact this
            have h3 := hr.take lasts.tp.length j u (by rw [← hys]; exact hj)
            rw [Addr.add_lit] at h3 ⊢
            rw [tl.pre g (by rw [hLt]; simp) _ (by omega)]
            exact h3
  have hbL : b ∈ (b :: Lw) ++ Lt' := by simp
  have hbM : b ∈ b :: Lw := by simp
  have c1 := h.cells.tail tl hbt
  have c2 := ((c1.set 2 s0 (by simp)).set 3 s1 (by simp)).set 4 tv (by simp)
  simp only [List.set_cons_zero, List.set_cons_succ] at c2
  have e0 := h.e0.keep tl.size hbk hnew'
  have e1 := h.e1.keep tl.size hbk hnew'
  have wa := h.wa.hold tl.size hbk hnew' hw
  have hk2 : ∀ k, k ≠ b → (((w1.setCell ⟨b, 2, none⟩ s0).setCell ⟨b, 3, none⟩ s1).setCell ⟨b, 4, none⟩ tv).heap[k]? = w1.heap[k]? := fun k hk => by
    rw [Below.heap_setCell _ _ _ _ hk, Below.heap_setCell _ _ _ _ hk, Below.heap_setCell _ _ _ _ hk]
  have hs2 : (((w1.setCell ⟨b, 2, none⟩ s0).setCell ⟨b, 3, none⟩ s1).setCell ⟨b, 4, none⟩ tv).heap.size = w1.heap.size := by simp [World.setCell]
  have ta2 := ((gt.put (o := 2) (x := s0) hbM).put (o := 3) (x := s1) hbM).put (o := 4) (x := tv) hbM
  generalize hV : ((w1.setCell ⟨b, 2, none⟩ s0).setCell ⟨b, 3, none⟩ s1).setCell ⟨b, 4, none⟩ tv = V at *
  have ho : V.os = w1.os ∧ V.tape = w1.tape ∧ V.output = w1.output := by rw [← hV]; exact ⟨rfl, rfl, rfl⟩
  have hs3 : w1.heap.size ≤ V.heap.size := by rw [hs2]; exact Nat.le_refl _
  have hk3 : ∀ k, k < w1.heap.size → k ∉ (b :: Lw) ++ Lt' → V.heap[k]? = w1.heap[k]? := fun k _ hn => hk2 k (fun e => hn (by rw [e]; exact hbL))
  refine ⟨⟨c2, rfl, g0.keep hs3 hk3 (fun k hk => .inl hk), g1.keep hs3 hk3 (fun k hk => .inl hk), ta2, e0.keep hs3 hk3 (fun k hk => .inl hk), e1.keep hs3 hk3 (fun k hk => .inl hk), ea.hold hs3 hk3 (fun k hk => .inl hk), wa.hold hs3 hk3 (fun k hk => .inl hk) (fun g hg => hk2 g (fun e => h.nb (by rw [← e]; exact hg))), h.nb, fun k hk => ?_⟩, ?_⟩
  · rcases hnew' k hk with h1 | h1
    · exact h.low k h1
    · have := h.low b (by simp)
      have := h.cells.lt
      omega
  · exact ⟨ho.1.trans tl.os, ho.2.1.trans tl.tape, ho.2.2.trans tl.output, Nat.le_trans tl.size hs3, fun k hk hn => (hk2 k (fun e => hn (by rw [e]; simp))).trans (hbk k hk hn), hnew'⟩

/-- What waits, behind an act that was put to it and stored. -/
theorem Dm.waitsStep {W w3 : World} {gg cap : Nat} {bv : Value} (a : Ac) (ok : a.Ok) (h : Dm w B b L room on told lasts left keep tear t0 t1 t2 l0 l1 l2 wt ps Lt Lw) (hbv : Byt w L bv a.b) (hb : Below w.heap.size w W)
    (hown : w3.ownsRow 0 89 3 (.slice (some ⟨gg, 0, none⟩) (ps.length + 1) cap) (ps.length + 1) (wcs ps ++ [.int .i64 a.kind, .int .i64 a.slot, bv])) (hg : W.grownBy w3 wt.ownBlock) (hat : wt.ownBlock = some gg ∨ w.heap.size ≤ gg) :
    Dm (w3.setCell ⟨b, 8, none⟩ (.slice (some ⟨gg, 0, none⟩) (ps.length + 1) cap)) B b ((b :: [gg]) ++ Lt) room on told lasts left keep tear t0 t1 t2 l0 l1 l2 (.slice (some ⟨gg, 0, none⟩) (ps.length + 1) cap) (ps ++ [(a, bv)]) Lt [gg] ∧
    Ext w L (w3.setCell ⟨b, 8, none⟩ (.slice (some ⟨gg, 0, none⟩) (ps.length + 1) cap)) ((b :: [gg]) ++ Lt) := by
  have hL := h.hL
  subst hL
  have hwL : ∀ k, wt.ownBlock = some k → k ∈ Lw := by
    intro k hk
    rcases h.wa.at_ with ⟨_, rfl, _⟩ | ⟨g', c, rfl, hv⟩
    · cases hk
    · rw [hv] at hk
      simp [Value.ownBlock] at hk
      simp [hk]
  have hgg : gg ∈ Lw ∨ w.heap.size ≤ gg := hat.imp (hwL gg) id
  have hbk : ∀ k, k < w.heap.size → k ∉ Lw → w3.heap[k]? = w.heap[k]? := fun k hk hn => (hg.block k (Nat.lt_of_lt_of_le hk hb.size) (fun e => hn (hwL k e.symm))).trans (hb.block k hk)
  have hs3 : w.heap.size ≤ w3.heap.size := Nat.le_trans hb.size hg.size
  have hbk' : ∀ k, k < w.heap.size → k ∉ (b :: Lw) ++ Lt → w3.heap[k]? = w.heap[k]? := fun k hk hn => hbk k hk (fun hm => hn (by simp [hm]))
  have hnew : ∀ k ∈ (b :: [gg]) ++ Lt, k ∈ (b :: Lw) ++ Lt ∨ w.heap.size ≤ k := fun k hk => by
    simp only [List.cons_append, List.nil_append, List.mem_cons] at hk
    rcases hk with rfl | rfl | hk
    · exact .inl (by simp)
    · exact hgg.imp (fun h => by simp [h]) id
    · exact .inl (by simp [hk])
  have hbg : b ≠ gg := fun e => by
    rcases hgg with h1 | h1
    · exact h.nb (by rw [e]; exact h1)
    · have := h.cells.lt; omega
  have c1 : DC w3 b _ := h.cells.keep hs3 (hbk b h.cells.lt h.nb)
  have c2 := c1.set 8 (.slice (some ⟨gg, 0, none⟩) (ps.length + 1) cap) (by simp)
  simp only [List.set_cons_zero, List.set_cons_succ] at c2
  have ta3 : Tp w3 (b :: [gg]) t2 told.tp Lt := by
    have hlt := h.ta.lt
    rcases h.ta with ⟨e, h1, ha⟩ | ⟨g, c, rfl, hgM, rfl, ho⟩
    · refine .inl ⟨e, ?_, ha⟩
      obtain ⟨aa, cc, hv, h2, h3, h4⟩ := h1
      refine ⟨aa, cc, hv, h2, h3, h4.imp id ?_⟩
      rintro ⟨p, hp, hpn, hpl, hr⟩
      have hpw : p.block ∉ Lw := fun hm => hpn (List.mem_cons_of_mem _ hm)
      refine ⟨p, hp, fun hm => ?_, Nat.lt_of_lt_of_le hpl hs3, hr.keep (hbk _ hpl hpw)⟩
      simp at hm
      rcases hm with hm | hm
      · exact hpn (by simp [hm])
      · rcases hgg with h5 | h5
        · exact hpw (by rw [hm]; exact h5)
        · omega
    · have hgl := (hlt g (by simp)).1
      have hgw : g ∉ Lw := fun hm => hgM (List.mem_cons_of_mem _ hm)
      refine .inr ⟨g, c, rfl, fun hm => ?_, rfl, ?_⟩
      · simp at hm
        rcases hm with hm | hm
        · exact hgM (by simp [hm])
        · rcases hgg with h5 | h5
          · exact hgw (by rw [hm]; exact h5)
          · omega
      · refine ⟨ho.1, ?_⟩
        rcases ho.2 with h0 | ⟨g', cap', cur, hv, hb', hgr, rest⟩
        · exact .inl h0
        · refine .inr ⟨g', cap', cur, hv, hb', ?_, rest⟩
          simp only [Value.slice.injEq, Option.some.injEq, Addr.mk.injEq] at hv
          rw [← hv.1.1] at hgr ⊢
          rw [hbk g hgl hgw]; exact hgr
  have hbL : b ∈ (b :: [gg]) ++ Lt := by simp
  have hbM : b ∈ b :: [gg] := by simp
  have wa3 : Wt w3 ((b :: [gg]) ++ Lt) (.slice (some ⟨gg, 0, none⟩) (ps.length + 1) cap) (ps ++ [(a, bv)]) [gg] := by
    refine ⟨by rw [wcs_app, List.length_append]; exact hown, .inr ⟨gg, cap, rfl, by simp⟩, fun p hp => ?_, fun p hp => ?_⟩
    · rcases List.mem_append.1 hp with hp | hp
      · exact (h.wa.byt p hp).keep hs3 hbk' hnew
      · obtain rfl : p = (a, bv) := by simpa using hp
        exact hbv.keep hs3 hbk' hnew
    · rcases List.mem_append.1 hp with hp | hp
      · exact h.wa.ok p hp
      · obtain rfl : p = (a, bv) := by simpa using hp
        exact ok
  have hk2 : ∀ k, k ≠ b → (w3.setCell ⟨b, 8, none⟩ (.slice (some ⟨gg, 0, none⟩) (ps.length + 1) cap)).heap[k]? = w3.heap[k]? := fun k hk => Below.heap_setCell _ _ _ _ hk
  have hs2 : (w3.setCell ⟨b, 8, none⟩ (.slice (some ⟨gg, 0, none⟩) (ps.length + 1) cap)).heap.size = w3.heap.size := by simp [World.setCell]
  have ta4 := ta3.put (o := 8) (x := .slice (some ⟨gg, 0, none⟩) (ps.length + 1) cap) hbM
  generalize hV : w3.setCell ⟨b, 8, none⟩ (.slice (some ⟨gg, 0, none⟩) (ps.length + 1) cap) = V at *
  have ho : V.os = w3.os ∧ V.tape = w3.tape ∧ V.output = w3.output := by rw [← hV]; exact ⟨rfl, rfl, rfl⟩
  have hs4 : w3.heap.size ≤ V.heap.size := by rw [hs2]; exact Nat.le_refl _
  have hs5 : w.heap.size ≤ V.heap.size := Nat.le_trans hs3 hs4
  have hk3 : ∀ k, k < w3.heap.size → k ∉ (b :: [gg]) ++ Lt → V.heap[k]? = w3.heap[k]? := fun k _ hn => hk2 k (fun e => hn (by rw [e]; exact hbL))
  have hk4 : ∀ k, k < w.heap.size → k ∉ (b :: Lw) ++ Lt → V.heap[k]? = w.heap[k]? := fun k hk hn => (hk2 k (fun e => hn (by rw [e]; simp))).trans (hbk' k hk hn)
  refine ⟨⟨c2, rfl, h.a0.keep hs5 hk4 hnew, h.a1.keep hs5 hk4 hnew, ta4, h.e0.keep hs5 hk4 hnew, h.e1.keep hs5 hk4 hnew, h.ea.hold hs5 hk4 hnew, wa3.hold hs4 hk3 (fun k hk => .inl hk) (fun g hg => hk2 g (fun e => hbg (by rw [← e]; simpa using hg))), by simpa using hbg, fun k hk => ?_⟩, ?_⟩
  · rcases hnew k hk with h1 | h1
    · exact h.low k h1
    · have := h.low b (by simp)
      have := h.cells.lt
      omega
  · exact ⟨ho.1.trans (hg.os.trans hb.os), ho.2.1.trans (hg.tape.trans hb.tape), ho.2.2.trans (hg.output.trans hb.output), hs5, hk4, hnew⟩
end Go.Proofs.Ytlfknldgfeicmaa
