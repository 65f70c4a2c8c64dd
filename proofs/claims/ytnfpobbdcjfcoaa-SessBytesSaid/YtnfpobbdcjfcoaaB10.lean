/-
  Walks: the document's table: a session begins, ends, is kept.
-/
import Derived.Test.YtnfpobbdcjfcoaaB9
namespace Go.Proofs.Ytnfpobbdcjfcoaa
set_option linter.unusedVariables false
set_option linter.unusedSimpArgs false
open Go.RowKit
variable {w : World} {b : Nat} {L : List Nat} {x : Tb}

theorem step_cat {w : World} {B : Nat} {v u : Value} {xs ys : List Se} {ops : Array Oper} {o : Oper} {a : Act} {K : Act → World → Prop} {Q : Exit → Act → World → Prop} {E : Prop} (hgd : o.guard = none) (s x : Operand)
    (ho : o.op = .call { callee := .builtin .append, args := #[s, x], argTypes := #[27, 27] })
    (hs : a.eval s = v) (hx : a.eval x = u) (hown : w.ownsRow B 44 4 v xs.length (scs xs)) (hu : SeB w [] u ys) (hl : xs.length + ys.length ≤ 1000000) (hB : B ≤ w.heap.size)
    (hk : ∀ v' w', w'.ownsRow B 44 4 v' (xs ++ ys).length (scs (xs ++ ys)) → w.grownBy w' v.ownBlock → (v'.ownBlock = v.ownBlock ∨ ∃ g, v'.ownBlock = some g ∧ w.heap.size ≤ g) → K (a.put o.dst v') w') : if Region.wanted o (yielded ops a.tmps) = true then Oper.wp Try.prog o a w K Q else E := by
  have hw : Region.wanted o (yielded ops a.tmps) = true := by simp [Region.wanted, hgd]
  rw [if_pos hw]
  obtain ⟨v', w', hr, h2, h3, h4⟩ := run_cat o.type hown hu hl hB
  unfold Oper.wp execOp
  simp only [ho, resolve, invoke, builtin, Sem.run_bind, Sem.run_pure, Result.andThen_ok, List.map_toArray, List.map_cons, List.map_nil, hs, hx, hr]
  exact hk v' w' h2 h3 h4

theorem own_slice {w : World} {B n : Nat} {v : Value} {cs : List Value} (h : w.ownsRow B 44 4 v n cs) : ∃ a c, v = .slice a n c ∧ n ≤ c ∧ c ≤ 9223372036854775807 := by
  rcases h.2 with ⟨h0, h1⟩ | ⟨g, cap, cur, hv, _, _, hn, hm, _⟩
  · exact ⟨none, 0, by rw [h0, h1], by omega, by decide⟩
  · exact ⟨_, cap, hv, hn, by unfold maxLen at hm; exact hm⟩
theorem own_none {A : World} {N : Nat} (h : A.heap[N]? = some (.cells #[] 44 (0, 0))) : A.ownsRow 0 44 4 (.slice (some ⟨N, 0, none⟩) 0 0) ([] : List Se).length (scs []) :=
  ⟨rfl, .inr ⟨N, 0, #[], rfl, Nat.zero_le _, h, Nat.le_refl _, by unfold maxLen; omega, rfl, rfl⟩⟩
theorem own_seb {w : World} {B : Nat} {v : Value} {l : List Se} (h : w.ownsRow B 44 4 v l.length (scs l)) (hL : ∀ g, v.ownBlock = some g → g ∉ L) : SeB w L v l := by
  rcases h.2 with ⟨rfl, h0⟩ | ⟨g, c, cur, rfl, hg, hh, hn, hm, _⟩
  · rw [List.eq_nil_of_length_eq_zero h0]; exact SeB.nil _ _
  · exact ⟨_, c, rfl, hn, by unfold maxLen at hm; omega, .inr ⟨g, 0, rfl, hL g rfl, (World.ownsRow.lt h g rfl).2, row_at h⟩⟩
/-- In the midst of what a table's list becomes: its own two cells, a row that is new. -/
structure Mid (W : World) (b : Nat) (cs : List Value) (l : List Se) (w1 : World) (v1 : Value) : Prop where
  dc : DC w1 b cs
  own : w1.ownsRow 0 44 4 v1 l.length (scs l)
  below : Below W.heap.size W w1
  new : ∀ g, v1.ownBlock = some g → W.heap.size ≤ g
theorem Mid.later {W w1 w2 : World} {cs : List Value} {l : List Se} {v1 : Value} (h : Mid W b cs l w1 v1) (hb : Below w1.heap.size w1 w2) : Mid W b cs l w2 v1 :=
  ⟨h.dc.below hb, h.own.kept (row := none) ⟨hb.os, hb.tape, hb.output, hb.size, fun k hk _ => hb.block k hk⟩ (by cases v1.ownBlock <;> simp), h.below.trans (hb.mono h.below.size), h.new⟩
theorem Mid.alloc {W w1 : World} {cs : List Value} {l : List Se} {v1 : Value} (h : Mid W b cs l w1 v1) (o : Obj) : Mid W b cs l (w1.alloc o) v1 := h.later (below_alloc _ _)
theorem Mid.cat {W w1 w2 : World} {cs : List Value} {l m : List Se} {v1 v2 : Value} (h : Mid W b cs l w1 v1) (hbW : b < W.heap.size) (ho : w2.ownsRow 0 44 4 v2 (l ++ m).length (scs (l ++ m))) (hg : w1.grownBy w2 v1.ownBlock) (hat : v2.ownBlock = v1.ownBlock ∨ ∃ g, v2.ownBlock = some g ∧ w1.heap.size ≤ g) : Mid W b cs (l ++ m) w2 v2 :=
  ⟨h.dc.keep hg.size (hg.block b h.dc.lt (fun e => by have := h.new b e.symm; omega)), ho, h.below.trans ((grown_below hg h.new h.below.size)), fun g e => by
    rcases hat with h1 | ⟨g', h1, h2⟩
    · exact h.new g (h1 ▸ e)
    · rw [h1] at e; cases e; have := h.below.size; omega⟩
theorem mid_none {W A : World} {N : Nat} {cs : List Value} (hd : DC W b cs) (hb : Below W.heap.size W A) (hN : W.heap.size ≤ N) (h : A.heap[N]? = some (.cells #[] 44 (0, 0))) : Mid W b cs [] A (.slice (some ⟨N, 0, none⟩) 0 0) :=
  ⟨hd.below hb, own_none h, hb, fun g e => by cases e; exact hN⟩
/-- The end: the list is laid. -/
theorem Mid.put {W w1 : World} {n : Int} {lv v1 : Value} {l : List Se} (h : Mid W b [.int .i64 n, lv] l w1 v1) (hL : ∀ k ∈ L, k < W.heap.size) (hb : b ∉ L) (hbW : b < W.heap.size) : Rf (w1.setCell ⟨b, 1, none⟩ v1) L b ⟨n, l⟩ ∧ Ext W [b] (w1.setCell ⟨b, 1, none⟩ v1) [b] := by
  have hc := h.dc.set 1 v1 (by simp)
  simp only [List.set_cons_zero, List.set_cons_succ] at hc
  have hg2 : w1.grownBy (w1.setCell ⟨b, 1, none⟩ v1) (some b) := ⟨rfl, rfl, rfl, by simp [World.setCell], fun k _ hk => Below.heap_setCell _ _ _ _ (fun e => hk (by rw [e]))⟩
  have ho := h.own.kept hg2 (.inr (fun e => by have := h.new b e; omega))
  refine ⟨⟨v1, hc, own_seb ho (fun g e hm => ?_), hb⟩, h.below.os, h.below.tape, h.below.output, Nat.le_trans h.below.size hg2.size, fun k hk hn => ?_, fun k hk => .inl hk⟩
  · have := h.new g e
    rcases List.mem_cons.1 hm with rfl | hm
    · omega
    · have := hL g hm; omega
  · rw [hg2.block k (Nat.lt_of_lt_of_le hk h.below.size) (fun e => hn (by cases e; simp)), h.below.block k hk]

theorem seat1 {A : World} {g N : Nat} {s : Se} (h : DC A g [.int .i64 s.id, .int .i64 s.seq, .int .i64 s.err, .int .i64 s.n]) (hN : g ≠ N) : SeB A [N] (.slice (some ⟨g, 0, none⟩) 1 1) [s] :=
  ⟨_, 1, rfl, Nat.le_refl _, by decide, .inr ⟨g, 0, rfl, by simpa using hN, h.lt, fun j y hy => by
    cases j with
    | zero =>
      simp at hy; subst hy
      exact ⟨h.cells 0 _ rfl, h.cells 1 _ rfl, h.cells 2 _ rfl, h.cells 3 _ rfl⟩
    | succ j => simp at hy⟩⟩
theorem SeB.grown {A w1 : World} {N : Nat} {u : Value} {l : List Se} (h : SeB A [N] u l) (hg : A.grownBy w1 (Value.slice (some ⟨N, 0, none⟩) 0 0).ownBlock) : SeB w1 [] u l :=
  h.keep hg.size (fun k hk hn => hg.block k hk (fun e => hn (by cases e; simp))) (fun k hk => by cases hk)
def Rid (w : World) (L : List Nat) (b : Nat) (x' : Tb) (v : Value) (e : Ending) (w' : World) : Prop := e = .returned v ∧ Rf w' L b x' ∧ Ext w [b] w' [b]
theorem drew_below (w : World) (o : Obj) : Below w.heap.size w (w.alloc o).drew := by
  have h := below_alloc w o
  exact ⟨h.os, h.tape, h.output, h.size, h.block⟩
theorem drew_below2 (w : World) (o p : Obj) : Below w.heap.size w ((w.alloc o).alloc p).drew := by
  have h := (below_alloc w o).trans ((below_alloc (w.alloc o) p).mono (below_alloc w o).size)
  exact ⟨h.os, h.tape, h.output, h.size, h.block⟩

set_option maxRecDepth 100000 in
set_option maxHeartbeats 12800000 in
theorem ROpen_any {N : Nat} (h : Rf w L b x) (ok : x.Ok N) (hL : ∀ k ∈ L, k < w.heap.size) : Calls Try.prog 16 #[.pointer (some ⟨b, 0, none⟩)] w (Rid w L b x.opn.2.2 (.tuple #[.int .i64 x.opn.1, .int .i64 x.opn.2.1])) := by
  have HK := Lib.hid h
  obtain ⟨v, h⟩ := h
  have c0 := h.cells.cells 0 _ rfl
  have c1 := h.cells.cells 1 _ rfl
  obtain ⟨a, c, hv, h1, h2⟩ := h.seb.slice
  subst hv
  have hlen := ok.len
  have hbeg := ok.begun
  by_cases h8 : 8 ≤ x.seats.length
  · have HE : Hid (x.opn = (0, 7, x)) := by show _ = _; unfold Tb.opn; rw [if_pos h8]
    have e8 : x.seats.length = 8 := by omega
    have g8 : ((x.seats.length : Int) == 8) = true := by rw [e8]; rfl
    clear h ok
    go_enter Try.func16, Try.ntmps16
    go_wp2_with fail
    all_goals first
      | (exfalso; omega)
      | skip
    (try simp only [Exit.inBlock, Exit.then])
    refine bodyPost_ret (v := .tuple #[.int .i64 0, .int .i64 7]) (by simp [results, Try.results16, go_sem]) rfl ?_
    rw [HE.out]
    exact ⟨rfl, HK.out, Ext.refl _ _⟩
  · have g8 : ((x.seats.length : Int) == 8) = false := by simp; omega
    by_cases h40 : 1099511627776 ≤ x.begun
    · have HE : Hid (x.opn = (0, 5, x)) := by show _ = _; unfold Tb.opn; rw [if_neg h8, if_pos h40]
      have g40 : x.begun = 1099511627776 := by omega
      clear h ok
      rw [g40] at c0
      go_enter Try.func16, Try.ntmps16
      go_wp2_with fail
      (try simp only [Exit.inBlock, Exit.then])
      refine bodyPost_ret (v := .tuple #[.int .i64 0, .int .i64 5]) (by simp [results, Try.results16, go_sem]) rfl ?_
      rw [HE.out]
      exact ⟨rfl, HK.out, Ext.refl _ _⟩
    · have HE : Hid (x.opn = (x.begun + 1, 0, ⟨x.begun + 1, x.seats ++ [⟨x.begun + 1, 0, 0, 0⟩]⟩)) := by show _ = _; unfold Tb.opn; rw [if_neg h8, if_neg h40]
      have g40 : (x.begun == 1099511627776) = false := by simp; omega
      have ew : IntKind.i64.wrap (x.begun + 1) = x.begun + 1 := IntWalk.i64_in _ (by omega)
      have z0 := h.cells.fz 0
      have hd := h.cells.set 0 (.int .i64 (x.begun + 1)) (by simp)
      simp only [List.set_cons_zero] at hd
      have hX : Ext w [b] (w.setCell ⟨b, 0, none⟩ (.int .i64 (x.begun + 1))) [b] := ⟨rfl, rfl, rfl, by simp [World.setCell], fun k _ hk => Below.heap_setCell _ _ _ _ (fun e => hk (by rw [e]; simp)), fun k hk => .inl hk⟩
      have hsb := (h.seb.sub (L' := [b]) (fun k hk => by rcases List.mem_cons.1 hk with rfl | hk <;> simp_all)).ext hX
      have HLt : Hid (∀ k ∈ L, k < (w.setCell ⟨b, 0, none⟩ (.int .i64 (x.begun + 1))).heap.size) := fun k hk => by have := hL k hk; simpa [World.setCell] using this
      have HO := Lib.hid h.out
      have HX := Lib.hid hX
      clear h ok hX hL
      go_enter Try.func16, Try.ntmps16
      go_wp2_with fail
      generalize w.setCell ⟨b, 0, none⟩ (.int .i64 (x.begun + 1)) = W at *
      clear c0 c1 z0
      have HD := Lib.hid hd
      have HS := Lib.hid (hsb.sub (L' := []) (fun k hk => by cases hk))
      have c0 := hd.cells 0 _ rfl
      have c1 := hd.cells 1 _ rfl
      have hblt := hd.lt
      have HB := Lib.hid hblt
      have M1 := Lib.hid (mid_none hd (drew_below W (.cells #[] 44)) (Nat.le_refl _) (heap_alloc_new W _))
      have M2 := Lib.hid (mid_none (A := ((W.alloc (.cells #[] 44)).alloc (.cells #[.int .i64 (x.begun + 1), .int .i64 0, .int .i64 0, .int .i64 0] 44)).drew) hd (drew_below2 W _ _) (Nat.le_refl W.heap.size) (by show ((W.alloc (.cells #[] 44)).alloc _).heap[W.heap.size]? = _; rw [Below.heap_alloc _ _ _ (by simp)]; exact heap_alloc_new W _))
      have M3 := Lib.hid (mid_none (A := ((W.alloc (.cells #[.int .i64 (x.begun + 1), .int .i64 0, .int .i64 0, .int .i64 0] 44)).alloc (.cells #[] 44)).drew) (N := W.heap.size + 1) hd (drew_below2 W _ _) (by omega) (by have h := heap_alloc_new (W.alloc (.cells #[.int .i64 (x.begun + 1), .int .i64 0, .int .i64 0, .int .i64 0] 44)) (.cells #[] 44); rwa [show (W.alloc (.cells #[.int .i64 (x.begun + 1), .int .i64 0, .int .i64 0, .int .i64 0] 44)).heap.size = W.heap.size + 1 from by simp] at h))
      have S1 := Lib.hid (HS.out.below (drew_below W (.cells #[] 44)))
      have S2 := Lib.hid (HS.out.below (drew_below2 W (.cells #[] 44) (.cells #[.int .i64 (x.begun + 1), .int .i64 0, .int .i64 0, .int .i64 0] 44)))
      have S3 := Lib.hid (HS.out.below (drew_below2 W (.cells #[.int .i64 (x.begun + 1), .int .i64 0, .int .i64 0, .int .i64 0] 44) (.cells #[] 44)))
      have D2 := DC.alloc (W.alloc (.cells #[] 44)) [.int .i64 (x.begun + 1), .int .i64 0, .int .i64 0, .int .i64 0] 44
      have D3 := (DC.alloc W [.int .i64 (x.begun + 1), .int .i64 0, .int .i64 0, .int .i64 0] 44).below (below_alloc _ (.cells #[] 44))
      have Q2 := Lib.hid (seat1 (A := ((W.alloc (.cells #[] 44)).alloc (.cells #[.int .i64 (x.begun + 1), .int .i64 0, .int .i64 0, .int .i64 0] 44)).drew) (N := W.heap.size) (s := ⟨x.begun + 1, 0, 0, 0⟩) ⟨D2.cells, D2.fz, D2.lt⟩ (by simp))
      have Q3 := Lib.hid (seat1 (A := ((W.alloc (.cells #[.int .i64 (x.begun + 1), .int .i64 0, .int .i64 0, .int .i64 0] 44)).alloc (.cells #[] 44)).drew) (N := W.heap.size + 1) (s := ⟨x.begun + 1, 0, 0, 0⟩) ⟨D3.cells, D3.fz, D3.lt⟩ (by simp))
      rw [show (W.alloc (.cells #[] 44)).heap.size = W.heap.size + 1 from by simp] at Q2
      clear hd hsb D2 D3
      go_wp2_with fail
      go_region_law (first
        | (refine step_cat (B := 0) (xs := []) (ys := x.seats) rfl (.tmp 23) (.tmp 27) rfl (by simp [Act.eval, Act.put]; rfl) (by simp [Act.eval, Act.put]; rfl) (by first | exact M1.out.own | exact M2.out.own | exact M3.out.own) (by first | exact S1.out | exact S2.out | exact S3.out) (by simp; omega) (Nat.zero_le _) ?_; intro v1 w1 hown hg hat; have HM : Hid (Mid W b [.int .i64 (x.begun + 1), .slice a x.seats.length c] ([] ++ x.seats) w1 v1) := (by first | exact M1.out.cat HB.out hown hg hat | exact M2.out.cat HB.out hown hg hat | exact M3.out.cat HB.out hown hg hat); rw [List.nil_append] at HM; have y0 := HM.out.dc.cells 0 _ rfl; have y1 := HM.out.dc.lt; (first | have HQ := Lib.hid (Q2.out.grown hg) | have HQ := Lib.hid (Q3.out.grown hg) | skip); clear hown hat hg)
        | (refine step_cat (B := 0) (xs := x.seats) (ys := [⟨x.begun + 1, 0, 0, 0⟩]) rfl (.tmp 28) (.tmp 34) rfl (by simp [Act.eval, Act.put]; rfl) (by simp [Act.eval, Act.put]; rfl) (by first | exact HM.out.own | exact (HM.out.alloc _).own) (by first | exact HQ.out | exact (seat1 (N := 0) (s := ⟨x.begun + 1, 0, 0, 0⟩) (DC.alloc w1 [.int .i64 (x.begun + 1), .int .i64 0, .int .i64 0, .int .i64 0] 44) (by omega)).sub (fun k hk => by cases hk)) (by simp; omega) (Nat.zero_le _) ?_; intro v2 w2 hown hg hat; have HF : Hid (Mid W b [.int .i64 (x.begun + 1), .slice a x.seats.length c] (x.seats ++ [⟨x.begun + 1, 0, 0, 0⟩]) w2 v2) := (by first | exact HM.out.cat HB.out hown hg hat | exact (HM.out.alloc _).cat HB.out hown hg hat); obtain ⟨a2, c2, rfl, _, _⟩ := own_slice hown; have t0 := HF.out.dc.cells 0 _ rfl; have t1 := HF.out.dc.cells 1 _ rfl; have t2 := HF.out.dc.fz 1; clear hown hat hg))
      all_goals
        have hput := HF.out.put (L := L) HLt.out HO.out HB.out
        rw [show (x.seats ++ [(⟨x.begun + 1, 0, 0, 0⟩ : Se)]).length = x.seats.length + 1 from by simp] at hput
        have HP := Lib.hid hput
        clear hput
        go_wp2_with fail
        (try simp only [Exit.inBlock, Exit.then])
        refine bodyPost_ret (v := .tuple #[.int .i64 (x.begun + 1), .int .i64 0]) (by simp [results, Try.results16, go_sem]) rfl ?_
        rw [HE.out]
        exact ⟨rfl, HP.out.1, HX.out.trans HP.out.2⟩
end Go.Proofs.Ytnfpobbdcjfcoaa
