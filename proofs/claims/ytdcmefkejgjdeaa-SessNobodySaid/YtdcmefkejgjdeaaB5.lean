/-
  Walks: a new table; a session begins.
-/
import Derived.Test.YtdcmefkejgjdeaaB4
namespace Go.Proofs.Ytdcmefkejgjdeaa
set_option linter.unusedVariables false
set_option linter.unusedSimpArgs false
open Go.RowKit
variable {w : World} {B b : Nat} {L : List Nat} {t : Tb} {v : Value}

def Tb.opn (t : Tb) : Int × Int × Tb := if 8 ≤ t.seats.length then (0, 7, t) else if 1099511627776 ≤ t.begun then (0, 5, t) else (t.begun + 1, 0, ⟨t.begun + 1, t.seats ++ [⟨t.begun + 1, 0, 0, 0⟩]⟩)
/-- What a table made by calls has. -/
structure Tb.Ok (t : Tb) (N : Nat) : Prop where
  len : t.seats.length ≤ 8
  begun : 0 ≤ t.begun ∧ t.begun ≤ 1099511627776
  seq : ∀ s ∈ t.seats, 0 ≤ s.seq ∧ s.seq ≤ N
  id : ∀ s ∈ t.seats, 1 ≤ s.id ∧ s.id ≤ t.begun
  up : t.seats.Pairwise fun a b => a.id < b.id
theorem Tb.Ok.more {N M : Nat} (h : t.Ok N) (hm : N ≤ M) : t.Ok M := ⟨h.len, h.begun, fun s hs => by have := h.seq s hs; omega, h.id, h.up⟩

theorem Tv.ob (h : Tv w B b L t v) : ∀ g, v.ownBlock = some g → g ∈ L ∧ g ≠ b := by
  intro g hg
  rcases h.at_ with ⟨_, rfl, _⟩ | ⟨g', c, rfl, hne, rfl, _⟩
  · cases hg
  · cases hg; exact ⟨by simp, hne⟩
/-- A cell of a table's block is written. -/
theorem Tv.begunPut (h : Tv w B b L t v) (n : Int) : Tv (w.setCell ⟨b, 0, none⟩ (.int .i64 n)) B b L ⟨n, t.seats⟩ v ∧ Ext w L (w.setCell ⟨b, 0, none⟩ (.int .i64 n)) L := by
  have hc := h.cells.set 0 (.int .i64 n) (by simp)
  simp only [List.set_cons_zero] at hc
  have hg : w.grownBy (w.setCell ⟨b, 0, none⟩ (.int .i64 n)) (some b) := ⟨rfl, rfl, rfl, by simp [World.setCell], fun k _ hk => Below.heap_setCell _ _ _ _ (fun e => hk (by rw [e]))⟩
  refine ⟨⟨hc, h.own.kept hg ?_, h.at_, h.low⟩, rfl, rfl, rfl, by simp [World.setCell], fun k _ hk => Below.heap_setCell _ _ _ _ (fun e => hk (by rw [e]; exact h.bL)), fun k hk => .inl hk⟩
  right
  intro e
  exact (h.ob b e).2 rfl
/-- The row of a table is another one; its slice is laid. -/
theorem Tv.rowPut {W w3 : World} {gg c n : Nat} {l : List Se} (h : Tv w B b L t v) (hb : Below w.heap.size w W) (hg : W.grownBy w3 v.ownBlock) (hn : n = l.length) (hown : w3.ownsRow 0 44 4 (.slice (some ⟨gg, 0, none⟩) n c) n (scs l)) (hat : v.ownBlock = some gg ∨ w.heap.size ≤ gg) :
    Tk (w3.setCell ⟨b, 1, none⟩ (.slice (some ⟨gg, 0, none⟩) n c)) B b [b, gg] ⟨t.begun, l⟩ ∧ Ext w L (w3.setCell ⟨b, 1, none⟩ (.slice (some ⟨gg, 0, none⟩) n c)) [b, gg] := by
  subst hn
  have hblt := h.cells.lt
  have hne : gg ≠ b := by
    rcases hat with e | e
    · exact (h.ob gg e).2
    · omega
  have hc3 : DC w3 b [.int .i64 t.begun, v, .bool true] := (h.cells.below hb).keep hg.size (hg.block b (Nat.lt_of_lt_of_le hblt hb.size) (fun e => (h.ob b e.symm).2 rfl))
  have hc := hc3.set 1 (.slice (some ⟨gg, 0, none⟩) l.length c) (by simp)
  simp only [List.set_cons_zero, List.set_cons_succ] at hc
  have hgg : gg ∈ L ∨ w.heap.size ≤ gg := hat.imp (fun e => (h.ob gg e).1) id
  have hsl : l.length ≤ c ∧ c ≤ 9223372036854775807 := by
    rcases hown.2 with ⟨h0, _⟩ | ⟨g', cap, cur, hv, _, _, hn, hm, _⟩
    · cases h0
    · simp only [Value.slice.injEq] at hv
      unfold maxLen at hm
      omega
  have hg2 : w3.grownBy (w3.setCell ⟨b, 1, none⟩ (.slice (some ⟨gg, 0, none⟩) l.length c)) (some b) := ⟨rfl, rfl, rfl, by simp [World.setCell], fun k _ hk => Below.heap_setCell _ _ _ _ (fun e => hk (by rw [e]))⟩
  refine ⟨⟨_, hc, hown.kept hg2 (.inr (by simp [Value.ownBlock, hne])), .inr ⟨gg, c, rfl, hne, rfl, hsl.1, hsl.2⟩, fun k hk => ?_⟩, ?_⟩
  · rcases List.mem_cons.1 hk with rfl | hk
    · exact h.low _ h.bL
    · obtain rfl : k = gg := by simpa using hk
      rcases hgg with e | e
      · exact h.low _ e
      · have := h.low b h.bL; omega
  · refine ⟨hg.os.trans hb.os, hg.tape.trans hb.tape, hg.output.trans hb.output, Nat.le_trans (Nat.le_trans hb.size hg.size) hg2.size, fun k hk hn => ?_, fun k hk => ?_⟩
    · rw [hg2.block k (Nat.lt_of_lt_of_le hk (Nat.le_trans hb.size hg.size)) (fun e => hn (by cases e; exact h.bL)), hg.block k (Nat.lt_of_lt_of_le hk hb.size) (fun e => hn ((h.ob k e.symm).1)), hb.block k hk]
    · rcases List.mem_cons.1 hk with rfl | hk
      · exact .inl h.bL
      · obtain rfl : k = gg := by simpa using hk
        exact hgg

set_option maxRecDepth 100000 in
set_option maxHeartbeats 1600000 in
theorem New_any (w : World) : Calls Try.prog 12 #[] w fun e w' => e = .returned (.pointer (some ⟨w.heap.size, 0, none⟩)) ∧ Tk w' w.heap.size w.heap.size [w.heap.size] ⟨0, []⟩ ∧ Below w.heap.size w w' := by
  have HC := Lib.hid (DC.alloc w [.int .i64 0, .slice none 0 0, .bool true] 68)
  have HB := Lib.hid (below_alloc w (.cells #[.int .i64 0, .slice none 0 0, .bool true] 68))
  go_enter Try.func12, Try.ntmps12
  go_wp2_with fail
  go_ret
  exact ⟨rfl, ⟨.slice none 0 0, HC.out, World.ownsRow_nil _ _ _ _, .inl ⟨rfl, rfl, rfl⟩, fun k hk => by simp at hk; omega⟩, HB.out⟩

set_option maxRecDepth 100000 in
set_option maxHeartbeats 3200000 in
theorem Open_any {N : Nat} (h : Tk w B b L t) (ok : t.Ok N) : Calls Try.prog 15 #[.pointer (some ⟨b, 0, none⟩)] w (Did w B b L t.opn.2.2 (.tuple #[.int .i64 t.opn.1, .int .i64 t.opn.2.1])) := by
  obtain ⟨i0, hi, hz0, hz1, hz2⟩ := info_parts Try.infoSeat
  have HK := Lib.hid h
  obtain ⟨v, h⟩ := h
  have c0 := h.cells.cells 0 _ rfl
  have c1 := h.cells.cells 1 _ rfl
  have c2 := h.cells.cells 2 _ rfl
  obtain ⟨a, c, hv, h1, h2⟩ := h.seb.slice
  subst hv
  by_cases h8 : 8 ≤ t.seats.length
  · have HE : Hid (t.opn = (0, 7, t)) := by show _ = _; unfold Tb.opn; rw [if_pos h8]
    have g8 : (8 : Int) ≤ (t.seats.length : Int) := by omega
    clear h ok
    go_enter Try.func15, Try.ntmps15
    go_wp2_with fail
    go_fit (ready_any c2)
    rintro e w1 ⟨rfl, rfl⟩
    go_wp2_with fail
    (try simp only [Exit.inBlock, Exit.then])
    refine bodyPost_ret (v := .tuple #[.int .i64 0, .int .i64 7]) (by simp [results, Try.results15, go_sem]) rfl ?_
    rw [HE.out]
    exact ⟨L, rfl, HK.out, Ext.refl _ _⟩
  · have g8 : ¬ (8 : Int) ≤ (t.seats.length : Int) := by omega
    by_cases h40 : 1099511627776 ≤ t.begun
    · have HE : Hid (t.opn = (0, 5, t)) := by show _ = _; unfold Tb.opn; rw [if_neg h8, if_pos h40]
      clear h ok
      go_enter Try.func15, Try.ntmps15
      go_wp2_with fail
      go_fit (ready_any c2)
      rintro e w1 ⟨rfl, rfl⟩
      go_wp2_with fail
      (try simp only [Exit.inBlock, Exit.then])
      refine bodyPost_ret (v := .tuple #[.int .i64 0, .int .i64 5]) (by simp [results, Try.results15, go_sem]) rfl ?_
      rw [HE.out]
      exact ⟨L, rfl, HK.out, Ext.refl _ _⟩
    · have HE : Hid (t.opn = (t.begun + 1, 0, ⟨t.begun + 1, t.seats ++ [⟨t.begun + 1, 0, 0, 0⟩]⟩)) := by show _ = _; unfold Tb.opn; rw [if_neg h8, if_neg h40]
      have ew : IntKind.i64.wrap (t.begun + 1) = t.begun + 1 := IntWalk.i64_in _ (by have := ok.begun; omega)
      have z0 := h.cells.fz 0
      obtain ⟨hA, hX⟩ := h.begunPut (t.begun + 1)
      have HA := Lib.hid hA
      have HX := Lib.hid hX
      have hL1 : t.seats.length + 1 ≤ maxLen := by unfold maxLen; omega
      have hL2 : (t.seats.length + 1) * 32 ≤ 140737488355328 := by omega
      have HL1 := Lib.hid hL1
      have HL2 := Lib.hid hL2
      clear h ok hA hX hL1 hL2
      go_enter Try.func15, Try.ntmps15
      go_wp2_with fail
      go_fit (ready_any c2)
      rintro e w1 ⟨rfl, rfl⟩
      go_wp2_with fail
      generalize w.setCell ⟨b, 0, none⟩ (.int .i64 (t.begun + 1)) = W at *
      clear c0 c1 c2 z0
      have c0 := HA.out.cells.cells 0 _ rfl
      have c1 := HA.out.cells.cells 1 _ rfl
      have hblt := HA.out.cells.lt
      have hba := below_alloc W (.cells #[.int .i64 (t.begun + 1), .int .i64 0, .int .i64 0, .int .i64 0] 44)
      have HB2 : Hid (Below W.heap.size W (W.alloc (.cells #[.int .i64 (t.begun + 1), .int .i64 0, .int .i64 0, .int .i64 0] 44)).drew) := ⟨hba.os, hba.tape, hba.output, hba.size, hba.block⟩
      have HOwn := Lib.hid (((HA.out.own.alloc (.cells #[.int .i64 (t.begun + 1), .int .i64 0, .int .i64 0, .int .i64 0] 44))).drew)
      clear hba
      go_wp2_with fail
      go_region_law (refine step_append_lies _ (by rfl) _ _ _ (by rfl) 0 44 i0 _ 4 32 Try.underlying27 hi hz0 hz1 hz2 rfl (by omega) (.slice a t.seats.length c) t.seats.length (scs t.seats) (by rfl) HOwn.out ⟨W.heap.size, 0, none⟩ 1 1 [.int .i64 (t.begun + 1), .int .i64 0, .int .i64 0, .int .i64 0] (by rfl) (by rfl) (World.news_of_block (cs := #[.int .i64 (t.begun + 1), .int .i64 0, .int .i64 0, .int .i64 0]) (t := 44) (fr := (0, 0)) (heap_alloc_new W _)) (by simp [Value.oneCell']) (by omega) HL1.out HL2.out (by simp) (W.heap.size + 1) (by simp) ?_; intro gg cap w3 hown3 hgrow hat hlt; have HWt := Lib.hid (HA.out.rowPut (n := t.seats.length + 1) (l := t.seats ++ [⟨t.begun + 1, 0, 0, 0⟩]) HB2.out hgrow (by simp) (by rw [scs_app]; exact hown3) (hat.imp id (fun e => by omega))); have hDC := (HA.out.cells.below HB2.out).keep hgrow.size (hgrow.block b (Nat.lt_of_lt_of_le hblt HB2.out.size) (fun e => (HA.out.ob b e.symm).2 rfl)); have y0 := hDC.cells 0 _ rfl; have y1 := hDC.cells 1 _ rfl; have x1 := hDC.fz 1; clear hown3 hgrow hat hDC)
      all_goals
        obtain ⟨v2, hv2⟩ := HWt.out.1
        have q0 := hv2.cells.cells 0 _ rfl
        clear y0 y1 x1 hv2
        go_wp2_with fail
        (try simp only [Exit.inBlock, Exit.then])
        refine bodyPost_ret (v := .tuple #[.int .i64 (t.begun + 1), .int .i64 0]) (by simp [results, Try.results15, go_sem]) rfl ?_
        rw [HE.out]
        exact ⟨_, rfl, HWt.out.1, (HX.out).trans HWt.out.2⟩
end Go.Proofs.Ytdcmefkejgjdeaa
