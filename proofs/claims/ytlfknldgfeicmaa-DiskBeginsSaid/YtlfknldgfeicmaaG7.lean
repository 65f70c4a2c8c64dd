/-
  wait: an act is done to what is told, and waits.
-/
import Derived.Test.YtlfknldgfeicmaaG6
namespace Go.Proofs.Ytlfknldgfeicmaa
set_option linter.unusedVariables false
set_option linter.unusedSimpArgs false
open Go.RowKit
variable {w : World} {B b : Nat} {L : List Nat} {d : Ds} {t0 t1 t2 l0 l1 l2 wt : Value} {ps : List Pa} {Lt Lw : List Nat} {room left keep tear : Int} {on : Bool} {told lasts : Fc}

theorem Try.infoAct : (Try.prog.info? 89).map (fun i => (i.zero, i.size, i.bytes)) = some (some (.agg #[.int .i64 0, .int .i64 0, .slice none 0 0]), 3, 40) := by kernel_rfl
theorem Dm.cells3 {W w3 : World} (h : Dm w B b L room on told lasts left keep tear t0 t1 t2 l0 l1 l2 wt ps Lt Lw) (hb : Below w.heap.size w W) (hg : W.grownBy w3 wt.ownBlock) : DC w3 b [.int .i64 room, .bool on, t0, t1, t2, l0, l1, l2, wt, .int .i64 left, .int .i64 keep, .int .i64 tear] := by
  refine h.cells.keep (Nat.le_trans hb.size hg.size) ((hg.block b (Nat.lt_of_lt_of_le h.cells.lt hb.size) (fun e => h.nb ?_)).trans (hb.block b h.cells.lt))
  rcases h.wa.at_ with ⟨_, rfl, _⟩ | ⟨g', c, rfl, hv⟩
  · cases e
  · rw [hv] at e
    simp [Value.ownBlock] at e
    simp [e]

set_option maxRecDepth 100000 in
set_option maxHeartbeats 6400000 in
theorem wait_any (a : Ac) {bv : Value} (h : Dk w B b L d) (hbv : Byt w L bv a.b) (ok : a.Ok) (hsz : ((a.does d.told).size : Int) ≤ d.room) (hn : d.waits.length ≤ 900000) (hl : 0 ≤ d.left ∧ d.left ≤ 9223372036854775807) :
    Calls Try.prog 58 #[.pointer (some ⟨b, 0, none⟩), .agg #[.int .i64 a.kind, .int .i64 a.slot, bv]] w (Did' w B b L (d.wait a).2 (.int .i64 (d.wait a).1)) := by
  obtain ⟨i0, hi, hz0, hz1, hz2⟩ := info_parts Try.infoAct
  obtain ⟨t0, t1, t2, l0, l1, l2, wt, ps, Lt, Lw, h⟩ := h
  have hL := h.hL
  subst hL
  obtain ⟨pa, pc, hv, _, _⟩ := hbv.slice
  subst hv
  obtain ⟨a0, c0, hv, _, _⟩ := h.a0.slice
  subst hv
  obtain ⟨a1, c1, hv, _, _⟩ := h.a1.slice
  subst hv
  obtain ⟨a2, c2, hv, _, _⟩ := h.ta.slice
  subst hv
  obtain ⟨aw, cw, hv, _, _⟩ := h.wa.slice
  subst hv
  have H := Lib.hid h
  have hba : Below w.heap.size w (w.alloc (.cells #[.int .i64 a.kind, .int .i64 a.slot, .slice pa a.b.length pc] 89)) := (Below.refl _ _).alloc (Nat.le_refl _) _
  have HBD : Hid (Below w.heap.size w (w.alloc (.cells #[.int .i64 a.kind, .int .i64 a.slot, .slice pa a.b.length pc] 89)).drew) := ⟨hba.os, hba.tape, hba.output, hba.size, hba.block⟩
  have HM := Lib.hid (h.mem.below HBD.out)
  have HBV := Lib.hid (hbv.below (L := (b :: Lw) ++ Lt) HBD.out)
  have HBX : Hid (DC (w.alloc (.cells #[.int .i64 a.kind, .int .i64 a.slot, .slice pa a.b.length pc] 89)).drew w.heap.size [.int .i64 a.kind, .int .i64 a.slot, .slice pa a.b.length pc]) := by
    have h0 := DC.alloc w [.int .i64 a.kind, .int .i64 a.slot, .slice pa a.b.length pc] 89
    exact ⟨h0.cells, h0.fz, h0.lt⟩
  have hnt : w.heap.size ∉ Lt := fun hm => by have := (h.ta.lt _ hm).1; omega
  have HNT := Lib.hid hnt
  have hMlt : ∀ k ∈ b :: Lw, k < (w.alloc (.cells #[.int .i64 a.kind, .int .i64 a.slot, .slice pa a.b.length pc] 89)).drew.heap.size := fun k hk => by
    have hs := HBD.out.size
    rcases List.mem_cons.1 hk with rfl | hk
    · exact Nat.lt_of_lt_of_le h.cells.lt hs
    · exact Nat.lt_of_lt_of_le (h.mem.wlt k hk).1 hs
  have HMlt := Lib.hid hMlt
  have htl : d.told.tp.length ≤ 35184372088832 := by have := h.told; have := h.room.2; unfold Fc.size at *; omega
  have HTL := Lib.hid htl
  have HOK := Lib.hid ok
  have hlen : ps.length ≤ 900000 := by have := hn; rw [h.ws] at this; simpa using this
  have HL1 : Hid (ps.length + 1 ≤ maxLen) := by show _ ≤ _; unfold maxLen; omega
  have HL2 : Hid ((ps.length + 1) * 40 ≤ 140737488355328) := by show _ ≤ _; omega
  have HLeft := Lib.hid hl
  have HLen := Lib.hid hlen
  -- the disk behind it, plainly
  have HLog : Hid ((acts ((ps ++ [(a, Value.slice pa a.b.length pc)]).map (·.1)) d.lasts = a.does d.told) ∧ (∀ k, ((acts (((ps ++ [(a, Value.slice pa a.b.length pc)]).map (·.1)).take k) d.lasts).size : Int) ≤ d.room) ∧ d.waits ++ [a] = (ps ++ [(a, Value.slice pa a.b.length pc)]).map (·.1)) := by
    have e : (ps ++ [(a, Value.slice pa a.b.length pc)]).map (·.1) = d.waits ++ [a] := by rw [h.ws]; simp
    have e2 : acts (d.waits ++ [a]) d.lasts = a.does d.told := by rw [h.tw]; simp [acts, List.foldl_append]
    show _ ∧ _ ∧ _
    rw [e]
    refine ⟨e2, fun k => ?_, rfl⟩
    by_cases hk : k ≤ d.waits.length
    · rw [List.take_append_of_le_length hk]; exact h.pre k
    · rw [List.take_of_length_le (by simp; omega), e2]; exact hsz
  have HRoom := Lib.hid h.room
  have x2 := h.cells.cells 2 _ rfl
  have x3 := h.cells.cells 3 _ rfl
  have x4 := h.cells.cells 4 _ rfl
  have hblt := h.cells.lt
  clear h hbv ok hsz hn hl hba hnt hMlt htl hlen
  go_enter Try.func58, Try.ntmps58
  go_wp2_with fail
  go_region_with (go_at_call 62; refine (do_any (M := b :: Lw) (Lt := Lt) a d.told HOK.out HBV.out HM.out.a0 HM.out.a1 HM.out.ta HMlt.out HTL.out).mono ?_; rintro e w1 ⟨s0', s1', tv', L2, rfl, g0, g1, gt, tl, hnew, hle⟩; obtain ⟨d0, f0, rfl, _, _⟩ := g0.slice; obtain ⟨d1, f1, rfl, _, _⟩ := g1.slice; obtain ⟨d2, f2, rfl, _, _⟩ := gt.slice; have HST := Lib.hid (HM.out.toldStep a g0 g1 gt tl hnew hle); have hDC := HM.out.cells.tail tl (fun hm => (HM.out.ta.lt b hm).2 (List.mem_cons_self ..)); have HX1 := Lib.hid (HBX.out.tail tl HNT.out); have p0 := HX1.out.cells 0 _ rfl; have p1 := HX1.out.cells 1 _ rfl; have p2 := HX1.out.cells 2 _ rfl; have y2 := hDC.cells 2 _ rfl; have y3 := hDC.cells 3 _ rfl; have y4 := hDC.cells 4 _ rfl; have z2 := hDC.fz 2; have z3 := hDC.fz 3; have z4 := hDC.fz 4; clear g0 g1 gt tl hnew hle hDC)
  all_goals
    have HX2 := Lib.hid (((HX1.out.other (k := b) (o := 2) (x := .slice d0 (a.does d.told).s0.length f0) (Nat.ne_of_gt hblt)).other (k := b) (o := 3) (x := .slice d1 (a.does d.told).s1.length f1) (Nat.ne_of_gt hblt)).other (k := b) (o := 4) (x := .slice d2 (a.does d.told).tp.length f2) (Nat.ne_of_gt hblt))
    clear p0 p1 p2 y2 y3 y4 z2 z3 z4 x2 x3 x4 HX1
    have hbv2 := HBV.out.keep HST.out.2.size HST.out.2.block HST.out.2.new
    have HBV2 := Lib.hid hbv2
    clear hbv2
    generalize ((w1.setCell ⟨b, 2, none⟩ (.slice d0 (a.does d.told).s0.length f0)).setCell ⟨b, 3, none⟩ (.slice d1 (a.does d.told).s1.length f1)).setCell ⟨b, 4, none⟩ (.slice d2 (a.does d.told).tp.length f2) = W2 at *
    have h8 := HST.out.1.cells.cells 8 _ rfl
    have hbW : b < W2.heap.size := HST.out.1.cells.lt
    have hkW : w.heap.size < W2.heap.size := HX2.out.lt
    have p0 := HX2.out.cells 0 _ rfl
    have p1 := HX2.out.cells 1 _ rfl
    have p2 := HX2.out.cells 2 _ rfl
    have hba2 : Below W2.heap.size W2 (W2.alloc (.cells #[.int .i64 a.kind, .int .i64 a.slot, .slice pa a.b.length pc] 89)) := (Below.refl _ _).alloc (Nat.le_refl _) _
    have HB2 : Hid (Below W2.heap.size W2 (W2.alloc (.cells #[.int .i64 a.kind, .int .i64 a.slot, .slice pa a.b.length pc] 89)).drew) := ⟨hba2.os, hba2.tape, hba2.output, hba2.size, hba2.block⟩
    have HOwn := Lib.hid (((HST.out.1.wa.own.alloc (.cells #[.int .i64 a.kind, .int .i64 a.slot, .slice pa a.b.length pc] 89))).drew)
    clear hba2
    go_wp2_with fail
    go_region_law (refine step_append_lies _ (by rfl) _ _ _ (by rfl) 0 89 i0 _ 3 40 Try.underlying68 hi hz0 hz1 hz2 rfl (by omega) (.slice aw ps.length cw) ps.length (wcs ps) (by rfl) HOwn.out ⟨W2.heap.size, 0, none⟩ 1 1 [.int .i64 a.kind, .int .i64 a.slot, .slice pa a.b.length pc] (by rfl) (by rfl) (World.news_of_block (cs := #[.int .i64 a.kind, .int .i64 a.slot, .slice pa a.b.length pc]) (t := 89) (fr := (0, 0)) (heap_alloc_new W2 _)) (by simp [Value.oneCell']) (by omega) HL1.out HL2.out (by simp) (W2.heap.size + 1) (by simp) ?_; intro gg cap w3 hown3 hgrow hat hlt; have hat' : (Value.slice aw ps.length cw).ownBlock = some gg ∨ W2.heap.size ≤ gg := hat.imp id (fun e => by omega); have HWt := Lib.hid (HST.out.1.waitsStep a HOK.out HBV2.out HB2.out hown3 hgrow hat'); have hDC := HST.out.1.cells3 HB2.out hgrow; have y8 := hDC.cells 8 _ rfl; have z8 := hDC.fz 8; clear hown3 hgrow hat hat' hDC)
    all_goals
      have hdv := HWt.out.1.dv HRoom.out HLog.out.1.symm HLog.out.2.1
      rw [← HLog.out.2.2] at hdv
      have HDV : Hid (Dk (w3.setCell ⟨b, 8, none⟩ (.slice (some ⟨gg, 0, none⟩) (ps.length + 1) cap)) B b ((b :: [gg]) ++ L2) { d with told := a.does d.told, waits := d.waits ++ [a] }) := ⟨_, _, _, _, _, _, _, _, _, _, hdv⟩
      have HN2 : Hid ((d.waits ++ [a]).length ≤ 1000000) := by show _ ≤ _; rw [HLog.out.2.2]; simp; have := HLen.out; omega
      clear hdv
      go_wp2_with fail
      go_fit (burn_any HDV.out HN2.out HLeft.out)
      rintro e w5 ⟨L5, rfl, hd5, he5⟩
      have HD5 := Lib.hid hd5
      have HE5 := Lib.hid he5
      clear hd5 he5
      go_wp2_with fail
      go_ret
      exact ⟨L5, rfl, HD5.out, (Ext.of_below HBD.out).trans (HST.out.2.trans (HWt.out.2.trans HE5.out))⟩
end Go.Proofs.Ytlfknldgfeicmaa
