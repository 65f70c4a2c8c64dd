/-
  Leave.
-/
import Derived.Test.YtdgnjalbpiciiaaG7
namespace Go.Proofs.Ytdgnjalbpiciiaa
set_option linter.unusedVariables false
set_option linter.unusedSimpArgs false
open Go.RowKit Go.Shelf

set_option maxHeartbeats 1600000 in
/-- Ints of a row struck out where they lie. -/
theorem Del_own {w : World} {s : Sl} {l : List Int} (h : Own intL 3 w s l) (hl : l.length ≤ 1000000) (p : Int → Bool) (g : Nat) (lb : Array Value) (eg : ∀ args w, (callFunc g args).run Try.prog w = .ok (.enter g args) w) (hp : PredAt Try.prog g lb (Value.int .i64) p w) (hpo : ∀ gb ∈ blk s, PredOver Try.prog g lb (Value.int .i64) p gb 0 l.length w) :
    Calls Try.prog 67 #[s.v, .func (.func g) #[] lb] w fun e w' => ∃ s' : Sl, e = .returned s'.v ∧ Own intL 3 w' s' (l.filter fun x => !p x) ∧ w.grownBy w' s.v.ownBlock ∧ blk s' = blk s := by
  have hown : w.ownsRow 0 3 1 s.v l.length (l.map (Value.int .i64)) := by have := h.row (B := 0) (fun _ _ => Nat.zero_le _); rw [intL_all] at this; exact this
  obtain ⟨sa, sn, sc⟩ := s
  rcases hown.2 with ⟨hv, hz⟩ | ⟨gb, cap, cur, hv, hbase, hgb, r1, r2, r3, r4⟩
  · simp only [Sl.v, Value.slice.injEq] at hv
    obtain ⟨rfl, rfl, rfl⟩ := hv
    obtain rfl : l = [] := List.eq_nil_of_length_eq_zero hz
    exact (DelI_none none 0 _ w).mono fun e w' ⟨he, hw⟩ => ⟨⟨none, 0, 0⟩, he, by rw [← hw]; exact h, by rw [← hw]; exact grown_refl _ _, rfl⟩
  · simp only [Sl.v, Value.slice.injEq] at hv
    obtain ⟨rfl, rfl, rfl⟩ := hv
    have hc : (l.filter fun x => !p x).length ≤ l.length := List.length_filter_le _ _
    have hH : Sort.Holds (Value.int .i64) w gb 0 l.toArray := holds_of_block_i hgb (by simpa using r4)
    have hcon := AnyE.slices_DeleteFunc Try.delF_is (Value.int .i64) (fun _ => rfl) p g lb eg 0 (fun w => zeroI w) gb 0 sc l.toArray w hp (by simpa using hpo gb (by simp [blk])) hH (by simp; omega) (by simpa using r1)
    change Calls Try.prog 67 _ _ _ at hcon
    simp only [List.size_toArray] at hcon
    refine hcon.mono fun e w' ⟨he, q, hw⟩ => ⟨⟨some ⟨gb, 0, none⟩, (l.filter fun x => !p x).length, sc⟩, he, ?_⟩
    have hlen : ((l.filter fun x => !p x) ++ List.replicate (l.length - (l.filter fun x => !p x).length) 0).length = l.length := by simp; omega
    have ho := ownsRow_sorted_i (n := q) (os := #[]) (ts := (l.filter fun x => !p x) ++ List.replicate (l.length - (l.filter fun x => !p x).length) 0) hlen hbase hgb r1 r2 r3
    have hg := grownBy_sorted_i (w := w) (g := gb) (n := q) (os := #[]) ((l.filter fun x => !p x) ++ List.replicate (l.length - (l.filter fun x => !p x).length) 0).toArray
    rw [grow_none] at ho hg
    rw [hw]
    generalize Sort.putRow (Value.int .i64) (Sort.ahead w q) gb 0 ((l.filter fun x => !p x) ++ List.replicate (l.length - (l.filter fun x => !p x).length) 0).toArray = W at *
    refine ⟨?_, hg, rfl⟩
    rcases ho.2 with ⟨hv, _⟩ | ⟨g', cap', cur', hv, hb', hgg', r1', r2', r3', r4'⟩
    · cases hv
    · obtain ⟨rfl, rfl⟩ : gb = g' ∧ sc = cap' := by simpa using hv
      have hrow : W.ownsRow 0 3 intL.sz (.slice (some ⟨gb, 0, none⟩) (l.filter fun x => !p x).length sc) (l.filter fun x => !p x).length (intL.all (l.filter fun x => !p x)) := by
        rw [intL_all]
        show W.ownsRow _ _ 1 _ _ _
        refine ⟨by simp, .inr ⟨gb, sc, cur', rfl, hb', hgg', by omega, r2', r3', ?_⟩⟩
        have := congrArg (List.take (l.filter fun x => !p x).length) r4'
        rw [List.take_take, Nat.min_eq_left (by omega)] at this
        rw [Nat.mul_one, this, List.map_append, List.take_left' (by simp)]
      obtain ⟨s', hv', ho', _, _⟩ := own_row hrow
      have e : s' = ⟨some ⟨gb, 0, none⟩, (l.filter fun x => !p x).length, sc⟩ := by
        obtain ⟨a, n, c'⟩ := s'
        simp only [Sl.v, Value.slice.injEq] at hv'
        obtain ⟨rfl, rfl, rfl⟩ := hv'
        rfl
      rw [← e]; exact ho'
set_option maxHeartbeats 1600000 in
theorem eqm_any {w : World} {bx : Nat} {m : Int} (hc : w.cell? ⟨bx, 0, none⟩ = some (.int .i64 m)) (x : Int) : FnGives Try.prog 68 #[.pointer (some ⟨bx, 0, none⟩)] #[.int .i64 x] (.bool (decide (x = m))) w := by
  show Calls Try.prog 68 #[.int .i64 x, .pointer (some ⟨bx, 0, none⟩)] w _
  by_cases h : x = m
  · rw [decide_eq_true h]
    subst h
    go_enter Try.func68, Try.ntmps68
    go_wp2_with fail
    go_ret
    exact ⟨by simp, 0, rfl⟩
  · rw [decide_eq_false h]
    have hb : (x == m) = false := by rw [beq_eq_false_iff_ne]; exact h
    clear h
    go_enter Try.func68, Try.ntmps68
    go_wp2_with fail
    go_ret
    exact ⟨by first | rfl | simp [hb], 0, rfl⟩
theorem eqm_over {w : World} {bx blk' size : Nat} {m : Int} (hB : bx < w.heap.size) (hne : bx ≠ blk') (hc : w.cell? ⟨bx, 0, none⟩ = some (.int .i64 m)) : PredOver Try.prog 68 #[.pointer (some ⟨bx, 0, none⟩)] (Value.int .i64) (fun x => decide (x = m)) blk' 0 size w :=
  fun n os dk x _ => eqm_any (by
    unfold sortWorld
    rw [Sort.cell?_grow _ _ _ (by simp only [Sort.putRow, Sort.mapBlock, Array.size_modify]; exact hB), Sort.cell?_putRow_other _ _ blk' 0 _ _ (Or.inl hne)]
    exact hc) x
theorem contains_q {w : World} {v : Value} {l : List Int} (h : intL.In w v l) (x : Int) (N : Nat) : Calls Try.prog 37 #[v, .int .i64 x] (w.drewN N) fun e w' => e = .returned (.bool (hasI l x)) ∧ w' = w.drewN N :=
  (Contains_any (h.drewN N) x).mono fun e w' ⟨he, hw⟩ => ⟨he, hw.symm⟩

set_option maxRecDepth 100000 in
set_option maxHeartbeats 3200000 in
theorem Leave_any {w : World} {B b : Nat} {L : List Nat} {l : List Gr} (h : Gk w B b L l) (ok : GOk l) (k : ByteArray) (m : Int) (hB : B ≤ w.heap.size) : Calls Try.prog 44 #[.pointer (some ⟨b, 0, none⟩), .string k, .int .i64 m] w (Did w B b L (leaveG l k m).2 (.int .i64 (leaveG l k m).1)) := by
  have HB0 := Lib.hid (below_alloc w (.cells #[.int .i64 m] 3))
  have HK := Lib.hid h
  obtain ⟨ys, s, hg0, rfl⟩ := h
  have hg := hg0.below HB0.out
  have hc0 : (w.alloc (.cells #[.int .i64 m] 3)).cell? ⟨w.heap.size, 0, none⟩ = some (.int .i64 m) := by go_simp
  have hlen : ys.length ≤ 3 := by have := ok.len; rwa [List.length_map] at this
  have HF := Lib.hid (find_any hg (by omega) k)
  have HG := Lib.hid hg
  have HL0 := Lib.hid hg0.llt
  have OK := Lib.hid ok
  clear hg ok hg0
  go_enter Try.func44, Try.ntmps44
  go_wp2_with fail
  generalize w.alloc (.cells #[.int .i64 m] 3) = W0 at *
  go_fit HF.out
  rintro e w1 ⟨hb, hm⟩
  have HB := Lib.hid (HB0.out.trans (hb.mono HB0.out.size))
  have hc1 := cell_later hb hc0
  cases hp : plc (ys.map (·.1)) k with
  | none =>
    rw [hp] at hm
    obtain rfl := hm
    have HE : Hid (leaveG (ys.map (·.1)) k m = (220, ys.map (·.1))) := by show _ = _; unfold leaveG; rw [gp_none hp]
    clear hb hp HF hc0 hc1
    go_wp2_with fail
    go_ret
    rw [HE.out]
    exact Did.of HK.out HB.out rfl
  | some i =>
    rw [hp] at hm
    obtain ⟨g, hga, rfl⟩ := hm
    obtain ⟨x, hx, hxn, hgp⟩ := plc_item hp
    have hG := HG.out.below hb
    have hok : x.1.Ok := OK.out.all x.1 (List.mem_map.2 ⟨x, List.mem_of_getElem? hx, rfl⟩)
    have HE : Hid (leaveG (ys.map (·.1)) k m = if hasI x.1.members m = false then (221, ys.map (·.1)) else if 1099511627776 ≤ x.1.term then (5, ys.map (·.1)) else (0, upG (ys.map (·.1)) k fun g => g.turn (g.members.filter fun x => !decide (x = m)))) := by
      show _ = _; unfold leaveG; rw [hgp]
    have HU : Hid (∀ v : Gv, upG (ys.map (·.1)) k (fun g => g.turn (g.members.filter fun x => !decide (x = m))) = (ys.set i (x.1.turn (x.1.members.filter fun x => !decide (x = m)), v)).map (·.1)) := by
      intro v
      rw [upG_some hp (by rw [List.getElem?_map, hx]; rfl), List.map_set]
    have hr := hG.rows x (List.mem_of_getElem? hx)
    have k2 := hG.list.cell hga hx (j := 2) rfl
    have k4 := hG.list.cell hga hx (j := 4) rfl
    change w1.cell? ⟨g, i * 7 + 2, none⟩ = some (.int .i64 x.1.term) at k2
    change w1.cell? ⟨g, i * 7 + 4, none⟩ = some (.slice x.2.m.a x.2.m.n x.2.m.c) at k4
    have HC := Lib.hid (fun N => contains_q hr.1.told m N)
    have HGG := Lib.hid hG
    have HX := Lib.hid hx
    have HGA := Lib.hid hga
    have HOK := Lib.hid hok
    have HC1 := Lib.hid hc1
    have hbx := World.block_lt_of_cell? _ _ hc0
    have HBX : Hid (∀ k ∈ gb x, w.heap.size ≠ k) := fun k hk e => by have := HL0.out k (HG.out.mem hx k hk); omega
    have tb := hok.term
    unfold Sl.v at HC
    clear hb hp hgp hok hG hx hxn hga HF hr hc0 hbx
    cases hh : hasI x.1.members m with
    | false =>
      have HE2 : Hid (leaveG (ys.map (·.1)) k m = (221, ys.map (·.1))) := by show _ = _; rw [HE.out, if_pos hh]
      rw [hh] at HC
      clear HE hh
      go_wp2_with fail
      go_quiet ((go_at_call 37; (with_reducible exact Calls.quiet_of_same (HC.out _))))
      go_wp2_with fail
      go_ret
      rw [HE2.out]
      exact Did.of HK.out (below_drewN HB.out _) rfl
    | true =>
      have hh2 : ¬ hasI x.1.members m = false := by rw [hh]; decide
      rw [hh] at HC
      by_cases ht : 1099511627776 ≤ x.1.term
      · have HE2 : Hid (leaveG (ys.map (·.1)) k m = (5, ys.map (·.1))) := by show _ = _; rw [HE.out, if_neg hh2, if_pos ht]
        clear HE hh hh2
        go_wp2_with fail
        go_quiet ((go_at_call 37; (with_reducible exact Calls.quiet_of_same (HC.out _))))
        go_wp2_with fail
        go_ret
        rw [HE2.out]
        exact Did.of HK.out (below_drewN HB.out _) rfl
      · have HE2 : Hid (leaveG (ys.map (·.1)) k m = (0, upG (ys.map (·.1)) k fun g => g.turn (g.members.filter fun x => !decide (x = m)))) := by show _ = _; rw [HE.out, if_neg hh2, if_neg ht]
        clear HE hh hh2
        go_wp2_with fail
        go_quiet ((go_at_call 37; (with_reducible exact Calls.quiet_of_same (HC.out _))))
        generalize hW2 : w1.drewN _ = w2
        have hbd : Below w1.heap.size w1 w2 := by rw [← hW2]; exact below_drewN (Below.refl _ _) _
        have HB2 : Hid (Below w.heap.size w w2) := by show Below _ _ _; rw [← hW2]; exact below_drewN HB.out _
        have hG := HGG.out.below hbd
        have k4' := cell_later hbd k4
        have k2' := cell_later hbd k2
        have hcx := cell_later hbd hc1
        have hr := hG.rows x (List.mem_of_getElem? HX.out)
        have hbx := World.block_lt_of_cell? _ _ hcx
        obtain ⟨hnd, hsep, _, _⟩ := hG.apart HX.out
        have hgs : g ∈ blk s := by rw [blk_some HGA.out]; simp
        have HDel := Lib.hid (Del_own hr.1 (by have := HOK.out.mem; omega) (fun x => decide (x = m)) 68 #[.pointer (some ⟨w.heap.size, 0, none⟩)] (enters_of Try.func68 (by kernel_rfl) rfl)
          (fun W x hb => eqm_any ((hb.cell (p := ⟨w.heap.size, 0, none⟩) hbx).trans hcx) x) (fun gb' hgb => eqm_over hbx (HBX.out gb' (by unfold gb; simp [hgb])) hcx))
        have HG2 := Lib.hid hG
        have HSEP := Lib.hid hsep
        have HGS := Lib.hid hgs
        have HLT := Lib.hid (List.getElem?_eq_some_iff.1 HX.out).1
        unfold Sl.v at HDel
        clear hW2 hbd hG k4 hc1 k2 hcx hr hbx hnd hsep hgs HC HGG HC1
        go_wp2_with fail
        go_fit HDel.out
        rintro e w3 ⟨sv, rfl, hsv, hgw, hbk⟩
        have hgm : ∀ k ∈ blk s, k ∉ blk x.2.m := fun k hk hm => HSEP.out k (by unfold gb; simp [hm]) hk
        have hw3 : ∀ k, k < w2.heap.size → k ≠ g → k ∉ blk x.2.m → w3.heap[k]? = w2.heap[k]? := fun k hk hne hnm => hgw.block k hk (fun e => hnm (ob_blk e))
        have HL3 : Hid (Own giL 45 w3 s ys) := HG2.out.list.kept fun k hk => hgw.block k (HG2.out.list.lt k hk) (fun e => hgm k hk (ob_blk e))
        have hr := HG2.out.rows x (List.mem_of_getElem? HX.out)
        have hp := gb_parts (HG2.out.apart HX.out).1
        have HO3 : Hid (Own intL 3 w3 x.2.o x.1.owners) := hr.2.1.kept fun k hk => hgw.block k (hr.2.1.lt k hk) (fun e => hp.1 k (ob_blk e) hk)
        have HCh := Lib.hid (change_any (i := i) (x := x) HL3.out HGA.out HX.out hsv (by rw [hbk]; exact hgm g HGS.out) HO3.out (fun hm => HSEP.out g (by unfold gb; simp [hm]) HGS.out) (by have := HOK.out.parts; omega) (Nat.le_trans (List.length_filter_le _ _) (by have := HOK.out.mem; omega))
          (fun n hn => by have := HOK.out.owns n hn; exact w64 (by omega) (by omega)) (fun n hn => by have := HOK.out.mems n (List.mem_filter.1 hn).1; have := HOK.out.next; exact w64 (by omega) (by omega)) tb)
        have HT : Hid (∀ (w4 : World) (so : Sl), (w4.os = w3.os ∧ w4.tape = w3.tape ∧ w4.output = w3.output) → w3.heap.size ≤ w4.heap.size → (∀ k, k < w3.heap.size → k ≠ g → w4.heap[k]? = w3.heap[k]?) →
            Own giL 45 w4 s (ys.set i (x.1.turn (x.1.members.filter fun x => !decide (x = m)), { x.2 with m := sv, o := so })) → Own intL 3 w4 so (x.1.turn (x.1.members.filter fun x => !decide (x = m))).owners → (∀ k ∈ blk so, w3.heap.size ≤ k) →
            ∃ L', Gs w4 B b L' (ys.set i (x.1.turn (x.1.members.filter fun x => !decide (x = m)), { x.2 with m := sv, o := so })) s ∧ Ext w2 L w4 L') := fun w4 so q1 q2 q3 q4 q5 q6 =>
          HG2.out.turned HX.out HGA.out (Nat.le_trans hB HB2.out.size) ⟨hgw.os, hgw.tape, hgw.output⟩ hgw.size hw3 hsv (fun k hk => .inl (by rw [← hbk]; exact hk)) q1 q2 q3 q4 q5 q6 rfl
        clear hgw hw3 hgm hp hr hsv hbk HDel
        go_wp2_with fail
        go_fit HCh.out
        rintro e w4 ⟨rfl, so, q4, q5, q6, q1, q2, q3⟩
        have HQ := Lib.hid (HT.out w4 so q1 q2 q3 q4 q5 q6)
        clear q1 q2 q3 q4 q5 q6 HCh HT
        go_wp2_with fail
        go_ret
        obtain ⟨L', hs', he'⟩ := HQ.out
        rw [HE2.out]
        exact ⟨L', rfl, ⟨_, s, hs', (HU.out _).symm⟩, (Ext.of_below HB2.out).trans he'⟩
end Go.Proofs.Ytdgnjalbpiciiaa
