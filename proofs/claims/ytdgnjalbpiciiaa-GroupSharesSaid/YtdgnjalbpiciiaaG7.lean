/-
  Join, Leave.
-/
import Derived.Test.YtdgnjalbpiciiaaG6
import Derived.Test.YtdgnjalbpiciiaaTm
import Derived.BigQuiet
namespace Go.Proofs.Ytdgnjalbpiciiaa
set_option linter.unusedVariables false
set_option linter.unusedSimpArgs false
open Go.RowKit Go.Shelf

def joinG (l : List Gr) (k : ByteArray) : Int × Int × List Gr := match gp l k with
  | none => (0, 220, l)
  | some g => if 6 ≤ g.members.length then (0, 7, l) else if 1099511627776 ≤ g.term ∨ 1099511627776 ≤ g.next then (0, 5, l) else (g.next, 0, upG l k fun g => ({ g with next := g.next + 1 } : Gr).turn (g.members ++ [g.next]))
def leaveG (l : List Gr) (k : ByteArray) (m : Int) : Int × List Gr := match gp l k with
  | none => (220, l)
  | some g => if hasI g.members m = false then (221, l) else if 1099511627776 ≤ g.term then (5, l) else (0, upG l k fun g => g.turn (g.members.filter fun x => !decide (x = m)))
theorem ob_blk {s : Sl} {k : Nat} (h : some k = s.v.ownBlock) : k ∈ blk s := by
  obtain ⟨a, n, c⟩ := s
  cases a with
  | none => cases h
  | some p => have : k = p.block := by simpa [Sl.v, Value.ownBlock] using h
              rw [this]; simp [blk]
theorem blk_nodup (s : Sl) : (blk s).Nodup := by unfold blk; split <;> simp
theorem gb_nodup {a b c : Sl} (h1 : ∀ k ∈ blk a, k ∉ blk b) (h2 : ∀ k ∈ blk a, k ∉ blk c) (h3 : ∀ k ∈ blk b, k ∉ blk c) : (blk a ++ blk b ++ blk c).Nodup := by
  rw [List.nodup_append, List.nodup_append]
  refine ⟨⟨blk_nodup a, blk_nodup b, fun x hx y hy e => h1 x hx (e ▸ hy)⟩, blk_nodup c, fun x hx y hy e => ?_⟩
  rcases List.mem_append.1 hx with hx | hx
  · exact h2 x hx (e ▸ hy)
  · exact h3 x hx (e ▸ hy)
/-- A group's members and owners have turned. -/
theorem Gs.turned {w w2 w3 : World} {B b : Nat} {L : List Nat} {ys : List Gi} {s sv so : Sl} {i g : Nat} {x : Gi} {g' : Gr} (h : Gs w B b L ys s) (hi : ys[i]? = some x) (ha : s.a = some ⟨g, 0, none⟩) (hB : B ≤ w.heap.size)
    (hw : w2.os = w.os ∧ w2.tape = w.tape ∧ w2.output = w.output) (hsz : w.heap.size ≤ w2.heap.size) (hk : ∀ k, k < w.heap.size → k ≠ g → k ∉ blk x.2.m → w2.heap[k]? = w.heap[k]?)
    (hm : Own intL 3 w2 sv g'.members) (hmb : ∀ k ∈ blk sv, k ∈ blk x.2.m ∨ w.heap.size ≤ k)
    (hw3 : w3.os = w2.os ∧ w3.tape = w2.tape ∧ w3.output = w2.output) (hsz3 : w2.heap.size ≤ w3.heap.size) (hk3 : ∀ k, k < w2.heap.size → k ≠ g → w3.heap[k]? = w2.heap[k]?)
    (hl : Own giL 45 w3 s (ys.set i (g', { x.2 with m := sv, o := so }))) (ho : Own intL 3 w3 so g'.owners) (hob : ∀ k ∈ blk so, w2.heap.size ≤ k) (hd : g'.done = x.1.done) :
    ∃ L', Gs w3 B b L' (ys.set i (g', { x.2 with m := sv, o := so })) s ∧ Ext w L w3 L' := by
  obtain ⟨hnd, hsep, hb1, hb2⟩ := h.apart hi
  obtain ⟨p1, p2, p3⟩ := gb_parts hnd
  have hr := h.rows x (List.mem_of_getElem? hi)
  have hgs : g ∈ blk s := by rw [blk_some ha]; simp
  have hgn : ∀ k ∈ gb x, k ≠ g := fun k hk e => hsep k hk (e ▸ hgs)
  have hal := hr.2.2.lt
  have hml := hr.1.lt
  have hgl : g < w.heap.size := h.list.lt g hgs
  have hsg : ∀ k ∈ blk sv, k ≠ g := fun k hk => by
    rcases hmb k hk with h | h
    · exact hgn k (by unfold gb; simp [h])
    · omega
  have hka : ∀ k ∈ blk x.2.a, w3.heap[k]? = w.heap[k]? := fun k hk' => (hk3 k (Nat.lt_of_lt_of_le (hal k hk') hsz) (hgn k (by unfold gb; simp [hk']))).trans (hk k (hal k hk') (hgn k (by unfold gb; simp [hk'])) (fun hm => p2 k hm hk'))
  refine h.upd hi ⟨hw3.1.trans hw.1, hw3.2.1.trans hw.2.1, hw3.2.2.trans hw.2.2⟩ (Nat.le_trans hsz hsz3) (fun k hkl hn hs => ?_) hl ⟨?_, ho, ?_⟩ (fun k hk' => ?_) ?_ hB
  · have hne : k ≠ g := fun e => hs (e ▸ hgs)
    exact (hk3 k (Nat.lt_of_lt_of_le hkl hsz) hne).trans (hk k hkl hne (fun hm => hn (by unfold gb; simp [hm])))
  · exact hm.kept fun k hk' => hk3 k (hm.lt k hk') (hsg k hk')
  · rw [hd]; exact hr.2.2.kept hka
  · unfold gb at hk'
    simp only at hk'
    rcases List.mem_append.1 hk' with hk' | hk'
    · rcases List.mem_append.1 hk' with hk' | hk'
      · exact (hmb k hk').imp (fun h => by unfold gb; simp [h]) id
      · exact .inr (Nat.le_trans hsz (hob k hk'))
    · exact .inl (by unfold gb; simp [hk'])
  · refine gb_nodup (fun k h1 h2 => ?_) (fun k h1 h2 => ?_) (fun k h1 h2 => ?_)
    · have := hm.lt k h1; have := hob k h2; omega
    · rcases hmb k h1 with h | h
      · exact p2 k h h2
      · have := hal k h2; omega
    · have h3 := hob k h1; have h4 := hal k h2; omega

set_option maxRecDepth 100000 in
set_option maxHeartbeats 3200000 in
theorem Join_any {w : World} {B b : Nat} {L : List Nat} {l : List Gr} (h : Gk w B b L l) (ok : GOk l) (k : ByteArray) (hB : B ≤ w.heap.size) : Calls Try.prog 42 #[.pointer (some ⟨b, 0, none⟩), .string k] w (Did w B b L (joinG l k).2.2 (.tuple #[.int .i64 (joinG l k).1, .int .i64 (joinG l k).2.1])) := by
  have HK := Lib.hid h
  obtain ⟨ys, s, hg, rfl⟩ := h
  have hlen : ys.length ≤ 3 := by have := ok.len; rwa [List.length_map] at this
  have HF := Lib.hid (find_any hg (by omega) k)
  have HG := Lib.hid hg
  have OK := Lib.hid ok
  clear hg ok
  go_enter Try.func42, Try.ntmps42
  go_wp2_with fail
  go_fit HF.out
  rintro e w1 ⟨hb, hm⟩
  have HB := Lib.hid hb
  cases hp : plc (ys.map (·.1)) k with
  | none =>
    rw [hp] at hm
    obtain rfl := hm
    have HE : Hid (joinG (ys.map (·.1)) k = (0, 220, ys.map (·.1))) := by show _ = _; unfold joinG; rw [gp_none hp]
    clear hb hp HF
    go_wp2_with fail
    go_ret2
    rw [HE.out]
    exact Did.of HK.out HB.out rfl
  | some i =>
    rw [hp] at hm
    obtain ⟨g, hga, rfl⟩ := hm
    obtain ⟨x, hx, hxn, hgp⟩ := plc_item hp
    have hG := HG.out.below hb
    have hok : x.1.Ok := OK.out.all x.1 (List.mem_map.2 ⟨x, List.mem_of_getElem? hx, rfl⟩)
    have HE : Hid (joinG (ys.map (·.1)) k = if 6 ≤ x.1.members.length then (0, 7, ys.map (·.1)) else if 1099511627776 ≤ x.1.term ∨ 1099511627776 ≤ x.1.next then (0, 5, ys.map (·.1)) else (x.1.next, 0, upG (ys.map (·.1)) k fun g => ({ g with next := g.next + 1 } : Gr).turn (g.members ++ [g.next]))) := by
      show _ = _; unfold joinG; rw [hgp]
    have HU : Hid (∀ v : Gv, upG (ys.map (·.1)) k (fun g => ({ g with next := g.next + 1 } : Gr).turn (g.members ++ [g.next])) = (ys.set i (({ x.1 with next := x.1.next + 1 } : Gr).turn (x.1.members ++ [x.1.next]), v)).map (·.1)) := by
      intro v
      rw [upG_some hp (by rw [List.getElem?_map, hx]; rfl), List.map_set]
    have hr := hG.rows x (List.mem_of_getElem? hx)
    have k2 := hG.list.cell hga hx (j := 2) rfl
    have k3 := hG.list.cell hga hx (j := 3) rfl
    have k4 := hG.list.cell hga hx (j := 4) rfl
    have z3 := hG.list.fz hga (i * 7 + 3)
    change w1.cell? ⟨g, i * 7 + 2, none⟩ = some (.int .i64 x.1.term) at k2
    change w1.cell? ⟨g, i * 7 + 3, none⟩ = some (.int .i64 x.1.next) at k3
    change w1.cell? ⟨g, i * 7 + 4, none⟩ = some (.slice x.2.m.a x.2.m.n x.2.m.c) at k4
    have hn4 := hr.1.1
    have HGG := Lib.hid hG
    have HX := Lib.hid hx
    have HGA := Lib.hid hga
    have HOK := Lib.hid hok
    have tb := hok.term
    have nb := hok.next
    clear hb hp hgp hok hG hx hxn hga HF hr
    by_cases h6 : 6 ≤ x.1.members.length
    · have HE2 : Hid (joinG (ys.map (·.1)) k = (0, 7, ys.map (·.1))) := by show _ = _; rw [HE.out, if_pos h6]
      have hI : (6 : Int) ≤ (x.2.m.n : Int) := by omega
      clear HE h6
      go_wp2_with fail
      go_ret2
      rw [HE2.out]
      exact Did.of HK.out HB.out rfl
    · have hI : ¬ (6 : Int) ≤ (x.2.m.n : Int) := by omega
      by_cases ht : 1099511627776 ≤ x.1.term
      · have HE2 : Hid (joinG (ys.map (·.1)) k = (0, 5, ys.map (·.1))) := by show _ = _; rw [HE.out, if_neg h6, if_pos (.inl ht)]
        clear HE h6
        go_wp2_with fail
        go_ret2
        rw [HE2.out]
        exact Did.of HK.out HB.out rfl
      · by_cases hn : 1099511627776 ≤ x.1.next
        · have HE2 : Hid (joinG (ys.map (·.1)) k = (0, 5, ys.map (·.1))) := by show _ = _; rw [HE.out, if_neg h6, if_pos (.inr hn)]
          clear HE h6
          go_wp2_with fail
          go_ret2
          rw [HE2.out]
          exact Did.of HK.out HB.out rfl
        · have HE2 : Hid (joinG (ys.map (·.1)) k = (x.1.next, 0, upG (ys.map (·.1)) k fun g => ({ g with next := g.next + 1 } : Gr).turn (g.members ++ [g.next]))) := by show _ = _; rw [HE.out, if_neg h6, if_neg (by omega)]
          have en : IntKind.i64.wrap (x.1.next + 1) = x.1.next + 1 := IntWalk.i64_in _ (by omega)
          have hG := HGG.out
          have hlt := (List.getElem?_eq_some_iff.1 HX.out).1
          have hgs : g ∈ blk s := by rw [blk_some HGA.out]; simp
          obtain ⟨hnd, hsep, _, _⟩ := hG.apart HX.out
          have hr := hG.rows x (List.mem_of_getElem? HX.out)
          have hgl : g < w1.heap.size := hG.list.lt g hgs
          have h1 : Own giL 45 (w1.setCell ⟨g, i * 7 + 3, none⟩ (.int .i64 (x.1.next + 1))) s (ys.set i ({ x.1 with next := x.1.next + 1 }, x.2)) := hG.list.set HGA.out HX.out (j := 3) (by decide) (.int .i64 (x.1.next + 1)) rfl
          have hk1 : ∀ k, k ≠ g → (w1.setCell ⟨g, i * 7 + 3, none⟩ (.int .i64 (x.1.next + 1))).heap[k]? = w1.heap[k]? := fun k hk => Below.heap_setCell _ _ _ _ hk
          have hm1 := hr.1.kept (w' := w1.setCell ⟨g, i * 7 + 3, none⟩ (.int .i64 (x.1.next + 1))) fun k hk => hk1 k (fun e => hsep k (by unfold gb; simp [hk]) (e ▸ hgs))
          have ho1 := hr.2.1.kept (w' := w1.setCell ⟨g, i * 7 + 3, none⟩ (.int .i64 (x.1.next + 1))) fun k hk => hk1 k (fun e => hsep k (by unfold gb; simp [hk]) (e ▸ hgs))
          have hs1 : (w1.setCell ⟨g, i * 7 + 3, none⟩ (.int .i64 (x.1.next + 1))).heap.size = w1.heap.size := set_size _ _ _
          have HROW := Lib.hid (hm1.row (B := 0) fun _ _ => Nat.zero_le _)
          have k4' : (w1.setCell ⟨g, i * 7 + 3, none⟩ (.int .i64 (x.1.next + 1))).cell? ⟨g, i * 7 + 4, none⟩ = some (.slice x.2.m.a x.2.m.n x.2.m.c) := h1.cell HGA.out (List.getElem?_set_self hlt) (j := 4) rfl
          have H1 := Lib.hid h1
          have HO1 := Lib.hid ho1
          have HK1 := Lib.hid hk1
          have HS1 := Lib.hid hs1
          have HSEP := Lib.hid hsep
          have HLT := Lib.hid hlt
          have HGS := Lib.hid hgs
          have HGL := Lib.hid hgl
          have HML := Lib.hid hr.1.lt
          rw [← hn4] at HROW
          have Hn4 := Lib.hid hn4
          have Hlen : Hid (x.2.m.n + 1 ≤ 1073741825) := by show _ ≤ _; omega
          unfold Sl.v at HROW
          clear HE h6 hG hlt hgs hnd hsep hr hgl h1 hk1 hm1 ho1 hs1 hn4
          go_wp2_with (at_builtin; refine wpList_pushI rfl _ _ 43 3 _ 1 8 rfl Try.underlying43 infoInt rfl (by decide) 0 x.2.m.n _ (intL.all x.1.members) rfl HROW.out #[.int .i64 x.1.next] rfl (intL.one x.1.next) (by rw [HS1.out]; rfl) Hlen.out (by decide) (Nat.zero_le _) ?_; intro g3 c3 w3 hown hgrow hat hlt3; have HOWN := Lib.hid hown; have HGROW : Hid ((w1.setCell ⟨g, i * 7 + 3, none⟩ (.int .i64 (x.1.next + 1))).grownBy w3 x.2.m.v.ownBlock) := Lib.hid hgrow; have HAT : Hid (x.2.m.v.ownBlock = some g3 ∨ (w1.setCell ⟨g, i * 7 + 3, none⟩ (.int .i64 (x.1.next + 1))).heap.size ≤ g3) := Lib.hid hat; clear hown hgrow hat hlt3)
          have HSV := Lib.hid (own_push (by rw [← Hn4.out]; exact HOWN.out))
          have hgw := HGROW.out
          have hw3 : ∀ k, k < w1.heap.size → k ≠ g → k ∉ blk x.2.m → w3.heap[k]? = w1.heap[k]? := fun k hk hne hnm => (hgw.block k (by rw [HS1.out]; exact hk) (fun e => hnm (ob_blk e))).trans (HK1.out k hne)
          have hgm : ∀ k ∈ blk s, k ∉ blk x.2.m := fun k hk hm => HSEP.out k (by unfold gb; simp [hm]) hk
          have hmb : ∀ k ∈ [g3], k ∈ blk x.2.m ∨ w1.heap.size ≤ k := fun k hk => by
            obtain rfl : k = g3 := by simpa using hk
            rcases HAT.out with h | h
            · left; exact ob_blk h.symm
            · right; rw [HS1.out] at h; exact h
          have hg3 : g ≠ g3 := fun e => by
            rcases hmb g3 (by simp) with h | h
            · exact hgm g HGS.out (e ▸ h)
            · have := HGL.out; omega
          have hs3 : w1.heap.size ≤ w3.heap.size := by have := hgw.size; rw [HS1.out] at this; exact this
          have HL3 : Hid (Own giL 45 w3 s (ys.set i ({ x.1 with next := x.1.next + 1 }, x.2))) := H1.out.kept fun k hk => hgw.block k (H1.out.lt k hk) (fun e => hgm k hk (ob_blk e))
          have hp := gb_parts (HGG.out.apart HX.out).1
          have HO3 : Hid (Own intL 3 w3 x.2.o x.1.owners) := HO1.out.kept fun k hk => hgw.block k (HO1.out.lt k hk) (fun e => hp.1 k (ob_blk e) hk)
          have Hn4' := Hn4.out
          have HC := Lib.hid (change_any (i := i) (x := ({ x.1 with next := x.1.next + 1 }, x.2)) HL3.out HGA.out (List.getElem?_set_self HLT.out) HSV.out (by simpa [blk] using hg3) HO3.out (fun hm => HSEP.out g (by unfold gb; simp [hm]) HGS.out) (by have := HOK.out.parts; show x.1.owners.length ≤ _; omega) (by rw [List.length_append]; have := HOK.out.mem; simp; omega)
            (fun n hn => by have := HOK.out.owns n hn; exact w64 (by omega) (by omega)) (fun n hn => by
              rcases List.mem_append.1 hn with hn | hn
              · have := HOK.out.mems n hn; exact w64 (by omega) (by omega)
              · rw [List.mem_singleton.1 hn]; exact w64 (by omega) (by omega)) tb)
          rw [← Hn4.out] at HC
          have HT : Hid (∀ (w4 : World) (so : Sl), (w4.os = w3.os ∧ w4.tape = w3.tape ∧ w4.output = w3.output) → w3.heap.size ≤ w4.heap.size → (∀ k, k < w3.heap.size → k ≠ g → w4.heap[k]? = w3.heap[k]?) →
              Own giL 45 w4 s (ys.set i (({ x.1 with next := x.1.next + 1 } : Gr).turn (x.1.members ++ [x.1.next]), { x.2 with m := ⟨some ⟨g3, 0, none⟩, x.2.m.n + 1, c3⟩, o := so })) → Own intL 3 w4 so (({ x.1 with next := x.1.next + 1 } : Gr).turn (x.1.members ++ [x.1.next])).owners → (∀ k ∈ blk so, w3.heap.size ≤ k) →
              ∃ L', Gs w4 B b L' (ys.set i (({ x.1 with next := x.1.next + 1 } : Gr).turn (x.1.members ++ [x.1.next]), { x.2 with m := ⟨some ⟨g3, 0, none⟩, x.2.m.n + 1, c3⟩, o := so })) s ∧ Ext w1 L w4 L') := fun w4 so q1 q2 q3 q4 q5 q6 =>
            HGG.out.turned HX.out HGA.out (Nat.le_trans hB HB.out.size) ⟨hgw.os, hgw.tape, hgw.output⟩ hs3 hw3 (by have h := HSV.out; rw [← Hn4.out] at h; exact h) (by simpa [blk] using hmb) q1 q2 q3 q4 q5 q6 rfl
          clear hgw hw3 hgm hmb hg3 hs3 hp Hn4'
          unfold Sl.v at HC
          go_wp2_with fail
          go_fit HC.out
          rintro e w4 ⟨rfl, so, q4, q5, q6, q1, q2, q3⟩
          have HQ := Lib.hid (HT.out w4 so q1 q2 q3 (by rw [List.set_set] at q4; exact q4) q5 q6)
          clear q1 q2 q3 q4 q5 q6 HC HT
          go_wp2_with fail
          go_ret2
          obtain ⟨L', hs', he'⟩ := HQ.out
          rw [HE2.out]
          exact ⟨L', rfl, ⟨_, s, hs', (HU.out _).symm⟩, (Ext.of_below HB.out).trans he'⟩
end Go.Proofs.Ytdgnjalbpiciiaa
