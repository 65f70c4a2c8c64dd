/-
  How many parts each of a team may have: rooms walked.
-/
import Derived.Test.YtdgnjalbpiciiaaTm
import Derived.Test.YtdgnjalbpiciiaaM2
import Derived.Test.YtdgnjalbpiciiaaS8
namespace Go.Proofs.Ytdgnjalbpiciiaa
set_option linter.unusedVariables false
set_option linter.unusedSimpArgs false
open Go.RowKit Go.Shelf Go.Maps

theorem Mp.fn {w : World} {b n : Nat} {f g : Int → Int} (h : Mp w b n f) (e : ∀ x, f x = g x) : Mp w b n g := by
  have : f = g := funext e
  rwa [← this]
theorem Mp.more {w : World} {b n m : Nat} {f : Int → Int} (h : Mp w b n f) (e : n ≤ m) : Mp w b m f := by
  obtain ⟨D, ho, ha⟩ := h
  exact ⟨D, ho.mono e, ha⟩
def RoomP (o t : List Int) (w : World) (e : Ending) (w' : World) : Prop := ∃ b n, e = .returned (.map (some b)) ∧ n ≤ 4000 ∧ w.heap.size ≤ b ∧ Mp w' b n (fun x => (room o t x : Nat)) ∧ Below w.heap.size w w'
theorem count_take {o : List Int} {k : Nat} {x : Int} (h : o[k]? = some x) (z : Int) : (((o.take (k + 1)).count z : Nat) : Int) = if z = x then (((o.take k).count x : Nat) : Int) + 1 else (((o.take k).count z : Nat) : Int) := by
  rw [List.take_add_one, h, Option.toList_some, List.count_append]
  by_cases e : z = x
  · subst e; simp
  · rw [count0 e, if_neg e]; simp
theorem below_grown {B : Nat} {w w1 w2 : World} {b : Nat} (h : Below B w w1) (hB : B ≤ w1.heap.size) (hg : w1.grownBy w2 (some b)) (hb : B ≤ b) : Below B w w2 :=
  h.trans ⟨hg.os, hg.tape, hg.output, hg.size, fun k hk => hg.block k (Nat.lt_of_lt_of_le hk hB) (fun e => by have : k = b := by simpa using e
                                                                                                              omega)⟩

set_option maxRecDepth 100000 in
set_option maxHeartbeats 6400000 in
theorem rooms_any {w : World} {vo vt : Value} {o t : List Int} (ho : intL.In w vo o) (ht : intL.In w vt t) (hw : ∀ x ∈ o, W64 x) (hwt : ∀ x ∈ t, W64 x) (hs : t.Pairwise (· < ·)) (hp : ∀ x ∈ t, 0 < x) (hne : t ≠ []) (lo : o.length ≤ 1000) (lt : t.length ≤ 1000) :
    Calls Try.prog 59 #[vo, vt] w (RoomP o t w) := by
  obtain ⟨a1, c1, rfl, hlc1, hcm1⟩ := ho.slice
  obtain ⟨a2, c2, rfl, hlc2, hcm2⟩ := ht.slice
  have hmm := @run_makeMap Try.prog
  have HO := Lib.hid ho
  have HT := Lib.hid ht
  have HW := Lib.hid hw
  have HWT := Lib.hid hwt
  have HS := Lib.hid hs
  have HP := Lib.hid hp
  have HNE := Lib.hid hne
  have h0t : 0 < t.length := List.length_pos_iff.2 hne
  have hb1 := below_alloc w (.map #[] 0)
  have hb2 := below_alloc (w.alloc (.map #[] 0)) (.cells #[.map (some w.heap.size)] 82)
  have hm0 : Mp ((w.alloc (.map #[] 0)).alloc (.cells #[.map (some w.heap.size)] 82)) w.heap.size 0 (fun _ => 0) := (Mp.made w).below hb2
  have hx0 : ((w.alloc (.map #[] 0)).alloc (.cells #[.map (some w.heap.size)] 82)).cell? ⟨w.heap.size + 1, 0, none⟩ = some (.map (some w.heap.size)) := by go_simp
  have hbb : Below w.heap.size w ((w.alloc (.map #[] 0)).alloc (.cells #[.map (some w.heap.size)] 82)) := hb1.trans (hb2.mono hb1.size)
  have hz0 : ((w.alloc (.map #[] 0)).alloc (.cells #[.map (some w.heap.size)] 82)).heap.size = w.heap.size + 2 := by simp
  have HX0 := Lib.hid hx0
  have HM0 := Lib.hid hm0
  have HBB := Lib.hid hbb
  have HZ0 := Lib.hid hz0
  clear ho ht hw hwt hs hp hne hb1 hb2 hm0 hx0 hbb hz0
  go_enter Try.func59, Try.ntmps59
  go_wp2_with fail
  generalize (w.alloc (.map #[] 0)).alloc (.cells #[.map (some w.heap.size)] 82) = W0 at *
  go_loopw [15] (fun i wr => ∃ k : Nat, i = .int .i64 k ∧ k ≤ o.length ∧ Hid (wr.cell? ⟨w.heap.size + 1, 0, none⟩ = some (.map (some w.heap.size))) ∧ Hid (Mp wr w.heap.size k (fun x => ((o.take k).count x : Nat))) ∧ Hid (Below w.heap.size w wr))
    (fun i _ => o.length - (intOf i).toNat)
  case atStart => exact ⟨0, rfl, Nat.zero_le _, HX0, HM0.out.fn (fun x => by simp), HBB⟩
  case round =>
    obtain ⟨k, rfl, hk, hx, hm, hb⟩ := hrel
    by_cases hlt : k < o.length
    · have hg : o[k]? = some o[k] := List.getElem?_eq_getElem hlt
      obtain ⟨g, off, rfl, _, hc⟩ := intL_at (HO.out.later hb.out) hg
      have HC := Lib.hid (count_take hg)
      have HX : Hid (W64 o[k]) := HW.out _ (List.getElem_mem hlt)
      have hcl : (o.take k).count o[k] ≤ 1000 := Nat.le_trans List.count_le_length (by rw [List.length_take]; omega)
      clear hg
      generalize o[k] = x at *
      generalize hq : (o.take k).count x = q at *
      have HQ := Lib.hid hq
      have hl := hm.out.look HX.out
      rw [hq] at hl
      clear hq
      have hx1 := hx.out
      have hkey := keyOf_int_mk (P := Try.prog) Try.underlying3 HX.out
      have hwf : (Lit.int .i64 ((q : Int) + 1)).wf = true := WalkArith.wf_i64 (by omega)
      obtain ⟨D, hown, hat⟩ := hm.out
      have HAT := Lib.hid hat
      clear hat
      go_wp2_with (at_mapUpdate; refine wpList_mapUpdate_own _ rfl _ _ _ 82 rfl 3 3 keyI Try.underlying82 _ w.heap.size k _ rfl hown (by unfold maxLen; omega) _ _ _ rfl rfl hkey _ [] (plainElem_int Try.underlying3 hwf) ?_; intro w1 hown1 hgrow1)
      have H1 : Hid (w1.cell? ⟨w.heap.size + 1, 0, none⟩ = some (.map (some w.heap.size))) := (World.cell?_of_block (a := ⟨w.heap.size + 1, 0, none⟩) (hgrow1.block _ (World.block_lt_of_cell? wr _ hx1) (by simp))).trans hx1
      have H2 : Hid (Mp w1 w.heap.size (k + 1) (fun x => ((o.take (k + 1)).count x : Nat))) := (Mp.put hown HAT.out hown1).fn fun z => by rw [HC.out z]
      have H3 : Hid (Below w.heap.size w w1) := below_grown hb.out hb.out.size hgrow1 (Nat.le_refl _)
      exact ⟨⟨k + 1, by go_num, by omega, H1, H2, H3⟩, by simp [intOf]; omega⟩
    · obtain rfl : k = o.length := by omega
      have hm' : Hid (Mp wr w.heap.size o.length (fun x => (o.count x : Nat))) := hm.out.fn fun x => by rw [List.take_length]
      have HCl := Lib.hid (Clone_any (HT.out.later hb.out) (by omega))
      clear hm
      go_wp2_with fail
      go_fit HCl.out
      rintro e w2 ⟨v2, rfl, hR⟩
      -- a row of its own, not empty
      obtain ⟨g, c, rfl, hgl, hgw, hrow, hc2⟩ : ∃ g c, v2 = .slice (some ⟨g, 0, none⟩) t.length c ∧ wr.heap.size ≤ g ∧ g < w2.heap.size ∧ (∀ κ : Env, κ.ok w2 g → κ.had = (fun x => o.count x) → PRow κ w2 g (keyed o t)) ∧ t.length ≤ c := by
        have hown := hR.own
        rw [intL_all] at hown
        rcases hown.2 with ⟨_, hz⟩ | ⟨gb, cap, cur, rfl, hbase, hgb, r1, r2, r3, r4⟩
        · omega
        · refine ⟨gb, cap, rfl, hbase, (Array.getElem?_eq_some_iff.1 hgb).1, fun κ hκ hh => ⟨fun i p hi => ?_, fun i => frozen_of_row w2 gb i cur _ hgb, hκ⟩, r1⟩
          unfold keyed at hi
          rw [List.getElem?_map, Option.map_eq_some_iff] at hi
          obtain ⟨m, hm, rfl⟩ := hi
          have := hR.told
          obtain ⟨g', off', ha, _, hc⟩ := intL_at this hm
          simp only [Option.some.injEq, Addr.mk.injEq] at ha
          obtain ⟨rfl, rfl, _⟩ := ha
          exact ⟨hc, Lib.hid ⟨by rw [hh], HWT.out m (List.mem_of_getElem? hm)⟩⟩
      have hb2 := hR.grown
      have HG2 := Lib.hid hgl
      obtain ⟨κ, hκ⟩ : ∃ κ : Env, κ = ⟨w.heap.size + 1, w.heap.size, o.length, fun x => o.count x⟩ := ⟨_, rfl⟩
      have hok : κ.ok w2 g := by
        have hx2 := cell_later hb2 hx.out
        have hlt1 := World.block_lt_of_cell? wr _ hx.out
        rw [hκ]
        exact ⟨hx2, (hm'.out.below hb2), by show w.heap.size + 1 ≠ g; have : w.heap.size + 1 < wr.heap.size := hlt1; omega, by show w.heap.size ≠ g; have : w.heap.size + 1 < wr.heap.size := hlt1; omega⟩
      have HSo := Lib.hid (SortStable_big (hrow κ hok (by rw [hκ])) hgw (by unfold keyed; rw [List.length_map]) hc2 (by omega))
      have ebx : κ.bx = w.heap.size + 1 := by rw [hκ]
      rw [ebx] at HSo
      have HB2 : Hid (Below w.heap.size w w2) := Lib.hid (hb.out.trans (hb2.mono hb.out.size))
      clear hκ hok ebx hrow hR HCl hm' hx hb2
      go_wp2_with fail
      go_fit HSo.out
      rintro e w3 ⟨rfl, hsort⟩
      obtain ⟨hrow3, hgr3⟩ := hsort
      have H3 : Hid (∀ i x, (ordered o t)[i]? = some x → w3.cell? ⟨g, i, none⟩ = some (.int .i64 x)) := fun i x hx => by
        unfold ordered at hx
        rw [List.getElem?_map, Option.map_eq_some_iff] at hx
        obtain ⟨p, hp, rfl⟩ := hx
        exact (hrow3.at1 hp).1
      have HB3 : Hid (Below w.heap.size w w3) := Lib.hid (below_grown HB2.out HB2.out.size hgr3 (Nat.le_trans hb.out.size HG2.out))
      have Hg3 : Hid (g < w3.heap.size) := Nat.lt_of_lt_of_le hgw hgr3.size
      have Hml : Hid ((ordered o t).length = t.length) := ordered_len o t
      have Hmw : Hid (∀ x ∈ ordered o t, W64 x) := fun x hx => HWT.out x (ordered_mem.1 hx)
      have Hnd : Hid ((ordered o t).Nodup) := ordered_nodup HS.out
      have HRA := Lib.hid (roF_all (o := o) HS.out)
      generalize ordered o t = ys at *
      have hm4 := Mp.made w3
      have hb4 := below_alloc w3 (.map #[] 0)
      have HM4 := Lib.hid hm4
      have HB4 : Hid (Below w.heap.size w (w3.alloc (.map #[] 0))) := Lib.hid (HB3.out.trans (hb4.mono HB3.out.size))
      have H4 : Hid (∀ i x, ys[i]? = some x → (w3.alloc (.map #[] 0)).cell? ⟨g, i, none⟩ = some (.int .i64 x)) := fun i x hx => cell_later hb4 (H3.out i x hx)
      have Hg4 : Hid (g < w3.heap.size) := Hg3
      have hz4 : (w3.alloc (.map #[] 0)).heap.size = w3.heap.size + 1 := by simp
      have Hz4 := Lib.hid hz4
      have Hw3 : Hid (w.heap.size ≤ w3.heap.size) := HB3.out.size
      clear hm4 hb4 hz4 H3 HB3 hrow3 hgr3 HSo HB2 hgl hgw
      obtain ⟨Q, hQ⟩ : ∃ Q, o.length / t.length = Q := ⟨_, rfl⟩
      obtain ⟨r, hr⟩ : ∃ r, o.length % t.length = r := ⟨_, rfl⟩
      have hq1 : (o.length : Int).tdiv (t.length : Int) = (Q : Int) := by rw [← Int.ofNat_tdiv, hQ]
      have hq2 : (o.length : Int) / (t.length : Int) = (Q : Int) := by rw [← Int.natCast_ediv, hQ]
      have hr1 : (o.length : Int).tmod (t.length : Int) = (r : Int) := by rw [← Int.ofNat_tmod, hr]
      have hr2 : (o.length : Int) % (t.length : Int) = (r : Int) := by rw [← Int.natCast_emod, hr]
      have hQl : Q ≤ 1000 := by rw [← hQ]; exact Nat.le_trans (Nat.div_le_self _ _) lo
      rw [hQ, hr] at HRA
      have ht0 : ((t.length : Int) == 0) = false := by rw [beq_eq_false_iff_ne]; omega
      have ht1 : ¬ (t.length : Int) = 0 := by omega
      have eQ : IntKind.i64.wrap (Q : Int) = (Q : Int) := IntWalk.i64_in _ (by omega)
      have eQ1 : IntKind.i64.wrap ((Q : Int) + 1) = (Q : Int) + 1 := IntWalk.i64_in _ (by omega)
      clear hQ hr
      go_wp2_with fail
      generalize w3.alloc (.map #[] 0) = W4 at *
      go_loopw [32] (fun i wr => ∃ k : Nat, i = .int .i64 k ∧ k ≤ t.length ∧ Hid (∀ i x, ys[i]? = some x → wr.cell? ⟨g, i, none⟩ = some (.int .i64 x)) ∧ Hid (Mp wr w3.heap.size (2 * k) (roF ys Q r k)) ∧ Hid (Below w.heap.size w wr))
        (fun i _ => t.length - (intOf i).toNat)
      case atStart => exact ⟨0, rfl, Nat.zero_le _, H4, HM4.out.fn (fun x => (roF_zero ys Q r x).symm), HB4⟩
      case round =>
        obtain ⟨k, rfl, hk, hy, hm, hb5⟩ := hrel
        by_cases hlt : k < t.length
        · have hg : ys[k]? = some (ys[k]'(by rw [Hml.out]; exact hlt)) := List.getElem?_eq_getElem _
          generalize ys[k]'(by rw [Hml.out]; exact hlt) = m at *
          have hc := hy.out k m hg
          have HMw : Hid (W64 m) := Hmw.out m (List.mem_of_getElem? hg)
          have HMo := Lib.hid (roF_more Hnd.out (q := Q) (r := r) hg)
          have hkey := keyOf_int_mk (P := Try.prog) Try.underlying3 HMw.out
          have hwf : (Lit.int .i64 (Q : Int)).wf = true := WalkArith.wf_i64 (by omega)
          have hwf1 : (Lit.int .i64 ((Q : Int) + 1)).wf = true := WalkArith.wf_i64 (by omega)
          obtain ⟨D, hown, hat⟩ := hm.out
          have HAT := Lib.hid hat
          clear hg hat
          by_cases hkr : k < r
          · have hkI : (k : Int) < (r : Int) := by omega
            go_wp2_with (first
              | (at_mapUpdate; refine wpList_mapUpdate_own _ rfl _ _ _ 82 rfl 3 3 keyI Try.underlying82 _ w3.heap.size (2 * k) _ rfl hown (by unfold maxLen; omega) _ _ _ rfl rfl hkey _ [] (plainElem_int Try.underlying3 hwf) ?_; intro w5 hown5 hgrow5; have HG5 := Lib.hid hgrow5; have HM5 := Lib.hid (Mp.put hown HAT.out hown5); have hl5 := HM5.out.look HMw.out; simp only [if_pos] at hl5; obtain ⟨D5, hown5', hat5⟩ := HM5.out; have HAT5 := Lib.hid hat5; clear hown5 hgrow5 hat5 hown)
              | (at_mapUpdate; refine wpList_mapUpdate_own _ rfl _ _ _ 82 rfl 3 3 keyI Try.underlying82 _ w3.heap.size (2 * k + 1) _ rfl hown5' (by unfold maxLen; omega) _ _ _ rfl rfl hkey _ [] (plainElem_int Try.underlying3 hwf1) ?_; intro w6 hown6 hgrow6; have HG6 := Lib.hid hgrow6; have HM6 := Lib.hid (Mp.put hown5' HAT5.out hown6); clear hown6 hgrow6))
            have K1 : Hid (∀ i x, ys[i]? = some x → w6.cell? ⟨g, i, none⟩ = some (.int .i64 x)) := fun i x hx => by
              have hc0 := hy.out i x hx
              have hlt0 := World.block_lt_of_cell? wr _ hc0
              have hne : some g ≠ some w3.heap.size := by have := Hg3.out; intro e; injection e with e; omega
              have hc1 := (World.cell?_of_block (a := ⟨g, i, none⟩) (HG5.out.block g hlt0 hne)).trans hc0
              exact (World.cell?_of_block (a := ⟨g, i, none⟩) (HG6.out.block g (World.block_lt_of_cell? w5 _ hc1) hne)).trans hc1
            have K2 : Hid (Mp w6 w3.heap.size (2 * (k + 1)) (roF ys Q r (k + 1))) := (HM6.out.fn fun z => by
              rw [HMo.out z, if_pos hkr]
              by_cases e : z = m <;> simp [e])
            have hb6 := below_grown hb5.out hb5.out.size HG5.out Hw3.out
            have K3 : Hid (Below w.heap.size w w6) := below_grown hb6 hb6.size HG6.out Hw3.out
            exact ⟨⟨k + 1, by go_num, by omega, K1, K2, K3⟩, by simp [intOf]; omega⟩
          · have hkI : ¬ (k : Int) < (r : Int) := by omega
            go_wp2_with (at_mapUpdate; refine wpList_mapUpdate_own _ rfl _ _ _ 82 rfl 3 3 keyI Try.underlying82 _ w3.heap.size (2 * k) _ rfl hown (by unfold maxLen; omega) _ _ _ rfl rfl hkey _ [] (plainElem_int Try.underlying3 hwf) ?_; intro w5 hown5 hgrow5; have HG5 := Lib.hid hgrow5; have HM5 := Lib.hid (Mp.put hown HAT.out hown5); clear hown5 hgrow5 hown)
            have K1 : Hid (∀ i x, ys[i]? = some x → w5.cell? ⟨g, i, none⟩ = some (.int .i64 x)) := fun i x hx => by
              have hc0 := hy.out i x hx
              have hlt0 := World.block_lt_of_cell? wr _ hc0
              have hne : some g ≠ some w3.heap.size := by have := Hg3.out; intro e; injection e with e; omega
              exact (World.cell?_of_block (a := ⟨g, i, none⟩) (HG5.out.block g hlt0 hne)).trans hc0
            have K2 : Hid (Mp w5 w3.heap.size (2 * (k + 1)) (roF ys Q r (k + 1))) := (HM5.out.fn fun z => by
              rw [HMo.out z, if_neg hkr]; simp).more (by omega)
            have K3 : Hid (Below w.heap.size w w5) := below_grown hb5.out hb5.out.size HG5.out Hw3.out
            exact ⟨⟨k + 1, by go_num, by omega, K1, K2, K3⟩, by simp [intOf]; omega⟩
        · obtain rfl : k = t.length := by omega
          have HF : Hid (Mp wr w3.heap.size (2 * t.length) (fun x => (room o t x : Nat))) := hm.out.fn fun x => HRA.out x
          clear hm
          go_wp2_with fail
          go_ret
          exact ⟨_, 2 * t.length, rfl, by omega, Hw3.out, HF.out, hb5.out⟩
end Go.Proofs.Ytdgnjalbpiciiaa
