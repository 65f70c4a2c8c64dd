/-
  Parts shared: Share walked.
-/
import Derived.Test.YtdgnjalbpiciiaaRm
import Derived.Deep.OwnRows
namespace Go.Proofs.Ytdgnjalbpiciiaa
set_option linter.unusedVariables false
set_option linter.unusedSimpArgs false
open Go.RowKit Go.Shelf Go.Maps

/-! plain -/
theorem dec_le (R : Int → Nat) (x z : Int) : dec R x z ≤ R z := by unfold dec; split <;> omega
theorem p1_le (R : Int → Nat) (l : List Int) : ∀ z, (p1 R l).1 z ≤ R z := by
  refine revI (P := fun l => ∀ z, (p1 R l).1 z ≤ R z) (fun z => Nat.le_refl _) (fun l x ih z => ?_) l
  rw [p1_snoc]
  unfold st1
  split
  · exact Nat.le_trans (dec_le _ _ _) (ih z)
  · exact ih z
theorem p2_le (t : List Int) (R : Int → Nat) (l : List Int) : ∀ z, (p2 t R l).1 z ≤ R z := by
  refine revI (P := fun l => ∀ z, (p2 t R l).1 z ≤ R z) (fun z => Nat.le_refl _) (fun l x ih z => ?_) l
  rw [p2_snoc]
  unfold st2
  split
  · exact ih z
  · exact Nat.le_trans (dec_le _ _ _) (ih z)
theorem room_le (o t : List Int) (x : Int) : room o t x ≤ o.length + 1 := by
  unfold room
  have := Nat.div_le_self o.length t.length
  split
  · split <;> omega
  · omega
theorem p1_len (R : Int → Nat) (l : List Int) : (p1 R l).2.length = l.length := by
  refine revI (P := fun l => (p1 R l).2.length = l.length) rfl (fun l x ih => ?_) l
  rw [p1_snoc]
  unfold st1
  split <;> simp [ih]
theorem p2_len (t : List Int) (R : Int → Nat) (l : List Int) : (p2 t R l).2.length = l.length := by
  refine revI (P := fun l => (p2 t R l).2.length = l.length) rfl (fun l x ih => ?_) l
  rw [p2_snoc]
  unfold st2
  split <;> simp [ih]
theorem share_room {o t : List Int} (hn : t.Nodup) (hne : t ≠ []) (hp : ∀ x ∈ t, 0 < x) {k : Nat} (h : (p1 (room o t) o).2[k]? = some 0) : 0 < mass (p2 t (p1 (room o t) o).1 ((p1 (room o t) o).2.take k)).1 t := by
  obtain ⟨h1, h2, h3⟩ := passes (o := o) hn hne hp
  have hc : ((p1 (room o t) o).2.take k).countP (fun x => decide (x = 0)) + 1 ≤ (p1 (room o t) o).2.countP (fun x => decide (x = 0)) := by
    have hk := (List.getElem?_eq_some_iff.1 h).1
    have e : (p1 (room o t) o).2.take (k + 1) = (p1 (room o t) o).2.take k ++ [0] := by rw [List.take_add_one, h]; rfl
    have h4 := List.Sublist.countP_le (p := fun x => decide (x = 0)) (List.take_sublist (k + 1) (p1 (room o t) o).2)
    rw [e, List.countP_append] at h4
    simpa using h4
  have h4 := two_any hn hp h1.supp ((p1 (room o t) o).2.take k) (fun x hx => h1.mem x (List.mem_of_mem_take hx)) (by omega)
  have := h4.tot
  omega
theorem pick_at {t : List Int} {R : Int → Nat} {j : Nat} {m : Int} (h : t[j]? = some m) (hR : 0 < R m) (hlo : ∀ i x, i < j → t[i]? = some x → R x = 0) : pick t R = m := by
  unfold pick
  have : t.find? (fun m => decide (0 < R m)) = some m := by
    rw [List.find?_eq_some_iff_getElem]
    obtain ⟨hj, hm⟩ := List.getElem?_eq_some_iff.1 h
    refine ⟨by simpa using hR, j, hj, hm, fun i hi => ?_⟩
    have := hlo i t[i] hi (List.getElem?_eq_getElem _)
    simp [this]
  rw [this]; rfl

/-! rows of ints -/
/-- A block that is a row of ints, just these. -/
def IRow (w : World) (g : Nat) (l : List Int) : Prop := w.heap[g]? = some (.cells (l.map (Value.int .i64)).toArray 3 (0, 0))
theorem IRow.lt {w : World} {g : Nat} {l : List Int} (h : IRow w g l) : g < w.heap.size := (Array.getElem?_eq_some_iff.1 h).1
theorem IRow.cell {w : World} {g : Nat} {l : List Int} (h : IRow w g l) {i : Nat} {x : Int} (hx : l[i]? = some x) : w.cell? ⟨g, i, none⟩ = some (.int .i64 x) := by
  rw [cell_of_row w g _ _ _ _ h]
  simp [hx]
theorem IRow.fz {w : World} {g : Nat} {l : List Int} (h : IRow w g l) (i : Nat) : w.frozen? ⟨g, i, none⟩ = false := frozen_of_row w g i _ _ h
theorem IRow.kept {w w' : World} {g : Nat} {l : List Int} (h : IRow w g l) (hk : w'.heap[g]? = w.heap[g]?) : IRow w' g l := hk.trans h
theorem IRow.below {w w' : World} {g : Nat} {l : List Int} (h : IRow w g l) (hb : Below w.heap.size w w') : IRow w' g l := h.kept (hb.block g h.lt)
theorem IRow.set {w : World} {g : Nat} {l : List Int} (h : IRow w g l) (i : Nat) (x : Int) : IRow (w.setCell ⟨g, i, none⟩ (.int .i64 x)) g (l.set i x) := by
  unfold IRow
  rw [heap_setCell_same w g i _ _ _ h]
  congr 2
  simp
theorem IRow.made (w : World) (n : Nat) : IRow (w.alloc (.cells (madeCells #[.int .i64 0] n) 3)) w.heap.size (List.replicate n 0) := by
  unfold IRow
  rw [Go.heap_alloc_new]
  congr 2
  apply Array.ext
  · simp [size_madeCells]
  · intro i h1 h2
    simp [madeCells, Nat.mod_one]
theorem IRow.own {w0 w : World} {g : Nat} {l : List Int} (h : IRow w g l) (hg : w0.heap.size ≤ g) (hb : Below w0.heap.size w0 w) (hl : l.length ≤ 1000000) : Rw intL 3 w0 w (.slice (some ⟨g, 0, none⟩) l.length l.length) l :=
  ⟨⟨by rw [Lay.all_len], .inr ⟨g, l.length, _, rfl, hg, h, Nat.le_refl _, by unfold maxLen; omega, by simp [intL], by rw [intL_all, show intL.sz = 1 from rfl, Nat.mul_one]; exact List.take_of_length_le (by simp)⟩⟩, hb⟩

/-- What Share's first pass has done: a row, and a map. -/
theorem put_mid {A : List Int} {n k : Nat} (hA : A.length = k) (hk : k < n) (x : Int) : (A ++ List.replicate (n - k) 0).set k x = (A ++ [x]) ++ List.replicate (n - (k + 1)) 0 := by
  obtain ⟨m, hm⟩ : ∃ m, n - k = m + 1 := ⟨n - k - 1, by omega⟩
  rw [hm, show n - (k + 1) = m by omega, List.replicate_succ, List.set_append_right _ _ (by omega), hA, Nat.sub_self]
  simp
theorem zero_mid {A : List Int} {n k : Nat} (hA : A.length = k) (hk : k < n) : A ++ List.replicate (n - k) 0 = (A ++ [0]) ++ List.replicate (n - (k + 1)) 0 := by
  obtain ⟨m, hm⟩ : ∃ m, n - k = m + 1 := ⟨n - k - 1, by omega⟩
  rw [hm, show n - (k + 1) = m by omega, List.replicate_succ]
  simp
theorem set_mid {A l : List Int} {k : Nat} {y : Int} (hA : A.length = k) (h : l[k]? = some y) (x : Int) : (A ++ l.drop k).set k x = (A ++ [x]) ++ l.drop (k + 1) := by
  have hlt := (List.getElem?_eq_some_iff.1 h).1
  rw [List.drop_eq_getElem_cons hlt, List.set_append_right _ _ (by omega), hA, Nat.sub_self, List.set_cons_zero, List.append_assoc]
  rfl
theorem same_mid {A l : List Int} {k : Nat} {y : Int} (h : l[k]? = some y) : A ++ l.drop k = (A ++ [y]) ++ l.drop (k + 1) := by
  obtain ⟨hlt, he⟩ := List.getElem?_eq_some_iff.1 h
  rw [List.drop_eq_getElem_cons hlt, he, List.append_assoc]
  rfl

set_option maxRecDepth 100000 in
set_option maxHeartbeats 6400000 in
theorem Share_any {w : World} {vo vm : Value} {o m : List Int} (ho : intL.In w vo o) (hm : intL.In w vm m) (hw : ∀ x ∈ o, W64 x) (hwm : ∀ x ∈ m, W64 x) (lo : o.length ≤ 1000) (lm : m.length ≤ 1000) :
    Calls Try.prog 29 #[vo, vm] w fun e w' => ∃ v, e = .returned v ∧ Rw intL 3 w w' v (share o (team m)) := by
  obtain ⟨a1, c1, rfl, hlc1, hcm1⟩ := ho.slice
  obtain ⟨a2, c2, rfl, hlc2, hcm2⟩ := hm.slice
  have hmk := run_make_row' (P := Try.prog) 43 3 (.int .i64 0) 8 Try.underlying43 infoInt rfl .i64 .i64 o.length (by omega) (by omega)
  have HR0 := Lib.hid (IRow.made w o.length)
  have HB0 := Lib.hid (below_alloc w (.cells (madeCells #[.int .i64 0] o.length) 3))
  have HSz : Hid ((w.alloc (.cells (madeCells #[.int .i64 0] o.length) 3)).heap.size = w.heap.size + 1) := by show _ = _; simp
  have HO := Lib.hid ho
  have HT := Lib.hid (teamOf_any (hm.later HB0.out) (by omega))
  have HW := Lib.hid hw
  have htw : Hid (∀ x ∈ team m, W64 x) := fun x hx => hwm x ((team_mem m x).1 hx).1
  have hts : Hid ((team m).Pairwise (· < ·)) := team_sorted m
  have htp : Hid (∀ x ∈ team m, 0 < x) := team_pos m
  have htl := Nat.le_trans (team_len m) lm
  clear ho hm hw hwm
  generalize team m = t at *
  go_enter Try.func29, Try.ntmps29
  go_wp2_with fail
  generalize w.alloc (.cells (madeCells #[.int .i64 0] o.length) 3) = W0 at *
  go_fit HT.out
  rintro e w1 ⟨vt, rfl, hR⟩
  have HB1 : Hid (Below w.heap.size w w1) := Lib.hid (HB0.out.trans (hR.grown.mono HB0.out.size))
  have HR1 := Lib.hid (HR0.out.below hR.grown)
  have HTI := Lib.hid hR.told
  have hcase : Hid (t ≠ [] → ∃ gt ct, vt = .slice (some ⟨gt, 0, none⟩) t.length ct ∧ w.heap.size < gt ∧ gt < w1.heap.size ∧ t.length ≤ ct ∧ ∀ i x, t[i]? = some x → w1.cell? ⟨gt, i, none⟩ = some (.int .i64 x)) := fun hne => by
    have hown := hR.own
    rw [intL_all] at hown
    rcases hown.2 with ⟨_, hz⟩ | ⟨gb, cap, cur, rfl, hbase, hgb, r1, r2, r3, r4⟩
    · exact absurd (List.eq_nil_of_length_eq_zero hz) hne
    · refine ⟨gb, cap, rfl, ?_, (Array.getElem?_eq_some_iff.1 hgb).1, r1, fun i x hx => ?_⟩
      · have := HSz.out; omega
      · obtain ⟨g', off', ha, _, hc⟩ := intL_at hR.told hx
        simp only [Option.some.injEq, Addr.mk.injEq] at ha
        obtain ⟨rfl, rfl, _⟩ := ha
        rw [Nat.zero_add] at hc
        exact hc
  clear hR HT HR0
  by_cases hne : t = []
  · obtain ⟨at', ct, rfl, hct, hcm⟩ := HTI.out.slice
    have HE : Hid (share o t = List.replicate o.length 0) := by show _ = _; unfold share; rw [if_pos hne]
    have h0 : t.length = 0 := by rw [hne]; rfl
    have ht0 : ((t.length : Int) == 0) = true := by rw [h0]; rfl
    have ht1 : (t.length : Int) = 0 := by omega
    clear hne
    go_wp2_with fail
    go_ret
    refine ⟨_, rfl, ?_⟩
    rw [HE.out]
    have h := IRow.own (w0 := w) HR1.out (Nat.le_refl _) HB1.out (by simp; omega)
    rw [List.length_replicate] at h
    exact h
  · have h0t : 0 < t.length := List.length_pos_iff.2 hne
    have ht0 : ((t.length : Int) == 0) = false := by rw [beq_eq_false_iff_ne]; omega
    have ht1 : ¬ (t.length : Int) = 0 := by omega
    have HNE := Lib.hid hne
    obtain ⟨gt, ct, rfl, hgt1, hgt2, hct, htc⟩ := hcase.out hne
    have HTC := Lib.hid htc
    have HRm := Lib.hid (rooms_any (HO.out.later HB1.out) HTI.out HW.out htw.out hts.out htp.out hne lo htl)
    clear hne htc hcase
    go_wp2_with fail
    go_fit HRm.out
    rintro e w2 ⟨b, n0, rfl, hn0, hbl, hmp, hb2⟩
    have HR2 := Lib.hid (HR1.out.below hb2)
    have HB2 : Hid (Below w.heap.size w w2) := Lib.hid (HB1.out.trans (hb2.mono HB1.out.size))
    have HT2 : Hid (∀ i x, t[i]? = some x → w2.cell? ⟨gt, i, none⟩ = some (.int .i64 x)) := fun i x hx => cell_later hb2 (HTC.out i x hx)
    have hgb : ¬ gt = b := by omega
    have HGT : Hid (w.heap.size < gt ∧ gt < b) := ⟨hgt1, by omega⟩
    have HP := Lib.hid (passes (o := o) (t := t) (nodup_lt hts.out) HNE.out htp.out).1.mem
    have HMp := Lib.hid hmp
    have hbg : Hid (w.heap.size < b) := by show _ < _; have := HR1.out.lt; omega
    have hgN : ¬ w.heap.size = b := by have := hbg.out; omega
    have HSh : Hid (share o t = (p2 t (p1 (room o t) o).1 (p1 (room o t) o).2).2) := by show _ = _; unfold share; rw [if_neg HNE.out]
    have HRoom := Lib.hid (fun k h => share_room (o := o) (k := k) (nodup_lt hts.out) HNE.out htp.out h)
    have Hle := Lib.hid (room_le o t)
    generalize room o t = R at *
    clear hmp hb2 hbl HR1 HTI HRm HB1 hmk HB0 HTC hgt1 hgt2
    go_wp2_with fail
    go_loopw [27] (fun i wr => ∃ k : Nat, i = .int .i64 k ∧ k ≤ o.length ∧ Hid (IRow wr w.heap.size ((p1 R (o.take k)).2 ++ List.replicate (o.length - k) 0)) ∧ Hid (Mp wr b (n0 + k) (fun x => ((p1 R (o.take k)).1 x : Nat))) ∧ Hid (∀ i x, t[i]? = some x → wr.cell? ⟨gt, i, none⟩ = some (.int .i64 x)) ∧ Hid (Below w.heap.size w wr))
      (fun i _ => o.length - (intOf i).toNat)
    case atStart => exact ⟨0, rfl, Nat.zero_le _, HR2, HMp, HT2, HB2⟩
    case round =>
      obtain ⟨k, rfl, hk, hrow, hmp, hti, hb⟩ := hrel
      by_cases hlt : k < o.length
      · have hg : o[k]? = some o[k] := List.getElem?_eq_getElem hlt
        obtain ⟨g, off, rfl, _, hc⟩ := intL_at (HO.out.later hb.out) hg
        have HX : Hid (W64 o[k]) := HW.out _ (List.getElem_mem hlt)
        have HSt := Lib.hid (p1_step R hg)
        generalize o[k] = x at *
        clear hg
        have hPl : Hid ((p1 R (o.take k)).2.length = k) := by show _ = _; rw [p1_len, List.length_take]; omega
        have hRx : (p1 R (o.take k)).1 x ≤ 1001 := Nat.le_trans (p1_le R _ x) (Nat.le_trans (Hle.out x) (by omega))
        have hl := hmp.out.look HX.out
        have hc0 : wr.cell? ⟨w.heap.size, k, none⟩ = some (.int .i64 0) := hrow.out.cell (by rw [List.getElem?_append_right (by rw [hPl.out]; exact Nat.le_refl _), hPl.out, Nat.sub_self, List.getElem?_replicate]; simp; omega)
        have hz0 := hrow.out.fz k
        generalize hS : p1 R (o.take k) = S at *
        generalize hS2 : p1 R (o.take (k + 1)) = S2 at *
        have HS2E := Lib.hid hS2
        generalize hq : S.1 x = q at *
        by_cases hq0 : 0 < q
        · have hqI : (0 : Int) < (q : Int) := by omega
          have HS1 : Hid (S2 = (dec S.1 x, S.2 ++ [x])) := by show _ = _; rw [HSt.out, st1, if_pos (by rw [hq]; exact hq0)]
          have hgs : wr.grownBy (wr.setCell ⟨w.heap.size, k, none⟩ (.int .i64 x)) (some w.heap.size) := ⟨rfl, rfl, rfl, by simp, fun j hj hne => Below.heap_setCell _ _ _ _ (fun e => hne (by rw [e]))⟩
          have hm2 := hmp.out.kept hgs (by intro e; injection e with e; omega)
          have hl2 := hm2.look HX.out
          simp only [hq] at hl2
          have hkey := keyOf_int_mk (P := Try.prog) Try.underlying3 HX.out
          have ew : IntKind.i64.wrap ((q : Int) - 1) = (q : Int) - 1 := IntWalk.i64_in _ (by omega)
          have hwf : (Lit.int .i64 ((q : Int) - 1)).wf = true := WalkArith.wf_i64 (by omega)
          obtain ⟨D, hown, hat⟩ := hm2
          have HAT := Lib.hid hat
          have HQ := Lib.hid hq
          have HGS := Lib.hid hgs
          clear hS hS2 hq hat hgs
          go_wp2_with (at_mapUpdate; refine wpList_mapUpdate_own _ rfl _ _ _ 82 rfl 3 3 keyI Try.underlying82 _ b (n0 + k) _ rfl hown (by unfold maxLen; omega) _ _ _ rfl rfl hkey _ [] (plainElem_int Try.underlying3 hwf) ?_; intro w5 hown5 hgrow5; have HG5 := Lib.hid hgrow5; have HM5 := Lib.hid (Mp.put hown HAT.out hown5); clear hown5 hgrow5 hown)
          have hbs : Below w.heap.size w (wr.setCell ⟨w.heap.size, k, none⟩ (.int .i64 x)) := below_grown hb.out hb.out.size HGS.out (Nat.le_refl _)
          have K3 : Hid (Below w.heap.size w w5) := below_grown hbs hbs.size HG5.out (Nat.le_of_lt hbg.out)
          have K1 : Hid (IRow w5 w.heap.size (S2.2 ++ List.replicate (o.length - (k + 1)) 0)) := by
            show IRow _ _ _
            have h1 := hrow.out.set k x
            rw [put_mid hPl.out hlt] at h1
            rw [HS1.out]
            exact h1.kept (HG5.out.block _ h1.lt (by intro e; injection e with e; omega))
          have K2 : Hid (Mp w5 b (n0 + (k + 1)) (fun z => (S2.1 z : Nat))) := HM5.out.fn fun z => by
            rw [HS1.out]
            show _ = ((dec S.1 x z : Nat) : Int)
            unfold dec
            by_cases e : z = x
            · rw [if_pos e, if_pos e, e, HQ.out]; omega
            · rw [if_neg e, if_neg e]
          have K4 : Hid (∀ i x, t[i]? = some x → w5.cell? ⟨gt, i, none⟩ = some (.int .i64 x)) := fun i x hx => by
            have h0 := hti.out i x hx
            have h1 := (World.cell?_of_block (a := ⟨gt, i, none⟩) (HGS.out.block gt (World.block_lt_of_cell? wr _ h0) (by have := HGT.out; intro e; injection e with e; omega))).trans h0
            exact (World.cell?_of_block (a := ⟨gt, i, none⟩) (HG5.out.block gt (World.block_lt_of_cell? _ _ h1) (by have := HGT.out; intro e; injection e with e; omega))).trans h1
          have eS := HS2E.out
          subst eS
          exact ⟨⟨k + 1, by go_num, by omega, K1, K2, K4, K3⟩, by simp [intOf]; omega⟩
        · have hqI : ¬ (0 : Int) < (q : Int) := by omega
          have HS1 : Hid (S2 = (S.1, S.2 ++ [0])) := by show _ = _; rw [HSt.out, st1, if_neg (by rw [hq]; exact hq0)]
          have K1 : Hid (IRow wr w.heap.size (S2.2 ++ List.replicate (o.length - (k + 1)) 0)) := by
            show IRow _ _ _
            have h1 := hrow.out
            rw [zero_mid hPl.out hlt] at h1
            rw [HS1.out]; exact h1
          have K2 : Hid (Mp wr b (n0 + (k + 1)) (fun z => (S2.1 z : Nat))) := (hmp.out.more (by omega)).fn fun z => by rw [HS1.out]
          clear hS hS2 hq
          go_wp2_with fail
          have eS := HS2E.out
          subst eS
          exact ⟨⟨k + 1, by go_num, by omega, K1, K2, hti, hb⟩, by simp [intOf]; omega⟩
      · obtain rfl : k = o.length := by omega
        have hrow1 : Hid (IRow wr w.heap.size (p1 R o).2) := by
          show IRow _ _ _
          have h := hrow.out
          rw [List.take_length, Nat.sub_self, List.replicate_zero, List.append_nil] at h; exact h
        have hmp1 : Hid (Mp wr b (n0 + o.length) (fun x => ((p1 R o).1 x : Nat))) := by
          show Mp _ _ _ _
          have h := hmp.out
          rw [List.take_length] at h; exact h
        have hl1 : Hid ((p1 R o).2.length = o.length) := p1_len R o
        have hle1 : Hid (∀ z, (p1 R o).1 z ≤ 1001) := fun z => Nat.le_trans (p1_le R o z) (Nat.le_trans (Hle.out z) (by omega))
        generalize p1 R o = S1 at *
        obtain ⟨R1, l1⟩ := S1
        simp only at HP HRoom hrow1 hmp1 hl1 hle1 HSh
        clear hrow hmp
        go_wp2_with fail
        go_loopw [10, 47] (fun jv iv wr => ∃ j k : Nat, jv = .int .i64 j ∧ iv = .int .i64 k ∧ k ≤ o.length ∧ j ≤ t.length ∧ Hid (IRow wr w.heap.size ((p2 t R1 (l1.take k)).2 ++ l1.drop k)) ∧ Hid (Mp wr b (n0 + o.length + k) (fun x => ((p2 t R1 (l1.take k)).1 x : Nat))) ∧ Hid (∀ i x, i < j → t[i]? = some x → (p2 t R1 (l1.take k)).1 x = 0) ∧ Hid (∀ i x, t[i]? = some x → wr.cell? ⟨gt, i, none⟩ = some (.int .i64 x)) ∧ Hid (Below w.heap.size w wr))
          (fun _ i _ => o.length - (intOf i).toNat)
        case atStart => exact ⟨0, 0, rfl, rfl, Nat.zero_le _, Nat.zero_le _, hrow1, hmp1, fun i x h => absurd h (Nat.not_lt_zero _), hti, hb⟩
        case round =>
          clear hti hb hrow1 hmp1
          obtain ⟨j, k, rfl, rfl, hk, hj, hrow, hmp, hlo, hti, hb⟩ := hrel
          by_cases hlt : k < o.length
          · have hg : l1[k]? = some (l1[k]'(by rw [hl1.out]; exact hlt)) := List.getElem?_eq_getElem _
            generalize l1[k]'(by rw [hl1.out]; exact hlt) = x at *
            have HG := Lib.hid hg
            have HSt := Lib.hid (p2_step t R1 hg)
            have hPl : Hid ((p2 t R1 (l1.take k)).2.length = k) := by show _ = _; rw [p2_len, List.length_take, hl1.out]; omega
            have hc0 : wr.cell? ⟨w.heap.size, k, none⟩ = some (.int .i64 x) := hrow.out.cell (by rw [List.getElem?_append_right (by rw [hPl.out]; exact Nat.le_refl _), hPl.out, Nat.sub_self, List.getElem?_drop, Nat.add_zero]; exact hg)
            have hz0 := hrow.out.fz k
            have hRx : Hid (∀ z, (p2 t R1 (l1.take k)).1 z ≤ 1001) := fun z => Nat.le_trans (p2_le t R1 _ z) (hle1.out z)
            have HRk := Lib.hid (HRoom.out k)
            clear hg
            generalize hS : p2 t R1 (l1.take k) = S at *
            generalize hS2 : p2 t R1 (l1.take (k + 1)) = S2 at *
            have HS2E := Lib.hid hS2
            clear hS hS2
            by_cases hx : 0 < x
            · have HS1 : Hid (S2 = (S.1, S.2 ++ [x])) := by show _ = _; rw [HSt.out, st2, if_pos hx]
              have K1 : Hid (IRow wr w.heap.size (S2.2 ++ l1.drop (k + 1))) := by
                show IRow _ _ _
                have h1 := hrow.out
                rw [same_mid HG.out] at h1
                rw [HS1.out]; exact h1
              have K2 : Hid (Mp wr b (n0 + o.length + (k + 1)) (fun z => (S2.1 z : Nat))) := (hmp.out.more (by omega)).fn fun z => by rw [HS1.out]
              have K5 : Hid (∀ i x, i < j → t[i]? = some x → S2.1 x = 0) := fun i z hi hz => by rw [HS1.out]; exact hlo.out i z hi hz
              go_wp2_with fail
              have eS := HS2E.out
              subst eS
              exact ⟨⟨j, k + 1, rfl, by go_num, by omega, hj, K1, K2, K5, hti, hb⟩, by simp [intOf]; omega⟩
            · have hx0 : x = 0 := (HP.out x (List.mem_of_getElem? HG.out)).elim id (fun h => absurd (htp.out x h) hx)
              subst hx0
              obtain ⟨y0, hy0, hr0⟩ := mass_pos (HRk.out HG.out)
              obtain ⟨i0, hi0, hi1⟩ := List.getElem_of_mem hy0
              have HI0 : Hid (t[i0]? = some y0) := by show _ = _; rw [← hi1]; exact List.getElem?_eq_getElem _
              have HR0 := Lib.hid hr0
              have hji : j ≤ i0 := Nat.le_of_not_lt fun h => by have := hlo.out i0 y0 h HI0.out; omega
              have HS1 : Hid (∀ y, pick t S.1 = y → S2 = (dec S.1 y, S.2 ++ [y])) := fun y hy => by rw [HSt.out, st2, if_neg hx, hy]
              clear hy0 hi1 hr0 HRk
              go_wp2_with fail
              go_loop [10] (fun jv => ∃ j' : Nat, jv = .int .i64 j' ∧ j' ≤ i0 ∧ Hid (∀ i x, i < j' → t[i]? = some x → S.1 x = 0)) (fun jv => i0 - (intOf jv).toNat)
              case atStart => exact ⟨j, rfl, hji, hlo⟩
              case round =>
                obtain ⟨j', rfl, hji', hlo'⟩ := hrel
                have hgy : t[j']? = some (t[j']'(by omega)) := List.getElem?_eq_getElem _
                generalize t[j']'(by omega) = y at *
                have HY : Hid (W64 y) := htw.out y (List.mem_of_getElem? hgy)
                have hcy := hti.out j' y hgy
                have hly := hmp.out.look HY.out
                have HGY := Lib.hid hgy
                have hqy := hRx.out y
                clear hgy
                generalize hq : S.1 y = q at *
                by_cases hq0 : q = 0
                · have hqb : ((q : Int) == 0) = true := by rw [hq0]; rfl
                  have hqI : (q : Int) = 0 := by omega
                  have hji2 : j' + 1 ≤ i0 := by
                    rcases Nat.lt_or_eq_of_le hji' with h | h
                    · omega
                    · subst h
                      have e : y0 = y := by have h1 := HI0.out; have h2 := HGY.out; rw [h1] at h2; simpa using h2
                      have := HR0.out
                      rw [e, hq] at this; omega
                  have K : Hid (∀ i x, i < j' + 1 → t[i]? = some x → S.1 x = 0) := fun i z hi hz => by
                    rcases Nat.lt_or_eq_of_le (Nat.le_of_lt_succ hi) with h | h
                    · exact hlo'.out i z h hz
                    · subst h
                      have e : z = y := by have h2 := HGY.out; rw [hz] at h2; simpa using h2
                      rw [e, hq]; exact hq0
                  clear hq hq0
                  go_wp2_with fail
                  go_round
                  case rel => exact ⟨j' + 1, by go_num, hji2, K⟩
                  case measure => simp [intOf]; omega
                · have hqb : ((q : Int) == 0) = false := by rw [beq_eq_false_iff_ne]; omega
                  have hqI : ¬ (q : Int) = 0 := by omega
                  have HPk : Hid (pick t S.1 = y) := pick_at HGY.out (by rw [hq]; omega) hlo'.out
                  have HS3 := Lib.hid (HS1.out y HPk.out)
                  have hgs : wr.grownBy (wr.setCell ⟨w.heap.size, k, none⟩ (.int .i64 y)) (some w.heap.size) := ⟨rfl, rfl, rfl, by simp, fun j hj hne => Below.heap_setCell _ _ _ _ (fun e => hne (by rw [e]))⟩
                  have hm2 := hmp.out.kept hgs (by intro e; injection e with e; omega)
                  have hl2 := hm2.look HY.out
                  simp only [hq] at hl2
                  have hc2 : (wr.setCell ⟨w.heap.size, k, none⟩ (.int .i64 y)).cell? ⟨gt, j', none⟩ = some (.int .i64 y) := (World.cell?_of_block (a := ⟨gt, j', none⟩) (hgs.block gt (World.block_lt_of_cell? wr _ hcy) (by have := HGT.out; intro e; injection e with e; omega))).trans hcy
                  have hkey := keyOf_int_mk (P := Try.prog) Try.underlying3 HY.out
                  have ew : IntKind.i64.wrap ((q : Int) - 1) = (q : Int) - 1 := IntWalk.i64_in _ (by omega)
                  have hwf : (Lit.int .i64 ((q : Int) - 1)).wf = true := WalkArith.wf_i64 (by omega)
                  obtain ⟨D, hown, hat⟩ := hm2
                  have HAT := Lib.hid hat
                  have HQ := Lib.hid hq
                  have HGS := Lib.hid hgs
                  have hjt : j' < t.length := by omega
                  clear hq hat hgs
                  go_wp2_with (at_mapUpdate; refine wpList_mapUpdate_own _ rfl _ _ _ 82 rfl 3 3 keyI Try.underlying82 _ b (n0 + o.length + k) _ rfl hown (by unfold maxLen; omega) _ _ _ rfl rfl hkey _ [] (plainElem_int Try.underlying3 hwf) ?_; intro w5 hown5 hgrow5; have HG5 := Lib.hid hgrow5; have HM5 := Lib.hid (Mp.put hown HAT.out hown5); clear hown5 hgrow5 hown)
                  have hbs : Below w.heap.size w (wr.setCell ⟨w.heap.size, k, none⟩ (.int .i64 y)) := below_grown hb.out hb.out.size HGS.out (Nat.le_refl _)
                  have K3 : Hid (Below w.heap.size w w5) := below_grown hbs hbs.size HG5.out (Nat.le_of_lt hbg.out)
                  have K1 : Hid (IRow w5 w.heap.size (S2.2 ++ l1.drop (k + 1))) := by
                    show IRow _ _ _
                    have h1 := hrow.out.set k y
                    rw [set_mid hPl.out HG.out] at h1
                    rw [HS3.out]
                    exact h1.kept (HG5.out.block _ h1.lt (by intro e; injection e with e; omega))
                  have K2 : Hid (Mp w5 b (n0 + o.length + (k + 1)) (fun z => (S2.1 z : Nat))) := HM5.out.fn fun z => by
                    rw [HS3.out]
                    show _ = ((dec S.1 y z : Nat) : Int)
                    unfold dec
                    by_cases e : z = y
                    · rw [if_pos e, if_pos e, e, HQ.out]; omega
                    · rw [if_neg e, if_neg e]
                  have K4 : Hid (∀ i x, t[i]? = some x → w5.cell? ⟨gt, i, none⟩ = some (.int .i64 x)) := fun i x hx => by
                    have h0 := hti.out i x hx
                    have h1 := (World.cell?_of_block (a := ⟨gt, i, none⟩) (HGS.out.block gt (World.block_lt_of_cell? wr _ h0) (by have := HGT.out; intro e; injection e with e; omega))).trans h0
                    exact (World.cell?_of_block (a := ⟨gt, i, none⟩) (HG5.out.block gt (World.block_lt_of_cell? _ _ h1) (by have := HGT.out; intro e; injection e with e; omega))).trans h1
                  have K5 : Hid (∀ i x, i < j' → t[i]? = some x → S2.1 x = 0) := fun i z hi hz => by
                    rw [HS3.out]
                    have := dec_le S.1 y z
                    have := hlo'.out i z hi hz
                    show dec S.1 y z = 0
                    omega
                  have eS := HS2E.out
                  subst eS
                  exact ⟨⟨j', k + 1, rfl, by go_num, by omega, by omega, K1, K2, K5, K4, K3⟩, by simp [intOf]; omega⟩
          · obtain rfl : k = o.length := by omega
            have HF : Hid (IRow wr w.heap.size (share o t)) := by
              show IRow _ _ _
              have h := hrow.out
              have e : l1.length = o.length := hl1.out
              rw [← e, List.take_length, List.drop_length, List.append_nil] at h
              rw [HSh.out]; exact h
            have HFl : Hid ((share o t).length = o.length) := by show _ = _; rw [HSh.out, p2_len]; exact hl1.out
            clear hrow hmp
            go_wp2_with fail
            go_ret
            refine ⟨_, rfl, ?_⟩
            have h := IRow.own (w0 := w) HF.out (Nat.le_refl _) hb.out (by rw [HFl.out]; omega)
            rw [HFl.out] at h
            exact h
end Go.Proofs.Ytdgnjalbpiciiaa
