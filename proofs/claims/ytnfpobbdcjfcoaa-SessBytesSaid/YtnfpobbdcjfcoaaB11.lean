/-
  Walks: the document's table: a session ends, is kept.
-/
import Derived.Test.YtnfpobbdcjfcoaaB10
namespace Go.Proofs.Ytnfpobbdcjfcoaa
set_option linter.unusedVariables false
set_option linter.unusedSimpArgs false
open Go.RowKit
variable {w : World} {b : Nat} {L : List Nat} {x : Tb}

theorem SeAt.drop {g off : Nat} {l : List Se} (h : SeAt w g off l) (n : Nat) : SeAt w g (off + n * 4) (l.drop n) := fun j s hs => by
  rw [List.getElem?_drop] at hs
  obtain ⟨h0, h1, h2, h3⟩ := h (n + j) s hs
  have e : off + n * 4 + j * 4 = off + (n + j) * 4 := by omega
  rw [e]
  exact ⟨h0, h1, h2, h3⟩
theorem SeAt.take {g off : Nat} {l : List Se} (h : SeAt w g off l) (n : Nat) : SeAt w g off (l.take n) := fun j s hs => by
  rw [List.getElem?_take] at hs
  split at hs
  · exact h j s hs
  · cases hs

set_option maxRecDepth 100000 in
set_option maxHeartbeats 25600000 in
theorem RClose_any (k : Int) (h : Rf w L b x) (hl : x.seats.length ≤ 100000) (hL : ∀ k ∈ L, k < w.heap.size) : Calls Try.prog 18 #[.pointer (some ⟨b, 0, none⟩), .int .i64 k] w (Rid w L b (x.close k).2 (.int .i64 (x.close k).1)) := by
  have HK := Lib.hid h
  obtain ⟨v, h⟩ := h
  have hpl := place_any k (h.cells.cells 1 _ rfl) (h.seb.sub (fun k hk => by cases hk))
  cases hp : plc x.seats k with
  | none =>
    rw [show plcI x.seats k = -1 from by unfold plcI; rw [hp]] at hpl
    have HE : Hid (x.close k = (90, x)) := by show _ = _; unfold Tb.close; rw [hp]
    have HP := Lib.hid hpl
    clear hpl h hp
    go_enter Try.func18, Try.ntmps18
    go_wp2_with fail
    go_fit HP.out
    rintro e w1 ⟨rfl, hb⟩
    have HB := Lib.hid hb
    clear hb
    go_wp2_with fail
    go_ret
    rw [HE.out]
    exact ⟨rfl, HK.out.below HB.out, Ext.of_below HB.out⟩
  | some i =>
    rw [show plcI x.seats k = (i : Int) from by unfold plcI; rw [hp]] at hpl
    have HE : Hid (x.close k = (0, ⟨x.begun, x.seats.eraseIdx i⟩)) := by show _ = _; unfold Tb.close; rw [hp]
    have hi := plc_lt hp
    have HP := Lib.hid hpl
    have HV := Lib.hid h
    have HLw := Lib.hid hL
    clear hpl h hp hL
    have g0 : ¬ ((i : Int) < 0) := by omega
    have g1 : (i : Int) ≤ (x.seats.length : Int) := by omega
    have g2 : (i : Int) + 1 ≤ (x.seats.length : Int) := by omega
    have g3 : (0 : Int) ≤ (i : Int) + 1 := by omega
    have g4 : ((i : Int) + 1).toNat = i + 1 := by omega
    have g5 : (0 : Int) ≤ (i : Int) := by omega
    have ew : IntKind.i64.wrap ((i : Int) + 1) = (i : Int) + 1 := IntWalk.i64_in _ (by omega)
    go_enter Try.func18, Try.ntmps18
    go_wp2_with fail
    go_fit HP.out
    rintro e W ⟨rfl, hb⟩
    have HB := Lib.hid hb
    have hv := HV.out.below (L := L) hb
    have HLt := Lib.hid (fun k hk => Nat.lt_of_lt_of_le (HLw.out k hk) hb.size)
    have HO := Lib.hid hv.out
    have hblt := hv.cells.lt
    have HBl := Lib.hid hblt
    have HDC := Lib.hid hv.cells
    obtain ⟨a, c, rfl, hc1, hc2, hx⟩ := hv.seb
    obtain ⟨g, off, rfl, _, hglt, hat⟩ := hx.resolve_left (fun e => by rw [e] at hi; simp at hi)
    have c1 := hv.cells.cells 1 _ rfl
    obtain ⟨A, hA, hsd⟩ : ∃ A : Addr, (if c = i + 1 then some (⟨g, off, none⟩ : Addr) else some ⟨g, off + (i + 1) * 4, none⟩) = some A ∧ SeB W [] (.slice (some A) (x.seats.length - (i + 1)) (c - (i + 1))) (x.seats.drop (i + 1)) := by
      by_cases hc : c = i + 1
      · refine ⟨⟨g, off, none⟩, by simp [hc], some ⟨g, off, none⟩, _, by rw [List.length_drop], by simp; omega, by omega, .inl (List.drop_eq_nil_of_le (by omega))⟩
      · exact ⟨⟨g, off + (i + 1) * 4, none⟩, by simp [hc], some ⟨g, off + (i + 1) * 4, none⟩, _, by rw [List.length_drop], by simp; omega, by omega, .inr ⟨g, _, rfl, by simp, hglt, hat.drop (i + 1)⟩⟩
    have hst : SeB W [] (.slice (some ⟨g, off, none⟩) i c) (x.seats.take i) := ⟨some ⟨g, off, none⟩, c, by rw [List.length_take, Nat.min_eq_left (by omega)], by rw [List.length_take]; omega, hc2, .inr ⟨g, off, rfl, by simp, hglt, hat.take i⟩⟩
    have hic : i ≤ c := by omega
    have hic2 : i + 1 ≤ c := by omega
    have M1 := Lib.hid (mid_none hv.cells (drew_below W (.cells #[] 44)) (Nat.le_refl _) (heap_alloc_new W _))
    have S1 := Lib.hid (hst.below (drew_below W (.cells #[] 44)))
    have S2 := Lib.hid (hsd.below (drew_below W (.cells #[] 44)))
    have HN : Hid ((x.seats.take i).length + (x.seats.drop (i + 1)).length ≤ 1000000) := by show _ ≤ _; simp; omega
    have S3 := Lib.hid (hsd)
    clear hb hv hx hat hst hsd
    go_wp2_with fail
    go_region_law (first
      | (refine step_cat (B := 0) (xs := []) (ys := x.seats.take i) rfl (.tmp 12) (.tmp 18) rfl (by simp [Act.eval, Act.put] <;> rfl) (by simp [Act.eval, Act.put] <;> rfl) M1.out.own S1.out (by simp; omega) (Nat.zero_le _) ?_; intro v1 w1 hown hg hat; have HM : Hid (Mid W b [.int .i64 x.begun, .slice (some ⟨g, off, none⟩) x.seats.length c] ([] ++ x.seats.take i) w1 v1) := M1.out.cat HBl.out hown hg hat; rw [List.nil_append] at HM; have y0 := HM.out.dc.cells 0 _ rfl; have y2 := HM.out.dc.cells 1 _ rfl; have y1 := HM.out.dc.lt; clear hown hat hg)
      | (refine step_cat (B := 0) (xs := x.seats.take i) (ys := x.seats.drop (i + 1)) rfl (.tmp 19) (.tmp 26) rfl (by simp [Act.eval, Act.put] <;> rfl) (by simp [Act.eval, Act.put] <;> rfl) HM.out.own (S3.out.below HM.out.below) HN.out (Nat.zero_le _) ?_; intro v2 w2 hown hg hat; have HF : Hid (Mid W b [.int .i64 x.begun, .slice (some ⟨g, off, none⟩) x.seats.length c] (x.seats.take i ++ x.seats.drop (i + 1)) w2 v2) := HM.out.cat HBl.out hown hg hat; obtain ⟨a2, c2, rfl, _, _⟩ := own_slice hown; have t0 := HF.out.dc.cells 0 _ rfl; have t1 := HF.out.dc.cells 1 _ rfl; have t2 := HF.out.dc.fz 1; clear hown hat hg))
    all_goals
      have hput := HF.out.put (L := L) HLt.out HO.out HBl.out
      rw [show (x.seats.take i ++ x.seats.drop (i + 1)).length = min i x.seats.length + (x.seats.length - (i + 1)) from by simp, ← List.eraseIdx_eq_take_drop_succ] at hput
      have HP2 := Lib.hid hput
      clear hput
      go_wp2_with fail
      go_ret
      rw [HE.out]
      exact ⟨rfl, HP2.out.1, (Ext.of_below HB.out).trans HP2.out.2⟩

theorem Mid.seat {W w1 : World} {cs : List Value} {l : List Se} {g c : Nat} (s : Se) {i : Nat} (h : Mid W b cs l w1 (.slice (some ⟨g, 0, none⟩) l.length c)) (hi : i < l.length) (hbW : b < W.heap.size) : Mid W b cs (l.set i s) (putSe w1 g i s) (.slice (some ⟨g, 0, none⟩) l.length c) := by
  obtain ⟨o1, g1⟩ := h.own.stored (i * 4) (.int .i64 s.id)
  obtain ⟨o2, g2⟩ := o1.stored (i * 4 + 1) (.int .i64 s.seq)
  obtain ⟨o3, g3⟩ := o2.stored (i * 4 + 2) (.int .i64 s.err)
  obtain ⟨o4, g4⟩ := o3.stored (i * 4 + 3) (.int .i64 s.n)
  rw [scs_set _ _ _ hi] at o4
  have hgrow : w1.grownBy (putSe w1 g i s) (some g) :=
    ⟨g4.os.trans (g3.os.trans (g2.os.trans g1.os)), g4.tape.trans (g3.tape.trans (g2.tape.trans g1.tape)), g4.output.trans (g3.output.trans (g2.output.trans g1.output)),
      Nat.le_trans g1.size (Nat.le_trans g2.size (Nat.le_trans g3.size g4.size)), fun k hk hn =>
      (g4.block k (Nat.lt_of_lt_of_le hk (Nat.le_trans g1.size (Nat.le_trans g2.size g3.size))) hn).trans ((g3.block k (Nat.lt_of_lt_of_le hk (Nat.le_trans g1.size g2.size)) hn).trans ((g2.block k (Nat.lt_of_lt_of_le hk g1.size) hn).trans (g1.block k hk hn)))⟩
  have hgW := h.new g rfl
  exact ⟨h.dc.keep hgrow.size (hgrow.block b h.dc.lt (fun e => by cases e; omega)), by rw [List.length_set]; exact o4, h.below.trans (grown_below (v := .slice (some ⟨g, 0, none⟩) l.length c) hgrow h.new h.below.size), h.new⟩

set_option maxRecDepth 100000 in
set_option maxHeartbeats 12800000 in
theorem RKeep_any {N : Nat} (k q err n : Int) (hqw : q ≤ 9223372036854775807) (h : Rf w L b x) (ok : x.Ok N) (hN : N ≤ 4611686018427387904) (hL : ∀ k ∈ L, k < w.heap.size) : Calls Try.prog 20 #[.pointer (some ⟨b, 0, none⟩), .int .i64 k, .int .i64 q, .agg #[.int .i64 err, .int .i64 n]] w (Rid w L b (x.keep k q err n).2 (.int .i64 (x.keep k q err n).1)) := by
  have HB0 := Lib.hid (below_alloc w (.cells #[.int .i64 err, .int .i64 n] 32))
  have HD := Lib.hid (DC.alloc w [.int .i64 err, .int .i64 n] 32)
  have HK := Lib.hid (h.below (L := L) HB0.out)
  have hseq : ∀ s ∈ x.seats, 0 ≤ s.seq ∧ s.seq ≤ 4611686018427387904 := fun s hs => by have := ok.seq s hs; omega
  have HA := Lib.hid (RAsk_any k q hqw HK.out hseq)
  have HLw := Lib.hid hL
  have hlen := ok.len
  clear h ok hseq hL
  cases hp : plc x.seats k with
  | none =>
    have HE := Lib.hid (keep_none q err n hp)
    have ha : ask x.seats k q = ⟨0, 0, false, 90⟩ := ask_none q hp
    have HA' := HA.out
    rw [ha] at HA'
    have HA := Lib.hid HA'
    clear HA' ha hp
    go_enter Try.func20, Try.ntmps20
    go_wp2_with fail
    go_fit HA.out
    rintro e w1 ⟨rfl, hb⟩
    have HB1 := Lib.hid (HB0.out.trans (hb.mono HB0.out.size))
    have HK1 := Lib.hid (HK.out.below (L := L) hb)
    clear hb HA
    have HB2 := Lib.hid (below_alloc w1 (.cells #[.int .i64 0, .int .i64 0] 32))
    go_wp2_with fail
    go_ret
    rw [HE.out]
    exact ⟨rfl, HK1.out.below HB2.out, Ext.of_below (HB1.out.trans (HB2.out.mono HB1.out.size))⟩
  | some i =>
    have hK : x.keep k q err n = (if (ask x.seats k q).e ≠ 0 then ((ask x.seats k q).e, x) else if (ask x.seats k q).fresh = false then (91, x) else (0, ⟨x.begun, x.seats.set i ⟨k, q, err, n⟩⟩)) := by unfold Tb.keep; rw [hp]
    generalize ask x.seats k q = z at HA hK
    obtain ⟨xe, xn, fr, e⟩ := z
    simp only at HA hK
    have hi := plc_lt hp
    by_cases he : e = 0
    · subst he
      cases fr
      · have HE : Hid (x.keep k q err n = (91, x)) := hK
        clear hK hp
        go_enter Try.func20, Try.ntmps20
        go_wp2_with fail
        go_fit HA.out
        rintro e w1 ⟨rfl, hb⟩
        have HB1 := Lib.hid (HB0.out.trans (hb.mono HB0.out.size))
        have HK1 := Lib.hid (HK.out.below (L := L) hb)
        clear hb HA
        have HB2 := Lib.hid (below_alloc w1 (.cells #[.int .i64 xe, .int .i64 xn] 32))
        go_wp2_with fail
        go_ret
        rw [HE.out]
        exact ⟨rfl, HK1.out.below HB2.out, Ext.of_below (HB1.out.trans (HB2.out.mono HB1.out.size))⟩
      · have HE : Hid (x.keep k q err n = (0, ⟨x.begun, x.seats.set i ⟨k, q, err, n⟩⟩)) := hK
        have hpi : plcI x.seats k = (i : Int) := by unfold plcI; rw [hp]
        have HPI := Lib.hid hpi
        clear hK hp hpi
        go_enter Try.func20, Try.ntmps20
        go_wp2_with fail
        go_fit HA.out
        rintro e w1 ⟨rfl, hb⟩
        have hbb := HB0.out.trans (hb.mono HB0.out.size)
        have hba := below_alloc w1 (.cells #[.int .i64 xe, .int .i64 xn] 32)
        have HB1 := Lib.hid (hbb.trans (hba.mono hbb.size))
        have HD1 := Lib.hid ((HD.out.below hb).below hba)
        obtain ⟨v, hv⟩ := (HK.out.below (L := L) hb).below (L := L) hba
        obtain ⟨a, c, hvv, _, _⟩ := hv.seb.slice
        subst hvv
        clear hb HA hbb hba
        have HV := Lib.hid hv
        have HBl := Lib.hid hv.cells.lt
        have hbe := below_alloc (w1.alloc (.cells #[.int .i64 xe, .int .i64 xn] 32)) (.cells #[] 44)
        have c1 := cell_later hbe (hv.cells.cells 1 _ rfl)
        have M1 := Lib.hid (mid_none (N := w1.heap.size + 1) hv.cells hbe (by simp) (by have h := heap_alloc_new (w1.alloc (.cells #[.int .i64 xe, .int .i64 xn] 32)) (.cells #[] 44); rwa [show (w1.alloc (.cells #[.int .i64 xe, .int .i64 xn] 32)).heap.size = w1.heap.size + 1 from by simp] at h))
        have S1 := Lib.hid ((hv.seb.sub (L' := []) (fun k hk => by cases hk)).below hbe)
        clear hv hbe
        go_wp2_with (at_builtin; refine wpList_cat (B := 0) (xs := []) (ys := x.seats) rfl _ _ rfl rfl rfl M1.out.own S1.out (by simp; omega) (Nat.zero_le _) ?_; intro v2 w2 hown hg hat; rw [List.nil_append] at hown; obtain ⟨g2, c2, rfl, _, _⟩ := hown.form (by omega); have HM : Hid (Mid (w1.alloc (.cells #[.int .i64 xe, .int .i64 xn] 32)) b [.int .i64 x.begun, .slice a x.seats.length c] ([] ++ x.seats) w2 (.slice (some ⟨g2, 0, none⟩) x.seats.length c2)) := M1.out.cat HBl.out hown hg hat; rw [List.nil_append] at HM; clear hown hg hat c1)
        have hd2 : Below w2.heap.size w2 w2.drew := ⟨rfl, rfl, rfl, Nat.le_refl _, fun _ _ => rfl⟩
        have HM2 := Lib.hid (HM.out.later hd2)
        have hpl := place_any k (HM2.out.dc.cells 1 _ rfl) ((HV.out.seb.sub (L' := []) (fun k hk => by cases hk)).below HM2.out.below)
        rw [HPI.out] at hpl
        have HP := Lib.hid hpl
        have HD2 := Lib.hid (HD1.out.below HM2.out.below)
        have p0 := HD2.out.cells 0 _ rfl
        have p1 := HD2.out.cells 1 _ rfl
        have p2 := HD2.out.lt
        have hI1 : (i : Int) < ((x.seats.length : Nat) : Int) := by omega
        have hI2 : (0 : Int) ≤ (i : Int) := by omega
        obtain ⟨s, hs⟩ : ∃ s, x.seats[i]? = some s := ⟨x.seats[i], List.getElem?_eq_getElem hi⟩
        have HE4 := Lib.hid (scs_at x.seats i s hs)
        have i0 : i * 4 < x.seats.length * 4 := by omega
        have i1 : i * 4 + 1 < x.seats.length * 4 := by omega
        have i2 : i * 4 + 2 < x.seats.length * 4 := by omega
        have i3 : i * 4 + 3 < x.seats.length * 4 := by omega
        clear hpl hd2 hs
        go_region_with (go_at_call 36; refine HP.out.mono ?_; rintro e w3 ⟨rfl, hb⟩; have HM3 := Lib.hid (HM2.out.later hb); have HD3 := Lib.hid (HD2.out.below hb); have q0 := HD3.out.cells 0 _ rfl; have q1 := HD3.out.cells 1 _ rfl; have r0 := (HM3.out.own.cellAt (i * 4) i0).trans HE4.out.1; have r1 := (HM3.out.own.cellAt (i * 4 + 1) i1).trans HE4.out.2.1; have r2 := (HM3.out.own.cellAt (i * 4 + 2) i2).trans HE4.out.2.2.1; have r3 := (HM3.out.own.cellAt (i * 4 + 3) i3).trans HE4.out.2.2.2; have f0 := HM3.out.own.frozenAt (i * 4); have f1 := HM3.out.own.frozenAt (i * 4 + 1); have f2 := HM3.out.own.frozenAt (i * 4 + 2); have f3 := HM3.out.own.frozenAt (i * 4 + 3); clear hb)
        all_goals
          have HMs : Hid (Mid (w1.alloc (.cells #[.int .i64 xe, .int .i64 xn] 32)) b [.int .i64 x.begun, .slice a x.seats.length c] (x.seats.set i ⟨k, q, err, n⟩) ((((w3.setCell ⟨g2, i * 4, none⟩ (.int .i64 k)).setCell ⟨g2, i * 4 + 1, none⟩ (.int .i64 q)).setCell ⟨g2, i * 4 + 2, none⟩ (.int .i64 err)).setCell ⟨g2, i * 4 + 3, none⟩ (.int .i64 n)) (.slice (some ⟨g2, 0, none⟩) x.seats.length c2)) := HM3.out.seat ⟨k, q, err, n⟩ hi HBl.out
          clear r0 r1 r2 r3 f0 f1 f2 f3 p0 p1 p2 q0 q1 HP
          generalize (((w3.setCell ⟨g2, i * 4, none⟩ (.int .i64 k)).setCell ⟨g2, i * 4 + 1, none⟩ (.int .i64 q)).setCell ⟨g2, i * 4 + 2, none⟩ (.int .i64 err)).setCell ⟨g2, i * 4 + 3, none⟩ (.int .i64 n) = W4 at *
          have hput := HMs.out.put (L := L) (fun k hk => Nat.lt_of_lt_of_le (HLw.out k hk) HB1.out.size) HV.out.out HBl.out
          have HPT := Lib.hid hput
          have t0 := HMs.out.dc.cells 0 _ rfl
          have t1 := HMs.out.dc.cells 1 _ rfl
          have t2 := HMs.out.dc.fz 1
          clear hput
          go_wp2_with fail
          go_ret
          rw [HE.out]
          exact ⟨rfl, HPT.out.1, (Ext.of_below HB1.out).trans HPT.out.2⟩
    · have HE : Hid (x.keep k q err n = (e, x)) := by show _ = _; rw [hK, if_pos he]
      have hee : (e == 0) = false := by simpa using he
      clear hK hp
      go_enter Try.func20, Try.ntmps20
      go_wp2_with fail
      go_fit HA.out
      rintro e' w1 ⟨rfl, hb⟩
      have HB1 := Lib.hid (HB0.out.trans (hb.mono HB0.out.size))
      have HK1 := Lib.hid (HK.out.below (L := L) hb)
      clear hb HA
      have HB2 := Lib.hid (below_alloc w1 (.cells #[.int .i64 xe, .int .i64 xn] 32))
      go_wp2_with fail
      go_ret
      rw [HE.out]
      exact ⟨rfl, HK1.out.below HB2.out, Ext.of_below (HB1.out.trans (HB2.out.mono HB1.out.size))⟩
end Go.Proofs.Ytnfpobbdcjfcoaa
