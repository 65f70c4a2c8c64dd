/-
  Walks: a session ends; what it counted last is kept.
-/
import Derived.Test.YtdcmefkejgjdeaaB5
namespace Go.Proofs.Ytdcmefkejgjdeaa
set_option linter.unusedVariables false
set_option linter.unusedSimpArgs false
open Go.RowKit
variable {w : World} {B b : Nat} {L : List Nat} {t : Tb} {v : Value}

def Tb.close (t : Tb) (k : Int) : Int × Tb := match plc t.seats k with | none => (90, t) | some i => (0, ⟨t.begun, t.seats.eraseIdx i⟩)
def Tb.keep (t : Tb) (k q err n : Int) : Int × Tb := match plc t.seats k with
  | none => (90, t)
  | some i => if (ask t.seats k q).e ≠ 0 then ((ask t.seats k q).e, t) else if (ask t.seats k q).fresh = false then (91, t) else (0, ⟨t.begun, t.seats.set i ⟨k, q, err, n⟩⟩)

set_option maxRecDepth 100000 in
set_option maxHeartbeats 3200000 in
theorem Close_any (k : Int) (h : Tk w B b L t) (hl : t.seats.length ≤ 100000) : Calls Try.prog 17 #[.pointer (some ⟨b, 0, none⟩), .int .i64 k] w (Did w B b L (t.close k).2 (.int .i64 (t.close k).1)) := by
  have HK := Lib.hid h
  have HF' := find_any k h
  cases hp : plc t.seats k with
  | none =>
    have HE : Hid (t.close k = (90, t)) := by show _ = _; unfold Tb.close; rw [hp]
    rw [fnd_none hp] at HF'
    have HF := Lib.hid HF'
    clear HF' h hp
    go_enter Try.func17, Try.ntmps17
    go_wp2_with fail
    go_fit HF.out
    rintro e w1 ⟨rfl, hb⟩
    have HB := Lib.hid hb
    clear hb HF
    go_wp2_with fail
    go_ret
    rw [HE.out]
    exact ⟨L, rfl, HK.out.below HB.out, Ext.of_below HB.out⟩
  | some i =>
    have HE : Hid (t.close k = (0, ⟨t.begun, t.seats.eraseIdx i⟩)) := by show _ = _; unfold Tb.close; rw [hp]
    rw [fnd_some hp] at HF'
    have HF := Lib.hid HF'
    have hi := plc_lt hp
    clear HF' h hp
    go_enter Try.func17, Try.ntmps17
    go_wp2_with fail
    go_fit HF.out
    rintro e w1 ⟨rfl, hb⟩
    have HB := Lib.hid hb
    obtain ⟨v, hv⟩ := HK.out.below hb
    have c1 := hv.cells.cells 1 _ rfl
    have HO := hv.own
    rcases hv.at_ with ⟨_, _, e0⟩ | ⟨g, c, hL, hgb, rfl, h1, h2⟩
    · rw [e0] at hi; simp at hi
    have HV := Lib.hid hv
    have HG := Lib.hid (Delete_any i hi hv.own h1 h2)
    have hlt := hv.cells.lt
    have ew : IntKind.i64.wrap ((i : Int) + 1) = (i : Int) + 1 := IntWalk.i64_in _ (by omega)
    have HI := Lib.hid hi
    clear hb hv HF HO hL h1 h2
    go_wp2_with fail
    go_fit HG.out
    rintro e w2 ⟨rfl, ho, hg⟩
    have hdc := HV.out.cells.keep hg.size (hg.block b hlt (fun e => hgb (by cases e; rfl)))
    have y1 := hdc.cells 1 _ rfl
    have x1 := hdc.fz 1
    have hput := HV.out.rowPut (l := t.seats.eraseIdx i) (Below.refl _ _) hg (by rw [List.length_eraseIdx]; rw [if_pos HI.out]) ho (.inl rfl)
    have HP := Lib.hid hput
    clear ho hg hdc hput HG
    go_wp2_with fail
    go_ret
    rw [HE.out]
    exact ⟨_, rfl, HP.out.1, (Ext.of_below HB.out).trans HP.out.2⟩

theorem scs_set : ∀ (l : List Se) (i : Nat) (x : Se), i < l.length → ((((scs l).set (i * 4) (.int .i64 x.id)).set (i * 4 + 1) (.int .i64 x.seq)).set (i * 4 + 2) (.int .i64 x.err)).set (i * 4 + 3) (.int .i64 x.n) = scs (l.set i x)
  | [], i, x, h => by simp at h
  | s :: l, 0, x, _ => rfl
  | s :: l, i + 1, x, h => by
    have ih := scs_set l i x (by simpa using h)
    have e : ∀ l', scs (s :: l') = .int .i64 s.id :: .int .i64 s.seq :: .int .i64 s.err :: .int .i64 s.n :: scs l' := fun _ => rfl
    rw [List.set_cons_succ, e, e, ← ih, show (i + 1) * 4 = i * 4 + 4 from by omega]
    rfl
/-- A session's four cells are written. -/
def putSe (w : World) (g i : Nat) (x : Se) : World := (((w.setCell ⟨g, i * 4, none⟩ (.int .i64 x.id)).setCell ⟨g, i * 4 + 1, none⟩ (.int .i64 x.seq)).setCell ⟨g, i * 4 + 2, none⟩ (.int .i64 x.err)).setCell ⟨g, i * 4 + 3, none⟩ (.int .i64 x.n)
theorem Tv.seatPut {g c : Nat} (x : Se) {i : Nat} (h : Tv w B b L t (.slice (some ⟨g, 0, none⟩) t.seats.length c)) (hi : i < t.seats.length) (hne : g ≠ b) :
    Tk (putSe w.drew g i x) B b L ⟨t.begun, t.seats.set i x⟩ ∧ Ext w L (putSe w.drew g i x) L := by
  obtain ⟨o1, g1⟩ := h.own.drew.stored (i * 4) (.int .i64 x.id)
  obtain ⟨o2, g2⟩ := o1.stored (i * 4 + 1) (.int .i64 x.seq)
  obtain ⟨o3, g3⟩ := o2.stored (i * 4 + 2) (.int .i64 x.err)
  obtain ⟨o4, g4⟩ := o3.stored (i * 4 + 3) (.int .i64 x.n)
  rw [scs_set _ _ _ hi] at o4
  have hgrow : w.grownBy (putSe w.drew g i x) (some g) :=
    ⟨g4.os.trans (g3.os.trans (g2.os.trans g1.os)), g4.tape.trans (g3.tape.trans (g2.tape.trans g1.tape)), g4.output.trans (g3.output.trans (g2.output.trans g1.output)),
      Nat.le_trans g1.size (Nat.le_trans g2.size (Nat.le_trans g3.size g4.size)), fun k hk hn =>
      (g4.block k (Nat.lt_of_lt_of_le hk (Nat.le_trans g1.size (Nat.le_trans g2.size g3.size))) hn).trans ((g3.block k (Nat.lt_of_lt_of_le hk (Nat.le_trans g1.size g2.size)) hn).trans ((g2.block k (Nat.lt_of_lt_of_le hk g1.size) hn).trans (g1.block k hk hn)))⟩
  have hgL := (h.ob g rfl).1
  have hc := h.cells.keep hgrow.size (hgrow.block b h.cells.lt (fun e => hne (by cases e; rfl)))
  have hlen : (t.seats.set i x).length = t.seats.length := by simp
  refine ⟨⟨_, hc, by rw [hlen]; exact o4, ?_, h.low⟩, hgrow.os, hgrow.tape, hgrow.output, hgrow.size, fun k hk hn => hgrow.block k hk (fun e => hn (by cases e; exact hgL)), fun k hk => .inl hk⟩
  rcases h.at_ with ⟨_, hv, _⟩ | ⟨g', c', hL, hne', hv, h1, h2⟩
  · cases hv
  · cases hv
    exact .inr ⟨g, c, hL, hne', by rw [hlen], by rw [hlen]; exact h1, h2⟩

theorem keep_none {k : Int} (q err n : Int) (h : plc t.seats k = none) : t.keep k q err n = (90, t) := by unfold Tb.keep; rw [h]

set_option maxRecDepth 100000 in
set_option maxHeartbeats 3200000 in
theorem Keep_any {N : Nat} (k q err n : Int) (h : Tk w B b L t) (ok : t.Ok N) (hN : N ≤ 4611686018427387904) : Calls Try.prog 19 #[.pointer (some ⟨b, 0, none⟩), .int .i64 k, .int .i64 q, .agg #[.int .i64 err, .int .i64 n]] w (Did w B b L (t.keep k q err n).2 (.int .i64 (t.keep k q err n).1)) := by
  have HB0 := Lib.hid (below_alloc w (.cells #[.int .i64 err, .int .i64 n] 32))
  have HD := Lib.hid (DC.alloc w [.int .i64 err, .int .i64 n] 32)
  have HK := Lib.hid (h.below HB0.out)
  have hseq : ∀ s ∈ t.seats, 0 ≤ s.seq ∧ s.seq ≤ 4611686018427387904 := fun s hs => by have := ok.seq s hs; omega
  have HA := Lib.hid (Ask_any k q HK.out hseq)
  clear h ok hseq
  cases hp : plc t.seats k with
  | none =>
    have HE := Lib.hid (keep_none q err n hp)
    have ha : ask t.seats k q = ⟨0, 0, false, 90⟩ := ask_none q hp
    have HA' := HA.out
    rw [ha] at HA'
    have HA := Lib.hid HA'
    clear HA' ha hp
    go_enter Try.func19, Try.ntmps19
    go_wp2_with fail
    go_fit HA.out
    rintro e w1 ⟨rfl, hb⟩
    have HB1 := Lib.hid (HB0.out.trans (hb.mono HB0.out.size))
    have HK1 := Lib.hid (HK.out.below hb)
    clear hb HA
    have HB2 := Lib.hid (below_alloc w1 (.cells #[.int .i64 0, .int .i64 0] 32))
    go_wp2_with fail
    go_ret
    rw [HE.out]
    exact ⟨L, rfl, HK1.out.below HB2.out, Ext.of_below (HB1.out.trans (HB2.out.mono HB1.out.size))⟩
  | some i =>
    have hK : t.keep k q err n = (if (ask t.seats k q).e ≠ 0 then ((ask t.seats k q).e, t) else if (ask t.seats k q).fresh = false then (91, t) else (0, ⟨t.begun, t.seats.set i ⟨k, q, err, n⟩⟩)) := by unfold Tb.keep; rw [hp]
    generalize ask t.seats k q = x at HA hK
    obtain ⟨xe, xn, fr, e⟩ := x
    simp only at HA hK
    have hi := plc_lt hp
    by_cases he : e = 0
    · subst he
      cases fr
      · have HE : Hid (t.keep k q err n = (91, t)) := hK
        clear hK hp
        go_enter Try.func19, Try.ntmps19
        go_wp2_with fail
        go_fit HA.out
        rintro e w1 ⟨rfl, hb⟩
        have HB1 := Lib.hid (HB0.out.trans (hb.mono HB0.out.size))
        have HK1 := Lib.hid (HK.out.below hb)
        clear hb HA
        have HB2 := Lib.hid (below_alloc w1 (.cells #[.int .i64 xe, .int .i64 xn] 32))
        go_wp2_with fail
        go_ret
        rw [HE.out]
        exact ⟨L, rfl, HK1.out.below HB2.out, Ext.of_below (HB1.out.trans (HB2.out.mono HB1.out.size))⟩
      · have HE : Hid (t.keep k q err n = (0, ⟨t.begun, t.seats.set i ⟨k, q, err, n⟩⟩)) := hK
        have HFN := Lib.hid (fnd_some hp)
        clear hK hp
        go_enter Try.func19, Try.ntmps19
        go_wp2_with fail
        go_fit HA.out
        rintro e w1 ⟨rfl, hb⟩
        have HB1 := Lib.hid (HB0.out.trans (hb.mono HB0.out.size))
        have HK1 := Lib.hid (HK.out.below hb)
        have HD1 := Lib.hid (HD.out.below hb)
        clear hb HA
        have HB2 := Lib.hid (below_alloc w1 (.cells #[.int .i64 xe, .int .i64 xn] 32))
        have hf := find_any k (HK1.out.below HB2.out)
        rw [HFN.out] at hf
        have HF := Lib.hid hf
        clear hf
        go_wp2_with fail
        go_fit HF.out
        rintro e w2 ⟨rfl, hb⟩
        have HB3 := Lib.hid ((HB1.out.trans (HB2.out.mono HB1.out.size)).trans (hb.mono (HB1.out.trans (HB2.out.mono HB1.out.size)).size))
        have HD3 := Lib.hid ((HD1.out.below HB2.out).below hb)
        obtain ⟨v, hv⟩ := (HK1.out.below HB2.out).below hb
        rcases hv.at_ with ⟨_, _, e0⟩ | ⟨g, c, hL, hgb, rfl, h1, h2⟩
        · rw [e0] at hi; simp at hi
        have HV := Lib.hid hv
        have c1 := hv.cells.cells 1 _ rfl
        have d0 := HD3.out.cells 0 _ rfl
        have d1 := HD3.out.cells 1 _ rfl
        have hI1 : (i : Int) < ((t.seats.length : Nat) : Int) := by omega
        have hI2 : (0 : Int) ≤ (i : Int) := by omega
        have r0 := hv.own.cellAt (i * 4) (by omega)
        have r1 := hv.own.cellAt (i * 4 + 1) (by omega)
        have r2 := hv.own.cellAt (i * 4 + 2) (by omega)
        have r3 := hv.own.cellAt (i * 4 + 3) (by omega)
        obtain ⟨s, hs⟩ : ∃ s, t.seats[i]? = some s := ⟨t.seats[i], List.getElem?_eq_getElem hi⟩
        obtain ⟨e0, e1, e2, e3⟩ := scs_at t.seats i s hs
        rw [e0] at r0
        rw [e1] at r1
        rw [e2] at r2
        rw [e3] at r3
        have f0 := hv.own.frozenAt (i * 4)
        have f1 := hv.own.frozenAt (i * 4 + 1)
        have f2 := hv.own.frozenAt (i * 4 + 2)
        have f3 := hv.own.frozenAt (i * 4 + 3)
        have HP := Lib.hid (hv.seatPut ⟨k, q, err, n⟩ hi hgb)
        clear hb hv HF e0 e1 e2 e3 hs h1 h2 hL
        go_wp2_with fail
        go_region
        have HP2 : Hid (Tk ((((w2.setCell ⟨g, i * 4, none⟩ (.int .i64 k)).setCell ⟨g, i * 4 + 1, none⟩ (.int .i64 q)).setCell ⟨g, i * 4 + 2, none⟩ (.int .i64 err)).setCell ⟨g, i * 4 + 3, none⟩ (.int .i64 n)).drew B b L ⟨t.begun, t.seats.set i ⟨k, q, err, n⟩⟩ ∧ Ext w2 L ((((w2.setCell ⟨g, i * 4, none⟩ (.int .i64 k)).setCell ⟨g, i * 4 + 1, none⟩ (.int .i64 q)).setCell ⟨g, i * 4 + 2, none⟩ (.int .i64 err)).setCell ⟨g, i * 4 + 3, none⟩ (.int .i64 n)).drew L) := HP.out
        clear r0 r1 r2 r3 f0 f1 f2 f3 d0 d1 c1 HP
        generalize ((((w2.setCell ⟨g, i * 4, none⟩ (.int .i64 k)).setCell ⟨g, i * 4 + 1, none⟩ (.int .i64 q)).setCell ⟨g, i * 4 + 2, none⟩ (.int .i64 err)).setCell ⟨g, i * 4 + 3, none⟩ (.int .i64 n)).drew = W at *
        go_wp2_with fail
        go_ret
        rw [HE.out]
        exact ⟨L, rfl, HP2.out.1, (Ext.of_below HB3.out).trans HP2.out.2⟩
    · have HE : Hid (t.keep k q err n = (e, t)) := by show _ = _; rw [hK, if_pos he]
      have hee : (e == 0) = false := by simpa using he
      clear hK hp
      go_enter Try.func19, Try.ntmps19
      go_wp2_with fail
      go_fit HA.out
      rintro e' w1 ⟨rfl, hb⟩
      have HB1 := Lib.hid (HB0.out.trans (hb.mono HB0.out.size))
      have HK1 := Lib.hid (HK.out.below hb)
      clear hb HA
      have HB2 := Lib.hid (below_alloc w1 (.cells #[.int .i64 xe, .int .i64 xn] 32))
      go_wp2_with fail
      go_ret
      rw [HE.out]
      exact ⟨L, rfl, HK1.out.below HB2.out, Ext.of_below (HB1.out.trans (HB2.out.mono HB1.out.size))⟩
end Go.Proofs.Ytdcmefkejgjdeaa
