/-
  DigestNobody walked.
-/
import Derived.Test.YtcbgnmolfdhnfaaN3
namespace Go.Proofs.Ytcbgnmolfdhnfaa
set_option linter.unusedVariables false
set_option linter.unusedSimpArgs false
open Go.RowKit Go.Joins

theorem Sd.place_nil (s : Sd) : s.place [] = [] := rfl
theorem talk_none (W : World) : (binOp .neq 51 (.agg #[.int .i64 0, .int .i64 0]) (.agg #[.int .i64 0, .int .i64 0])).run Try.prog W = .ok (.bool false) W := by kernel_rfl
/-- Two rows of a seed. -/
structure C5 (V : World) (g : Nat) (s s2 : Sd) : Prop where
  c0 : V.cell? ⟨g, 0, none⟩ = some (.int .u64 s.a)
  c1 : V.cell? ⟨g, 1, none⟩ = some (.int .u64 s.b)
  c2 : V.cell? ⟨g + 1, 0, none⟩ = some (.int .u64 s2.a)
  c3 : V.cell? ⟨g + 1, 1, none⟩ = some (.int .u64 s2.b)
theorem C5.later {V V' : World} {g : Nat} {s s2 : Sd} (h : C5 V g s s2) (hb : Below V.heap.size V V') : C5 V' g s s2 :=
  ⟨cell_later hb h.c0, cell_later hb h.c1, cell_later hb h.c2, cell_later hb h.c3⟩
theorem Of_none {s : Sd} (hs : s.Ok) (w : World) : Calls Try.prog 21 #[.agg #[.int .u64 s.a, .int .u64 s.b], .slice none 0 0] w (MadeT s [] w) :=
  Of_any hs (build_any hs 4 (by decide)) (Lay.In.nil (I := prL) w) (by decide) (fun p hp => by simp at hp)

set_option maxRecDepth 100000 in
set_option maxHeartbeats 6400000 in
theorem Nobody_any {w : World} {s s2 : Sd} {a : Option Addr} {n c : Nat} (hs : s.Ok) (hs2 : s2.Ok) :
    Calls Try.prog 9 #[.agg #[.int .u64 s.a, .int .u64 s.b], .agg #[.int .u64 s2.a, .int .u64 s2.b], .slice a n c] w fun e w' => e = .returned (.bool true) ∧ Below w.heap.size w w' := by
  go_enter Try.func9, Try.ntmps9
  go_upto_region 1 with fail
  have HB : Hid (Below w.heap.size w ((w.alloc (.cells #[.int .u64 s.a, .int .u64 s.b] 24)).alloc (.cells #[.int .u64 s2.a, .int .u64 s2.b] 24))) := Lib.hid (((Below.refl _ _).alloc (Nat.le_refl _) _).alloc (by simp) _)
  have HF : Hid (C5 ((w.alloc (.cells #[.int .u64 s.a, .int .u64 s.b] 24)).alloc (.cells #[.int .u64 s2.a, .int .u64 s2.b] 24)) w.heap.size s s2) := by
    refine Lib.hid ⟨?_, ?_, ?_, ?_⟩ <;> go_simp
  generalize (w.alloc (.cells #[.int .u64 s.a, .int .u64 s.b] 24)).alloc (.cells #[.int .u64 s2.a, .int .u64 s2.b] 24) = V at *
  obtain ⟨g, hg⟩ : ∃ g, g = w.heap.size := ⟨_, rfl⟩
  rw [← hg] at HF ⊢
  have HG := Lib.hid hg
  clear hg
  by_cases hn : 10 < n
  · have hnI : (10 : Int) < (n : Int) := by omega
    go_wp2_with fail
    go_fit (awake_any V)
    rintro e w2 ⟨rfl, hb2⟩
    have HB2 := Lib.hid hb2
    clear hb2
    go_wp2_with fail
    go_ret
    exact ⟨rfl, HB.out.trans (HB2.out.mono HB.out.size)⟩
  · have hnI : ¬ (10 : Int) < (n : Int) := by omega
    have c0 := HF.out.c0
    have c1 := HF.out.c1
    go_wp2_with fail
    go_fit (Of_none hs V)
    rintro e w1 ⟨tm, rfl, htm, hb1⟩
    have HTm := Lib.hid htm
    have HF1 := Lib.hid (HF.out.later hb1)
    have HB1 : Hid (Below w.heap.size w w1) := Lib.hid (HB.out.trans (hb1.mono HB.out.size))
    clear c0 c1 htm hb1 HB HF
    go_upto_region 5 with fail
    have HBx : Hid (Below w1.heap.size w1 ((w1.alloc (.cells #[.int .u64 0, .int .u64 0, .pointer none, .bool false] 81)).alloc (.cells #[.pointer none, .pointer (some ⟨w1.heap.size, 0, none⟩)] 38))) := Lib.hid (((Below.refl _ _).alloc (Nat.le_refl _) _).alloc (by simp) _)
    have HNo : Hid (∀ i, i < 2 → ∃ t, ((w1.alloc (.cells #[.int .u64 0, .int .u64 0, .pointer none, .bool false] 81)).alloc (.cells #[.pointer none, .pointer (some ⟨w1.heap.size, 0, none⟩)] 38)).cell? ⟨w1.heap.size + 1, i, none⟩ = some (.pointer t) ∧ NoTr ((w1.alloc (.cells #[.int .u64 0, .int .u64 0, .pointer none, .bool false] 81)).alloc (.cells #[.pointer none, .pointer (some ⟨w1.heap.size, 0, none⟩)] 38)) t) := by
      refine Lib.hid fun i hi => ?_
      rcases i with _ | _ | i
      · exact ⟨none, by go_simp, .inl rfl⟩
      · exact ⟨_, by go_simp; rfl, .inr ⟨_, rfl, by go_simp⟩⟩
      · omega
    generalize (w1.alloc (.cells #[.int .u64 0, .int .u64 0, .pointer none, .bool false] 81)).alloc (.cells #[.pointer none, .pointer (some ⟨w1.heap.size, 0, none⟩)] 38) = W at *
    generalize w1.heap.size + 1 = rb at *
    have HTW := Lib.hid (HTm.out.later HBx.out)
    have HFW := Lib.hid (HF1.out.later HBx.out)
    have HBW : Hid (Below w.heap.size w W) := Lib.hid (HB1.out.trans (HBx.out.mono HB1.out.size))
    clear HTm HF1 HB1 HBx
    have H0 : Hid (Below W.heap.size W W) := Lib.hid (Below.refl _ _)
    go_loopw [30] (fun v wr => ∃ i : Nat, v = .int .i64 i ∧ i ≤ 2 ∧ Hid (Below W.heap.size W wr)) (fun v _ => 2 - (intOf v).toNat)
    case atStart => exact ⟨0, rfl, Nat.zero_le _, H0⟩
    case round =>
      obtain ⟨i, rfl, hi, hst⟩ := hrel
      clear H0
      have ei : IntKind.i64.wrap ((i : Int) + 1) = (i : Int) + 1 := IntWalk.i64_in _ (by omega)
      by_cases hlt : i < 2
      · have hltI : (i : Int) < 2 := by omega
        have h0I : (0 : Int) ≤ (i : Int) := by omega
        obtain ⟨t, hc, hno⟩ := HNo.out i hlt
        have hc2 := cell_later hst.out hc
        have HN1 := Lib.hid (hno.later hst.out)
        clear hc hno
        go_wp2_with fail
        go_fit (Parts_no HN1.out)
        rintro e w' ⟨rfl, rfl⟩
        go_wp2_with fail
        go_fit (Pairs_no HN1.out)
        rintro e w' ⟨rfl, rfl⟩
        go_wp2_with fail
        go_fit (Unlike_no HN1.out)
        rintro e w2 ⟨rfl, hb2⟩
        have hba := below_alloc w2 (.cells #[.int .i64 0, .int .i64 0] 51)
        have HN2 := Lib.hid ((HN1.out.later hb2).later hba)
        have HB2 : Hid (Below W.heap.size W (w2.alloc (.cells #[.int .i64 0, .int .i64 0] 51))) := Lib.hid ((hst.out.trans (hb2.mono hst.out.size)).trans (hba.mono (hst.out.trans (hb2.mono hst.out.size)).size))
        have q0 : (w2.alloc (.cells #[.int .i64 0, .int .i64 0] 51)).cell? ⟨w2.heap.size, 0, none⟩ = some (.int .i64 0) := by go_simp
        have q1 : (w2.alloc (.cells #[.int .i64 0, .int .i64 0] 51)).cell? ⟨w2.heap.size, 1, none⟩ = some (.int .i64 0) := by go_simp
        have hT := fun W => talk_none W
        clear hb2 hba HN1 hc2
        go_upto_region 10 with fail
        generalize w2.alloc (.cells #[.int .i64 0, .int .i64 0] 51) = w3 at *
        go_wp2_with fail
        go_fit (Root_no HN2.out)
        rintro e w' ⟨rfl, rfl⟩
        go_wp2_with fail
        go_fit (Len_no HN2.out)
        rintro e w' ⟨rfl, rfl⟩
        go_wp2_with fail
        exact ⟨⟨i + 1, by push_cast; rfl, by omega, HB2⟩, by simp [intOf]; omega⟩
      · obtain rfl : i = 2 := by omega
        have HFr := Lib.hid (HFW.out.later hst.out)
        have HTr := Lib.hid (HTW.out.later hst.out)
        have HBr : Hid (Below w.heap.size w wr) := Lib.hid (HBW.out.trans (hst.out.mono HBW.out.size))
        have c2 := HFr.out.c2
        have c3 := HFr.out.c3
        clear hst HFW HTW HBW HNo
        go_wp2_with fail
        go_fit (Of_none hs2 wr)
        rintro e w4 ⟨tb, rfl, htb, hb4⟩
        have HTb := Lib.hid htb
        have HT4 := Lib.hid (HTr.out.later hb4)
        have HF4 := Lib.hid (HFr.out.later hb4)
        have HB4 : Hid (Below w.heap.size w w4) := Lib.hid (HBr.out.trans (hb4.mono HBr.out.size))
        clear c2 c3 htb hb4 HTr HFr HBr
        by_cases he : s.a = s2.a ∧ s.b = s2.b
        · have hE : ∀ W, (binOp .eql 24 (.agg #[.int .u64 s.a, .int .u64 s.b]) (.agg #[.int .u64 s2.a, .int .u64 s2.b])).run Try.prog W = .ok (.bool true) W := fun W => by
            rw [seeds_eql, decide_eq_true he]
          obtain rfl : s = s2 := by cases s; cases s2; simp_all
          go_wp2_with fail
          go_fit (Unlike_nil HT4.out HTb.out)
          rintro e w5 ⟨ga, c5, dg, pr, rfl, hb5⟩
          have hba := below_alloc w5 (.cells #[.int .i64 dg, .int .i64 pr] 51)
          have HB6 : Hid (Below w.heap.size w (w5.alloc (.cells #[.int .i64 dg, .int .i64 pr] 51))) := Lib.hid ((HB4.out.trans (hb5.mono HB4.out.size)).trans (hba.mono (HB4.out.trans (hb5.mono HB4.out.size)).size))
          have hF := (HF4.out.later hb5).later hba
          obtain ⟨f0, f1, f2, f3⟩ := hF
          clear hb5 hba HT4 HTb
          go_upto_region 14 with fail
          generalize w5.alloc (.cells #[.int .i64 dg, .int .i64 pr] 51) = w6 at *
          go_wp2_with fail
          go_fit (awake_any w6)
          rintro e w7 ⟨rfl, hb7⟩
          have HB7 : Hid (Below w.heap.size w w7) := Lib.hid (HB6.out.trans (hb7.mono HB6.out.size))
          clear hb7
          go_wp2_with fail
          go_ret
          exact ⟨rfl, HB7.out⟩
        · have hE : ∀ W, (binOp .eql 24 (.agg #[.int .u64 s.a, .int .u64 s.b]) (.agg #[.int .u64 s2.a, .int .u64 s2.b])).run Try.prog W = .ok (.bool false) W := fun W => by
            rw [seeds_eql, decide_eq_false he]
          have HU := Lib.hid (Unlike_seeds HT4.out HTb.out he)
          clear he
          go_wp2_with fail
          go_fit HU.out
          rintro e w5 ⟨rfl, hb5⟩
          have hba := below_alloc w5 (.cells #[.int .i64 0, .int .i64 0] 51)
          have HB6 : Hid (Below w.heap.size w (w5.alloc (.cells #[.int .i64 0, .int .i64 0] 51))) := Lib.hid ((HB4.out.trans (hb5.mono HB4.out.size)).trans (hba.mono (HB4.out.trans (hb5.mono HB4.out.size)).size))
          have hF := (HF4.out.later hb5).later hba
          obtain ⟨f0, f1, f2, f3⟩ := hF
          clear hb5 hba HT4 HTb HU
          go_upto_region 14 with fail
          generalize w5.alloc (.cells #[.int .i64 0, .int .i64 0] 51) = w6 at *
          go_wp2_with fail
          go_fit (awake_any w6)
          rintro e w7 ⟨rfl, hb7⟩
          have HB7 : Hid (Below w.heap.size w w7) := Lib.hid (HB6.out.trans (hb7.mono HB6.out.size))
          clear hb7
          go_wp2_with fail
          go_ret
          exact ⟨rfl, HB7.out⟩
end Go.Proofs.Ytcbgnmolfdhnfaa
