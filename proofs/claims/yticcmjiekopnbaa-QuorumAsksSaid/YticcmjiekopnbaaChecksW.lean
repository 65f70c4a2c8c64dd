/-
  QuorumChecks walked.
-/
import Derived.Test.YticcmjiekopnbaaLong
namespace Go.Proofs.Yticcmjiekopnbaa
set_option linter.unusedVariables false
set_option linter.unusedSimpArgs false
open Go.RowKit Go.Shelf

theorem short1 {a1 a2 : Option Addr} {n1 n2 c1 c2 : Nat} (h : longB [((a1, n1, c1), (a2, n2, c2))] = false) : n1 ≤ 500 ∧ n2 ≤ 500 := by
  simp [longB, longP] at h
  omega
set_option maxRecDepth 100000 in
set_option maxHeartbeats 6400000 in
theorem Checks_law {w : World} {u v : Value} {vs ls : List Int} (h : RoCs w u v vs ls) : Calls Try.prog 3 #[.agg #[u, v]] w (BoolP true w) := by
  have hb0 := lay_alloc w (.cells #[u, v] 24)
  have hk := Go.heap_alloc_new w (.cells #[u, v] 24)
  have HI := Lib.hid (h.later hb0)
  have HB := Lib.hid hb0
  obtain ⟨a1, c1, rfl, _, _⟩ := h.1.slice
  obtain ⟨a2, c2, rfl, _, _⟩ := h.2.slice
  clear h hb0
  go_enter Try.func3, Try.ntmps3
  go_wp2_with fail
  generalize World.alloc _ _ = w0 at *
  have c0 : w0.cell? ⟨w.heap.size, 0, none⟩ = .some (.slice a1 vs.length c1) := by rw [cell_of_row w0 _ _ _ _ _ hk]; rfl
  have c1' : w0.cell? ⟨w.heap.size, 1, none⟩ = .some (.slice a2 ls.length c2) := by rw [cell_of_row w0 _ _ _ _ _ hk]; rfl
  clear hk
  cases hlo : longB [((a1, vs.length, c1), (a2, ls.length, c2))] with
  | true =>
    refine wp_region_flow (S := SL [Kn.val (.agg #[.slice a1 vs.length c1, .slice a2 ls.length c2]), Kn.ros [((a1, vs.length, c1), (a2, ls.length, c2))], Kn.val (.bool true), Kn.val (.bool true), Kn.val undef, Kn.val undef, Kn.val undef, Kn.val undef, Kn.val undef, Kn.val (.bool true), Kn.val (.bool true), Kn.val (.bool true), Kn.val (.bool true), Kn.val (.bool true)]) (by kernel_rfl) (SL_stable _) (by kernel_rfl) (by kernel_rfl) ?_ ?_
    · intro i hi
      match i, hi with
        | 0, _ =>
          refine fs_plain _ _ rfl rfl rfl ?_
          intro a w1 hb hrest hneed
          have ep : a.tmps.getD 1 undef = .pointer (some ⟨w.heap.size, 0, none⟩) := (hrest 1 (by kernel_rfl)).trans rfl
          have ep' := (Array.getD_eq_getD_getElem? ..).symm.trans ep
          have d0 := lay_later hb c0
          have d1 := lay_later hb c1'
          clear hneed hrest
          go_simp
          exact ⟨_, rfl, rfl, Below.refl _ _⟩
        | 1, _ =>
          refine fs_plain _ _ rfl rfl rfl ?_
          intro a w1 hb hrest hneed
          have e3 : a.tmps.getD 3 undef = (.agg #[.slice a1 vs.length c1, .slice a2 ls.length c2]) := hneed 0 3 rfl rfl
          have e3' := (Array.getD_eq_getD_getElem? ..).symm.trans e3
          clear hneed hrest
          go_simp
          exact ⟨_, rfl, block_in roL w1 [((a1, vs.length, c1), (a2, ls.length, c2))] _ _ 1 rfl rfl (by decide), lay_alloc _ _⟩
        | 2, _ =>
          refine fs_plain _ _ rfl rfl rfl ?_
          intro a w1 hb hrest hneed
          have r4 : SK (.ros [((a1, vs.length, c1), (a2, ls.length, c2))]) w1 (a.tmps.getD 4 undef) := hneed 1 4 rfl rfl
          obtain ⟨u4, e4⟩ : ∃ u, a.tmps.getD 4 undef = u := ⟨_, rfl⟩
          rw [e4] at r4
          have e4' := (Array.getD_eq_getD_getElem? ..).symm.trans e4
          clear hneed hrest
          have H := long_any r4 (by simp)
          rw [hlo] at H
          go_simp
          refine H.mono ?_
          rintro e w2 ⟨rfl, hb2⟩
          exact ⟨_, rfl, rfl, hb2⟩
        | 3, _ =>
          refine fs_plain _ _ rfl rfl rfl ?_
          intro a w1 hb hrest hneed
          have e5 : a.tmps.getD 5 undef = (.bool true) := hneed 2 5 rfl rfl
          have e5' := (Array.getD_eq_getD_getElem? ..).symm.trans e5
          clear hneed hrest
          go_simp
          exact ⟨_, rfl, rfl, Below.refl _ _⟩
        | 4, _ => exact fs_skip _ _ 3 6 false rfl rfl rfl rfl rfl (fun w v h => h) (fun w => rfl)
        | 5, _ => exact fs_skip _ _ 3 6 false rfl rfl rfl rfl rfl (fun w v h => h) (fun w => rfl)
        | 6, _ => exact fs_skip _ _ 3 6 false rfl rfl rfl rfl rfl (fun w v h => h) (fun w => rfl)
        | 7, _ => exact fs_skip _ _ 3 6 false rfl rfl rfl rfl rfl (fun w v h => h) (fun w => rfl)
        | 8, _ => exact fs_skip _ _ 3 6 false rfl rfl rfl rfl rfl (fun w v h => h) (fun w => rfl)
        | 9, _ =>
          refine fs_plain _ _ rfl rfl rfl ?_
          intro a w1 hb hrest hneed
          have e6 : a.tmps.getD 6 undef = (.bool true) := hneed 3 6 rfl rfl
          have e6' := (Array.getD_eq_getD_getElem? ..).symm.trans e6
          clear hneed hrest
          go_simp
          exact ⟨_, rfl, rfl, Below.refl _ _⟩
        | 10, _ =>
          refine fs_plain _ _ rfl rfl rfl ?_
          intro a w1 hb hrest hneed
          have e12 : a.tmps.getD 12 undef = (.bool true) := hneed 9 12 rfl rfl
          have e12' := (Array.getD_eq_getD_getElem? ..).symm.trans e12
          clear hneed hrest
          go_simp
          exact ⟨_, rfl, rfl, Below.refl _ _⟩
        | 11, _ =>
          refine fs_guard _ _ 10 13 true rfl rfl rfl rfl rfl (fun w v h => h) ?_
          intro a w1 hb hrest hneed
          clear hneed hrest
          have H := awake_any w1
          go_simp
          refine H.mono ?_
          rintro e w2 ⟨rfl, hb2⟩
          exact ⟨_, rfl, rfl, hb2⟩
        | 12, _ =>
          refine fs_plain _ _ rfl rfl rfl ?_
          intro a w1 hb hrest hneed
          have e13 : a.tmps.getD 13 undef = (.bool true) := hneed 10 13 rfl rfl
          have e13' := (Array.getD_eq_getD_getElem? ..).symm.trans e13
          have e14 : a.tmps.getD 14 undef = (.bool true) := hneed 11 14 rfl rfl
          have e14' := (Array.getD_eq_getD_getElem? ..).symm.trans e14
          clear hneed hrest
          go_simp
          exact ⟨_, rfl, rfl, Below.refl _ _⟩
        | 13, _ =>
          refine fs_plain _ _ rfl rfl rfl ?_
          intro a w1 hb hrest hneed
          have e15 : a.tmps.getD 15 undef = (.bool true) := hneed 12 15 rfl rfl
          have e15' := (Array.getD_eq_getD_getElem? ..).symm.trans e15
          clear hneed hrest
          go_simp
          exact ⟨_, rfl, rfl, Below.refl _ _⟩
        | n + 14, h => exact absurd h (by simp)
    · intro a w' hb hd hs hr hg
      have e0 : a.tmps.getD 2 undef = .bool true := hg 13 (by decide) 2 rfl
      have hd : a.defers = [] := hd
      clear hs hr hg
      have HBB := Lib.hid (HB.out.trans (hb.mono HB.out.size))
      clear hb
      go_wp2_with fail
      refine bodyPost_ret (results_tmp rfl _ _ _) hd ?_
      exact ⟨congrArg Ending.returned e0, HBB.out⟩
  | false =>
    have hl1 : vs.length ≤ 100000 := by have := short1 hlo; omega
    have hl2 : ls.length ≤ 100000 := by have := short1 hlo; omega
    refine wp_region_flow (S := SL [Kn.val (.agg #[.slice a1 vs.length c1, .slice a2 ls.length c2]), Kn.ros [((a1, vs.length, c1), (a2, ls.length, c2))], Kn.val (.bool false), Kn.val (.bool false), Kn.val (.agg #[.slice a1 vs.length c1, .slice a2 ls.length c2]), Kn.val (.int .i64 (ckE vs ls)), Kn.val (.agg #[.slice a1 vs.length c1, .slice a2 ls.length c2]), Kn.val (.int .i64 (ckE vs ls)), Kn.val (.bool true), Kn.val (.bool true), Kn.val (.bool true), Kn.val (.bool true), Kn.val (.bool true), Kn.val (.bool true)]) (by kernel_rfl) (SL_stable _) (by kernel_rfl) (by kernel_rfl) ?_ ?_
    · intro i hi
      match i, hi with
        | 0, _ =>
          refine fs_plain _ _ rfl rfl rfl ?_
          intro a w1 hb hrest hneed
          have ep : a.tmps.getD 1 undef = .pointer (some ⟨w.heap.size, 0, none⟩) := (hrest 1 (by kernel_rfl)).trans rfl
          have ep' := (Array.getD_eq_getD_getElem? ..).symm.trans ep
          have d0 := lay_later hb c0
          have d1 := lay_later hb c1'
          clear hneed hrest
          go_simp
          exact ⟨_, rfl, rfl, Below.refl _ _⟩
        | 1, _ =>
          refine fs_plain _ _ rfl rfl rfl ?_
          intro a w1 hb hrest hneed
          have e3 : a.tmps.getD 3 undef = (.agg #[.slice a1 vs.length c1, .slice a2 ls.length c2]) := hneed 0 3 rfl rfl
          have e3' := (Array.getD_eq_getD_getElem? ..).symm.trans e3
          clear hneed hrest
          go_simp
          exact ⟨_, rfl, block_in roL w1 [((a1, vs.length, c1), (a2, ls.length, c2))] _ _ 1 rfl rfl (by decide), lay_alloc _ _⟩
        | 2, _ =>
          refine fs_plain _ _ rfl rfl rfl ?_
          intro a w1 hb hrest hneed
          have r4 : SK (.ros [((a1, vs.length, c1), (a2, ls.length, c2))]) w1 (a.tmps.getD 4 undef) := hneed 1 4 rfl rfl
          obtain ⟨u4, e4⟩ : ∃ u, a.tmps.getD 4 undef = u := ⟨_, rfl⟩
          rw [e4] at r4
          have e4' := (Array.getD_eq_getD_getElem? ..).symm.trans e4
          clear hneed hrest
          have H := long_any r4 (by simp)
          rw [hlo] at H
          go_simp
          refine H.mono ?_
          rintro e w2 ⟨rfl, hb2⟩
          exact ⟨_, rfl, rfl, hb2⟩
        | 3, _ =>
          refine fs_plain _ _ rfl rfl rfl ?_
          intro a w1 hb hrest hneed
          have e5 : a.tmps.getD 5 undef = (.bool false) := hneed 2 5 rfl rfl
          have e5' := (Array.getD_eq_getD_getElem? ..).symm.trans e5
          clear hneed hrest
          go_simp
          exact ⟨_, rfl, rfl, Below.refl _ _⟩
        | 4, _ =>
          refine fs_guard _ _ 3 6 false rfl rfl rfl rfl rfl (fun w v h => h) ?_
          intro a w1 hb hrest hneed
          have ep : a.tmps.getD 1 undef = .pointer (some ⟨w.heap.size, 0, none⟩) := (hrest 1 (by kernel_rfl)).trans rfl
          have ep' := (Array.getD_eq_getD_getElem? ..).symm.trans ep
          have d0 := lay_later hb c0
          have d1 := lay_later hb c1'
          clear hneed hrest
          go_simp
          exact ⟨_, rfl, rfl, Below.refl _ _⟩
        | 5, _ =>
          refine fs_guard _ _ 3 6 false rfl rfl rfl rfl rfl (fun w v h => h) ?_
          intro a w1 hb hrest hneed
          have e7 : a.tmps.getD 7 undef = (.agg #[.slice a1 vs.length c1, .slice a2 ls.length c2]) := hneed 4 7 rfl rfl
          have e7' := (Array.getD_eq_getD_getElem? ..).symm.trans e7
          clear hneed hrest
          have H := Check_any (HI.out.later hb)
          go_simp
          refine H.mono ?_
          rintro e w2 ⟨rfl, hb2⟩
          exact ⟨_, rfl, rfl, hb2⟩
        | 6, _ =>
          refine fs_guard _ _ 3 6 false rfl rfl rfl rfl rfl (fun w v h => h) ?_
          intro a w1 hb hrest hneed
          have ep : a.tmps.getD 1 undef = .pointer (some ⟨w.heap.size, 0, none⟩) := (hrest 1 (by kernel_rfl)).trans rfl
          have ep' := (Array.getD_eq_getD_getElem? ..).symm.trans ep
          have d0 := lay_later hb c0
          have d1 := lay_later hb c1'
          clear hneed hrest
          go_simp
          exact ⟨_, rfl, rfl, Below.refl _ _⟩
        | 7, _ =>
          refine fs_guard _ _ 3 6 false rfl rfl rfl rfl rfl (fun w v h => h) ?_
          intro a w1 hb hrest hneed
          have e9 : a.tmps.getD 9 undef = (.agg #[.slice a1 vs.length c1, .slice a2 ls.length c2]) := hneed 6 9 rfl rfl
          have e9' := (Array.getD_eq_getD_getElem? ..).symm.trans e9
          clear hneed hrest
          have H := RCheck_any (HI.out.later hb) hl1 hl2
          go_simp
          refine H.mono ?_
          rintro e w2 ⟨rfl, hb2⟩
          exact ⟨_, rfl, rfl, hb2⟩
        | 8, _ =>
          refine fs_guard _ _ 3 6 false rfl rfl rfl rfl rfl (fun w v h => h) ?_
          intro a w1 hb hrest hneed
          have e8 : a.tmps.getD 8 undef = (.int .i64 (ckE vs ls)) := hneed 5 8 rfl rfl
          have e8' := (Array.getD_eq_getD_getElem? ..).symm.trans e8
          have e10 : a.tmps.getD 10 undef = (.int .i64 (ckE vs ls)) := hneed 7 10 rfl rfl
          have e10' := (Array.getD_eq_getD_getElem? ..).symm.trans e10
          clear hneed hrest
          go_simp
          exact ⟨_, rfl, (by show _ = _; simp), Below.refl _ _⟩
        | 9, _ =>
          refine fs_plain _ _ rfl rfl rfl ?_
          intro a w1 hb hrest hneed
          have e6 : a.tmps.getD 6 undef = (.bool false) := hneed 3 6 rfl rfl
          have e6' := (Array.getD_eq_getD_getElem? ..).symm.trans e6
          have e11 : a.tmps.getD 11 undef = (.bool true) := hneed 8 11 rfl rfl
          have e11' := (Array.getD_eq_getD_getElem? ..).symm.trans e11
          clear hneed hrest
          go_simp
          exact ⟨_, rfl, rfl, Below.refl _ _⟩
        | 10, _ =>
          refine fs_plain _ _ rfl rfl rfl ?_
          intro a w1 hb hrest hneed
          have e12 : a.tmps.getD 12 undef = (.bool true) := hneed 9 12 rfl rfl
          have e12' := (Array.getD_eq_getD_getElem? ..).symm.trans e12
          clear hneed hrest
          go_simp
          exact ⟨_, rfl, rfl, Below.refl _ _⟩
        | 11, _ =>
          refine fs_guard _ _ 10 13 true rfl rfl rfl rfl rfl (fun w v h => h) ?_
          intro a w1 hb hrest hneed
          clear hneed hrest
          have H := awake_any w1
          go_simp
          refine H.mono ?_
          rintro e w2 ⟨rfl, hb2⟩
          exact ⟨_, rfl, rfl, hb2⟩
        | 12, _ =>
          refine fs_plain _ _ rfl rfl rfl ?_
          intro a w1 hb hrest hneed
          have e13 : a.tmps.getD 13 undef = (.bool true) := hneed 10 13 rfl rfl
          have e13' := (Array.getD_eq_getD_getElem? ..).symm.trans e13
          have e14 : a.tmps.getD 14 undef = (.bool true) := hneed 11 14 rfl rfl
          have e14' := (Array.getD_eq_getD_getElem? ..).symm.trans e14
          clear hneed hrest
          go_simp
          exact ⟨_, rfl, rfl, Below.refl _ _⟩
        | 13, _ =>
          refine fs_plain _ _ rfl rfl rfl ?_
          intro a w1 hb hrest hneed
          have e15 : a.tmps.getD 15 undef = (.bool true) := hneed 12 15 rfl rfl
          have e15' := (Array.getD_eq_getD_getElem? ..).symm.trans e15
          clear hneed hrest
          go_simp
          exact ⟨_, rfl, rfl, Below.refl _ _⟩
        | n + 14, h => exact absurd h (by simp)
    · intro a w' hb hd hs hr hg
      have e0 : a.tmps.getD 2 undef = .bool true := hg 13 (by decide) 2 rfl
      have hd : a.defers = [] := hd
      clear hs hr hg
      have HBB := Lib.hid (HB.out.trans (hb.mono HB.out.size))
      clear hb
      go_wp2_with fail
      refine bodyPost_ret (results_tmp rfl _ _ _) hd ?_
      exact ⟨congrArg Ending.returned e0, HBB.out⟩
end Go.Proofs.Yticcmjiekopnbaa
