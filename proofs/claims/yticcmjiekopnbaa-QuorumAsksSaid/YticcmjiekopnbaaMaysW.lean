/-
  QuorumMays walked.
-/
import Derived.Test.YticcmjiekopnbaaLong
namespace Go.Proofs.Yticcmjiekopnbaa
set_option linter.unusedVariables false
set_option linter.unusedSimpArgs false
open Go.RowKit Go.Shelf

theorem short2 {a1 a2 a3 a4 : Option Addr} {n1 n2 n3 n4 c1 c2 c3 c4 : Nat} (h : longB [((a1, n1, c1), (a2, n2, c2)), ((a3, n3, c3), (a4, n4, c4))] = false) : (n1 ≤ 500 ∧ n2 ≤ 500) ∧ n3 ≤ 500 ∧ n4 ≤ 500 := by
  simp [longB, longP] at h
  omega
set_option maxRecDepth 100000 in
set_option maxHeartbeats 6400000 in
theorem Mays_law {w : World} {u v x y : Value} {vs ls us ms : List Int} (h : RoCs w u v vs ls) (h' : RoCs w x y us ms) : Calls Try.prog 4 #[.agg #[u, v], .agg #[x, y]] w (BoolP true w) := by
  have HM := Lib.hid (may2_new h h')
  obtain ⟨a1, c1, rfl, _, _⟩ := h.1.slice
  obtain ⟨a2, c2, rfl, _, _⟩ := h.2.slice
  obtain ⟨a3, c3, rfl, _, _⟩ := h'.1.slice
  obtain ⟨a4, c4, rfl, _, _⟩ := h'.2.slice
  clear h h'
  go_enter Try.func4, Try.ntmps4
  go_wp2_with fail
  generalize World.alloc _ _ = w0 at *
  have d0 := HM.out.d0; have d1 := HM.out.d1; have d2 := HM.out.d2; have d3 := HM.out.d3
  have HB := Lib.hid HM.out.b
  cases hlo : longB [((a1, vs.length, c1), (a2, ls.length, c2)), ((a3, us.length, c3), (a4, ms.length, c4))] with
  | true =>
    refine wp_region_flow (S := SL [Kn.val (.agg #[.slice a1 vs.length c1, .slice a2 ls.length c2]), Kn.val (.agg #[.slice a3 us.length c3, .slice a4 ms.length c4]), Kn.ros [((a1, vs.length, c1), (a2, ls.length, c2)), ((a3, us.length, c3), (a4, ms.length, c4))], Kn.val (.bool true), Kn.val (.bool true), Kn.val undef, Kn.val undef, Kn.val undef, Kn.val undef, Kn.val undef, Kn.val undef, Kn.val undef, Kn.val (.bool true), Kn.val (.bool true), Kn.val (.bool true), Kn.val (.bool true), Kn.val (.bool true)]) (by kernel_rfl) (SL_stable _) (by kernel_rfl) (by kernel_rfl) ?_ ?_
    · intro i hi
      match i, hi with
        | 0, _ =>
          refine fs_plain _ _ rfl rfl rfl ?_
          intro a w1 hb hrest hneed
          have ep : a.tmps.getD 2 undef = .pointer (some ⟨w.heap.size, 0, none⟩) := (hrest 2 (by kernel_rfl)).trans rfl
          have ep' := (Array.getD_eq_getD_getElem? ..).symm.trans ep
          have d0 := lay_later hb d0
          have d1 := lay_later hb d1
          clear hneed hrest
          go_simp
          exact ⟨_, rfl, rfl, Below.refl _ _⟩
        | 1, _ =>
          refine fs_plain _ _ rfl rfl rfl ?_
          intro a w1 hb hrest hneed
          have ep : a.tmps.getD 3 undef = .pointer (some ⟨w.heap.size + 1, 0, none⟩) := (hrest 3 (by kernel_rfl)).trans rfl
          have ep' := (Array.getD_eq_getD_getElem? ..).symm.trans ep
          have d0 := lay_later hb d2
          have d1 := lay_later hb d3
          clear hneed hrest
          go_simp
          exact ⟨_, rfl, rfl, Below.refl _ _⟩
        | 2, _ =>
          refine fs_plain _ _ rfl rfl rfl ?_
          intro a w1 hb hrest hneed
          have e5 : a.tmps.getD 5 undef = (.agg #[.slice a1 vs.length c1, .slice a2 ls.length c2]) := hneed 0 5 rfl rfl
          have e5' := (Array.getD_eq_getD_getElem? ..).symm.trans e5
          have e6 : a.tmps.getD 6 undef = (.agg #[.slice a3 us.length c3, .slice a4 ms.length c4]) := hneed 1 6 rfl rfl
          have e6' := (Array.getD_eq_getD_getElem? ..).symm.trans e6
          clear hneed hrest
          go_simp
          exact ⟨_, rfl, block_in roL w1 [((a1, vs.length, c1), (a2, ls.length, c2)), ((a3, us.length, c3), (a4, ms.length, c4))] _ _ 2 rfl rfl (by decide), lay_alloc _ _⟩
        | 3, _ =>
          refine fs_plain _ _ rfl rfl rfl ?_
          intro a w1 hb hrest hneed
          have r7 : SK (.ros [((a1, vs.length, c1), (a2, ls.length, c2)), ((a3, us.length, c3), (a4, ms.length, c4))]) w1 (a.tmps.getD 7 undef) := hneed 2 7 rfl rfl
          obtain ⟨u7, e7⟩ : ∃ u, a.tmps.getD 7 undef = u := ⟨_, rfl⟩
          rw [e7] at r7
          have e7' := (Array.getD_eq_getD_getElem? ..).symm.trans e7
          clear hneed hrest
          have H := long_any r7 (by simp)
          rw [hlo] at H
          go_simp
          refine H.mono ?_
          rintro e w2 ⟨rfl, hb2⟩
          exact ⟨_, rfl, rfl, hb2⟩
        | 4, _ =>
          refine fs_plain _ _ rfl rfl rfl ?_
          intro a w1 hb hrest hneed
          have e8 : a.tmps.getD 8 undef = (.bool true) := hneed 3 8 rfl rfl
          have e8' := (Array.getD_eq_getD_getElem? ..).symm.trans e8
          clear hneed hrest
          go_simp
          exact ⟨_, rfl, rfl, Below.refl _ _⟩
        | 5, _ => exact fs_skip _ _ 4 9 false rfl rfl rfl rfl rfl (fun w v h => h) (fun w => rfl)
        | 6, _ => exact fs_skip _ _ 4 9 false rfl rfl rfl rfl rfl (fun w v h => h) (fun w => rfl)
        | 7, _ => exact fs_skip _ _ 4 9 false rfl rfl rfl rfl rfl (fun w v h => h) (fun w => rfl)
        | 8, _ => exact fs_skip _ _ 4 9 false rfl rfl rfl rfl rfl (fun w v h => h) (fun w => rfl)
        | 9, _ => exact fs_skip _ _ 4 9 false rfl rfl rfl rfl rfl (fun w v h => h) (fun w => rfl)
        | 10, _ => exact fs_skip _ _ 4 9 false rfl rfl rfl rfl rfl (fun w v h => h) (fun w => rfl)
        | 11, _ => exact fs_skip _ _ 4 9 false rfl rfl rfl rfl rfl (fun w v h => h) (fun w => rfl)
        | 12, _ =>
          refine fs_plain _ _ rfl rfl rfl ?_
          intro a w1 hb hrest hneed
          have e9 : a.tmps.getD 9 undef = (.bool true) := hneed 4 9 rfl rfl
          have e9' := (Array.getD_eq_getD_getElem? ..).symm.trans e9
          clear hneed hrest
          go_simp
          exact ⟨_, rfl, rfl, Below.refl _ _⟩
        | 13, _ =>
          refine fs_plain _ _ rfl rfl rfl ?_
          intro a w1 hb hrest hneed
          have e17 : a.tmps.getD 17 undef = (.bool true) := hneed 12 17 rfl rfl
          have e17' := (Array.getD_eq_getD_getElem? ..).symm.trans e17
          clear hneed hrest
          go_simp
          exact ⟨_, rfl, rfl, Below.refl _ _⟩
        | 14, _ =>
          refine fs_guard _ _ 13 18 true rfl rfl rfl rfl rfl (fun w v h => h) ?_
          intro a w1 hb hrest hneed
          clear hneed hrest
          have H := awake_any w1
          go_simp
          refine H.mono ?_
          rintro e w2 ⟨rfl, hb2⟩
          exact ⟨_, rfl, rfl, hb2⟩
        | 15, _ =>
          refine fs_plain _ _ rfl rfl rfl ?_
          intro a w1 hb hrest hneed
          have e18 : a.tmps.getD 18 undef = (.bool true) := hneed 13 18 rfl rfl
          have e18' := (Array.getD_eq_getD_getElem? ..).symm.trans e18
          have e19 : a.tmps.getD 19 undef = (.bool true) := hneed 14 19 rfl rfl
          have e19' := (Array.getD_eq_getD_getElem? ..).symm.trans e19
          clear hneed hrest
          go_simp
          exact ⟨_, rfl, rfl, Below.refl _ _⟩
        | 16, _ =>
          refine fs_plain _ _ rfl rfl rfl ?_
          intro a w1 hb hrest hneed
          have e20 : a.tmps.getD 20 undef = (.bool true) := hneed 15 20 rfl rfl
          have e20' := (Array.getD_eq_getD_getElem? ..).symm.trans e20
          clear hneed hrest
          go_simp
          exact ⟨_, rfl, rfl, Below.refl _ _⟩
        | n + 17, h => exact absurd h (by simp)
    · intro a w' hb hd hs hr hg
      have e0 : a.tmps.getD 4 undef = .bool true := hg 16 (by decide) 4 rfl
      have hd : a.defers = [] := hd
      clear hs hr hg
      have HBB := Lib.hid (HB.out.trans (hb.mono HB.out.size))
      clear hb
      go_wp2_with fail
      refine bodyPost_ret (results_tmp rfl _ _ _) hd ?_
      exact ⟨congrArg Ending.returned e0, HBB.out⟩
  | false =>
    have hl1 : vs.length ≤ 100000 := by have := short2 hlo; omega
    have hl2 : ls.length ≤ 100000 := by have := short2 hlo; omega
    have hl3 : us.length ≤ 100000 := by have := short2 hlo; omega
    have hl4 : ms.length ≤ 100000 := by have := short2 hlo; omega
    refine wp_region_flow (S := SL [Kn.val (.agg #[.slice a1 vs.length c1, .slice a2 ls.length c2]), Kn.val (.agg #[.slice a3 us.length c3, .slice a4 ms.length c4]), Kn.ros [((a1, vs.length, c1), (a2, ls.length, c2)), ((a3, us.length, c3), (a4, ms.length, c4))], Kn.val (.bool false), Kn.val (.bool false), Kn.val (.agg #[.slice a1 vs.length c1, .slice a2 ls.length c2]), Kn.val (.agg #[.slice a3 us.length c3, .slice a4 ms.length c4]), Kn.val (.int .i64 (mayE vs ls us ms)), Kn.val (.agg #[.slice a1 vs.length c1, .slice a2 ls.length c2]), Kn.val (.agg #[.slice a3 us.length c3, .slice a4 ms.length c4]), Kn.val (.int .i64 (mayE vs ls us ms)), Kn.val (.bool true), Kn.val (.bool true), Kn.val (.bool true), Kn.val (.bool true), Kn.val (.bool true), Kn.val (.bool true)]) (by kernel_rfl) (SL_stable _) (by kernel_rfl) (by kernel_rfl) ?_ ?_
    · intro i hi
      match i, hi with
        | 0, _ =>
          refine fs_plain _ _ rfl rfl rfl ?_
          intro a w1 hb hrest hneed
          have ep : a.tmps.getD 2 undef = .pointer (some ⟨w.heap.size, 0, none⟩) := (hrest 2 (by kernel_rfl)).trans rfl
          have ep' := (Array.getD_eq_getD_getElem? ..).symm.trans ep
          have d0 := lay_later hb d0
          have d1 := lay_later hb d1
          clear hneed hrest
          go_simp
          exact ⟨_, rfl, rfl, Below.refl _ _⟩
        | 1, _ =>
          refine fs_plain _ _ rfl rfl rfl ?_
          intro a w1 hb hrest hneed
          have ep : a.tmps.getD 3 undef = .pointer (some ⟨w.heap.size + 1, 0, none⟩) := (hrest 3 (by kernel_rfl)).trans rfl
          have ep' := (Array.getD_eq_getD_getElem? ..).symm.trans ep
          have d0 := lay_later hb d2
          have d1 := lay_later hb d3
          clear hneed hrest
          go_simp
          exact ⟨_, rfl, rfl, Below.refl _ _⟩
        | 2, _ =>
          refine fs_plain _ _ rfl rfl rfl ?_
          intro a w1 hb hrest hneed
          have e5 : a.tmps.getD 5 undef = (.agg #[.slice a1 vs.length c1, .slice a2 ls.length c2]) := hneed 0 5 rfl rfl
          have e5' := (Array.getD_eq_getD_getElem? ..).symm.trans e5
          have e6 : a.tmps.getD 6 undef = (.agg #[.slice a3 us.length c3, .slice a4 ms.length c4]) := hneed 1 6 rfl rfl
          have e6' := (Array.getD_eq_getD_getElem? ..).symm.trans e6
          clear hneed hrest
          go_simp
          exact ⟨_, rfl, block_in roL w1 [((a1, vs.length, c1), (a2, ls.length, c2)), ((a3, us.length, c3), (a4, ms.length, c4))] _ _ 2 rfl rfl (by decide), lay_alloc _ _⟩
        | 3, _ =>
          refine fs_plain _ _ rfl rfl rfl ?_
          intro a w1 hb hrest hneed
          have r7 : SK (.ros [((a1, vs.length, c1), (a2, ls.length, c2)), ((a3, us.length, c3), (a4, ms.length, c4))]) w1 (a.tmps.getD 7 undef) := hneed 2 7 rfl rfl
          obtain ⟨u7, e7⟩ : ∃ u, a.tmps.getD 7 undef = u := ⟨_, rfl⟩
          rw [e7] at r7
          have e7' := (Array.getD_eq_getD_getElem? ..).symm.trans e7
          clear hneed hrest
          have H := long_any r7 (by simp)
          rw [hlo] at H
          go_simp
          refine H.mono ?_
          rintro e w2 ⟨rfl, hb2⟩
          exact ⟨_, rfl, rfl, hb2⟩
        | 4, _ =>
          refine fs_plain _ _ rfl rfl rfl ?_
          intro a w1 hb hrest hneed
          have e8 : a.tmps.getD 8 undef = (.bool false) := hneed 3 8 rfl rfl
          have e8' := (Array.getD_eq_getD_getElem? ..).symm.trans e8
          clear hneed hrest
          go_simp
          exact ⟨_, rfl, rfl, Below.refl _ _⟩
        | 5, _ =>
          refine fs_guard _ _ 4 9 false rfl rfl rfl rfl rfl (fun w v h => h) ?_
          intro a w1 hb hrest hneed
          have ep : a.tmps.getD 2 undef = .pointer (some ⟨w.heap.size, 0, none⟩) := (hrest 2 (by kernel_rfl)).trans rfl
          have ep' := (Array.getD_eq_getD_getElem? ..).symm.trans ep
          have d0 := lay_later hb d0
          have d1 := lay_later hb d1
          clear hneed hrest
          go_simp
          exact ⟨_, rfl, rfl, Below.refl _ _⟩
        | 6, _ =>
          refine fs_guard _ _ 4 9 false rfl rfl rfl rfl rfl (fun w v h => h) ?_
          intro a w1 hb hrest hneed
          have ep : a.tmps.getD 3 undef = .pointer (some ⟨w.heap.size + 1, 0, none⟩) := (hrest 3 (by kernel_rfl)).trans rfl
          have ep' := (Array.getD_eq_getD_getElem? ..).symm.trans ep
          have d0 := lay_later hb d2
          have d1 := lay_later hb d3
          clear hneed hrest
          go_simp
          exact ⟨_, rfl, rfl, Below.refl _ _⟩
        | 7, _ =>
          refine fs_guard _ _ 4 9 false rfl rfl rfl rfl rfl (fun w v h => h) ?_
          intro a w1 hb hrest hneed
          have e10 : a.tmps.getD 10 undef = (.agg #[.slice a1 vs.length c1, .slice a2 ls.length c2]) := hneed 5 10 rfl rfl
          have e10' := (Array.getD_eq_getD_getElem? ..).symm.trans e10
          have e11 : a.tmps.getD 11 undef = (.agg #[.slice a3 us.length c3, .slice a4 ms.length c4]) := hneed 6 11 rfl rfl
          have e11' := (Array.getD_eq_getD_getElem? ..).symm.trans e11
          clear hneed hrest
          have H := May_any (HM.out.later hb).r1 (HM.out.later hb).r2
          go_simp
          refine H.mono ?_
          rintro e w2 ⟨rfl, hb2⟩
          exact ⟨_, rfl, rfl, hb2⟩
        | 8, _ =>
          refine fs_guard _ _ 4 9 false rfl rfl rfl rfl rfl (fun w v h => h) ?_
          intro a w1 hb hrest hneed
          have ep : a.tmps.getD 2 undef = .pointer (some ⟨w.heap.size, 0, none⟩) := (hrest 2 (by kernel_rfl)).trans rfl
          have ep' := (Array.getD_eq_getD_getElem? ..).symm.trans ep
          have d0 := lay_later hb d0
          have d1 := lay_later hb d1
          clear hneed hrest
          go_simp
          exact ⟨_, rfl, rfl, Below.refl _ _⟩
        | 9, _ =>
          refine fs_guard _ _ 4 9 false rfl rfl rfl rfl rfl (fun w v h => h) ?_
          intro a w1 hb hrest hneed
          have ep : a.tmps.getD 3 undef = .pointer (some ⟨w.heap.size + 1, 0, none⟩) := (hrest 3 (by kernel_rfl)).trans rfl
          have ep' := (Array.getD_eq_getD_getElem? ..).symm.trans ep
          have d0 := lay_later hb d2
          have d1 := lay_later hb d3
          clear hneed hrest
          go_simp
          exact ⟨_, rfl, rfl, Below.refl _ _⟩
        | 10, _ =>
          refine fs_guard _ _ 4 9 false rfl rfl rfl rfl rfl (fun w v h => h) ?_
          intro a w1 hb hrest hneed
          have e13 : a.tmps.getD 13 undef = (.agg #[.slice a1 vs.length c1, .slice a2 ls.length c2]) := hneed 8 13 rfl rfl
          have e13' := (Array.getD_eq_getD_getElem? ..).symm.trans e13
          have e14 : a.tmps.getD 14 undef = (.agg #[.slice a3 us.length c3, .slice a4 ms.length c4]) := hneed 9 14 rfl rfl
          have e14' := (Array.getD_eq_getD_getElem? ..).symm.trans e14
          clear hneed hrest
          have H := RMay_any (HM.out.later hb).r1 (HM.out.later hb).r2 hl1 hl2 hl3 hl4
          go_simp
          refine H.mono ?_
          rintro e w2 ⟨rfl, hb2⟩
          exact ⟨_, rfl, rfl, hb2⟩
        | 11, _ =>
          refine fs_guard _ _ 4 9 false rfl rfl rfl rfl rfl (fun w v h => h) ?_
          intro a w1 hb hrest hneed
          have e12 : a.tmps.getD 12 undef = (.int .i64 (mayE vs ls us ms)) := hneed 7 12 rfl rfl
          have e12' := (Array.getD_eq_getD_getElem? ..).symm.trans e12
          have e15 : a.tmps.getD 15 undef = (.int .i64 (mayE vs ls us ms)) := hneed 10 15 rfl rfl
          have e15' := (Array.getD_eq_getD_getElem? ..).symm.trans e15
          clear hneed hrest
          go_simp
          exact ⟨_, rfl, (by show _ = _; simp), Below.refl _ _⟩
        | 12, _ =>
          refine fs_plain _ _ rfl rfl rfl ?_
          intro a w1 hb hrest hneed
          have e9 : a.tmps.getD 9 undef = (.bool false) := hneed 4 9 rfl rfl
          have e9' := (Array.getD_eq_getD_getElem? ..).symm.trans e9
          have e16 : a.tmps.getD 16 undef = (.bool true) := hneed 11 16 rfl rfl
          have e16' := (Array.getD_eq_getD_getElem? ..).symm.trans e16
          clear hneed hrest
          go_simp
          exact ⟨_, rfl, rfl, Below.refl _ _⟩
        | 13, _ =>
          refine fs_plain _ _ rfl rfl rfl ?_
          intro a w1 hb hrest hneed
          have e17 : a.tmps.getD 17 undef = (.bool true) := hneed 12 17 rfl rfl
          have e17' := (Array.getD_eq_getD_getElem? ..).symm.trans e17
          clear hneed hrest
          go_simp
          exact ⟨_, rfl, rfl, Below.refl _ _⟩
        | 14, _ =>
          refine fs_guard _ _ 13 18 true rfl rfl rfl rfl rfl (fun w v h => h) ?_
          intro a w1 hb hrest hneed
          clear hneed hrest
          have H := awake_any w1
          go_simp
          refine H.mono ?_
          rintro e w2 ⟨rfl, hb2⟩
          exact ⟨_, rfl, rfl, hb2⟩
        | 15, _ =>
          refine fs_plain _ _ rfl rfl rfl ?_
          intro a w1 hb hrest hneed
          have e18 : a.tmps.getD 18 undef = (.bool true) := hneed 13 18 rfl rfl
          have e18' := (Array.getD_eq_getD_getElem? ..).symm.trans e18
          have e19 : a.tmps.getD 19 undef = (.bool true) := hneed 14 19 rfl rfl
          have e19' := (Array.getD_eq_getD_getElem? ..).symm.trans e19
          clear hneed hrest
          go_simp
          exact ⟨_, rfl, rfl, Below.refl _ _⟩
        | 16, _ =>
          refine fs_plain _ _ rfl rfl rfl ?_
          intro a w1 hb hrest hneed
          have e20 : a.tmps.getD 20 undef = (.bool true) := hneed 15 20 rfl rfl
          have e20' := (Array.getD_eq_getD_getElem? ..).symm.trans e20
          clear hneed hrest
          go_simp
          exact ⟨_, rfl, rfl, Below.refl _ _⟩
        | n + 17, h => exact absurd h (by simp)
    · intro a w' hb hd hs hr hg
      have e0 : a.tmps.getD 4 undef = .bool true := hg 16 (by decide) 4 rfl
      have hd : a.defers = [] := hd
      clear hs hr hg
      have HBB := Lib.hid (HB.out.trans (hb.mono HB.out.size))
      clear hb
      go_wp2_with fail
      refine bodyPost_ret (results_tmp rfl _ _ _) hd ?_
      exact ⟨congrArg Ending.returned e0, HBB.out⟩
end Go.Proofs.Yticcmjiekopnbaa
