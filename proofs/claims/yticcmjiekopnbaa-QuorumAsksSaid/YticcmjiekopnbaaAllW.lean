/-
  QuorumAll walked.
-/
import Derived.Test.YticcmjiekopnbaaCat
import Derived.Test.YticcmjiekopnbaaChecksW
import Derived.Test.YticcmjiekopnbaaMostW
namespace Go.Proofs.Yticcmjiekopnbaa
set_option linter.unusedVariables false
set_option linter.unusedSimpArgs false
open Go.RowKit Go.Shelf

theorem maj_self {vs ls : List Int} (h : okR vs ls = true) : majB vs vs = true := by
  have hv := ((okR_iff _ _).1 h).2
  have : cntI vs vs = vs.length := List.countP_eq_length.2 fun x hx => (hasI_iff _ _).2 hx
  rw [majB_cnt, this, decide_eq_true_eq]; omega
theorem maj_none (vs : List Int) : majB vs [] = false := by
  have : cntI [] vs = 0 := List.countP_eq_zero.2 fun x hx => by simp [hasI]
  rw [majB_cnt, this]; simp
theorem maj_learn {vs ls : List Int} (so : List Int) (h : okR vs ls = true) : majB vs (so ++ ls) = majB vs so := by
  have hn := (List.nodup_append.1 ((okAll_iff _).1 ((okR_iff _ _).1 h).1).1).2.2
  have : cntI (so ++ ls) vs = cntI so vs := by
    unfold cntI
    refine List.countP_congr fun x hx => ?_
    rw [hasI_iff, hasI_iff, List.mem_append]
    exact ⟨fun h => h.elim id fun hl => absurd rfl (hn x hl x hx), .inl⟩
  rw [majB_cnt, majB_cnt, this]
theorem all_len {vs ls : List Int} (h : okR vs ls = true) : (allE (vs ++ ls)).length = vs.length + ls.length := by
  have hn := ((okAll_iff _).1 ((okR_iff _ _).1 h).1).1
  rw [allE_len ((List.perm_append_comm.nodup_iff).1 hn), List.length_append]

set_option maxRecDepth 100000 in
set_option maxHeartbeats 12800000 in
theorem All_law {w : World} {u v s : Value} {vs ls so : List Int} (h : RoCs w u v vs ls) (hs : intL.In w s so) : Calls Try.prog 10 #[.agg #[u, v], s] w (BoolP true w) := by
  have HS0 := Lib.hid hs
  obtain ⟨a3, c3, rfl, _, _⟩ := hs.slice
  have hb0 := lay_alloc w (.cells #[u, v] 24)
  have hk := Go.heap_alloc_new w (.cells #[u, v] 24)
  have HI := Lib.hid (h.later hb0)
  have HB := Lib.hid hb0
  obtain ⟨a1, c1, rfl, _, _⟩ := h.1.slice
  obtain ⟨a2, c2, rfl, _, _⟩ := h.2.slice
  have HS := Lib.hid (HS0.out.later hb0)
  have hz : (w.alloc (.cells #[.slice a1 vs.length c1, .slice a2 ls.length c2] 24)).heap.size = w.heap.size + 1 := by simp
  clear h hb0 hs HS0
  go_enter Try.func10, Try.ntmps10
  go_wp2_with fail
  generalize w.alloc _ = w0 at *
  have c0 : w0.cell? ⟨w.heap.size, 0, none⟩ = .some (.slice a1 vs.length c1) := by rw [cell_of_row w0 _ _ _ _ _ hk]; rfl
  have c1' : w0.cell? ⟨w.heap.size, 1, none⟩ = .some (.slice a2 ls.length c2) := by rw [cell_of_row w0 _ _ _ _ _ hk]; rfl
  clear hk
  have HR := block_in roL w0 [((a1, vs.length, c1), (a2, ls.length, c2))] #[.slice a1 vs.length c1, .slice a2 ls.length c2] 24 1 rfl rfl (by decide)
  rw [hz] at HR
  have HR := Lib.hid HR
  have hb1 := lay_alloc w0 (.cells #[.slice a1 vs.length c1, .slice a2 ls.length c2] 24)
  have c0 := lay_later hb1 c0
  have c1' := lay_later hb1 c1'
  have HI := Lib.hid (HI.out.later hb1)
  have HB := Lib.hid (HB.out.trans (hb1.mono HB.out.size))
  have HS := Lib.hid (HS.out.later hb1)
  clear hb1
  generalize World.alloc _ _ = w1 at *
  have HLo := Lib.hid (long_any HR.out (by simp))
  go_fit HLo.out
  rintro e w2 ⟨rfl, hb2⟩
  have c0 := lay_later hb2 c0
  have c1' := lay_later hb2 c1'
  have HI := Lib.hid (HI.out.later hb2)
  have HS := Lib.hid (HS.out.later hb2)
  have HB := Lib.hid (HB.out.trans (hb2.mono HB.out.size))
  clear hb2 HR HLo
  cases hlo : longB [((a1, vs.length, c1), (a2, ls.length, c2))] with
  | true =>
    go_wp2_with fail
    go_fit (awake_any w2)
    rintro e w3 ⟨rfl, hb3⟩
    have HB := Lib.hid (HB.out.trans (hb3.mono HB.out.size))
    clear hb3
    go_wp2_with fail
    go_ret
    exact ⟨rfl, HB.out⟩
  | false =>
    by_cases h5 : 500 < so.length
    · have h5' : (500 : Int) < (so.length : Int) := by omega
      go_wp2_with fail
      go_fit (awake_any w2)
      rintro e w3 ⟨rfl, hb3⟩
      have HB := Lib.hid (HB.out.trans (hb3.mono HB.out.size))
      clear hb3
      go_wp2_with fail
      go_ret
      exact ⟨rfl, HB.out⟩
    · have h5' : ¬ ((500 : Int) < (so.length : Int)) := by omega
      have hl1 : vs.length ≤ 100000 := by have := short1 hlo; omega
      have hl2 : ls.length ≤ 100000 := by have := short1 hlo; omega
      have hl3 : so.length ≤ 100000 := by omega
      have hl4 : (so ++ ls).length ≤ 100000 := by have := short1 hlo; rw [List.length_append]; omega
      have HLO := Lib.hid hlo
      have HL4 := Lib.hid hl4
      clear hlo hl4
      go_wp2_with fail
      go_fit (Check_any HI.out)
      rintro e w3 ⟨rfl, hb3⟩
      have c0 := lay_later hb3 c0
      have c1' := lay_later hb3 c1'
      have HI := Lib.hid (HI.out.later hb3)
      have HS := Lib.hid (HS.out.later hb3)
      have HB := Lib.hid (HB.out.trans (hb3.mono HB.out.size))
      clear hb3
      by_cases hok : okR vs ls = true
      · have HMV := Lib.hid (maj_self hok)
        have HMN := Lib.hid (maj_none vs)
        have HMC := Lib.hid (maj_learn so hok)
        have HAL := Lib.hid (all_len hok)
        have hc : ckE vs ls = 0 := by unfold ckE; rw [if_pos hok]
        rw [hc]
        clear hok hc h5
        go_wp2_with fail
        refine wp_region_flow (S := SL [Kn.val (.agg #[.slice a1 vs.length c1, .slice a2 ls.length c2]), Kn.val (.pointer (some ⟨w.heap.size, 0, none⟩)), Kn.val (.slice a1 vs.length c1), Kn.val (.bool true), Kn.val (.bool true), Kn.val (.agg #[.slice a1 vs.length c1, .slice a2 ls.length c2]), Kn.val (.bool false), Kn.val (.bool true), Kn.val (.bool true), Kn.val (.bool true), Kn.val (.agg #[.slice a1 vs.length c1, .slice a2 ls.length c2]), Kn.val (.slice a3 so.length c3), Kn.val (.bool (majB vs so)), Kn.val (.agg #[.slice a1 vs.length c1, .slice a2 ls.length c2]), Kn.val (.slice a3 so.length c3), Kn.val (.pointer (some ⟨w.heap.size, 1, none⟩)), Kn.val (.slice a2 ls.length c2), Kn.two (.slice a3 so.length c3) (.slice a2 ls.length c2), Kn.ints (so ++ ls), Kn.val (.bool (majB vs so)), Kn.val (.bool true), Kn.val (.bool true), Kn.val (.bool true), Kn.val (.agg #[.slice a1 vs.length c1, .slice a2 ls.length c2]), Kn.ints (allE (vs ++ ls)), Kn.val (.int .i64 ((vs.length + ls.length : Nat) : Int)), Kn.val (.pointer (some ⟨w.heap.size, 0, none⟩)), Kn.val (.slice a1 vs.length c1), Kn.val (.int .i64 (vs.length : Nat)), Kn.val (.pointer (some ⟨w.heap.size, 1, none⟩)), Kn.val (.slice a2 ls.length c2), Kn.val (.int .i64 (ls.length : Nat)), Kn.val (.int .i64 ((vs.length + ls.length : Nat) : Int)), Kn.val (.bool true), Kn.val (.bool true), Kn.val (.bool true), Kn.val (.bool true), Kn.val (.bool true), Kn.val (.bool true)]) (by kernel_rfl) (SL_stable _) (by kernel_rfl) (by kernel_rfl) ?_ ?_
        · intro i hi
          match i, hi with
            | 0, _ =>
              refine fs_plain _ _ rfl rfl rfl ?_
              intro a w1 hb hrest hneed
              have ep : a.tmps.getD 2 undef = .pointer (some ⟨w.heap.size, 0, none⟩) := (hrest 2 (by kernel_rfl)).trans rfl
              have ep' := (Array.getD_eq_getD_getElem? ..).symm.trans ep
              have d0 := lay_later hb c0
              have d1 := lay_later hb c1'
              clear hneed hrest
              go_simp
              exact ⟨_, rfl, rfl, Below.refl _ _⟩
            | 1, _ =>
              refine fs_plain _ _ rfl rfl rfl ?_
              intro a w1 hb hrest hneed
              have ep : a.tmps.getD 2 undef = .pointer (some ⟨w.heap.size, 0, none⟩) := (hrest 2 (by kernel_rfl)).trans rfl
              have ep' := (Array.getD_eq_getD_getElem? ..).symm.trans ep
              
              clear hneed hrest
              go_simp
              exact ⟨_, rfl, rfl, Below.refl _ _⟩
            | 2, _ =>
              refine fs_plain _ _ rfl rfl rfl ?_
              intro a w1 hb hrest hneed
              have e20 : a.tmps.getD 20 undef = (.pointer (some ⟨w.heap.size, 0, none⟩)) := hneed 1 20 rfl rfl
              have e20' := (Array.getD_eq_getD_getElem? ..).symm.trans e20
              clear hneed hrest
              have d0 := lay_later hb c0
              go_simp
              exact ⟨_, rfl, rfl, Below.refl _ _⟩
            | 3, _ =>
              refine fs_plain _ _ rfl rfl rfl ?_
              intro a w1 hb hrest hneed
              have e19 : a.tmps.getD 19 undef = (.agg #[.slice a1 vs.length c1, .slice a2 ls.length c2]) := hneed 0 19 rfl rfl
              have e19' := (Array.getD_eq_getD_getElem? ..).symm.trans e19
              have e21 : a.tmps.getD 21 undef = (.slice a1 vs.length c1) := hneed 2 21 rfl rfl
              have e21' := (Array.getD_eq_getD_getElem? ..).symm.trans e21
              clear hneed hrest
              have H := Majority_any (HI.out.later hb) (HI.out.1.later hb) hl1 hl1
              rw [HMV.out] at H
              go_simp
              refine H.mono ?_
              rintro e w2 ⟨rfl, hb2⟩
              exact ⟨_, rfl, rfl, hb2⟩
            | 4, _ =>
              refine fs_plain _ _ rfl rfl rfl ?_
              intro a w1 hb hrest hneed
              have e22 : a.tmps.getD 22 undef = (.bool true) := hneed 3 22 rfl rfl
              have e22' := (Array.getD_eq_getD_getElem? ..).symm.trans e22
              clear hneed hrest
              go_simp
              exact ⟨_, rfl, rfl, Below.refl _ _⟩
            | 5, _ =>
              refine fs_guard _ _ 4 23 true rfl rfl rfl rfl rfl (fun w v h => h) ?_
              intro a w1 hb hrest hneed
              have ep : a.tmps.getD 2 undef = .pointer (some ⟨w.heap.size, 0, none⟩) := (hrest 2 (by kernel_rfl)).trans rfl
              have ep' := (Array.getD_eq_getD_getElem? ..).symm.trans ep
              have d0 := lay_later hb c0
              have d1 := lay_later hb c1'
              clear hneed hrest
              go_simp
              exact ⟨_, rfl, rfl, Below.refl _ _⟩
            | 6, _ =>
              refine fs_guard _ _ 4 23 true rfl rfl rfl rfl rfl (fun w v h => h) ?_
              intro a w1 hb hrest hneed
              have e24 : a.tmps.getD 24 undef = (.agg #[.slice a1 vs.length c1, .slice a2 ls.length c2]) := hneed 5 24 rfl rfl
              have e24' := (Array.getD_eq_getD_getElem? ..).symm.trans e24
              clear hneed hrest
              have H := Majority_any (some := []) (HI.out.later hb) (Lay.In.nil w1) hl1 (by decide)
              rw [HMN.out] at H
              go_simp
              refine H.mono ?_
              rintro e w2 ⟨rfl, hb2⟩
              exact ⟨_, rfl, rfl, hb2⟩
            | 7, _ =>
              refine fs_guard _ _ 4 23 true rfl rfl rfl rfl rfl (fun w v h => h) ?_
              intro a w1 hb hrest hneed
              have e25 : a.tmps.getD 25 undef = (.bool false) := hneed 6 25 rfl rfl
              have e25' := (Array.getD_eq_getD_getElem? ..).symm.trans e25
              clear hneed hrest
              go_simp
              exact ⟨_, rfl, rfl, Below.refl _ _⟩
            | 8, _ =>
              refine fs_plain _ _ rfl rfl rfl ?_
              intro a w1 hb hrest hneed
              have e23 : a.tmps.getD 23 undef = (.bool true) := hneed 4 23 rfl rfl
              have e23' := (Array.getD_eq_getD_getElem? ..).symm.trans e23
              have e26 : a.tmps.getD 26 undef = (.bool true) := hneed 7 26 rfl rfl
              have e26' := (Array.getD_eq_getD_getElem? ..).symm.trans e26
              clear hneed hrest
              go_simp
              exact ⟨_, rfl, rfl, Below.refl _ _⟩
            | 9, _ =>
              refine fs_plain _ _ rfl rfl rfl ?_
              intro a w1 hb hrest hneed
              have e27 : a.tmps.getD 27 undef = (.bool true) := hneed 8 27 rfl rfl
              have e27' := (Array.getD_eq_getD_getElem? ..).symm.trans e27
              clear hneed hrest
              go_simp
              exact ⟨_, rfl, rfl, Below.refl _ _⟩
            | 10, _ =>
              refine fs_guard _ _ 9 28 true rfl rfl rfl rfl rfl (fun w v h => h) ?_
              intro a w1 hb hrest hneed
              have ep : a.tmps.getD 2 undef = .pointer (some ⟨w.heap.size, 0, none⟩) := (hrest 2 (by kernel_rfl)).trans rfl
              have ep' := (Array.getD_eq_getD_getElem? ..).symm.trans ep
              have d0 := lay_later hb c0
              have d1 := lay_later hb c1'
              clear hneed hrest
              go_simp
              exact ⟨_, rfl, rfl, Below.refl _ _⟩
            | 11, _ =>
              refine fs_guard _ _ 9 28 true rfl rfl rfl rfl rfl (fun w v h => h) ?_
              intro a w1 hb hrest hneed
              have ep : a.tmps.getD 1 undef = .slice a3 so.length c3 := (hrest 1 (by kernel_rfl)).trans rfl
              have ep' := (Array.getD_eq_getD_getElem? ..).symm.trans ep
              
              clear hneed hrest
              go_simp
              exact ⟨_, rfl, rfl, Below.refl _ _⟩
            | 12, _ =>
              refine fs_guard _ _ 9 28 true rfl rfl rfl rfl rfl (fun w v h => h) ?_
              intro a w1 hb hrest hneed
              have e29 : a.tmps.getD 29 undef = (.agg #[.slice a1 vs.length c1, .slice a2 ls.length c2]) := hneed 10 29 rfl rfl
              have e29' := (Array.getD_eq_getD_getElem? ..).symm.trans e29
              have e30 : a.tmps.getD 30 undef = (.slice a3 so.length c3) := hneed 11 30 rfl rfl
              have e30' := (Array.getD_eq_getD_getElem? ..).symm.trans e30
              clear hneed hrest
              have H := Majority_any (HI.out.later hb) (HS.out.later hb) hl1 hl3
              go_simp
              refine H.mono ?_
              rintro e w2 ⟨rfl, hb2⟩
              exact ⟨_, rfl, rfl, hb2⟩
            | 13, _ =>
              refine fs_guard _ _ 9 28 true rfl rfl rfl rfl rfl (fun w v h => h) ?_
              intro a w1 hb hrest hneed
              have ep : a.tmps.getD 2 undef = .pointer (some ⟨w.heap.size, 0, none⟩) := (hrest 2 (by kernel_rfl)).trans rfl
              have ep' := (Array.getD_eq_getD_getElem? ..).symm.trans ep
              have d0 := lay_later hb c0
              have d1 := lay_later hb c1'
              clear hneed hrest
              go_simp
              exact ⟨_, rfl, rfl, Below.refl _ _⟩
            | 14, _ =>
              refine fs_guard _ _ 9 28 true rfl rfl rfl rfl rfl (fun w v h => h) ?_
              intro a w1 hb hrest hneed
              have ep : a.tmps.getD 1 undef = .slice a3 so.length c3 := (hrest 1 (by kernel_rfl)).trans rfl
              have ep' := (Array.getD_eq_getD_getElem? ..).symm.trans ep
              
              clear hneed hrest
              go_simp
              exact ⟨_, rfl, rfl, Below.refl _ _⟩
            | 15, _ =>
              refine fs_guard _ _ 9 28 true rfl rfl rfl rfl rfl (fun w v h => h) ?_
              intro a w1 hb hrest hneed
              have ep : a.tmps.getD 2 undef = .pointer (some ⟨w.heap.size, 0, none⟩) := (hrest 2 (by kernel_rfl)).trans rfl
              have ep' := (Array.getD_eq_getD_getElem? ..).symm.trans ep
              
              clear hneed hrest
              go_simp
              exact ⟨_, rfl, rfl, Below.refl _ _⟩
            | 16, _ =>
              refine fs_guard _ _ 9 28 true rfl rfl rfl rfl rfl (fun w v h => h) ?_
              intro a w1 hb hrest hneed
              have e34 : a.tmps.getD 34 undef = (.pointer (some ⟨w.heap.size, 1, none⟩)) := hneed 15 34 rfl rfl
              have e34' := (Array.getD_eq_getD_getElem? ..).symm.trans e34
              clear hneed hrest
              have d0 := lay_later hb c1'
              go_simp
              exact ⟨_, rfl, rfl, Below.refl _ _⟩
            | 17, _ =>
              refine fs_guard _ _ 9 28 true rfl rfl rfl rfl rfl (fun w v h => h) ?_
              intro a w1 hb hrest hneed
              have e33 : a.tmps.getD 33 undef = (.slice a3 so.length c3) := hneed 14 33 rfl rfl
              have e33' := (Array.getD_eq_getD_getElem? ..).symm.trans e33
              have e35 : a.tmps.getD 35 undef = (.slice a2 ls.length c2) := hneed 16 35 rfl rfl
              have e35' := (Array.getD_eq_getD_getElem? ..).symm.trans e35
              clear hneed hrest
              have hk := Go.heap_alloc_new w1 (.cells #[.slice a3 so.length c3, .slice a2 ls.length c2] 22)
              go_simp
              exact ⟨_, rfl, ⟨_, rfl, by rw [cell_of_row _ _ _ _ _ _ hk]; rfl, by rw [cell_of_row _ _ _ _ _ _ hk]; rfl⟩, lay_alloc _ _⟩
            | 18, _ =>
              refine fs_guard _ _ 9 28 true rfl rfl rfl rfl rfl (fun w v h => h) ?_
              intro a w1 hb hrest hneed
              have r36 : SK (.two (.slice a3 so.length c3) (.slice a2 ls.length c2)) w1 (a.tmps.getD 36 undef) := hneed 17 36 rfl rfl
              obtain ⟨u36, e36⟩ : ∃ u, a.tmps.getD 36 undef = u := ⟨_, rfl⟩
              rw [e36] at r36
              have e36' := (Array.getD_eq_getD_getElem? ..).symm.trans e36
              clear hneed hrest
              obtain ⟨g36, rfl, q0, q1⟩ := r36
              have H := Concat_two q0 q1 (HS.out.later hb) (HI.out.2.later hb) hl3 hl2
              go_simp
              refine H.mono ?_
              rintro e w2 ⟨v2, rfl, hR2⟩
              exact ⟨_, rfl, hR2.told, hR2.grown⟩
            | 19, _ =>
              refine fs_guard _ _ 9 28 true rfl rfl rfl rfl rfl (fun w v h => h) ?_
              intro a w1 hb hrest hneed
              have e32 : a.tmps.getD 32 undef = (.agg #[.slice a1 vs.length c1, .slice a2 ls.length c2]) := hneed 13 32 rfl rfl
              have e32' := (Array.getD_eq_getD_getElem? ..).symm.trans e32
              have r37 : SK (.ints (so ++ ls)) w1 (a.tmps.getD 37 undef) := hneed 18 37 rfl rfl
              obtain ⟨u37, e37⟩ : ∃ u, a.tmps.getD 37 undef = u := ⟨_, rfl⟩
              rw [e37] at r37
              have e37' := (Array.getD_eq_getD_getElem? ..).symm.trans e37
              clear hneed hrest
              have H := Majority_any (HI.out.later hb) r37 hl1 HL4.out
              rw [HMC.out] at H
              go_simp
              refine H.mono ?_
              rintro e w2 ⟨rfl, hb2⟩
              exact ⟨_, rfl, rfl, hb2⟩
            | 20, _ =>
              refine fs_guard _ _ 9 28 true rfl rfl rfl rfl rfl (fun w v h => h) ?_
              intro a w1 hb hrest hneed
              have e31 : a.tmps.getD 31 undef = (.bool (majB vs so)) := hneed 12 31 rfl rfl
              have e31' := (Array.getD_eq_getD_getElem? ..).symm.trans e31
              have e38 : a.tmps.getD 38 undef = (.bool (majB vs so)) := hneed 19 38 rfl rfl
              have e38' := (Array.getD_eq_getD_getElem? ..).symm.trans e38
              clear hneed hrest
              go_simp
              exact ⟨_, rfl, (by show _ = _; simp), Below.refl _ _⟩
            | 21, _ =>
              refine fs_plain _ _ rfl rfl rfl ?_
              intro a w1 hb hrest hneed
              have e28 : a.tmps.getD 28 undef = (.bool true) := hneed 9 28 rfl rfl
              have e28' := (Array.getD_eq_getD_getElem? ..).symm.trans e28
              have e39 : a.tmps.getD 39 undef = (.bool true) := hneed 20 39 rfl rfl
              have e39' := (Array.getD_eq_getD_getElem? ..).symm.trans e39
              clear hneed hrest
              go_simp
              exact ⟨_, rfl, rfl, Below.refl _ _⟩
            | 22, _ =>
              refine fs_plain _ _ rfl rfl rfl ?_
              intro a w1 hb hrest hneed
              have e40 : a.tmps.getD 40 undef = (.bool true) := hneed 21 40 rfl rfl
              have e40' := (Array.getD_eq_getD_getElem? ..).symm.trans e40
              clear hneed hrest
              go_simp
              exact ⟨_, rfl, rfl, Below.refl _ _⟩
            | 23, _ =>
              refine fs_guard _ _ 22 41 true rfl rfl rfl rfl rfl (fun w v h => h) ?_
              intro a w1 hb hrest hneed
              have ep : a.tmps.getD 2 undef = .pointer (some ⟨w.heap.size, 0, none⟩) := (hrest 2 (by kernel_rfl)).trans rfl
              have ep' := (Array.getD_eq_getD_getElem? ..).symm.trans ep
              have d0 := lay_later hb c0
              have d1 := lay_later hb c1'
              clear hneed hrest
              go_simp
              exact ⟨_, rfl, rfl, Below.refl _ _⟩
            | 24, _ =>
              refine fs_guard _ _ 22 41 true rfl rfl rfl rfl rfl (fun w v h => h) ?_
              intro a w1 hb hrest hneed
              have e42 : a.tmps.getD 42 undef = (.agg #[.slice a1 vs.length c1, .slice a2 ls.length c2]) := hneed 23 42 rfl rfl
              have e42' := (Array.getD_eq_getD_getElem? ..).symm.trans e42
              clear hneed hrest
              have H := All_any (HI.out.later hb) hl1 hl2
              go_simp
              refine H.mono ?_
              rintro e w2 ⟨v2, rfl, hR2⟩
              exact ⟨_, rfl, hR2.told, hR2.grown⟩
            | 25, _ =>
              refine fs_guard _ _ 22 41 true rfl rfl rfl rfl rfl (fun w v h => h) ?_
              intro a w1 hb hrest hneed
              have r43 : SK (.ints (allE (vs ++ ls))) w1 (a.tmps.getD 43 undef) := hneed 24 43 rfl rfl
              obtain ⟨u43, e43⟩ : ∃ u, a.tmps.getD 43 undef = u := ⟨_, rfl⟩
              rw [e43] at r43
              have e43' := (Array.getD_eq_getD_getElem? ..).symm.trans e43
              clear hneed hrest
              obtain ⟨a43, c43, he, _, _⟩ := Lay.In.slice r43
              rw [HAL.out] at he
              subst he
              go_simp
              exact ⟨_, rfl, (by show _ = _; simp), Below.refl _ _⟩
            | 26, _ =>
              refine fs_guard _ _ 22 41 true rfl rfl rfl rfl rfl (fun w v h => h) ?_
              intro a w1 hb hrest hneed
              have ep : a.tmps.getD 2 undef = .pointer (some ⟨w.heap.size, 0, none⟩) := (hrest 2 (by kernel_rfl)).trans rfl
              have ep' := (Array.getD_eq_getD_getElem? ..).symm.trans ep
              
              clear hneed hrest
              go_simp
              exact ⟨_, rfl, rfl, Below.refl _ _⟩
            | 27, _ =>
              refine fs_guard _ _ 22 41 true rfl rfl rfl rfl rfl (fun w v h => h) ?_
              intro a w1 hb hrest hneed
              have e45 : a.tmps.getD 45 undef = (.pointer (some ⟨w.heap.size, 0, none⟩)) := hneed 26 45 rfl rfl
              have e45' := (Array.getD_eq_getD_getElem? ..).symm.trans e45
              clear hneed hrest
              have d0 := lay_later hb c0
              go_simp
              exact ⟨_, rfl, rfl, Below.refl _ _⟩
            | 28, _ =>
              refine fs_guard _ _ 22 41 true rfl rfl rfl rfl rfl (fun w v h => h) ?_
              intro a w1 hb hrest hneed
              have e46 : a.tmps.getD 46 undef = (.slice a1 vs.length c1) := hneed 27 46 rfl rfl
              have e46' := (Array.getD_eq_getD_getElem? ..).symm.trans e46
              clear hneed hrest
              go_simp
              exact ⟨_, rfl, rfl, Below.refl _ _⟩
            | 29, _ =>
              refine fs_guard _ _ 22 41 true rfl rfl rfl rfl rfl (fun w v h => h) ?_
              intro a w1 hb hrest hneed
              have ep : a.tmps.getD 2 undef = .pointer (some ⟨w.heap.size, 0, none⟩) := (hrest 2 (by kernel_rfl)).trans rfl
              have ep' := (Array.getD_eq_getD_getElem? ..).symm.trans ep
              
              clear hneed hrest
              go_simp
              exact ⟨_, rfl, rfl, Below.refl _ _⟩
            | 30, _ =>
              refine fs_guard _ _ 22 41 true rfl rfl rfl rfl rfl (fun w v h => h) ?_
              intro a w1 hb hrest hneed
              have e48 : a.tmps.getD 48 undef = (.pointer (some ⟨w.heap.size, 1, none⟩)) := hneed 29 48 rfl rfl
              have e48' := (Array.getD_eq_getD_getElem? ..).symm.trans e48
              clear hneed hrest
              have d0 := lay_later hb c1'
              go_simp
              exact ⟨_, rfl, rfl, Below.refl _ _⟩
            | 31, _ =>
              refine fs_guard _ _ 22 41 true rfl rfl rfl rfl rfl (fun w v h => h) ?_
              intro a w1 hb hrest hneed
              have e49 : a.tmps.getD 49 undef = (.slice a2 ls.length c2) := hneed 30 49 rfl rfl
              have e49' := (Array.getD_eq_getD_getElem? ..).symm.trans e49
              clear hneed hrest
              go_simp
              exact ⟨_, rfl, rfl, Below.refl _ _⟩
            | 32, _ =>
              refine fs_guard _ _ 22 41 true rfl rfl rfl rfl rfl (fun w v h => h) ?_
              intro a w1 hb hrest hneed
              have e47 : a.tmps.getD 47 undef = (.int .i64 (vs.length : Nat)) := hneed 28 47 rfl rfl
              have e47' := (Array.getD_eq_getD_getElem? ..).symm.trans e47
              have e50 : a.tmps.getD 50 undef = (.int .i64 (ls.length : Nat)) := hneed 31 50 rfl rfl
              have e50' := (Array.getD_eq_getD_getElem? ..).symm.trans e50
              clear hneed hrest
              have ew : IntKind.i64.wrap ((vs.length : Int) + (ls.length : Int)) = ((vs.length + ls.length : Nat) : Int) := by rw [IntWalk.i64_in _ (by omega)]; omega
              go_simp
              exact ⟨_, rfl, (by show _ = _; first | rfl | simp), Below.refl _ _⟩
            | 33, _ =>
              refine fs_guard _ _ 22 41 true rfl rfl rfl rfl rfl (fun w v h => h) ?_
              intro a w1 hb hrest hneed
              have e44 : a.tmps.getD 44 undef = (.int .i64 ((vs.length + ls.length : Nat) : Int)) := hneed 25 44 rfl rfl
              have e44' := (Array.getD_eq_getD_getElem? ..).symm.trans e44
              have e51 : a.tmps.getD 51 undef = (.int .i64 ((vs.length + ls.length : Nat) : Int)) := hneed 32 51 rfl rfl
              have e51' := (Array.getD_eq_getD_getElem? ..).symm.trans e51
              clear hneed hrest
              go_simp
              exact ⟨_, rfl, (by show _ = _; simp), Below.refl _ _⟩
            | 34, _ =>
              refine fs_plain _ _ rfl rfl rfl ?_
              intro a w1 hb hrest hneed
              have e41 : a.tmps.getD 41 undef = (.bool true) := hneed 22 41 rfl rfl
              have e41' := (Array.getD_eq_getD_getElem? ..).symm.trans e41
              have e52 : a.tmps.getD 52 undef = (.bool true) := hneed 33 52 rfl rfl
              have e52' := (Array.getD_eq_getD_getElem? ..).symm.trans e52
              clear hneed hrest
              go_simp
              exact ⟨_, rfl, rfl, Below.refl _ _⟩
            | 35, _ =>
              refine fs_plain _ _ rfl rfl rfl ?_
              intro a w1 hb hrest hneed
              have e53 : a.tmps.getD 53 undef = (.bool true) := hneed 34 53 rfl rfl
              have e53' := (Array.getD_eq_getD_getElem? ..).symm.trans e53
              clear hneed hrest
              go_simp
              exact ⟨_, rfl, rfl, Below.refl _ _⟩
            | 36, _ =>
              refine fs_guard _ _ 35 54 true rfl rfl rfl rfl rfl (fun w v h => h) ?_
              intro a w1 hb hrest hneed
              clear hneed hrest
              have H := awake_any w1
              go_simp
              refine H.mono ?_
              rintro e w2 ⟨rfl, hb2⟩
              exact ⟨_, rfl, rfl, hb2⟩
            | 37, _ =>
              refine fs_plain _ _ rfl rfl rfl ?_
              intro a w1 hb hrest hneed
              have e54 : a.tmps.getD 54 undef = (.bool true) := hneed 35 54 rfl rfl
              have e54' := (Array.getD_eq_getD_getElem? ..).symm.trans e54
              have e55 : a.tmps.getD 55 undef = (.bool true) := hneed 36 55 rfl rfl
              have e55' := (Array.getD_eq_getD_getElem? ..).symm.trans e55
              clear hneed hrest
              go_simp
              exact ⟨_, rfl, rfl, Below.refl _ _⟩
            | 38, _ =>
              refine fs_plain _ _ rfl rfl rfl ?_
              intro a w1 hb hrest hneed
              have e56 : a.tmps.getD 56 undef = (.bool true) := hneed 37 56 rfl rfl
              have e56' := (Array.getD_eq_getD_getElem? ..).symm.trans e56
              clear hneed hrest
              go_simp
              exact ⟨_, rfl, rfl, Below.refl _ _⟩
            | n + 39, h => exact absurd h (by simp)
        · intro a w' hb hd hs hr hg
          have e0 : a.tmps.getD 4 undef = .bool true := hg 38 (by decide) 4 rfl
          have hd : a.defers = [] := hd
          clear hs hr hg
          have HBB := Lib.hid (HB.out.trans (hb.mono HB.out.size))
          clear hb
          go_wp2_with fail
          refine bodyPost_ret (results_tmp rfl _ _ _) hd ?_
          exact ⟨congrArg Ending.returned e0, HBB.out⟩
      · have hc : ckE vs ls = 110 := by unfold ckE; rw [if_neg hok]
        rw [hc]
        clear hok hc
        go_wp2_with fail
        go_fit (awake_any w3)
        rintro e wz ⟨rfl, hbz⟩
        have HB := Lib.hid (HB.out.trans (hbz.mono HB.out.size))
        clear hbz
        go_wp2_with fail
        go_ret
        exact ⟨rfl, HB.out⟩
end Go.Proofs.Yticcmjiekopnbaa
