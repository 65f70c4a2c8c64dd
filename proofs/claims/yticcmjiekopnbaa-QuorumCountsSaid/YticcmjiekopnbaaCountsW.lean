/-
  QuorumCounts walked.
-/
import Derived.Test.YticcmjiekopnbaaChecksW
namespace Go.Proofs.Yticcmjiekopnbaa
set_option linter.unusedVariables false
set_option linter.unusedSimpArgs false
open Go.RowKit Go.Shelf

set_option maxRecDepth 100000 in
set_option maxHeartbeats 6400000 in
theorem Counts_law {w : World} {u v s : Value} {vs ls so : List Int} (h : RoCs w u v vs ls) (hs : intL.In w s so) : Calls Try.prog 6 #[.agg #[u, v], s] w (BoolP true w) := by
  have HS0 := Lib.hid hs
  obtain ⟨a3, c3, rfl, _, _⟩ := hs.slice
  have hb0 := lay_alloc w (.cells #[u, v] 24)
  have hk := Go.heap_alloc_new w (.cells #[u, v] 24)
  have HI := Lib.hid (h.later hb0)
  have HB := Lib.hid hb0
  obtain ⟨a1, c1, rfl, _, _⟩ := h.1.slice
  obtain ⟨a2, c2, rfl, _, _⟩ := h.2.slice
  have HS := Lib.hid (HS0.out.later hb0)
  have hz : (w.alloc (.cells #[.slice a1 vs.length c1, .slice a2 ls.length c2] 24)).heap.size = w.heap.size + 1 := by simp
  clear h hb0 hs HS0
  go_enter Try.func6, Try.ntmps6
  go_wp2_with fail
  generalize w.alloc _ = w0 at *
  have c0 : w0.cell? ⟨w.heap.size, 0, none⟩ = .some (.slice a1 vs.length c1) := by rw [cell_of_row w0 _ _ _ _ _ hk]; rfl
  have c1' : w0.cell? ⟨w.heap.size, 1, none⟩ = .some (.slice a2 ls.length c2) := by rw [cell_of_row w0 _ _ _ _ _ hk]; rfl
  clear hk
  have HR := block_in roL w0 [((a1, vs.length, c1), (a2, ls.length, c2))] #[.slice a1 vs.length c1, .slice a2 ls.length c2] 24 1 rfl rfl (by decide)
  rw [hz] at HR
  have HR := Lib.hid HR
  have hb1 := lay_alloc w0 (.cells #[.slice a1 vs.length c1, .slice a2 ls.length c2] 24)
  have c0 := lay_later hb1 c0
  have c1' := lay_later hb1 c1'
  have HI := Lib.hid (HI.out.later hb1)
  have HB := Lib.hid (HB.out.trans (hb1.mono HB.out.size))
  have HS := Lib.hid (HS.out.later hb1)
  clear hb1
  generalize World.alloc _ _ = w1 at *
  have HLo := Lib.hid (long_any HR.out (by simp))
  go_fit HLo.out
  rintro e w2 ⟨rfl, hb2⟩
  have c0 := lay_later hb2 c0
  have c1' := lay_later hb2 c1'
  have HI := Lib.hid (HI.out.later hb2)
  have HS := Lib.hid (HS.out.later hb2)
  have HB := Lib.hid (HB.out.trans (hb2.mono HB.out.size))
  clear hb2 HR HLo
  cases hlo : longB [((a1, vs.length, c1), (a2, ls.length, c2))] with
  | true =>
    go_wp2_with fail
    go_fit (awake_any w2)
    rintro e w3 ⟨rfl, hb3⟩
    have HB := Lib.hid (HB.out.trans (hb3.mono HB.out.size))
    clear hb3
    go_wp2_with fail
    go_ret
    exact ⟨rfl, HB.out⟩
  | false =>
    by_cases h5 : 500 < so.length
    · have h5' : (500 : Int) < (so.length : Int) := by omega
      go_wp2_with fail
      go_fit (awake_any w2)
      rintro e w3 ⟨rfl, hb3⟩
      have HB := Lib.hid (HB.out.trans (hb3.mono HB.out.size))
      clear hb3
      go_wp2_with fail
      go_ret
      exact ⟨rfl, HB.out⟩
    · have h5' : ¬ ((500 : Int) < (so.length : Int)) := by omega
      have hl1 : vs.length ≤ 100000 := by have := short1 hlo; omega
      have hl2 : so.length ≤ 100000 := by omega
      go_wp2_with fail
      refine wp_region_flow (S := SL [Kn.val (.agg #[.slice a1 vs.length c1, .slice a2 ls.length c2]), Kn.val (.slice a3 so.length c3), Kn.val (.bool (majB vs so)), Kn.val (.agg #[.slice a1 vs.length c1, .slice a2 ls.length c2]), Kn.val (.slice a3 so.length c3), Kn.val (.bool (majB vs so)), Kn.val (.bool true), Kn.val (.bool true), Kn.val (.bool true), Kn.val (.bool true), Kn.val (.bool true)]) (by kernel_rfl) (SL_stable _) (by kernel_rfl) (by kernel_rfl) ?_ ?_
      · intro i hi
        match i, hi with
          | 0, _ =>
            refine fs_plain _ _ rfl rfl rfl ?_
            intro a w1 hb hrest hneed
            have ep : a.tmps.getD 2 undef = .pointer (some ⟨w.heap.size, 0, none⟩) := (hrest 2 (by kernel_rfl)).trans rfl
            have ep' := (Array.getD_eq_getD_getElem? ..).symm.trans ep
            have d0 := lay_later hb c0
            have d1 := lay_later hb c1'
            clear hneed hrest
            go_simp
            exact ⟨_, rfl, rfl, Below.refl _ _⟩
          | 1, _ =>
            refine fs_plain _ _ rfl rfl rfl ?_
            intro a w1 hb hrest hneed
            have ep : a.tmps.getD 1 undef = .slice a3 so.length c3 := (hrest 1 (by kernel_rfl)).trans rfl
            have ep' := (Array.getD_eq_getD_getElem? ..).symm.trans ep
            
            clear hneed hrest
            go_simp
            exact ⟨_, rfl, rfl, Below.refl _ _⟩
          | 2, _ =>
            refine fs_plain _ _ rfl rfl rfl ?_
            intro a w1 hb hrest hneed
            have e14 : a.tmps.getD 14 undef = (.agg #[.slice a1 vs.length c1, .slice a2 ls.length c2]) := hneed 0 14 rfl rfl
            have e14' := (Array.getD_eq_getD_getElem? ..).symm.trans e14
            have e15 : a.tmps.getD 15 undef = (.slice a3 so.length c3) := hneed 1 15 rfl rfl
            have e15' := (Array.getD_eq_getD_getElem? ..).symm.trans e15
            clear hneed hrest
            have H := Majority_any (HI.out.later hb) (HS.out.later hb) hl1 hl2
            go_simp
            refine H.mono ?_
            rintro e w2 ⟨rfl, hb2⟩
            exact ⟨_, rfl, rfl, hb2⟩
          | 3, _ =>
            refine fs_plain _ _ rfl rfl rfl ?_
            intro a w1 hb hrest hneed
            have ep : a.tmps.getD 2 undef = .pointer (some ⟨w.heap.size, 0, none⟩) := (hrest 2 (by kernel_rfl)).trans rfl
            have ep' := (Array.getD_eq_getD_getElem? ..).symm.trans ep
            have d0 := lay_later hb c0
            have d1 := lay_later hb c1'
            clear hneed hrest
            go_simp
            exact ⟨_, rfl, rfl, Below.refl _ _⟩
          | 4, _ =>
            refine fs_plain _ _ rfl rfl rfl ?_
            intro a w1 hb hrest hneed
            have ep : a.tmps.getD 1 undef = .slice a3 so.length c3 := (hrest 1 (by kernel_rfl)).trans rfl
            have ep' := (Array.getD_eq_getD_getElem? ..).symm.trans ep
            
            clear hneed hrest
            go_simp
            exact ⟨_, rfl, rfl, Below.refl _ _⟩
          | 5, _ =>
            refine fs_plain _ _ rfl rfl rfl ?_
            intro a w1 hb hrest hneed
            have e17 : a.tmps.getD 17 undef = (.agg #[.slice a1 vs.length c1, .slice a2 ls.length c2]) := hneed 3 17 rfl rfl
            have e17' := (Array.getD_eq_getD_getElem? ..).symm.trans e17
            have e18 : a.tmps.getD 18 undef = (.slice a3 so.length c3) := hneed 4 18 rfl rfl
            have e18' := (Array.getD_eq_getD_getElem? ..).symm.trans e18
            clear hneed hrest
            have H := RMajority_any (HI.out.later hb) (HS.out.later hb) hl1
            go_simp
            refine H.mono ?_
            rintro e w2 ⟨rfl, hb2⟩
            exact ⟨_, rfl, rfl, hb2⟩
          | 6, _ =>
            refine fs_plain _ _ rfl rfl rfl ?_
            intro a w1 hb hrest hneed
            have e16 : a.tmps.getD 16 undef = (.bool (majB vs so)) := hneed 2 16 rfl rfl
            have e16' := (Array.getD_eq_getD_getElem? ..).symm.trans e16
            have e19 : a.tmps.getD 19 undef = (.bool (majB vs so)) := hneed 5 19 rfl rfl
            have e19' := (Array.getD_eq_getD_getElem? ..).symm.trans e19
            clear hneed hrest
            go_simp
            exact ⟨_, rfl, (by show _ = _; simp), Below.refl _ _⟩
          | 7, _ =>
            refine fs_plain _ _ rfl rfl rfl ?_
            intro a w1 hb hrest hneed
            have e20 : a.tmps.getD 20 undef = (.bool true) := hneed 6 20 rfl rfl
            have e20' := (Array.getD_eq_getD_getElem? ..).symm.trans e20
            clear hneed hrest
            go_simp
            exact ⟨_, rfl, rfl, Below.refl _ _⟩
          | 8, _ =>
            refine fs_guard _ _ 7 21 true rfl rfl rfl rfl rfl (fun w v h => h) ?_
            intro a w1 hb hrest hneed
            clear hneed hrest
            have H := awake_any w1
            go_simp
            refine H.mono ?_
            rintro e w2 ⟨rfl, hb2⟩
            exact ⟨_, rfl, rfl, hb2⟩
          | 9, _ =>
            refine fs_plain _ _ rfl rfl rfl ?_
            intro a w1 hb hrest hneed
            have e21 : a.tmps.getD 21 undef = (.bool true) := hneed 7 21 rfl rfl
            have e21' := (Array.getD_eq_getD_getElem? ..).symm.trans e21
            have e22 : a.tmps.getD 22 undef = (.bool true) := hneed 8 22 rfl rfl
            have e22' := (Array.getD_eq_getD_getElem? ..).symm.trans e22
            clear hneed hrest
            go_simp
            exact ⟨_, rfl, rfl, Below.refl _ _⟩
          | 10, _ =>
            refine fs_plain _ _ rfl rfl rfl ?_
            intro a w1 hb hrest hneed
            have e23 : a.tmps.getD 23 undef = (.bool true) := hneed 9 23 rfl rfl
            have e23' := (Array.getD_eq_getD_getElem? ..).symm.trans e23
            clear hneed hrest
            go_simp
            exact ⟨_, rfl, rfl, Below.refl _ _⟩
          | n + 11, h => exact absurd h (by simp)
      · intro a w' hb hd hs hr hg
        have e0 : a.tmps.getD 4 undef = .bool true := hg 10 (by decide) 4 rfl
        have hd : a.defers = [] := hd
        clear hs hr hg
        have HBB := Lib.hid (HB.out.trans (hb.mono HB.out.size))
        clear hb
        go_wp2_with fail
        refine bodyPost_ret (results_tmp rfl _ _ _) hd ?_
        exact ⟨congrArg Ending.returned e0, HBB.out⟩
end Go.Proofs.Yticcmjiekopnbaa
