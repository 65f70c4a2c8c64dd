/-
  QuorumAgrees walked.
-/
import Derived.Test.YticcmjiekopnbaaChecksW
namespace Go.Proofs.Yticcmjiekopnbaa
set_option linter.unusedVariables false
set_option linter.unusedSimpArgs false
open Go.RowKit Go.Shelf

set_option maxRecDepth 100000 in
set_option maxHeartbeats 6400000 in
theorem Agrees_law {w : World} {u v : Value} {vs ls : List Int} (h : RoCs w u v vs ls) (F : Int → Int) : Calls Try.prog 7 #[.agg #[u, v], .agg #[.int .i64 (F 0), .int .i64 (F 1), .int .i64 (F 2), .int .i64 (F 3), .int .i64 (F 4)]] w (BoolP true w) := by
  have hb0 := lay_alloc w (.cells #[u, v] 24)
  have hk := Go.heap_alloc_new w (.cells #[u, v] 24)
  have hsz : (w.alloc (.cells #[u, v] 24)).heap.size = w.heap.size + 1 := by simp
  have hI := h.later hb0
  obtain ⟨a1, c1, rfl, _, _⟩ := h.1.slice
  obtain ⟨a2, c2, rfl, _, _⟩ := h.2.slice
  clear h
  go_enter Try.func7, Try.ntmps7
  go_wp2_with fail
  generalize w.alloc _ = w00 at *
  have hr := row5_new w00 F
  have hb1 := lay_alloc w00 (.cells #[.int .i64 (F 0), .int .i64 (F 1), .int .i64 (F 2), .int .i64 (F 3), .int .i64 (F 4)] 38)
  have HI := Lib.hid (hI.later hb1)
  have HB := Lib.hid (hb0.trans (hb1.mono hb0.size))
  have hk := (hb1.block w.heap.size (by omega)).trans hk
  have hz : (w00.alloc (.cells #[.int .i64 (F 0), .int .i64 (F 1), .int .i64 (F 2), .int .i64 (F 3), .int .i64 (F 4)] 38)).heap.size = w00.heap.size + 1 := by simp
  rw [hsz] at hr hz
  clear hb0 hb1 hI hsz
  generalize w00.alloc _ = w0 at *
  have c0 : w0.cell? ⟨w.heap.size, 0, none⟩ = .some (.slice a1 vs.length c1) := by rw [cell_of_row w0 _ _ _ _ _ hk]; rfl
  have c1' : w0.cell? ⟨w.heap.size, 1, none⟩ = .some (.slice a2 ls.length c2) := by rw [cell_of_row w0 _ _ _ _ _ hk]; rfl
  have f0 := hr.c0; have f1 := hr.c1; have f2 := hr.c2; have f3 := hr.c3; have f4 := hr.c4
  clear hk hr
  have HR := block_in roL w0 [((a1, vs.length, c1), (a2, ls.length, c2))] #[.slice a1 vs.length c1, .slice a2 ls.length c2] 24 1 rfl rfl (by decide)
  rw [hz] at HR
  have HR := Lib.hid HR
  have hb1 := lay_alloc w0 (.cells #[.slice a1 vs.length c1, .slice a2 ls.length c2] 24)
  have c0 := lay_later hb1 c0
  have c1' := lay_later hb1 c1'
  have HI := Lib.hid (HI.out.later hb1)
  have HB := Lib.hid (HB.out.trans (hb1.mono HB.out.size))
  have f0 := lay_later hb1 f0; have f1 := lay_later hb1 f1; have f2 := lay_later hb1 f2; have f3 := lay_later hb1 f3; have f4 := lay_later hb1 f4
  clear hb1
  generalize World.alloc _ _ = w1 at *
  have HLo := Lib.hid (long_any HR.out (by simp))
  go_fit HLo.out
  rintro e w2 ⟨rfl, hb2⟩
  have c0 := lay_later hb2 c0
  have c1' := lay_later hb2 c1'
  have f0 := lay_later hb2 f0; have f1 := lay_later hb2 f1; have f2 := lay_later hb2 f2; have f3 := lay_later hb2 f3; have f4 := lay_later hb2 f4
  have HI := Lib.hid (HI.out.later hb2)
  have HB := Lib.hid (HB.out.trans (hb2.mono HB.out.size))
  clear hb2 HR HLo
  cases hlo : longB [((a1, vs.length, c1), (a2, ls.length, c2))] with
  | true =>
    go_wp2_with fail
    go_fit (awake_any w2)
    rintro e w3 ⟨rfl, hb3⟩
    have HB := Lib.hid (HB.out.trans (hb3.mono HB.out.size))
    clear hb3
    go_wp2_with fail
    go_ret
    exact ⟨rfl, HB.out⟩
  | false =>
    have hl1 : vs.length ≤ 100000 := by have := short1 hlo; omega
    go_wp2_with fail
    refine wp_region_flow (S := SL [Kn.val (.agg #[.slice a1 vs.length c1, .slice a2 ls.length c2]), Kn.val (.agg #[.int .i64 (F 0), .int .i64 (F 1), .int .i64 (F 2), .int .i64 (F 3), .int .i64 (F 4)]), Kn.val (.int .i64 (agrE vs F)), Kn.val (.agg #[.slice a1 vs.length c1, .slice a2 ls.length c2]), Kn.val (.agg #[.int .i64 (F 0), .int .i64 (F 1), .int .i64 (F 2), .int .i64 (F 3), .int .i64 (F 4)]), Kn.val (.int .i64 (agrE vs F)), Kn.val (.bool true), Kn.val (.bool true), Kn.val (.bool true), Kn.val (.bool true), Kn.val (.bool true)]) (by kernel_rfl) (SL_stable _) (by kernel_rfl) (by kernel_rfl) ?_ ?_
    · intro i hi
      match i, hi with
        | 0, _ =>
          refine fs_plain _ _ rfl rfl rfl ?_
          intro a w1 hb hrest hneed
          have ep : a.tmps.getD 2 undef = .pointer (some ⟨w.heap.size, 0, none⟩) := (hrest 2 (by kernel_rfl)).trans rfl
          have ep' := (Array.getD_eq_getD_getElem? ..).symm.trans ep
          have d0 := lay_later hb c0
          have d1 := lay_later hb c1'
          clear hneed hrest
          go_simp
          exact ⟨_, rfl, rfl, Below.refl _ _⟩
        | 1, _ =>
          refine fs_plain _ _ rfl rfl rfl ?_
          intro a w1 hb hrest hneed
          have ep : a.tmps.getD 3 undef = .pointer (some ⟨w.heap.size + 1, 0, none⟩) := (hrest 3 (by kernel_rfl)).trans rfl
          have ep' := (Array.getD_eq_getD_getElem? ..).symm.trans ep
          have d0 := lay_later hb f0
          have d1 := lay_later hb f1
          have d2 := lay_later hb f2
          have d3 := lay_later hb f3
          have d4 := lay_later hb f4
          clear hneed hrest
          go_simp
          exact ⟨_, rfl, rfl, Below.refl _ _⟩
        | 2, _ =>
          refine fs_plain _ _ rfl rfl rfl ?_
          intro a w1 hb hrest hneed
          have e9 : a.tmps.getD 9 undef = (.agg #[.slice a1 vs.length c1, .slice a2 ls.length c2]) := hneed 0 9 rfl rfl
          have e9' := (Array.getD_eq_getD_getElem? ..).symm.trans e9
          have e10 : a.tmps.getD 10 undef = (.agg #[.int .i64 (F 0), .int .i64 (F 1), .int .i64 (F 2), .int .i64 (F 3), .int .i64 (F 4)]) := hneed 1 10 rfl rfl
          have e10' := (Array.getD_eq_getD_getElem? ..).symm.trans e10
          clear hneed hrest
          have H := Agreed_any (HI.out.later hb) F hl1
          go_simp
          refine H.mono ?_
          rintro e w2 ⟨rfl, hb2⟩
          exact ⟨_, rfl, rfl, hb2⟩
        | 3, _ =>
          refine fs_plain _ _ rfl rfl rfl ?_
          intro a w1 hb hrest hneed
          have ep : a.tmps.getD 2 undef = .pointer (some ⟨w.heap.size, 0, none⟩) := (hrest 2 (by kernel_rfl)).trans rfl
          have ep' := (Array.getD_eq_getD_getElem? ..).symm.trans ep
          have d0 := lay_later hb c0
          have d1 := lay_later hb c1'
          clear hneed hrest
          go_simp
          exact ⟨_, rfl, rfl, Below.refl _ _⟩
        | 4, _ =>
          refine fs_plain _ _ rfl rfl rfl ?_
          intro a w1 hb hrest hneed
          have ep : a.tmps.getD 3 undef = .pointer (some ⟨w.heap.size + 1, 0, none⟩) := (hrest 3 (by kernel_rfl)).trans rfl
          have ep' := (Array.getD_eq_getD_getElem? ..).symm.trans ep
          have d0 := lay_later hb f0
          have d1 := lay_later hb f1
          have d2 := lay_later hb f2
          have d3 := lay_later hb f3
          have d4 := lay_later hb f4
          clear hneed hrest
          go_simp
          exact ⟨_, rfl, rfl, Below.refl _ _⟩
        | 5, _ =>
          refine fs_plain _ _ rfl rfl rfl ?_
          intro a w1 hb hrest hneed
          have e12 : a.tmps.getD 12 undef = (.agg #[.slice a1 vs.length c1, .slice a2 ls.length c2]) := hneed 3 12 rfl rfl
          have e12' := (Array.getD_eq_getD_getElem? ..).symm.trans e12
          have e13 : a.tmps.getD 13 undef = (.agg #[.int .i64 (F 0), .int .i64 (F 1), .int .i64 (F 2), .int .i64 (F 3), .int .i64 (F 4)]) := hneed 4 13 rfl rfl
          have e13' := (Array.getD_eq_getD_getElem? ..).symm.trans e13
          clear hneed hrest
          have H := RAgreed_any (HI.out.later hb) F hl1
          go_simp
          refine H.mono ?_
          rintro e w2 ⟨rfl, hb2⟩
          exact ⟨_, rfl, rfl, hb2⟩
        | 6, _ =>
          refine fs_plain _ _ rfl rfl rfl ?_
          intro a w1 hb hrest hneed
          have e11 : a.tmps.getD 11 undef = (.int .i64 (agrE vs F)) := hneed 2 11 rfl rfl
          have e11' := (Array.getD_eq_getD_getElem? ..).symm.trans e11
          have e14 : a.tmps.getD 14 undef = (.int .i64 (agrE vs F)) := hneed 5 14 rfl rfl
          have e14' := (Array.getD_eq_getD_getElem? ..).symm.trans e14
          clear hneed hrest
          go_simp
          exact ⟨_, rfl, (by show _ = _; simp), Below.refl _ _⟩
        | 7, _ =>
          refine fs_plain _ _ rfl rfl rfl ?_
          intro a w1 hb hrest hneed
          have e15 : a.tmps.getD 15 undef = (.bool true) := hneed 6 15 rfl rfl
          have e15' := (Array.getD_eq_getD_getElem? ..).symm.trans e15
          clear hneed hrest
          go_simp
          exact ⟨_, rfl, rfl, Below.refl _ _⟩
        | 8, _ =>
          refine fs_guard _ _ 7 16 true rfl rfl rfl rfl rfl (fun w v h => h) ?_
          intro a w1 hb hrest hneed
          clear hneed hrest
          have H := awake_any w1
          go_simp
          refine H.mono ?_
          rintro e w2 ⟨rfl, hb2⟩
          exact ⟨_, rfl, rfl, hb2⟩
        | 9, _ =>
          refine fs_plain _ _ rfl rfl rfl ?_
          intro a w1 hb hrest hneed
          have e16 : a.tmps.getD 16 undef = (.bool true) := hneed 7 16 rfl rfl
          have e16' := (Array.getD_eq_getD_getElem? ..).symm.trans e16
          have e17 : a.tmps.getD 17 undef = (.bool true) := hneed 8 17 rfl rfl
          have e17' := (Array.getD_eq_getD_getElem? ..).symm.trans e17
          clear hneed hrest
          go_simp
          exact ⟨_, rfl, rfl, Below.refl _ _⟩
        | 10, _ =>
          refine fs_plain _ _ rfl rfl rfl ?_
          intro a w1 hb hrest hneed
          have e18 : a.tmps.getD 18 undef = (.bool true) := hneed 9 18 rfl rfl
          have e18' := (Array.getD_eq_getD_getElem? ..).symm.trans e18
          clear hneed hrest
          go_simp
          exact ⟨_, rfl, rfl, Below.refl _ _⟩
        | n + 11, h => exact absurd h (by simp)
    · intro a w' hb hd hs hr hg
      have e0 : a.tmps.getD 4 undef = .bool true := hg 10 (by decide) 4 rfl
      have hd : a.defers = [] := hd
      clear hs hr hg
      have HBB := Lib.hid (HB.out.trans (hb.mono HB.out.size))
      clear hb
      go_wp2_with fail
      refine bodyPost_ret (results_tmp rfl _ _ _) hd ?_
      exact ⟨congrArg Ending.returned e0, HBB.out⟩
end Go.Proofs.Yticcmjiekopnbaa
