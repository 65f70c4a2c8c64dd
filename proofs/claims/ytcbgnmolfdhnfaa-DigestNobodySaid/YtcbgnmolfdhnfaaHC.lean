/-
  The example's tree, reckoned.
-/
import Derived.Test.YtcbgnmolfdhnfaaHB
namespace Go.Proofs.Ytcbgnmolfdhnfaa
set_option linter.unusedVariables false
set_option linter.unusedSimpArgs false
open Go.RowKit

theorem ex_at : exS.at exK = 3144613055062689994 := by unfold Sd.at; rw [sum_C]; decide +kernel
theorem ex_pair : exS.pair exK exV = 9916572075038993895 := by unfold Sd.pair; rw [sum_C]; decide +kernel
def exP : Pl := ((11171, exK), exV)
theorem ex_mk : exS.mk' (exK, exV) = exP := by
  unfold Sd.mk' exP
  rw [ex_at]
theorem isort_single (p : Pl) : isort [p] = [p] := rfl
theorem ex_place : exS.place [(exK, exV)] = [exP] := by
  unfold Sd.place
  rw [List.map_cons, List.map_nil, ex_mk, isort_single]
  rfl
theorem ex_place0 : exS.place [] = [] := rfl
theorem ex_sub (n i : Nat) : sub n i [exP] = if i = dgt n exP then [exP] else [] := by
  unfold sub
  by_cases h : i = dgt n exP
  · subst h; simp
  · have : ¬ dgt n exP = i := fun e => h e.symm
    simp [h, this]
theorem ex_kids {n j t : Nat} (hj : dgt n exP = j) (ht : exS.tr n [exP] = t) : exS.kidB n 16 [exP] = (List.range 16).flatMap fun i => Wi.be (if i = j then t else 0) 8 := by
  unfold Sd.kidB
  congr 1
  funext i
  rw [ex_sub, hj]
  by_cases h : i = j
  · rw [if_pos h, if_pos h, ht]
  · rw [if_neg h, if_neg h, exS.tr_nil]
theorem ex_t0 : exS.tr 0 [exP] = 5894269371629907992 := by
  rw [exS.tr_leaf (by simp)]
  have e : exS.leafB [exP] = Wi.num 1 ++ Wi.be 9916572075038993895 8 := by
    unfold Sd.leafB Sd.sums
    rw [List.flatMap_cons, List.flatMap_nil, List.append_nil, show exP.1.2 = exK from rfl, show exP.2 = exV from rfl, ex_pair]
    rfl
  rw [e, sum_C]
  decide +kernel
theorem ex_t1 : exS.tr 1 [exP] = 4234428936678314303 := by
  rw [exS.tr_node (by simp), ex_kids (j := 3) (by decide) ex_t0, sum_C]
  decide +kernel
theorem ex_t2 : exS.tr 2 [exP] = 18325666513313883130 := by
  rw [exS.tr_node (by simp), ex_kids (j := 10) (by decide) ex_t1, sum_C]
  decide +kernel
theorem ex_t3 : exS.tr 3 [exP] = 3999141139652533469 := by
  rw [exS.tr_node (by simp), ex_kids (j := 11) (by decide) ex_t2, sum_C]
  decide +kernel
theorem ex_t4 : exS.tr 4 [exP] = 2557021268201134683 := by
  rw [exS.tr_node (by simp), ex_kids (j := 2) (by decide) ex_t3, sum_C]
  decide +kernel
theorem Sd.uk_nil (s : Sd) (n : Nat) : s.uk n [] = [] := by
  cases n with
  | zero => unfold Sd.uk; rw [s.tr_nil]; rfl
  | succ n => unfold Sd.uk; rw [s.tr_nil]; rfl
theorem ex_up {n j t : Nat} (hj : dgt n exP = j) (ht : exS.tr (n + 1) [exP] = t) (h0 : ¬ t = 0) (h : exS.uk n [exP] = [exK]) (hc : catTo (fun i => if i = j then [exK] else []) 16 = [exK]) : exS.uk (n + 1) [exP] = [exK] := by
  unfold Sd.uk
  rw [ht, if_neg h0]
  have e : (fun i => exS.uk n (sub n i [exP])) = fun i => if i = j then [exK] else [] := by
    funext i
    rw [ex_sub, hj]
    by_cases hi : i = j
    · rw [if_pos hi, if_pos hi, h]
    · rw [if_neg hi, if_neg hi, exS.uk_nil]
  rw [e, hc]
theorem ex_uk : exS.uk 4 [exP] = [exK] := by
  have h0 : exS.uk 0 [exP] = [exK] := by unfold Sd.uk; rw [ex_t0]; rfl
  exact ex_up (j := 2) (by decide) ex_t4 (by decide) (ex_up (j := 11) (by decide) ex_t3 (by decide) (ex_up (j := 10) (by decide) ex_t2 (by decide) (ex_up (j := 3) (by decide) ex_t1 (by decide) h0 rfl) rfl) rfl) rfl

set_option maxRecDepth 100000 in
set_option maxHeartbeats 1600000 in
theorem insertion_one {a : Option Addr} {c : Nat} (w : World) : Calls Try.prog 100 #[.slice a 1 c, .int .i64 0, .int .i64 1] w fun e w' => e = .returned (.tuple #[]) ∧ w = w' := by
  go_enter Try.func100, Try.ntmps100
  go_wp2_with fail
  refine wp_loop_rounds 1 ?_
  rw [rounds_succ]
  go_wp2_with fail
  go_end0
  exact ⟨rfl, rfl⟩
set_option maxRecDepth 100000 in
set_option maxHeartbeats 1600000 in
theorem pdq_one {a : Option Addr} {c : Nat} (x : Int) (w : World) : Calls Try.prog 86 #[.slice a 1 c, .int .i64 0, .int .i64 1, .int .i64 x] w fun e w' => e = .returned (.tuple #[]) ∧ w = w' := by
  go_enter Try.func86, Try.ntmps86
  go_wp2_with fail
  refine wp_loop_rounds 1 ?_
  rw [rounds_succ]
  go_wp2_with fail
  go_fit (insertion_one w)
  rintro e w' ⟨rfl, rfl⟩
  go_wp2_with fail
  (try simp only [Exit.inBlock, Exit.then])
  refine bodyPost_ret (results_none rfl _ _ _) rfl ?_
  exact ⟨rfl, rfl⟩
set_option maxRecDepth 100000 in
set_option maxHeartbeats 1600000 in
theorem Sort_one {a : Option Addr} {c : Nat} (w : World) : Calls Try.prog 57 #[.slice a 1 c] w fun e w' => e = .returned (.tuple #[]) ∧ w = w' := by
  have hl := Try.bits_Len 1 w (by decide) (by decide)
  go_enter Try.func57, Try.ntmps57
  go_wp2_with fail
  refine hl.mono ?_
  rintro e w' ⟨rfl, rfl⟩
  go_wp2_with fail
  go_fit (pdq_one _ w')
  rintro e w2 ⟨rfl, rfl⟩
  go_wp2_with fail
  go_end0
  exact ⟨rfl, rfl⟩
set_option maxRecDepth 100000 in
set_option maxHeartbeats 1600000 in
theorem seed_any (w : World) : Calls Try.prog 40 #[] w fun e w' => e = .returned (.agg #[.int .u64 exS.a, .int .u64 exS.b]) ∧ Below w.heap.size w w' := by
  have HB := Lib.hid (below_alloc w (.cells #[.int .u64 506097522914230528, .int .u64 1084818905618843912] 24))
  go_enter Try.func40, Try.ntmps40
  go_wp2_with fail
  refine bodyPost_ret (v := .agg #[.int .u64 506097522914230528, .int .u64 1084818905618843912]) ?_ rfl ?_
  · rw [results_cell rfl]
    go_simp
  · exact ⟨rfl, HB.out⟩
end Go.Proofs.Ytcbgnmolfdhnfaa
