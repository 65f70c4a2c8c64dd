/-
  HB HC HD HE SH Cl in one text.
-/
import Derived.Test.YtcbgnmolfdhnfaaHA
import Derived.Laws.StructEq
import Derived.Test.YtcbgnmolfdhnfaaDB
import Derived.Test.YtcbgnmolfdhnfaaLc

/- HB -/
namespace Go.Proofs.Ytcbgnmolfdhnfaa
set_option linter.unusedVariables false
set_option linter.unusedSimpArgs false
open Go.RowKit

def rotC (n x : Nat) : Nat := x % 2^(64-n) * 2^n + x / 2^(64-n)
def mixC (s : W4) : W4 :=
  let a1 := (s.a + s.b) % 18446744073709551616
  let b1 := rotC 13 s.b ^^^ a1
  let a2 := rotC 32 a1
  let c1 := (s.c + s.d) % 18446744073709551616
  let d1 := rotC 16 s.d ^^^ c1
  let a3 := (a2 + d1) % 18446744073709551616
  let d2 := rotC 21 d1 ^^^ a3
  let c2 := (c1 + b1) % 18446744073709551616
  let b2 := rotC 17 b1 ^^^ c2
  let c3 := rotC 32 c2
  ⟨a3, b2, c3, d2⟩
theorem mix_C (s : W4) : s.mix = mixC s := by
  simp only [W4.mix, W4.s0, W4.s1, W4.s2, W4.s3, W4.s4, W4.s5, W4.s6, W4.s7, W4.s8, W4.s9, rot_eq, mixC, rotC]
def takeC (s : W4) (m : Nat) : W4 :=
  let t := mixC (mixC ⟨s.a, s.b, s.c, s.d ^^^ m⟩)
  ⟨t.a ^^^ m, t.b, t.c, t.d⟩
theorem take_C (s : W4) (m : Nat) : s.take m = takeC s m := by
  simp only [W4.take, W4.pre, W4.post, mix_C, takeC]
def eatsC (s : W4) (xs : List Int) : Nat → W4
  | 0 => s
  | n + 1 => takeC (eatsC s xs n) (oct xs n)
theorem eats_C (s : W4) (xs : List Int) : ∀ n, eats s xs n = eatsC s xs n
  | 0 => rfl
  | n + 1 => by rw [eats, eatsC, eats_C s xs n, take_C]
def sumC (a b : Nat) (xs : List Int) : Nat :=
  let s := takeC (eatsC ⟨a ^^^ k0, b ^^^ k1, a ^^^ k2, b ^^^ k3⟩ xs (xs.length / 8)) (lastW xs)
  let t := mixC (mixC (mixC (mixC ⟨s.a, s.b, s.c ^^^ 255, s.d⟩)))
  t.a ^^^ t.b ^^^ t.c ^^^ t.d
theorem sum_C (a b : Nat) (xs : List Int) : sumN a b xs = sumC a b xs := by
  simp only [sumN, fin4, W4.out, W4.flip, W4.seed, eats_C, take_C, mix_C, sumC]

/-- The example's seed, key and value. -/
def exS : Sd := ⟨506097522914230528, 1084818905618843912⟩
theorem exS_ok : exS.Ok := by unfold Sd.Ok exS; exact ⟨by decide, by decide⟩
def exK : ByteArray := ⟨#[97]⟩
def exV : ByteArray := ⟨#[49]⟩
theorem ex_bytes : sumN exS.a exS.b [0, 1, 2, 3, 4, 5, 6, 7, 8, 9, 10, 11, 12, 13, 14] = 11613035633349379557 := by
  rw [sum_C]; decide +kernel
end Go.Proofs.Ytcbgnmolfdhnfaa

/- HC -/
namespace Go.Proofs.Ytcbgnmolfdhnfaa
set_option linter.unusedVariables false
set_option linter.unusedSimpArgs false
open Go.RowKit

theorem ex_at : exS.at exK = 3144613055062689994 := by unfold Sd.at; rw [sum_C]; decide +kernel
theorem ex_pair : exS.pair exK exV = 9916572075038993895 := by unfold Sd.pair; rw [sum_C]; decide +kernel
def exP : Pl := ((11171, exK), exV)
theorem ex_mk : exS.mk' (exK, exV) = exP := by
  unfold Sd.mk' exP
  rw [ex_at]
theorem isort_single (p : Pl) : isort [p] = [p] := rfl
theorem ex_place : exS.place [(exK, exV)] = [exP] := by
  unfold Sd.place
  rw [List.map_cons, List.map_nil, ex_mk, isort_single]
  rfl
theorem ex_place0 : exS.place [] = [] := rfl
theorem ex_sub (n i : Nat) : sub n i [exP] = if i = dgt n exP then [exP] else [] := by
  unfold sub
  by_cases h : i = dgt n exP
  · subst h; simp
  · have : ¬ dgt n exP = i := fun e => h e.symm
    simp [h, this]
theorem ex_kids {n j t : Nat} (hj : dgt n exP = j) (ht : exS.tr n [exP] = t) : exS.kidB n 16 [exP] = (List.range 16).flatMap fun i => Wi.be (if i = j then t else 0) 8 := by
  unfold Sd.kidB
  congr 1
  funext i
  rw [ex_sub, hj]
  by_cases h : i = j
  · rw [if_pos h, if_pos h, ht]
  · rw [if_neg h, if_neg h, exS.tr_nil]
theorem ex_t0 : exS.tr 0 [exP] = 5894269371629907992 := by
  rw [exS.tr_leaf (by simp)]
  have e : exS.leafB [exP] = Wi.num 1 ++ Wi.be 9916572075038993895 8 := by
    unfold Sd.leafB Sd.sums
    rw [List.flatMap_cons, List.flatMap_nil, List.append_nil, show exP.1.2 = exK from rfl, show exP.2 = exV from rfl, ex_pair]
    rfl
  rw [e, sum_C]
  decide +kernel
theorem ex_t1 : exS.tr 1 [exP] = 4234428936678314303 := by
  rw [exS.tr_node (by simp), ex_kids (j := 3) (by decide) ex_t0, sum_C]
  decide +kernel
theorem ex_t2 : exS.tr 2 [exP] = 18325666513313883130 := by
  rw [exS.tr_node (by simp), ex_kids (j := 10) (by decide) ex_t1, sum_C]
  decide +kernel
theorem ex_t3 : exS.tr 3 [exP] = 3999141139652533469 := by
  rw [exS.tr_node (by simp), ex_kids (j := 11) (by decide) ex_t2, sum_C]
  decide +kernel
theorem ex_t4 : exS.tr 4 [exP] = 2557021268201134683 := by
  rw [exS.tr_node (by simp), ex_kids (j := 2) (by decide) ex_t3, sum_C]
  decide +kernel
theorem Sd.uk_nil (s : Sd) (n : Nat) : s.uk n [] = [] := by
  cases n with
  | zero => unfold Sd.uk; rw [s.tr_nil]; rfl
  | succ n => unfold Sd.uk; rw [s.tr_nil]; rfl
theorem ex_up {n j t : Nat} (hj : dgt n exP = j) (ht : exS.tr (n + 1) [exP] = t) (h0 : ¬ t = 0) (h : exS.uk n [exP] = [exK]) (hc : catTo (fun i => if i = j then [exK] else []) 16 = [exK]) : exS.uk (n + 1) [exP] = [exK] := by
  unfold Sd.uk
  rw [ht, if_neg h0]
  have e : (fun i => exS.uk n (sub n i [exP])) = fun i => if i = j then [exK] else [] := by
    funext i
    rw [ex_sub, hj]
    by_cases hi : i = j
    · rw [if_pos hi, if_pos hi, h]
    · rw [if_neg hi, if_neg hi, exS.uk_nil]
  rw [e, hc]
theorem ex_uk : exS.uk 4 [exP] = [exK] := by
  have h0 : exS.uk 0 [exP] = [exK] := by unfold Sd.uk; rw [ex_t0]; rfl
  exact ex_up (j := 2) (by decide) ex_t4 (by decide) (ex_up (j := 11) (by decide) ex_t3 (by decide) (ex_up (j := 10) (by decide) ex_t2 (by decide) (ex_up (j := 3) (by decide) ex_t1 (by decide) h0 rfl) rfl) rfl) rfl

set_option maxRecDepth 100000 in
set_option maxHeartbeats 1600000 in
theorem insertion_one {a : Option Addr} {c : Nat} (w : World) : Calls Try.prog 100 #[.slice a 1 c, .int .i64 0, .int .i64 1] w fun e w' => e = .returned (.tuple #[]) ∧ w = w' := by
  go_enter Try.func100, Try.ntmps100
  go_wp2_with fail
  refine wp_loop_rounds 1 ?_
  rw [rounds_succ]
  go_wp2_with fail
  go_end0
  exact ⟨rfl, rfl⟩
set_option maxRecDepth 100000 in
set_option maxHeartbeats 1600000 in
theorem pdq_one {a : Option Addr} {c : Nat} (x : Int) (w : World) : Calls Try.prog 86 #[.slice a 1 c, .int .i64 0, .int .i64 1, .int .i64 x] w fun e w' => e = .returned (.tuple #[]) ∧ w = w' := by
  go_enter Try.func86, Try.ntmps86
  go_wp2_with fail
  refine wp_loop_rounds 1 ?_
  rw [rounds_succ]
  go_wp2_with fail
  go_fit (insertion_one w)
  rintro e w' ⟨rfl, rfl⟩
  go_wp2_with fail
  (try simp only [Exit.inBlock, Exit.then])
  refine bodyPost_ret (results_none rfl _ _ _) rfl ?_
  exact ⟨rfl, rfl⟩
set_option maxRecDepth 100000 in
set_option maxHeartbeats 1600000 in
theorem Sort_one {a : Option Addr} {c : Nat} (w : World) : Calls Try.prog 57 #[.slice a 1 c] w fun e w' => e = .returned (.tuple #[]) ∧ w = w' := by
  have hl := Try.bits_Len 1 w (by decide) (by decide)
  go_enter Try.func57, Try.ntmps57
  go_wp2_with fail
  refine hl.mono ?_
  rintro e w' ⟨rfl, rfl⟩
  go_wp2_with fail
  go_fit (pdq_one _ w')
  rintro e w2 ⟨rfl, rfl⟩
  go_wp2_with fail
  go_end0
  exact ⟨rfl, rfl⟩
set_option maxRecDepth 100000 in
set_option maxHeartbeats 1600000 in
theorem seed_any (w : World) : Calls Try.prog 40 #[] w fun e w' => e = .returned (.agg #[.int .u64 exS.a, .int .u64 exS.b]) ∧ Below w.heap.size w w' := by
  have HB := Lib.hid (below_alloc w (.cells #[.int .u64 506097522914230528, .int .u64 1084818905618843912] 24))
  go_enter Try.func40, Try.ntmps40
  go_wp2_with fail
  refine bodyPost_ret (v := .agg #[.int .u64 506097522914230528, .int .u64 1084818905618843912]) ?_ rfl ?_
  · rw [results_cell rfl]
    go_simp
  · exact ⟨rfl, HB.out⟩
end Go.Proofs.Ytcbgnmolfdhnfaa

/- HD -/
namespace Go.Proofs.Ytcbgnmolfdhnfaa
set_option linter.unusedVariables false
set_option linter.unusedSimpArgs false
open Go.RowKit Go.Joins

def Unl (k : ByteArray) (w : World) (e : Ending) (w' : World) : Prop := ∃ g c dg pr : Nat, e = .returned (.tuple #[.slice (some ⟨g, 0, none⟩) 1 c, .agg #[.int .i64 dg, .int .i64 pr], .int .i64 0]) ∧ w'.cell? ⟨g, 0, none⟩ = some (.string k) ∧ 1 ≤ c ∧ Below w.heap.size w w'
set_option maxRecDepth 100000 in
set_option maxHeartbeats 3200000 in
theorem Unlike_one {s : Sd} {w : World} {ta tb : Nat} {S : List Pl} {k : ByteArray} (ha : TrIn s w ta S) (hb : TrIn s w tb []) (hS : S.length ≤ 1) (hk : s.uk 4 S = [k]) :
    Calls Try.prog 26 #[.pointer (some ⟨ta, 0, none⟩), .pointer (some ⟨tb, 0, none⟩)] w (Unl k w) := by
  have hA := Lib.hid (below_alloc w (.cells #[.int .i64 0, .int .i64 0] 51))
  have HA := Lib.hid (ha.later hA.out)
  have HBb := Lib.hid (hb.later hA.out)
  have HK := Lib.hid hk
  have r0 : (w.alloc (.cells #[.int .i64 0, .int .i64 0] 51)).cell? ⟨w.heap.size, 0, none⟩ = some (.int .i64 0) := by go_simp
  have r1 : (w.alloc (.cells #[.int .i64 0, .int .i64 0] 51)).cell? ⟨w.heap.size, 1, none⟩ = some (.int .i64 0) := by go_simp
  have rz : ∀ j, (w.alloc (.cells #[.int .i64 0, .int .i64 0] 51)).frozen? ⟨w.heap.size, j, none⟩ = false := by intro j; go_simp
  have HR := Lib.hid (show _ ∧ _ ∧ _ from ⟨r0, r1, rz⟩)
  clear ha hb hk r0 r1 rz
  go_enter Try.func26, Try.ntmps26
  go_upto_region 1 with fail
  generalize w.alloc (.cells #[.int .i64 0, .int .i64 0] 51) = V at *
  obtain ⟨N, hN⟩ : ∃ N, N = w.heap.size := ⟨_, rfl⟩
  rw [← hN] at HR ⊢
  have HN := Lib.hid hN
  clear hN
  go_wp2_with fail
  go_fit (ready_any HA.out)
  rintro e w' ⟨rfl, rfl⟩
  go_wp2_with fail
  go_fit (ready_any HBb.out)
  rintro e w' ⟨rfl, rfl⟩
  have a0 := HA.out.a
  have a1 := HA.out.b
  have b0 := HBb.out.a
  have b1 := HBb.out.b
  go_upto_region 3 with fail
  go_quiet (fail)
  have hbX : Below V.heap.size V (V.drewN nq) := below_drewN (Below.refl _ _) _
  have HA1 := Lib.hid (HA.out.later hbX)
  have HB1 := Lib.hid (HBb.out.later hbX)
  have HX1 : Hid (Below w.heap.size w (V.drewN nq)) := Lib.hid (hA.out.trans (hbX.mono hA.out.size))
  have HR1 : Hid ((V.drewN nq).cell? ⟨N, 0, none⟩ = some (.int .i64 0) ∧ (V.drewN nq).cell? ⟨N, 1, none⟩ = some (.int .i64 0) ∧ ∀ j, (V.drewN nq).frozen? ⟨N, j, none⟩ = false) := Lib.hid HR.out
  clear a0 a1 b0 b1 HA HBb HR hbX
  generalize V.drewN nq = X at *
  obtain ⟨qa, hqa, hpa⟩ := HA1.out.q
  obtain ⟨qb, hqb, hpb⟩ := HB1.out.q
  obtain rfl := hpb.none_
  have hbW := below_alloc X (.cells #[.int .i64 1, .int .i64 0, .slice none 0 0] 102)
  have HSz : Hid (Sz (X.alloc (.cells #[.int .i64 1, .int .i64 0, .slice none 0 0] 102)).drew X.heap.size X.heap.size 1 0 (.slice none 0 0) []) := by
    refine Lib.hid ⟨by go_simp, by go_simp, by go_simp, by intro j; go_simp, World.ownsRow_nil _ _ _ _, Nat.le_refl _, by simp [Value.ownBlock]⟩
  have HPa : Hid (PtIn s (X.alloc (.cells #[.int .i64 1, .int .i64 0, .slice none 0 0] 102)).drew (fun k => k < X.heap.size) 4 qa S) := Lib.hid (hpa.keep fun k _ hk => ⟨hk, (below_drew hbW).block k hk⟩)
  have ka : (X.alloc (.cells #[.int .i64 1, .int .i64 0, .slice none 0 0] 102)).drew.cell? ⟨ta, 2, none⟩ = some (.pointer qa) := cell_later (below_drew hbW) hqa
  have kb : (X.alloc (.cells #[.int .i64 1, .int .i64 0, .slice none 0 0] 102)).drew.cell? ⟨tb, 2, none⟩ = some (.pointer none) := cell_later (below_drew hbW) hqb
  have HWs : Hid (X.heap.size ≤ (X.alloc (.cells #[.int .i64 1, .int .i64 0, .slice none 0 0] 102)).drew.heap.size) := Lib.hid (below_drew hbW).size
  have HbW := Lib.hid (below_drew hbW)
  clear hqa hqb hpa hpb hbW
  go_upto_region 6 with fail
  generalize X.alloc (.cells #[.int .i64 1, .int .i64 0, .slice none 0 0] 102) = W at *
  obtain ⟨M, hM⟩ : ∃ M, M = X.heap.size := ⟨_, rfl⟩
  rw [← hM] at HSz HPa HWs HbW ⊢
  have HMX := Lib.hid hM
  clear hM
  refine wp_region_still_tail 8 (by kernel_rfl) (by kernel_rfl) ?_
  simp only [List.take_succ_cons, List.take_zero, List.drop_succ_cons, List.drop_zero]
  change wpStill _ _ W.drew _ _ _
  repeat still_step
  refine wpStill_nil ?_
  change wpList _ _ _ _ _ W.drew
  have HC := Lib.hid (compare_any (s := s) (L := 1) (by decide) 4 (by decide) W.drew M M 1 0 (.slice none 0 0) [] qa S 0 (by decide) HSz.out HWs.out HPa.out hS (by decide) (by decide) (by decide))
  clear ka kb
  go_wp2_with fail
  go_fit HC.out
  rintro e w5 ⟨kv', rfl, hs5, hb5⟩
  rw [HK.out, List.nil_append] at hs5
  have HS5 := Lib.hid hs5
  have HB5 : Hid (Below w.heap.size w w5) := by
    have h1 := HX1.out.trans (HbW.out.mono (by rw [HMX.out]; exact HX1.out.size))
    exact Lib.hid (h1.trans (hb5.mono (by rw [HMX.out]; exact HX1.out.size)))
  have HR5 : Hid (w5.cell? ⟨N, 0, none⟩ = some (.int .i64 0) ∧ w5.cell? ⟨N, 1, none⟩ = some (.int .i64 0) ∧ ∀ j, w5.frozen? ⟨N, j, none⟩ = false) := by
    obtain ⟨h0, h1, h2⟩ := HR1.out
    have hl : N < X.heap.size := World.block_lt_of_cell? X ⟨N, 0, none⟩ h0
    have hb : Below X.heap.size X w5 := by rw [← HMX.out]; exact HbW.out.trans hb5
    exact Lib.hid ⟨cell_later hb h0, cell_later hb h1, fun j => (hb.frozen (p := ⟨N, j, none⟩) hl).trans (h2 j)⟩
  have HNl : Hid (N < X.heap.size) := Lib.hid (World.block_lt_of_cell? X ⟨N, 0, none⟩ HR1.out.1)
  clear hs5 hb5 HSz HPa HWs HbW HC HR1 HA1 HB1
  generalize 1 + s.ud 4 S = dg at *
  generalize 0 + s.up 4 S = pr at *
  have hown := HS5.out.own
  obtain ⟨g, c, rfl, hc⟩ : ∃ g c, kv' = .slice (some ⟨g, 0, none⟩) 1 c ∧ 1 ≤ c := by
    rcases hown.2 with ⟨_, h0⟩ | ⟨g, cap, cur, hv, _, _, hn, _⟩
    · cases h0
    · exact ⟨g, cap, hv, hn⟩
  have hgk : w5.cell? ⟨g, 0, none⟩ = some (.string k) := by
    have h := hown.cells (g := g) rfl 0 (.string k) rfl
    rwa [lay_add] at h
  have hgN : g ≠ N := by
    have := HS5.out.own.lt g rfl
    have hl := HNl.out
    have := HMX.out
    omega
  have HG := Lib.hid (show w5.cell? ⟨g, 0, none⟩ = some (.string k) ∧ g ≠ N from ⟨hgk, hgN⟩)
  have s0 := HS5.out.d
  have s1 := HS5.out.p
  have s2 := HS5.out.k
  clear hown hgk hgN
  go_wp2_with fail
  go_fit (Sort_one w5)
  rintro e w' ⟨rfl, rfl⟩
  go_upto_region 8 with fail
  obtain ⟨n0, n1, nz⟩ := HR5.out
  have z0 := nz 0
  have z1 := nz 1
  clear nz
  go_region
  all_goals
    have HBe : Hid (Below w.heap.size w (((w5.setCell ⟨N, 0, none⟩ (.int .i64 dg)).setCell ⟨N, 1, none⟩ (.int .i64 pr)).drew)) := Lib.hid (below_drew ((HB5.out.setCell (by rw [HN.out]; exact Nat.le_refl _) _).setCell (by rw [HN.out]; exact Nat.le_refl _) _))
    have e0 : (((w5.setCell ⟨N, 0, none⟩ (.int .i64 dg)).setCell ⟨N, 1, none⟩ (.int .i64 pr)).drew).cell? ⟨N, 0, none⟩ = some (.int .i64 dg) := (World.cell?_setCell_other _ _ _ _ (by simp)).trans (World.cell?_setCell_same _ _ _ n0)
    have e1 : (((w5.setCell ⟨N, 0, none⟩ (.int .i64 dg)).setCell ⟨N, 1, none⟩ (.int .i64 pr)).drew).cell? ⟨N, 1, none⟩ = some (.int .i64 pr) := World.cell?_setCell_same _ _ _ ((World.cell?_setCell_other _ _ _ _ (by simp)).trans n1)
    have eg : (((w5.setCell ⟨N, 0, none⟩ (.int .i64 dg)).setCell ⟨N, 1, none⟩ (.int .i64 pr)).drew).cell? ⟨g, 0, none⟩ = some (.string k) := (World.cell?_of_block (a := ⟨g, 0, none⟩) (show (((w5.setCell ⟨N, 0, none⟩ (.int .i64 dg)).setCell ⟨N, 1, none⟩ (.int .i64 pr)).drew).heap[g]? = w5.heap[g]? from (heap_setCell_other _ _ _ _ HG.out.2).trans (heap_setCell_other _ _ _ _ HG.out.2))).trans HG.out.1
    have HEg := Lib.hid eg
    clear eg s0 s1 s2 n0 n1 z0 z1
    generalize ((w5.setCell ⟨N, 0, none⟩ (.int .i64 dg)).setCell ⟨N, 1, none⟩ (.int .i64 pr)).drew = w6 at *
    go_wp2_with fail
    refine bodyPost_ret (v := .tuple #[.slice (some ⟨g, 0, none⟩) 1 c, .agg #[.int .i64 dg, .int .i64 pr], .int .i64 0]) (by simp [results, Try.results26, go_sem, e0, e1]) rfl ?_
    exact ⟨g, c, dg, pr, rfl, HEg.out, hc, HBe.out⟩
end Go.Proofs.Ytcbgnmolfdhnfaa

/- HE -/
namespace Go.Proofs.Ytcbgnmolfdhnfaa
set_option linter.unusedVariables false
set_option linter.unusedSimpArgs false
open Go.RowKit Go.Joins

theorem ex_in (w : World) : Lib.BytesIn (w.alloc (.cells #[.int .u8 0, .int .u8 1, .int .u8 2, .int .u8 3, .int .u8 4, .int .u8 5, .int .u8 6, .int .u8 7, .int .u8 8, .int .u8 9, .int .u8 10, .int .u8 11, .int .u8 12, .int .u8 13, .int .u8 14] 5)) (some ⟨w.heap.size, 0, none⟩) 15 [0, 1, 2, 3, 4, 5, 6, 7, 8, 9, 10, 11, 12, 13, 14] := by
  intro _
  refine ⟨_, _, rfl, fun i hi => ?_⟩
  rw [Nat.zero_add]
  have h := cell_of_block (w := w.alloc (.cells #[.int .u8 0, .int .u8 1, .int .u8 2, .int .u8 3, .int .u8 4, .int .u8 5, .int .u8 6, .int .u8 7, .int .u8 8, .int .u8 9, .int .u8 10, .int .u8 11, .int .u8 12, .int .u8 13, .int .u8 14] 5)) (Go.heap_alloc_new w _) i
  rw [h]
  rcases i with _|_|_|_|_|_|_|_|_|_|_|_|_|_|_|i
  all_goals first | rfl | (exfalso; omega)
theorem ex_oct : Oct [0, 1, 2, 3, 4, 5, 6, 7, 8, 9, 10, 11, 12, 13, 14] := by
  intro x hx
  simp only [List.mem_cons, List.not_mem_nil, or_false] at hx
  omega
theorem ex_slim : Slim [(exK, exV)] := by
  intro p hp
  obtain rfl : p = (exK, exV) := by simpa using hp
  decide

set_option maxRecDepth 100000 in
set_option maxHeartbeats 6400000 in
theorem awake_any (w : World) : Calls Try.prog 11 #[] w fun e w' => e = .returned (.bool true) ∧ Below w.heap.size w w' := by
  have HI := Lib.hid (ex_in w)
  have HB1 := Lib.hid (below_alloc w (.cells #[.int .u8 0, .int .u8 1, .int .u8 2, .int .u8 3, .int .u8 4, .int .u8 5, .int .u8 6, .int .u8 7, .int .u8 8, .int .u8 9, .int .u8 10, .int .u8 11, .int .u8 12, .int .u8 13, .int .u8 14] 5))
  go_enter Try.func11, Try.ntmps11
  go_upto_region 2 with fail
  generalize w.alloc (.cells #[.int .u8 0, .int .u8 1, .int .u8 2, .int .u8 3, .int .u8 4, .int .u8 5, .int .u8 6, .int .u8 7, .int .u8 8, .int .u8 9, .int .u8 10, .int .u8 11, .int .u8 12, .int .u8 13, .int .u8 14] 5) = w1 at *
  go_wp2_with fail
  go_fit (seed_any w1)
  rintro e w2 ⟨rfl, hb2⟩
  have HB2 : Hid (Below w.heap.size w w2) := Lib.hid (HB1.out.trans (hb2.mono HB1.out.size))
  have HI2 := Lib.hid (in_later HI.out hb2)
  have HL : Hid (prL.In (w2.alloc (.cells #[.string ⟨#[97]⟩, .string ⟨#[49]⟩] 27)) (.slice (some ⟨w2.heap.size, 0, none⟩) 1 1) [(exK, exV)]) := by
    refine Lib.hid ⟨_, 1, rfl, Nat.le_refl _, by decide, .inr ⟨w2.heap.size, 0, rfl, by simp, fun i x hx j v hv => ?_⟩⟩
    rcases i with _ | i
    · cases hx
      rcases j with _ | _ | j
      · cases hv; go_simp; rfl
      · cases hv; go_simp; rfl
      · simp [prL] at hv
    · simp at hx
  have HB3 : Hid (Below w.heap.size w (w2.alloc (.cells #[.string ⟨#[97]⟩, .string ⟨#[49]⟩] 27))) := Lib.hid (HB2.out.alloc HB2.out.size _)
  have HI3 := Lib.hid (in_later HI2.out (below_alloc w2 (.cells #[.string ⟨#[97]⟩, .string ⟨#[49]⟩] 27)))
  have HOf := Lib.hid (Of_any exS_ok (build_any exS_ok 4 (by decide)) HL.out (by decide) ex_slim)
  rw [ex_place] at HOf
  clear hb2 HB2 HI2 HL HI HB1
  go_wp2_with fail
  go_fit HOf.out
  rintro e w3 ⟨ta, rfl, hta, hb3⟩
  have HT3 := Lib.hid hta
  have HB3' : Hid (Below w.heap.size w w3) := Lib.hid (HB3.out.trans (hb3.mono HB3.out.size))
  have HI4 := Lib.hid (in_later HI3.out hb3)
  clear hta hb3 HOf HB3 HI3
  go_wp2_with fail
  go_fit (seed_any w3)
  rintro e w4 ⟨rfl, hb4⟩
  have HT4 := Lib.hid (HT3.out.later hb4)
  have HB4 : Hid (Below w.heap.size w w4) := Lib.hid (HB3'.out.trans (hb4.mono HB3'.out.size))
  have HI5 := Lib.hid (in_later HI4.out hb4)
  clear hb4 HT3 HB3' HI4
  have HOf2 := Lib.hid (Of_any (w := w4) exS_ok (build_any exS_ok 4 (by decide)) (Lay.In.nil (I := prL) w4) (by decide) (fun p hp => by simp at hp))
  rw [ex_place0] at HOf2
  go_wp2_with fail
  go_fit HOf2.out
  rintro e w5 ⟨tb, rfl, htb, hb5⟩
  have HT5 := Lib.hid (HT4.out.later hb5)
  have HTb := Lib.hid htb
  have HB5 : Hid (Below w.heap.size w w5) := Lib.hid (HB4.out.trans (hb5.mono HB4.out.size))
  have HI6 := Lib.hid (in_later HI5.out hb5)
  have HU := Lib.hid (Unlike_one HT5.out htb (by decide) ex_uk)
  clear hb5 htb HT4 HB4 HI5 HOf2
  go_wp2_with fail
  go_fit HU.out
  rintro e w6 ⟨g, c, dg, pr, rfl, hg, hc, hb6⟩
  have HT6 := Lib.hid ((HT5.out.later hb6).later (below_alloc w6 (.cells #[.int .i64 dg, .int .i64 pr] 51)))
  have HB6 : Hid (Below w.heap.size w (w6.alloc (.cells #[.int .i64 dg, .int .i64 pr] 51))) := Lib.hid ((HB5.out.trans (hb6.mono HB5.out.size)).alloc (Nat.le_trans HB5.out.size hb6.size) _)
  have HI7 := Lib.hid (in_later (in_later HI6.out hb6) (below_alloc w6 (.cells #[.int .i64 dg, .int .i64 pr] 51)))
  have HG := Lib.hid (cell_later (below_alloc w6 (.cells #[.int .i64 dg, .int .i64 pr] 51)) hg)
  clear hg hb6 HU HT5 HTb HB5 HI6
  go_upto_region 4 with fail
  generalize w6.alloc (.cells #[.int .i64 dg, .int .i64 pr] 51) = w7 at *
  go_wp2_with fail
  go_fit (seed_any w7)
  rintro e w8 ⟨rfl, hb8⟩
  have HT8 := Lib.hid (HT6.out.later hb8)
  have HB8 : Hid (Below w.heap.size w w8) := Lib.hid (HB6.out.trans (hb8.mono HB6.out.size))
  have HG8 := Lib.hid (cell_later hb8 HG.out)
  have HSu := Lib.hid (Sum_any (c := 15) exS_ok.1 exS_ok.2 (in_later HI7.out hb8) rfl ex_oct (Nat.le_refl _) (by decide))
  rw [ex_bytes] at HSu
  clear hb8 HT6 HB6 HG HI7
  go_wp2_with fail
  go_fit HSu.out
  rintro e w9 ⟨rfl, hb9⟩
  have HT9 := Lib.hid (HT8.out.later hb9)
  have HB9 : Hid (Below w.heap.size w w9) := Lib.hid (HB8.out.trans (hb9.mono HB8.out.size))
  have HG9 := Lib.hid (cell_later hb9 HG8.out)
  have HRt := Lib.hid (Root_any HT9.out)
  rw [ex_t4] at HRt
  clear hb9 HT8 HB8 HG8 HSu
  go_wp2_with fail
  go_fit HRt.out
  rintro e w' ⟨rfl, rfl⟩
  go_wp2_with fail
  go_fit (Len_any HT9.out)
  rintro e w' ⟨rfl, rfl⟩
  have HE : Hid (Calls Try.prog 28 #[.slice (some ⟨g, 0, none⟩) 1 c, .slice (some ⟨w9.heap.size, 0, none⟩) 1 1] (w9.alloc (.cells #[.string ⟨#[97]⟩] 9)) fun e w' => e = .returned (.bool true) ∧ ∃ q, w' = (w9.alloc (.cells #[.string ⟨#[97]⟩] 9)).drewN q) := by
    have hg := cell_later (below_alloc w9 (.cells #[.string ⟨#[97]⟩] 9)) HG9.out
    have h := Try.slices_Equal_string g 0 1 c w9.heap.size 0 1 1 [exK] [exK] (w9.alloc (.cells #[.string ⟨#[97]⟩] 9)) (by decide) (by decide) (by decide) (by decide) (fun j hj => by
      obtain rfl : j = 0 := by simp at hj; omega
      exact hg) (fun j hj => by
      obtain rfl : j = 0 := by simp at hj; omega
      go_simp; rfl)
    exact Lib.hid (h.mono fun e w' hh => ⟨by rw [hh.1]; rfl, hh.2⟩)
  have HBe : Hid (Below w.heap.size w (w9.alloc (.cells #[.string ⟨#[97]⟩] 9))) := Lib.hid (HB9.out.alloc HB9.out.size _)
  clear HT9 HG9 HRt HB9
  go_wp2_with fail
  go_fit HE.out
  rintro e w10 ⟨rfl, q, rfl⟩
  go_wp2_with fail
  go_ret
  exact ⟨rfl, below_drewN HBe.out q⟩
end Go.Proofs.Ytcbgnmolfdhnfaa

/- SH -/
namespace Go.Proofs.Ytcbgnmolfdhnfaa
set_option linter.unusedVariables false
set_option linter.unusedSimpArgs false
open Go.RowKit Go.Joins

/-- Lists of pairs, told. -/
def LsIn (w : World) (v : Value) (ls : List (List Pr)) : Prop := ∃ a c, v = .slice a ls.length c ∧ (ls = [] ∨ ∃ g off, a = some ⟨g, off, none⟩ ∧ ∀ i l, ls[i]? = some l → ∃ u, w.cell? ⟨g, off + i, none⟩ = some u ∧ prL.In w u l)
theorem LsIn.later {w w' : World} {v : Value} {ls : List (List Pr)} (h : LsIn w v ls) (hb : Below w.heap.size w w') : LsIn w' v ls := by
  obtain ⟨a, c, hv, h⟩ := h
  refine ⟨a, c, hv, h.imp id ?_⟩
  rintro ⟨g, off, ha, h⟩
  refine ⟨g, off, ha, fun i l hl => ?_⟩
  obtain ⟨u, hu, hi⟩ := h i l hl
  exact ⟨u, cell_later hb hu, hi.later hb⟩
def cutN (n : Nat) : Nat := min n 8192
theorem min_run (t : Nat) : ∀ (ts : Array TypeId) (ty : TypeId) (W : World), (Builtin.min_ ts ty #[.int .i64 t, .int .i64 8192]).run Try.prog W = .ok (.int .i64 (cutN t : Nat)) W := fun ts ty W => by
  rw [run_min_int2]
  congr 2
  unfold cutN
  split <;> omega
theorem cutN_le (n : Nat) : cutN n ≤ 8192 := Nat.min_le_right _ _
/-- A pair that may be gone through. -/
def Fine (p : Pr) : Prop := cutN p.1.size + cutN p.2.size ≤ 8192
def FineL (ls : List (List Pr)) : Prop := ∀ l ∈ ls, l.length ≤ 60 ∧ ∀ p ∈ l, Fine p
def Short (ls : List (List Pr)) (w : World) (e : Ending) (w' : World) : Prop := ∃ b : Bool, e = .returned (.bool b) ∧ (b = true → FineL ls) ∧ Below w.heap.size w w'

set_option maxRecDepth 100000 in
set_option maxHeartbeats 6400000 in
theorem short_any {w : World} {v : Value} {ls : List (List Pr)} (h : LsIn w v ls) (hl : ls.length ≤ 1000) : Calls Try.prog 10 #[v] w (Short ls w) := by
  obtain ⟨a, c, rfl, hls⟩ := h
  have HL := Lib.hid hls
  obtain ⟨m, hm⟩ : ∃ m, m = ls.length := ⟨_, rfl⟩
  rw [← hm] at hl ⊢
  have HM := Lib.hid hm
  clear hls hm
  go_enter Try.func10, Try.ntmps10
  go_wp2_with fail
  have H0 : Hid (FineL (ls.take 0) ∧ Below w.heap.size w w) := Lib.hid ⟨fun l hl => by simp at hl, Below.refl _ _⟩
  go_loopw [3, 10] (fun u v wr => ∃ (i s : Nat), v = .int .i64 i ∧ i ≤ m ∧ u = .int .i64 s ∧ s ≤ 8192 ∧ Hid (FineL (ls.take i) ∧ Below w.heap.size w wr)) (fun _ v _ => m - (intOf v).toNat)
  case atStart => exact ⟨0, 0, rfl, Nat.zero_le _, rfl, by omega, H0⟩
  case round =>
    obtain ⟨i, s, rfl, him, rfl, hs, hst⟩ := hrel
    generalize wr = wo at *
    clear H0
    have ei : IntKind.i64.wrap ((i : Int) + 1) = (i : Int) + 1 := IntWalk.i64_in _ (by omega)
    by_cases hlt : i < m
    · obtain ⟨l, hi⟩ : ∃ l, ls[i]? = some l := ⟨ls[i]'(by rw [← HM.out]; exact hlt), List.getElem?_eq_getElem _⟩
      obtain ⟨g, off, rfl, hat⟩ := HL.out.resolve_left (fun e => by rw [e] at hi; simp at hi)
      obtain ⟨u, hu, hin⟩ := hat i l hi
      have hu2 := cell_later hst.out.2 hu
      obtain ⟨la, lc, rfl, _, _⟩ := hin.slice
      have HIn := Lib.hid (hin.later hst.out.2)
      have HI := Lib.hid hi
      obtain ⟨n, hn⟩ : ∃ n, n = l.length := ⟨_, rfl⟩
      rw [← hn] at hu2 HIn
      have HN := Lib.hid hn
      clear hi hat hu hin hn
      by_cases h60 : 60 < n
      · have h60I : (60 : Int) < (n : Int) := by omega
        go_wp2_with fail
        go_ret
        exact ⟨false, rfl, (fun h => by cases h), hst.out.2⟩
      · have h60I : ¬ (60 : Int) < (n : Int) := by omega
        have HJ0 : Hid ((∀ p ∈ l.take 0, Fine p) ∧ Below w.heap.size w wo ∧ Below wo.heap.size wo wo) := Lib.hid ⟨fun p hp => by simp at hp, hst.out.2, Below.refl _ _⟩
        go_wp2_with fail
        go_loopw [3, 19] (fun u v wr => ∃ (j s : Nat), v = .int .i64 j ∧ j ≤ n ∧ u = .int .i64 s ∧ s ≤ 8192 ∧ Hid ((∀ p ∈ l.take j, Fine p) ∧ Below w.heap.size w wr ∧ Below wo.heap.size wo wr)) (fun _ v _ => n - (intOf v).toNat)
        case atStart => exact ⟨0, s, rfl, Nat.zero_le _, rfl, hs, HJ0⟩
        case round =>
          obtain ⟨j, t, rfl, hjn, rfl, ht, hjt⟩ := hrel
          clear HJ0
          have ej : IntKind.i64.wrap ((j : Int) + 1) = (j : Int) + 1 := IntWalk.i64_in _ (by omega)
          by_cases hjl : j < n
          · obtain ⟨p, hp⟩ : ∃ p, l[j]? = some p := ⟨l[j]'(by rw [← HN.out]; exact hjl), List.getElem?_eq_getElem _⟩
            obtain ⟨g2, off2, rfl, _, hat2⟩ := (HIn.out.later hjt.out.2.2).cells hp
            have c0 := hat2 0 _ rfl
            have c1 := hat2 1 _ rfl
            obtain ⟨k, x⟩ := p
            have d0 : wr.cell? ⟨g2, off2 + j * 2, none⟩ = some (.string k) := c0
            have d1 : wr.cell? ⟨g2, off2 + j * 2 + 1, none⟩ = some (.string x) := c1
            have HP := Lib.hid hp
            have hk1 := min_run k.size
            have hk2 := min_run x.size
            have b1 := cutN_le k.size
            have b2 := cutN_le x.size
            have HFi := Lib.hid (show cutN k.size + cutN x.size ≤ 8192 → Fine (k, x) from id)
            generalize cutN k.size = A at *
            generalize cutN x.size = B at *
            have HB := Lib.hid (below_alloc wr (.cells #[.string k, .string x] 27))
            clear hp hat2 c0 c1
            by_cases hbig : 8192 < t + (A + B)
            · have hbI : (8192 : Int) < (t : Int) + ((A : Int) + (B : Int)) := by omega
              go_wp2_with fail
              go_ret
              exact ⟨false, rfl, (fun h => by cases h), hjt.out.2.1.trans (HB.out.mono hjt.out.2.1.size)⟩
            · have hbI : ¬ (8192 : Int) < (t : Int) + ((A : Int) + (B : Int)) := by omega
              have HNx : Hid ((∀ p ∈ l.take (j + 1), Fine p) ∧ Below w.heap.size w (wr.alloc (.cells #[.string k, .string x] 27)) ∧ Below wo.heap.size wo (wr.alloc (.cells #[.string k, .string x] 27))) := by
                refine Lib.hid ⟨fun p hp => ?_, hjt.out.2.1.trans (HB.out.mono hjt.out.2.1.size), hjt.out.2.2.trans (HB.out.mono hjt.out.2.2.size)⟩
                rw [List.take_add_one, HP.out] at hp
                rcases List.mem_append.1 hp with hp | hp
                · exact hjt.out.1 p hp
                · obtain rfl : p = (k, x) := by simpa using hp
                  exact HFi.out (by omega)
              go_wp2_with fail
              exact ⟨⟨j + 1, t + (A + B), by push_cast; rfl, by omega, by push_cast; rfl, by omega, HNx⟩, by simp [intOf]; omega⟩
          · obtain rfl : j = n := by omega
            have HNx : Hid (FineL (ls.take (i + 1)) ∧ Below w.heap.size w wr) := by
              refine Lib.hid ⟨fun l' hl' => ?_, hjt.out.2.1⟩
              rw [List.take_add_one, HI.out] at hl'
              rcases List.mem_append.1 hl' with hl' | hl'
              · exact hst.out.1 l' hl'
              · obtain rfl : l' = l := by simpa using hl'
                have h1 := hjt.out.1
                rw [List.take_of_length_le (by rw [← HN.out]; exact Nat.le_refl _)] at h1
                exact ⟨by rw [← HN.out]; omega, h1⟩
            go_wp2_with fail
            exact ⟨⟨i + 1, t, by push_cast; rfl, by omega, rfl, ht, HNx⟩, by simp [intOf]; omega⟩
    · obtain rfl : i = m := by omega
      have hF := hst.out.1
      rw [List.take_of_length_le (by rw [← HM.out]; exact Nat.le_refl _)] at hF
      go_wp2_with fail
      go_ret
      exact ⟨true, rfl, fun _ => hF, hst.out.2⟩
end Go.Proofs.Ytcbgnmolfdhnfaa

/- Cl -/
namespace Go.Proofs.Ytcbgnmolfdhnfaa
set_option linter.unusedVariables false
set_option linter.unusedSimpArgs false
open Go.RowKit

theorem Try.infoU8c : (Try.prog.info? 5).map (fun i => (i.zero, i.size, i.bytes)) = some (some (.int .u8 0), 1, 1) := by kernel_rfl
def byL : Lay Int := ⟨fun x => [.int .u8 x], 1, fun _ => rfl, by intro x u hu; simp at hu; subst hu; rfl⟩
theorem byL_all (xs : List Int) : byL.all xs = u8v xs := by
  unfold Lay.all u8v byL
  simp [List.flatMap_singleton']
  induction xs with
  | nil => rfl
  | cons x l ih => simp [ih]
theorem byL_at {w : World} {b o n : Nat} {xs : List Int} (hx : xs.length = n) (hc : ∀ i, i < n → w.cell? ⟨b, o + i, none⟩ = some (.int .u8 (xs.getD i 0))) : byL.At w b o xs := fun i x hi j u hu => by
  have hj : j = 0 := by
    have := (List.getElem?_eq_some_iff.1 hu).1
    simpa [byL] using this
  subst hj
  simp only [byL, List.getElem?_cons_zero, Option.some.injEq] at hu
  subst hu
  have hlt2 := (List.getElem?_eq_some_iff.1 hi).1
  have := hc i (by omega)
  have e : xs.getD i 0 = x := by rw [List.getD_eq_getElem?_getD, hi]; rfl
  rw [e] at this
  simpa [byL] using this
/-- 'append(l, more...)', l a row of one's own. -/
theorem wpList_catB {P : Program} {α : Type} {I : Lay α} {w : World} {B bytes : Nat} {v u zero : Value} {xs ys : List α} {ops : Array Oper} {rest : List Oper} {o : Oper} {a : Act} {Q : Exit → Act → World → Prop} (hgd : o.guard = none) (s x : Operand) (T E : TypeId)
    (ho : o.op = .call { callee := .builtin .append, args := #[s, x], argTypes := #[T, T] })
    (hT : P.underlying T = some (.slice E)) (hinfo : (P.info? E).map (fun i => (i.zero, i.size, i.bytes)) = some (some zero, I.sz, bytes)) (hz : zero.cells.size = I.sz) (hsz : 0 < I.sz)
    (hown : w.ownsRow B E I.sz v xs.length (I.all xs)) (hu : ∃ a' c', u = .slice a' ys.length c' ∧ (ys = [] ∨ ∃ g off, a' = some ⟨g, off, none⟩ ∧ I.At w g off ys)) (hl : xs.length + ys.length ≤ 140737488355328) (hlb : (xs.length + ys.length) * bytes ≤ 140737488355328) (hB : B ≤ w.heap.size) (hs : a.eval s = v) (hx : a.eval x = u)
    (hk : ∀ v' w', w'.ownsRow B E I.sz v' (xs ++ ys).length (I.all (xs ++ ys)) → w.grownBy w' v.ownBlock → wpList P ops Q rest (a.put o.dst v') w') : wpList P ops Q (o :: rest) a w := by
  refine wpList_plain hgd fun _ hK => ?_
  obtain ⟨i0, hi, hz0, hz1, hz2⟩ := info_parts hinfo
  have main : ∃ v' w', (Builtin.append_ #[T, T] o.type #[v, u]).run P w = .ok v' w' ∧ w'.ownsRow B E I.sz v' (xs ++ ys).length (I.all (xs ++ ys)) ∧ w.grownBy w' v.ownBlock := by
    obtain ⟨a', c, rfl, hu⟩ := hu
    by_cases hy : ys = []
    · subst hy
      refine ⟨v, w, ?_, by rw [List.append_nil]; exact hown, World.grownBy.refl w _⟩
      rcases hown.2 with ⟨rfl, hn⟩ | ⟨g, cap, cur, rfl, _, _, hnc, _⟩
      · cases a' <;> simp [Builtin.append_, run_underlying hT, sizeOf, typeInfo, hi, Builtin.lenOf, Builtin.firstCells, loadCellsFrom, loadCells]
      · cases a' <;> simp [Builtin.append_, run_underlying hT, sizeOf, typeInfo, hi, Builtin.lenOf, Builtin.firstCells, hnc, storeCells, loadCellsFrom, loadCells]
    · obtain ⟨g, off, rfl, hp⟩ := hu.resolve_left hy
      obtain ⟨v', w', hr, h2, h3, _, h5⟩ := run_append_own_at (P := P) w B T o.type E i0 zero I.sz bytes hT hi hz0 hz1 hz2 hz hsz v xs.length (I.all xs) hown ⟨g, off, none⟩ ys.length c (I.all ys) (Lay.all_len I ys) (lay_cells hp) (Lay.all_ones I ys) (by unfold maxLen; omega) (Nat.le_trans hlb (by decide)) hB
      exact ⟨v', w', hr, by rw [Lay.all_app, List.length_append]; exact h2, h3⟩
  obtain ⟨v', w', hr, h2, h3⟩ := main
  unfold Oper.wp execOp
  simp only [ho, resolve, invoke, builtin, Sem.run_bind, Sem.run_pure, Result.andThen_ok, List.map_toArray, List.map_cons, List.map_nil, hs, hx, hr]
  exact hK _ _ (hk v' w' h2 h3)
theorem eql_bytes (a : Option Addr) (n c : Nat) (W : World) : (binOp .eql 25 (.slice a n c) (.slice none 0 0)).run Try.prog W = .ok (.bool a.isNone) W := by
  cases a <;> kernel_rfl
theorem row_slice3 {w : World} {B n sz : Nat} {t : TypeId} {v : Value} {cs : List Value} (h : w.ownsRow B t sz v n cs) : ∃ a c, v = .slice a n c := by
  rcases h.2 with ⟨h0, h1⟩ | ⟨g', cap, cur, hv, _, _, hn, hm, _⟩
  · exact ⟨none, 0, by rw [h0, h1]⟩
  · exact ⟨_, cap, hv⟩
def CloP (xs : List Int) (n : Nat) (w : World) (e : Ending) (w' : World) : Prop := Below w.heap.size w w' ∧ ∃ a c, e = .returned (.slice a n c) ∧ Lib.BytesIn w' a n xs ∧ n ≤ c
set_option maxRecDepth 100000 in
set_option maxHeartbeats 1600000 in
theorem CloneU_any (p : Option Addr) (n c : Nat) (xs : List Int) (w : World) (hx : xs.length = n) (hb : Lib.BytesIn w p n xs) (hp : p = none → n = 0 ∧ c = 0) (hn : n ≤ 1000000) : Calls Try.prog 12 #[.slice p n c] w (CloP xs n w) := by
  cases p with
  | none =>
    obtain ⟨rfl, rfl⟩ := hp rfl
    have e1 := fun W => eql_bytes none 0 0 W
    have HB := Lib.hid hb
    clear hb hp
    go_enter Try.func12, Try.ntmps12
    go_wp2_with fail
    go_ret
    exact ⟨Below.refl _ _, none, 0, rfl, HB.out, Nat.le_refl _⟩
  | some a =>
    have e1 := fun W => eql_bytes (some a) n c W
    have hal := lay_alloc w (.cells #[] 5)
    have HB := Lib.hid hal
    have HI : Hid (∃ a' c', (Value.slice (some a) n c) = .slice a' xs.length c' ∧ (xs = [] ∨ ∃ g off, a' = some ⟨g, off, none⟩ ∧ byL.At (w.alloc (.cells #[] 5)) g off xs)) := by
      refine ⟨some a, c, by rw [hx], ?_⟩
      by_cases h0 : 0 < n
      · obtain ⟨b, o, hbo, hc⟩ := (Wi.later hb hal) h0
        exact .inr ⟨b, o, hbo, byL_at hx hc⟩
      · exact .inl (List.eq_nil_of_length_eq_zero (by omega))
    have HOwn : Hid ((w.alloc (.cells #[] 5)).ownsRow w.heap.size 5 byL.sz (.slice (some ⟨w.heap.size, 0, none⟩) 0 0) ([] : List Int).length (byL.all [])) := World.ownsRow_made w #[] 0 (Nat.le_refl _) (by decide) rfl
    have HL : Hid (([] : List Int).length + xs.length ≤ 140737488355328) := by show 0 + xs.length ≤ _; omega
    have HLb : Hid ((([] : List Int).length + xs.length) * 1 ≤ 140737488355328) := by show (0 + xs.length) * 1 ≤ _; omega
    have HX := Lib.hid hx
    clear hb hp hn hal hx
    go_enter Try.func12, Try.ntmps12
    go_wp2_with (at_builtin; refine wpList_catB (I := byL) rfl _ _ 25 5 rfl Try.underlying25 Try.infoU8c rfl (by decide) HOwn.out HI.out HL.out HLb.out HB.out.size rfl rfl ?_; intro v2 w2 hown hgrow; have HO := Lib.hid hown; have HG := Lib.hid hgrow; clear hown hgrow)
    obtain ⟨va, vc, hv⟩ := row_slice3 HO.out
    subst hv
    have HF : Hid (CloP xs n w (.returned (.slice va n vc)) w2) := by
      have ho := HO.out
      rw [byL_all, List.nil_append] at ho
      rw [show xs.length = n from HX.out] at ho
      refine ⟨HB.out.trans ⟨HG.out.os, HG.out.tape, HG.out.output, HG.out.size, fun k hk => HG.out.block k (Nat.lt_of_lt_of_le hk HB.out.size) (fun e => by simp [Value.ownBlock] at e; omega)⟩, va, vc, rfl, ?_⟩
      rcases ho.2 with ⟨h1, h2⟩ | ⟨g', cap, cur, hv, _⟩
      · simp only [Value.slice.injEq] at h1
        exact ⟨fun h => absurd h (by omega), by omega⟩
      · simp only [Value.slice.injEq, true_and] at hv
        obtain ⟨rfl, rfl⟩ := hv
        exact ⟨Wi.owns_in ho, owns_cap ho⟩
    have HF2 := HF.out
    rw [← HX.out] at HF2
    go_ret
    rw [← HX.out]
    exact HF2


set_option maxRecDepth 100000 in
set_option maxHeartbeats 3200000 in
/-- slices.Equal of two rows of bytes that read alike. -/
theorem EqS_any (p : Option Addr) (n c : Nat) (q : Option Addr) (d : Nat) (xs : List Int) (w : World) (hx : xs.length = n) (hn : n ≤ 1000000) (h1 : Lib.BytesIn w p n xs) (h2 : Lib.BytesIn w q n xs) :
    Calls Try.prog 19 #[.slice p n c, .slice q n d] w fun e w' => e = .returned (.bool true) ∧ Below w.heap.size w w' := by
  have H1 := Lib.hid h1
  have H2 := Lib.hid h2
  have HX := Lib.hid hx
  clear h1 h2 hx
  go_enter Try.func19, Try.ntmps19
  go_wp2_with fail
  have H0 : Hid (Below w.heap.size w w) := Lib.hid (Below.refl _ _)
  go_loopw [13] (fun v wr => ∃ i : Nat, v = .int .i64 i ∧ i ≤ n ∧ Hid (Below w.heap.size w wr)) (fun v _ => n - (intOf v).toNat)
  case atStart => exact ⟨0, rfl, Nat.zero_le _, H0⟩
  case round =>
    obtain ⟨i, rfl, hi, hst⟩ := hrel
    have ei : IntKind.i64.wrap ((i : Int) + 1) = (i : Int) + 1 := IntWalk.i64_in _ (by omega)
    by_cases hlt : i < n
    · obtain ⟨b, o, rfl, hc⟩ := H1.out (by omega)
      obtain ⟨b2, o2, rfl, hc2⟩ := H2.out (by omega)
      have d1 := cell_later hst.out (hc i hlt)
      have d2 := cell_later hst.out (hc2 i hlt)
      have hltI : (i : Int) < (n : Int) := by omega
      have h0I : (0 : Int) ≤ (i : Int) := by omega
      have etn : (i : Int).toNat = i := by omega
      generalize xs.getD i 0 = x at *
      clear hc hc2
      go_upto_region 6 with fail
      go_quiet (fail)
      go_wp2_with fail
      exact ⟨⟨i + 1, by push_cast; rfl, by omega, Lib.hid (below_drewN hst.out _)⟩, by simp [intOf]; omega⟩
    · obtain rfl : i = n := by omega
      go_wp2_with fail
      go_ret
      exact ⟨rfl, hst.out⟩
end Go.Proofs.Ytcbgnmolfdhnfaa
