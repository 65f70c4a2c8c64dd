/-
  The document's mixer. (Written by gendg3.py.)
-/
import Derived.Test.YtdgnjalbpiciiaaD3
import Derived.Lib.SmallJoins
namespace Go.Proofs.Ytdgnjalbpiciiaa.Dg
open Go.Proofs.Ytdgnjalbpiciiaa
set_option linter.unusedVariables false
set_option linter.unusedSimpArgs false
open Go.RowKit Go.Joins

theorem results_cell {fn : Func} {p : Tmp} {ty : TypeId} (h : fn.results = #[.cell p ty]) (tmps : Array Value) (P : Program) (w : World) :
    (results fn tmps).run P w = ((asAddr (tmps.getD p undef)).run P w).andThen fun a w₁ => (loadVar ty a).run P w₁ := by
  simp only [results, h]
  simp [Sem.run_bind, Result.andThen]
theorem heap_alloc2 (w : World) (o1 o2 : Obj) : ((w.alloc o1).alloc o2).heap[w.heap.size + 1]? = some o2 := by
  have h : ((w.alloc o1).alloc o2).heap = (w.heap.push o1).push o2 := rfl
  have e : w.heap.size + 1 = (w.heap.push o1).size := by simp
  rw [h, e, Array.getElem?_push_size]
theorem turn32 (x : Nat) (hx : x < 2^64) (w : World) : Calls Try.prog 118 #[.int .u64 x, .int .i64 32] w fun e w' => e = .returned (.int .u64 (rot 32 x : Nat)) ∧ w = w' := turn_any x hx 32 (by decide) w
noncomputable def W4.val (s : W4) : Value := .agg #[.int .u64 s.a, .int .u64 s.b, .int .u64 s.c, .int .u64 s.d]

set_option maxRecDepth 100000 in
set_option maxHeartbeats 1600000 in
theorem rmix_any {w : World} {s : W4} (ho : s.Ok) : Calls Try.prog 100 #[s.val] w fun e w' => e = .returned s.mix.val ∧ Below w.heap.size w w' := by
  have HO := Lib.hid ho
  clear ho
  unfold W4.val
  go_enter Try.func100, Try.ntmps100
  go_upto_region 1 with fail
  have HA : Hid (At4 ((w.alloc (.cells #[.int .u64 s.a, .int .u64 s.b, .int .u64 s.c, .int .u64 s.d] 117)).alloc (.cells #[.int .u64 0, .int .u64 0, .int .u64 0, .int .u64 0] 117)) ((w.alloc (.cells #[.int .u64 s.a, .int .u64 s.b, .int .u64 s.c, .int .u64 s.d] 117)).alloc (.cells #[.int .u64 0, .int .u64 0, .int .u64 0, .int .u64 0] 117)) w.heap.size s) := by
    refine Lib.hid ⟨?_, ?_, ?_, ?_, ?_, ⟨rfl, rfl, rfl, Nat.le_refl _, fun _ _ => rfl⟩, fun _ _ => rfl⟩
    all_goals first | go_simp; done | (intro i; go_simp)
  have HB : Hid (Below w.heap.size w ((w.alloc (.cells #[.int .u64 s.a, .int .u64 s.b, .int .u64 s.c, .int .u64 s.d] 117)).alloc (.cells #[.int .u64 0, .int .u64 0, .int .u64 0, .int .u64 0] 117))) := Lib.hid (below_alloc2 _ _ _)
  have HR : Hid (((w.alloc (.cells #[.int .u64 s.a, .int .u64 s.b, .int .u64 s.c, .int .u64 s.d] 117)).alloc (.cells #[.int .u64 0, .int .u64 0, .int .u64 0, .int .u64 0] 117)).heap[w.heap.size + 1]? = some (.cells #[.int .u64 0, .int .u64 0, .int .u64 0, .int .u64 0] 117 (0, 0))) := by
    exact Lib.hid (heap_alloc2 _ _ _)
  generalize (w.alloc (.cells #[.int .u64 s.a, .int .u64 s.b, .int .u64 s.c, .int .u64 s.d] 117)).alloc (.cells #[.int .u64 0, .int .u64 0, .int .u64 0, .int .u64 0] 117) = W at *
  generalize hg : w.heap.size = g at *
  -- step 0
  have qa := HA.out.a; have qb := HA.out.b; have qc := HA.out.c; have qd := HA.out.d; have qf := HA.out.fz
  have qz := qf 0
  obtain ⟨la, lb, lc, ld⟩ := HO.out
  have qe : (((s.a : Int)) + (s.b : Int)) % 18446744073709551616 = ((s.s0.a : Nat) : Int) := by simp only [W4.s0]; omega
  have qw : IntKind.u64.wrap ((s.a : Int) + (s.b : Int)) = ((s.s0.a : Nat) : Int) := by rw [IntKind.wrap_u64]; exact qe
  go_upto_region 2 with fail
  try simp only [qw]
  try simp only [qe]
  have HA1 := Lib.hid ((HA.out.puta (s.s0.a))); have HO1 := Lib.hid HO.out.s0
  clear HA HO qa qb qc qd qf qz la lb lc ld qe qw
  have HA := Lib.hid (show At4 W ((W.setCell ⟨g, 0, none⟩ (.int .u64 (s.s0.a : Nat)))) g s.s0 from HA1.out); have HO := HO1; clear HA1 HO1
  generalize ((W.setCell ⟨g, 0, none⟩ (.int .u64 (s.s0.a : Nat)))) = w0 at *
  obtain ⟨s0, e0⟩ : ∃ x, x = s.s0 := ⟨_, rfl⟩
  rw [← e0] at HA HO
  have E0 := Lib.hid e0
  clear e0
  -- step 1
  have qa := HA.out.a; have qb := HA.out.b; have qc := HA.out.c; have qd := HA.out.d; have qf := HA.out.fz
  have qz := qf 1
  have qa' := HA.out.drew.a; have qb' := HA.out.drew.b; have qc' := HA.out.drew.c; have qd' := HA.out.drew.d; have qz' := HA.out.drew.fz 1
  obtain ⟨la, lb, lc, ld⟩ := HO.out
  have qe0 : Hid (bits .xor .u64 (rot 13 s0.b : Nat) (s0.a : Nat) = ((s0.s1.b : Nat) : Int)) := Lib.hid (xorw (rotw_lt (n := 13) lb (by omega)) la)
  have HC := fun W => (turn_any s0.b (by omega) 13 (by decide) W).mono (fun e w' h => (show e = .returned (.int .u64 (rot 13 s0.b : Nat)) ∧ w' = W from ⟨h.1, h.2.symm⟩))
  refine wp_region_still_tail 7 (by kernel_rfl) (by kernel_rfl) ?_
  simp only [List.take_succ_cons, List.take_zero, List.drop_succ_cons, List.drop_zero]
  change wpStill _ _ w0.drew _ _ _
  still_step; still_step
  still_call (HC w0.drew)
  repeat still_step
  refine wpStill_nil ?_
  change wpList _ _ _ _ _ w0.drew
  go_upto_region 3 with fail
  have qe := qe0.out
  try simp only [qe]
  have HA1 := Lib.hid ((HA.out.putb (s0.s1.b)).drew); have HO1 := Lib.hid HO.out.s1
  clear HA HO qa qb qc qd qf qz la lb lc ld qe qe0 HC qa' qb' qc' qd' qz'
  have HA := Lib.hid (show At4 W ((w0.setCell ⟨g, 1, none⟩ (.int .u64 (s0.s1.b : Nat))).drew) g s0.s1 from HA1.out); have HO := HO1; clear HA1 HO1
  generalize ((w0.setCell ⟨g, 1, none⟩ (.int .u64 (s0.s1.b : Nat))).drew) = w1 at *
  obtain ⟨s1, e1⟩ : ∃ x, x = s0.s1 := ⟨_, rfl⟩
  rw [← e1] at HA HO
  have E1 := Lib.hid e1
  clear e1
  -- step 2
  have qa := HA.out.a; have qb := HA.out.b; have qc := HA.out.c; have qd := HA.out.d; have qf := HA.out.fz
  have qz := qf 0
  obtain ⟨la, lb, lc, ld⟩ := HO.out
  have qe : ((rot 32 s1.a : Nat) : Int) = ((s1.s2.a : Nat) : Int) := rfl
  have HC := fun W => turn32 s1.a (by omega) W
  go_upto_region 4 with (go_at_call 118; (with_reducible refine (HC _).mono ?_); rintro e w' ⟨rfl, rfl⟩)
  try simp only [qe]
  have HA1 := Lib.hid ((HA.out.puta (s1.s2.a))); have HO1 := Lib.hid HO.out.s2
  clear HA HO qa qb qc qd qf qz la lb lc ld qe HC
  have HA := Lib.hid (show At4 W ((w1.setCell ⟨g, 0, none⟩ (.int .u64 (s1.s2.a : Nat)))) g s1.s2 from HA1.out); have HO := HO1; clear HA1 HO1
  generalize ((w1.setCell ⟨g, 0, none⟩ (.int .u64 (s1.s2.a : Nat)))) = w2 at *
  obtain ⟨s2, e2⟩ : ∃ x, x = s1.s2 := ⟨_, rfl⟩
  rw [← e2] at HA HO
  have E2 := Lib.hid e2
  clear e2
  -- step 3
  have qa := HA.out.a; have qb := HA.out.b; have qc := HA.out.c; have qd := HA.out.d; have qf := HA.out.fz
  have qz := qf 2
  obtain ⟨la, lb, lc, ld⟩ := HO.out
  have qe : (((s2.c : Int)) + (s2.d : Int)) % 18446744073709551616 = ((s2.s3.c : Nat) : Int) := by simp only [W4.s3]; omega
  have qw : IntKind.u64.wrap ((s2.c : Int) + (s2.d : Int)) = ((s2.s3.c : Nat) : Int) := by rw [IntKind.wrap_u64]; exact qe
  go_upto_region 5 with fail
  try simp only [qw]
  try simp only [qe]
  have HA1 := Lib.hid ((HA.out.putc (s2.s3.c))); have HO1 := Lib.hid HO.out.s3
  clear HA HO qa qb qc qd qf qz la lb lc ld qe qw
  have HA := Lib.hid (show At4 W ((w2.setCell ⟨g, 2, none⟩ (.int .u64 (s2.s3.c : Nat)))) g s2.s3 from HA1.out); have HO := HO1; clear HA1 HO1
  generalize ((w2.setCell ⟨g, 2, none⟩ (.int .u64 (s2.s3.c : Nat)))) = w3 at *
  obtain ⟨s3, e3⟩ : ∃ x, x = s2.s3 := ⟨_, rfl⟩
  rw [← e3] at HA HO
  have E3 := Lib.hid e3
  clear e3
  -- step 4
  have qa := HA.out.a; have qb := HA.out.b; have qc := HA.out.c; have qd := HA.out.d; have qf := HA.out.fz
  have qz := qf 3
  have qa' := HA.out.drew.a; have qb' := HA.out.drew.b; have qc' := HA.out.drew.c; have qd' := HA.out.drew.d; have qz' := HA.out.drew.fz 3
  obtain ⟨la, lb, lc, ld⟩ := HO.out
  have qe0 : Hid (bits .xor .u64 (rot 16 s3.d : Nat) (s3.c : Nat) = ((s3.s4.d : Nat) : Int)) := Lib.hid (xorw (rotw_lt (n := 16) ld (by omega)) lc)
  have HC := fun W => (turn_any s3.d (by omega) 16 (by decide) W).mono (fun e w' h => (show e = .returned (.int .u64 (rot 16 s3.d : Nat)) ∧ w' = W from ⟨h.1, h.2.symm⟩))
  refine wp_region_still_tail 7 (by kernel_rfl) (by kernel_rfl) ?_
  simp only [List.take_succ_cons, List.take_zero, List.drop_succ_cons, List.drop_zero]
  change wpStill _ _ w3.drew _ _ _
  still_step; still_step
  still_call (HC w3.drew)
  repeat still_step
  refine wpStill_nil ?_
  change wpList _ _ _ _ _ w3.drew
  go_upto_region 6 with fail
  have qe := qe0.out
  try simp only [qe]
  have HA1 := Lib.hid ((HA.out.putd (s3.s4.d)).drew); have HO1 := Lib.hid HO.out.s4
  clear HA HO qa qb qc qd qf qz la lb lc ld qe qe0 HC qa' qb' qc' qd' qz'
  have HA := Lib.hid (show At4 W ((w3.setCell ⟨g, 3, none⟩ (.int .u64 (s3.s4.d : Nat))).drew) g s3.s4 from HA1.out); have HO := HO1; clear HA1 HO1
  generalize ((w3.setCell ⟨g, 3, none⟩ (.int .u64 (s3.s4.d : Nat))).drew) = w4 at *
  obtain ⟨s4, e4⟩ : ∃ x, x = s3.s4 := ⟨_, rfl⟩
  rw [← e4] at HA HO
  have E4 := Lib.hid e4
  clear e4
  -- step 5
  have qa := HA.out.a; have qb := HA.out.b; have qc := HA.out.c; have qd := HA.out.d; have qf := HA.out.fz
  have qz := qf 0
  obtain ⟨la, lb, lc, ld⟩ := HO.out
  have qe : (((s4.a : Int)) + (s4.d : Int)) % 18446744073709551616 = ((s4.s5.a : Nat) : Int) := by simp only [W4.s5]; omega
  have qw : IntKind.u64.wrap ((s4.a : Int) + (s4.d : Int)) = ((s4.s5.a : Nat) : Int) := by rw [IntKind.wrap_u64]; exact qe
  go_upto_region 7 with fail
  try simp only [qw]
  try simp only [qe]
  have HA1 := Lib.hid ((HA.out.puta (s4.s5.a))); have HO1 := Lib.hid HO.out.s5
  clear HA HO qa qb qc qd qf qz la lb lc ld qe qw
  have HA := Lib.hid (show At4 W ((w4.setCell ⟨g, 0, none⟩ (.int .u64 (s4.s5.a : Nat)))) g s4.s5 from HA1.out); have HO := HO1; clear HA1 HO1
  generalize ((w4.setCell ⟨g, 0, none⟩ (.int .u64 (s4.s5.a : Nat)))) = w5 at *
  obtain ⟨s5, e5⟩ : ∃ x, x = s4.s5 := ⟨_, rfl⟩
  rw [← e5] at HA HO
  have E5 := Lib.hid e5
  clear e5
  -- step 6
  have qa := HA.out.a; have qb := HA.out.b; have qc := HA.out.c; have qd := HA.out.d; have qf := HA.out.fz
  have qz := qf 3
  have qa' := HA.out.drew.a; have qb' := HA.out.drew.b; have qc' := HA.out.drew.c; have qd' := HA.out.drew.d; have qz' := HA.out.drew.fz 3
  obtain ⟨la, lb, lc, ld⟩ := HO.out
  have qe0 : Hid (bits .xor .u64 (rot 21 s5.d : Nat) (s5.a : Nat) = ((s5.s6.d : Nat) : Int)) := Lib.hid (xorw (rotw_lt (n := 21) ld (by omega)) la)
  have HC := fun W => (turn_any s5.d (by omega) 21 (by decide) W).mono (fun e w' h => (show e = .returned (.int .u64 (rot 21 s5.d : Nat)) ∧ w' = W from ⟨h.1, h.2.symm⟩))
  refine wp_region_still_tail 7 (by kernel_rfl) (by kernel_rfl) ?_
  simp only [List.take_succ_cons, List.take_zero, List.drop_succ_cons, List.drop_zero]
  change wpStill _ _ w5.drew _ _ _
  still_step; still_step
  still_call (HC w5.drew)
  repeat still_step
  refine wpStill_nil ?_
  change wpList _ _ _ _ _ w5.drew
  go_upto_region 8 with fail
  have qe := qe0.out
  try simp only [qe]
  have HA1 := Lib.hid ((HA.out.putd (s5.s6.d)).drew); have HO1 := Lib.hid HO.out.s6
  clear HA HO qa qb qc qd qf qz la lb lc ld qe qe0 HC qa' qb' qc' qd' qz'
  have HA := Lib.hid (show At4 W ((w5.setCell ⟨g, 3, none⟩ (.int .u64 (s5.s6.d : Nat))).drew) g s5.s6 from HA1.out); have HO := HO1; clear HA1 HO1
  generalize ((w5.setCell ⟨g, 3, none⟩ (.int .u64 (s5.s6.d : Nat))).drew) = w6 at *
  obtain ⟨s6, e6⟩ : ∃ x, x = s5.s6 := ⟨_, rfl⟩
  rw [← e6] at HA HO
  have E6 := Lib.hid e6
  clear e6
  -- step 7
  have qa := HA.out.a; have qb := HA.out.b; have qc := HA.out.c; have qd := HA.out.d; have qf := HA.out.fz
  have qz := qf 2
  obtain ⟨la, lb, lc, ld⟩ := HO.out
  have qe : (((s6.c : Int)) + (s6.b : Int)) % 18446744073709551616 = ((s6.s7.c : Nat) : Int) := by simp only [W4.s7]; omega
  have qw : IntKind.u64.wrap ((s6.c : Int) + (s6.b : Int)) = ((s6.s7.c : Nat) : Int) := by rw [IntKind.wrap_u64]; exact qe
  go_upto_region 9 with fail
  try simp only [qw]
  try simp only [qe]
  have HA1 := Lib.hid ((HA.out.putc (s6.s7.c))); have HO1 := Lib.hid HO.out.s7
  clear HA HO qa qb qc qd qf qz la lb lc ld qe qw
  have HA := Lib.hid (show At4 W ((w6.setCell ⟨g, 2, none⟩ (.int .u64 (s6.s7.c : Nat)))) g s6.s7 from HA1.out); have HO := HO1; clear HA1 HO1
  generalize ((w6.setCell ⟨g, 2, none⟩ (.int .u64 (s6.s7.c : Nat)))) = w7 at *
  obtain ⟨s7, e7⟩ : ∃ x, x = s6.s7 := ⟨_, rfl⟩
  rw [← e7] at HA HO
  have E7 := Lib.hid e7
  clear e7
  -- step 8
  have qa := HA.out.a; have qb := HA.out.b; have qc := HA.out.c; have qd := HA.out.d; have qf := HA.out.fz
  have qz := qf 1
  have qa' := HA.out.drew.a; have qb' := HA.out.drew.b; have qc' := HA.out.drew.c; have qd' := HA.out.drew.d; have qz' := HA.out.drew.fz 1
  obtain ⟨la, lb, lc, ld⟩ := HO.out
  have qe0 : Hid (bits .xor .u64 (rot 17 s7.b : Nat) (s7.c : Nat) = ((s7.s8.b : Nat) : Int)) := Lib.hid (xorw (rotw_lt (n := 17) lb (by omega)) lc)
  have HC := fun W => (turn_any s7.b (by omega) 17 (by decide) W).mono (fun e w' h => (show e = .returned (.int .u64 (rot 17 s7.b : Nat)) ∧ w' = W from ⟨h.1, h.2.symm⟩))
  refine wp_region_still_tail 7 (by kernel_rfl) (by kernel_rfl) ?_
  simp only [List.take_succ_cons, List.take_zero, List.drop_succ_cons, List.drop_zero]
  change wpStill _ _ w7.drew _ _ _
  still_step; still_step
  still_call (HC w7.drew)
  repeat still_step
  refine wpStill_nil ?_
  change wpList _ _ _ _ _ w7.drew
  go_upto_region 10 with fail
  have qe := qe0.out
  try simp only [qe]
  have HA1 := Lib.hid ((HA.out.putb (s7.s8.b)).drew); have HO1 := Lib.hid HO.out.s8
  clear HA HO qa qb qc qd qf qz la lb lc ld qe qe0 HC qa' qb' qc' qd' qz'
  have HA := Lib.hid (show At4 W ((w7.setCell ⟨g, 1, none⟩ (.int .u64 (s7.s8.b : Nat))).drew) g s7.s8 from HA1.out); have HO := HO1; clear HA1 HO1
  generalize ((w7.setCell ⟨g, 1, none⟩ (.int .u64 (s7.s8.b : Nat))).drew) = w8 at *
  obtain ⟨s8, e8⟩ : ∃ x, x = s7.s8 := ⟨_, rfl⟩
  rw [← e8] at HA HO
  have E8 := Lib.hid e8
  clear e8
  -- step 9
  have qa := HA.out.a; have qb := HA.out.b; have qc := HA.out.c; have qd := HA.out.d; have qf := HA.out.fz
  have qz := qf 2
  obtain ⟨la, lb, lc, ld⟩ := HO.out
  have qe : ((rot 32 s8.c : Nat) : Int) = ((s8.s9.c : Nat) : Int) := rfl
  have HC := fun W => turn32 s8.c (by omega) W
  go_upto_region 11 with (go_at_call 118; (with_reducible refine (HC _).mono ?_); rintro e w' ⟨rfl, rfl⟩)
  try simp only [qe]
  have HA1 := Lib.hid ((HA.out.putc (s8.s9.c))); have HO1 := Lib.hid HO.out.s9
  clear HA HO qa qb qc qd qf qz la lb lc ld qe HC
  have HA := Lib.hid (show At4 W ((w8.setCell ⟨g, 2, none⟩ (.int .u64 (s8.s9.c : Nat)))) g s8.s9 from HA1.out); have HO := HO1; clear HA1 HO1
  generalize ((w8.setCell ⟨g, 2, none⟩ (.int .u64 (s8.s9.c : Nat)))) = w9 at *
  obtain ⟨s9, e9⟩ : ∃ x, x = s8.s9 := ⟨_, rfl⟩
  rw [← e9] at HA HO
  have E9 := Lib.hid e9
  clear e9
  have hm : s9 = s.mix := by
    unfold W4.mix
    rw [← E0.out, ← E1.out, ← E2.out, ← E3.out, ← E4.out, ← E5.out, ← E6.out, ← E7.out, ← E8.out, ← E9.out]
  rw [hm] at HA
  have HR9 := (HA.out.ab (g + 1) (by omega)).trans HR.out
  have qa := HA.out.a; have qb := HA.out.b; have qc := HA.out.c; have qd := HA.out.d; have qf := HA.out.fz
  have r0 : w9.cell? ⟨g + 1, 0, none⟩ = some (.int .u64 0) := cell_of_block HR9 0
  have r1 : w9.cell? ⟨g + 1, 1, none⟩ = some (.int .u64 0) := cell_of_block HR9 1
  have r2 : w9.cell? ⟨g + 1, 2, none⟩ = some (.int .u64 0) := cell_of_block HR9 2
  have r3 : w9.cell? ⟨g + 1, 3, none⟩ = some (.int .u64 0) := cell_of_block HR9 3
  have z0 := unfrozen_of_block HR9 0
  have z1 := unfrozen_of_block HR9 1
  have z2 := unfrozen_of_block HR9 2
  have z3 := unfrozen_of_block HR9 3
  have HZ : Hid (At4 w9 w9 (g + 1) ⟨0, 0, 0, 0⟩) := Lib.hid ⟨r0, r1, r2, r3, fun i => unfrozen_of_block HR9 i, ⟨rfl, rfl, rfl, Nat.le_refl _, fun _ _ => rfl⟩, fun _ _ => rfl⟩
  have HZ4 : Hid (At4 w9 ((((w9.setCell ⟨g + 1, 0, none⟩ (.int .u64 s.mix.a)).setCell ⟨g + 1, 1, none⟩ (.int .u64 s.mix.b)).setCell ⟨g + 1, 2, none⟩ (.int .u64 s.mix.c)).setCell ⟨g + 1, 3, none⟩ (.int .u64 s.mix.d)) (g + 1) s.mix) := Lib.hid ((((HZ.out.puta s.mix.a).putb s.mix.b).putc s.mix.c).putd s.mix.d)
  clear HR9
  go_wp2_with fail
  generalize (((w9.setCell ⟨g + 1, 0, none⟩ (.int .u64 s.mix.a)).setCell ⟨g + 1, 1, none⟩ (.int .u64 s.mix.b)).setCell ⟨g + 1, 2, none⟩ (.int .u64 s.mix.c)).setCell ⟨g + 1, 3, none⟩ (.int .u64 s.mix.d) = WZ at *
  clear qa qb qc qd r0 r1 r2 r3 z0 z1 z2 z3
  have d0 := HZ4.out.a; have d1 := HZ4.out.b; have d2 := HZ4.out.c; have d3 := HZ4.out.d
  refine bodyPost_ret (v := .agg #[.int .u64 s.mix.a, .int .u64 s.mix.b, .int .u64 s.mix.c, .int .u64 s.mix.d]) ?_ rfl ?_
  · rw [results_cell rfl]
    go_simp
  · exact ⟨rfl, hg ▸ (HB.out.trans HA.out.be).trans (HZ4.out.be.mono (Nat.le_succ g))⟩
end Go.Proofs.Ytdgnjalbpiciiaa.Dg
