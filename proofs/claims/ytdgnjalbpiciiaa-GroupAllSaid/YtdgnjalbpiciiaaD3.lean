/-
  A mixer's four words, mixed. (Written by gendg3.py.)
-/
import Derived.Test.YtdgnjalbpiciiaaD2
import Derived.Deep.RegionWith
import Derived.StillTailTactics
import Derived.Deep.CutRange
import Derived.Lib.Hide
namespace Go.Proofs.Ytdgnjalbpiciiaa.Dg
open Go.Proofs.Ytdgnjalbpiciiaa
set_option linter.unusedVariables false
set_option linter.unusedSimpArgs false
open Go.RowKit


/-- Four words. -/
structure W4 where
  a : Nat
  b : Nat
  c : Nat
  d : Nat
def W4.Ok (s : W4) : Prop := s.a < 18446744073709551616 ∧ s.b < 18446744073709551616 ∧ s.c < 18446744073709551616 ∧ s.d < 18446744073709551616
/-- Four words in a block, which is all that has turned since w0. -/
structure At4 (w0 w : World) (g : Nat) (s : W4) : Prop where
  a : w.cell? ⟨g, 0, none⟩ = some (.int .u64 s.a)
  b : w.cell? ⟨g, 1, none⟩ = some (.int .u64 s.b)
  c : w.cell? ⟨g, 2, none⟩ = some (.int .u64 s.c)
  d : w.cell? ⟨g, 3, none⟩ = some (.int .u64 s.d)
  fz : ∀ i, w.frozen? ⟨g, i, none⟩ = false
  be : Below g w0 w
  ab : ∀ k, k ≠ g → w.heap[k]? = w0.heap[k]?
theorem At4.drew {w0 w : World} {g : Nat} {s : W4} (h : At4 w0 w g s) : At4 w0 w.drew g s := ⟨h.a, h.b, h.c, h.d, h.fz, h.be.trans ⟨rfl, rfl, rfl, Nat.le_refl _, fun _ _ => rfl⟩, h.ab⟩
theorem At4.puta {w0 w : World} {g : Nat} {s : W4} (h : At4 w0 w g s) (x : Nat) : At4 w0 (w.setCell ⟨g, 0, none⟩ (.int .u64 x)) g {s with a := x} :=
  ⟨World.cell?_setCell_same _ _ _ h.a, (World.cell?_setCell_other _ _ _ _ (by simp)).trans h.b, (World.cell?_setCell_other _ _ _ _ (by simp)).trans h.c, (World.cell?_setCell_other _ _ _ _ (by simp)).trans h.d, fun i => (World.frozen?_setCell _ _ _ _).trans (h.fz i), h.be.setCell (Nat.le_refl _) _, fun k hk => (heap_setCell_other _ _ _ _ hk).trans (h.ab k hk)⟩
theorem At4.putb {w0 w : World} {g : Nat} {s : W4} (h : At4 w0 w g s) (x : Nat) : At4 w0 (w.setCell ⟨g, 1, none⟩ (.int .u64 x)) g {s with b := x} :=
  ⟨(World.cell?_setCell_other _ _ _ _ (by simp)).trans h.a, World.cell?_setCell_same _ _ _ h.b, (World.cell?_setCell_other _ _ _ _ (by simp)).trans h.c, (World.cell?_setCell_other _ _ _ _ (by simp)).trans h.d, fun i => (World.frozen?_setCell _ _ _ _).trans (h.fz i), h.be.setCell (Nat.le_refl _) _, fun k hk => (heap_setCell_other _ _ _ _ hk).trans (h.ab k hk)⟩
theorem At4.putc {w0 w : World} {g : Nat} {s : W4} (h : At4 w0 w g s) (x : Nat) : At4 w0 (w.setCell ⟨g, 2, none⟩ (.int .u64 x)) g {s with c := x} :=
  ⟨(World.cell?_setCell_other _ _ _ _ (by simp)).trans h.a, (World.cell?_setCell_other _ _ _ _ (by simp)).trans h.b, World.cell?_setCell_same _ _ _ h.c, (World.cell?_setCell_other _ _ _ _ (by simp)).trans h.d, fun i => (World.frozen?_setCell _ _ _ _).trans (h.fz i), h.be.setCell (Nat.le_refl _) _, fun k hk => (heap_setCell_other _ _ _ _ hk).trans (h.ab k hk)⟩
theorem At4.putd {w0 w : World} {g : Nat} {s : W4} (h : At4 w0 w g s) (x : Nat) : At4 w0 (w.setCell ⟨g, 3, none⟩ (.int .u64 x)) g {s with d := x} :=
  ⟨(World.cell?_setCell_other _ _ _ _ (by simp)).trans h.a, (World.cell?_setCell_other _ _ _ _ (by simp)).trans h.b, (World.cell?_setCell_other _ _ _ _ (by simp)).trans h.c, World.cell?_setCell_same _ _ _ h.d, fun i => (World.frozen?_setCell _ _ _ _).trans (h.fz i), h.be.setCell (Nat.le_refl _) _, fun k hk => (heap_setCell_other _ _ _ _ hk).trans (h.ab k hk)⟩
theorem addw (x y : Nat) : IntKind.u64.wrap ((x : Int) + (y : Int)) = (((x + y) % 18446744073709551616 : Nat) : Int) := by rw [IntKind.wrap_u64]; omega
theorem addw_lt (x y : Nat) : (x + y) % 18446744073709551616 < 18446744073709551616 := by omega
theorem xorw {x y : Nat} (hx : x < 18446744073709551616) (hy : y < 18446744073709551616) : bits .xor .u64 (x : Int) (y : Int) = ((x ^^^ y : Nat) : Int) := bits_xor_u64_nat x y (by omega) (by omega)
theorem xorw_lt {x y : Nat} (hx : x < 18446744073709551616) (hy : y < 18446744073709551616) : x ^^^ y < 18446744073709551616 := by
  have := Nat.xor_lt_two_pow (n := 64) (x := x) (y := y) (by omega) (by omega)
  omega
theorem rotw_lt {n x : Nat} (h : x < 18446744073709551616) (hn : n ≤ 32) : rot n x < 18446744073709551616 := by
  have := rot_lt (n := n) (x := x) (by omega) hn
  omega
noncomputable def W4.s0 (s : W4) : W4 := {s with a := (s.a + s.b) % 18446744073709551616}
noncomputable def W4.s1 (s : W4) : W4 := {s with b := rot 13 s.b ^^^ s.a}
noncomputable def W4.s2 (s : W4) : W4 := {s with a := rot 32 s.a}
noncomputable def W4.s3 (s : W4) : W4 := {s with c := (s.c + s.d) % 18446744073709551616}
noncomputable def W4.s4 (s : W4) : W4 := {s with d := rot 16 s.d ^^^ s.c}
noncomputable def W4.s5 (s : W4) : W4 := {s with a := (s.a + s.d) % 18446744073709551616}
noncomputable def W4.s6 (s : W4) : W4 := {s with d := rot 21 s.d ^^^ s.a}
noncomputable def W4.s7 (s : W4) : W4 := {s with c := (s.c + s.b) % 18446744073709551616}
noncomputable def W4.s8 (s : W4) : W4 := {s with b := rot 17 s.b ^^^ s.c}
noncomputable def W4.s9 (s : W4) : W4 := {s with c := rot 32 s.c}
noncomputable def W4.mix (s : W4) : W4 := s.s0.s1.s2.s3.s4.s5.s6.s7.s8.s9
theorem W4.Ok.s0 {s : W4} (h : s.Ok) : s.s0.Ok := by
  simp only [W4.Ok, W4.s0]
  exact ⟨addw_lt _ _, h.2.1, h.2.2.1, h.2.2.2⟩
theorem W4.Ok.s1 {s : W4} (h : s.Ok) : s.s1.Ok := by
  simp only [W4.Ok, W4.s1]
  have hr := rotw_lt (n := 13) h.2.1 (by omega)
  generalize rot 13 s.b = r at hr ⊢
  exact ⟨h.1, xorw_lt hr h.1, h.2.2.1, h.2.2.2⟩
theorem W4.Ok.s2 {s : W4} (h : s.Ok) : s.s2.Ok := by
  simp only [W4.Ok, W4.s2]
  have hr := rotw_lt (n := 32) h.1 (by omega)
  generalize rot 32 s.a = r at hr ⊢
  exact ⟨hr, h.2.1, h.2.2.1, h.2.2.2⟩
theorem W4.Ok.s3 {s : W4} (h : s.Ok) : s.s3.Ok := by
  simp only [W4.Ok, W4.s3]
  exact ⟨h.1, h.2.1, addw_lt _ _, h.2.2.2⟩
theorem W4.Ok.s4 {s : W4} (h : s.Ok) : s.s4.Ok := by
  simp only [W4.Ok, W4.s4]
  have hr := rotw_lt (n := 16) h.2.2.2 (by omega)
  generalize rot 16 s.d = r at hr ⊢
  exact ⟨h.1, h.2.1, h.2.2.1, xorw_lt hr h.2.2.1⟩
theorem W4.Ok.s5 {s : W4} (h : s.Ok) : s.s5.Ok := by
  simp only [W4.Ok, W4.s5]
  exact ⟨addw_lt _ _, h.2.1, h.2.2.1, h.2.2.2⟩
theorem W4.Ok.s6 {s : W4} (h : s.Ok) : s.s6.Ok := by
  simp only [W4.Ok, W4.s6]
  have hr := rotw_lt (n := 21) h.2.2.2 (by omega)
  generalize rot 21 s.d = r at hr ⊢
  exact ⟨h.1, h.2.1, h.2.2.1, xorw_lt hr h.1⟩
theorem W4.Ok.s7 {s : W4} (h : s.Ok) : s.s7.Ok := by
  simp only [W4.Ok, W4.s7]
  exact ⟨h.1, h.2.1, addw_lt _ _, h.2.2.2⟩
theorem W4.Ok.s8 {s : W4} (h : s.Ok) : s.s8.Ok := by
  simp only [W4.Ok, W4.s8]
  have hr := rotw_lt (n := 17) h.2.1 (by omega)
  generalize rot 17 s.b = r at hr ⊢
  exact ⟨h.1, xorw_lt hr h.2.2.1, h.2.2.1, h.2.2.2⟩
theorem W4.Ok.s9 {s : W4} (h : s.Ok) : s.s9.Ok := by
  simp only [W4.Ok, W4.s9]
  have hr := rotw_lt (n := 32) h.2.2.1 (by omega)
  generalize rot 32 s.c = r at hr ⊢
  exact ⟨h.1, h.2.1, hr, h.2.2.2⟩
theorem W4.Ok.mix {s : W4} (h : s.Ok) : s.mix.Ok := by
  unfold W4.mix
  exact h.s0.s1.s2.s3.s4.s5.s6.s7.s8.s9

set_option maxRecDepth 100000 in
set_option maxHeartbeats 1600000 in
theorem mix_any {w : World} {g : Nat} {s : W4} (h : At4 w w g s) (ho : s.Ok) : Calls Try.prog 98 #[.pointer (some ⟨g, 0, none⟩)] w fun e w' => e = .returned (.tuple #[]) ∧ At4 w w' g s.mix := by
  have HA := Lib.hid h
  have HO := Lib.hid ho
  clear h ho
  go_enter Try.func98, Try.ntmps98
  go_wp2_with fail
  -- step 0
  have qa := HA.out.a; have qb := HA.out.b; have qc := HA.out.c; have qd := HA.out.d; have qf := HA.out.fz
  have qz := qf 0
  have qa' := HA.out.drew.a; have qb' := HA.out.drew.b; have qc' := HA.out.drew.c; have qd' := HA.out.drew.d; have qz' := HA.out.drew.fz 0
  obtain ⟨la, lb, lc, ld⟩ := HO.out
  have qe : (((s.a : Int)) + (s.b : Int)) % 18446744073709551616 = ((s.s0.a : Nat) : Int) := by simp only [W4.s0]; omega
  have qw : IntKind.u64.wrap ((s.a : Int) + (s.b : Int)) = ((s.s0.a : Nat) : Int) := by rw [IntKind.wrap_u64]; exact qe
  go_region
  try simp only [qw]
  try simp only [qe]
  have HA1 := Lib.hid ((HA.out.puta (s.s0.a)).drew); have HO1 := Lib.hid HO.out.s0
  clear HA HO qa qb qc qd qf qz la lb lc ld qe qw qa' qb' qc' qd' qz'
  have HA := Lib.hid (show At4 w ((w.setCell ⟨g, 0, none⟩ (.int .u64 (s.s0.a : Nat))).drew) g s.s0 from HA1.out); have HO := HO1; clear HA1 HO1
  generalize ((w.setCell ⟨g, 0, none⟩ (.int .u64 (s.s0.a : Nat))).drew) = w0 at *
  obtain ⟨s0, e0⟩ : ∃ x, x = s.s0 := ⟨_, rfl⟩
  rw [← e0] at HA HO
  have E0 := Lib.hid e0
  clear e0
  -- step 1
  have qa := HA.out.a; have qb := HA.out.b; have qc := HA.out.c; have qd := HA.out.d; have qf := HA.out.fz
  have qz := qf 1
  try go_wp2_with fail
  have qa' := HA.out.drew.a; have qb' := HA.out.drew.b; have qc' := HA.out.drew.c; have qd' := HA.out.drew.d; have qz' := HA.out.drew.fz 1
  obtain ⟨la, lb, lc, ld⟩ := HO.out
  have qe0 : Hid (bits .xor .u64 (rot 13 s0.b : Nat) (s0.a : Nat) = ((s0.s1.b : Nat) : Int)) := Lib.hid (xorw (rotw_lt (n := 13) lb (by omega)) la)
  have HC := fun W => (rotl13 s0.b (by omega) W).mono (fun e w' h => (show e = .returned (.int .u64 (rot 13 s0.b : Nat)) ∧ w' = W from ⟨h.1, h.2.symm⟩))
  refine wp_region_still_tail 13 (by kernel_rfl) (by kernel_rfl) ?_
  simp only [List.take_succ_cons, List.take_zero, List.drop_succ_cons, List.drop_zero]
  change wpStill _ _ w0.drew _ _ _
  still_step; still_step; still_step; still_step; still_step
  still_call (HC w0.drew)
  repeat still_step
  refine wpStill_nil ?_
  change wpList _ _ _ _ _ w0.drew
  go_upto_region 2 with fail
  have qe := qe0.out
  try simp only [qe]
  have HA1 := Lib.hid ((HA.out.putb (s0.s1.b)).drew); have HO1 := Lib.hid HO.out.s1
  clear HA HO qa qb qc qd qf qz la lb lc ld qe qe0 HC qa' qb' qc' qd' qz'
  have HA := Lib.hid (show At4 w ((w0.setCell ⟨g, 1, none⟩ (.int .u64 (s0.s1.b : Nat))).drew) g s0.s1 from HA1.out); have HO := HO1; clear HA1 HO1
  generalize ((w0.setCell ⟨g, 1, none⟩ (.int .u64 (s0.s1.b : Nat))).drew) = w1 at *
  obtain ⟨s1, e1⟩ : ∃ x, x = s0.s1 := ⟨_, rfl⟩
  rw [← e1] at HA HO
  have E1 := Lib.hid e1
  clear e1
  -- step 2
  have qa := HA.out.a; have qb := HA.out.b; have qc := HA.out.c; have qd := HA.out.d; have qf := HA.out.fz
  have qz := qf 0
  obtain ⟨la, lb, lc, ld⟩ := HO.out
  have qe : ((rot 32 s1.a : Nat) : Int) = ((s1.s2.a : Nat) : Int) := rfl
  have HC := fun W => rotl32 s1.a (by omega) W
  go_wp2_with (go_at_call 117; (with_reducible refine (HC _).mono ?_); rintro e w' ⟨rfl, rfl⟩)
  try simp only [qe]
  have HA1 := Lib.hid ((HA.out.puta (s1.s2.a))); have HO1 := Lib.hid HO.out.s2
  clear HA HO qa qb qc qd qf qz la lb lc ld qe HC
  have HA := Lib.hid (show At4 w ((w1.setCell ⟨g, 0, none⟩ (.int .u64 (s1.s2.a : Nat)))) g s1.s2 from HA1.out); have HO := HO1; clear HA1 HO1
  generalize ((w1.setCell ⟨g, 0, none⟩ (.int .u64 (s1.s2.a : Nat)))) = w2 at *
  obtain ⟨s2, e2⟩ : ∃ x, x = s1.s2 := ⟨_, rfl⟩
  rw [← e2] at HA HO
  have E2 := Lib.hid e2
  clear e2
  -- step 3
  have qa := HA.out.a; have qb := HA.out.b; have qc := HA.out.c; have qd := HA.out.d; have qf := HA.out.fz
  have qz := qf 2
  have qa' := HA.out.drew.a; have qb' := HA.out.drew.b; have qc' := HA.out.drew.c; have qd' := HA.out.drew.d; have qz' := HA.out.drew.fz 2
  obtain ⟨la, lb, lc, ld⟩ := HO.out
  have qe : (((s2.c : Int)) + (s2.d : Int)) % 18446744073709551616 = ((s2.s3.c : Nat) : Int) := by simp only [W4.s3]; omega
  have qw : IntKind.u64.wrap ((s2.c : Int) + (s2.d : Int)) = ((s2.s3.c : Nat) : Int) := by rw [IntKind.wrap_u64]; exact qe
  go_region
  try simp only [qw]
  try simp only [qe]
  have HA1 := Lib.hid ((HA.out.putc (s2.s3.c)).drew); have HO1 := Lib.hid HO.out.s3
  clear HA HO qa qb qc qd qf qz la lb lc ld qe qw qa' qb' qc' qd' qz'
  have HA := Lib.hid (show At4 w ((w2.setCell ⟨g, 2, none⟩ (.int .u64 (s2.s3.c : Nat))).drew) g s2.s3 from HA1.out); have HO := HO1; clear HA1 HO1
  generalize ((w2.setCell ⟨g, 2, none⟩ (.int .u64 (s2.s3.c : Nat))).drew) = w3 at *
  obtain ⟨s3, e3⟩ : ∃ x, x = s2.s3 := ⟨_, rfl⟩
  rw [← e3] at HA HO
  have E3 := Lib.hid e3
  clear e3
  -- step 4
  have qa := HA.out.a; have qb := HA.out.b; have qc := HA.out.c; have qd := HA.out.d; have qf := HA.out.fz
  have qz := qf 3
  try go_wp2_with fail
  have qa' := HA.out.drew.a; have qb' := HA.out.drew.b; have qc' := HA.out.drew.c; have qd' := HA.out.drew.d; have qz' := HA.out.drew.fz 3
  obtain ⟨la, lb, lc, ld⟩ := HO.out
  have qe0 : Hid (bits .xor .u64 (rot 16 s3.d : Nat) (s3.c : Nat) = ((s3.s4.d : Nat) : Int)) := Lib.hid (xorw (rotw_lt (n := 16) ld (by omega)) lc)
  have HC := fun W => (rotl16 s3.d (by omega) W).mono (fun e w' h => (show e = .returned (.int .u64 (rot 16 s3.d : Nat)) ∧ w' = W from ⟨h.1, h.2.symm⟩))
  refine wp_region_still_tail 13 (by kernel_rfl) (by kernel_rfl) ?_
  simp only [List.take_succ_cons, List.take_zero, List.drop_succ_cons, List.drop_zero]
  change wpStill _ _ w3.drew _ _ _
  still_step; still_step; still_step; still_step; still_step
  still_call (HC w3.drew)
  repeat still_step
  refine wpStill_nil ?_
  change wpList _ _ _ _ _ w3.drew
  go_upto_region 5 with fail
  have qe := qe0.out
  try simp only [qe]
  have HA1 := Lib.hid ((HA.out.putd (s3.s4.d)).drew); have HO1 := Lib.hid HO.out.s4
  clear HA HO qa qb qc qd qf qz la lb lc ld qe qe0 HC qa' qb' qc' qd' qz'
  have HA := Lib.hid (show At4 w ((w3.setCell ⟨g, 3, none⟩ (.int .u64 (s3.s4.d : Nat))).drew) g s3.s4 from HA1.out); have HO := HO1; clear HA1 HO1
  generalize ((w3.setCell ⟨g, 3, none⟩ (.int .u64 (s3.s4.d : Nat))).drew) = w4 at *
  obtain ⟨s4, e4⟩ : ∃ x, x = s3.s4 := ⟨_, rfl⟩
  rw [← e4] at HA HO
  have E4 := Lib.hid e4
  clear e4
  -- step 5
  have qa := HA.out.a; have qb := HA.out.b; have qc := HA.out.c; have qd := HA.out.d; have qf := HA.out.fz
  have qz := qf 0
  try go_wp2_with fail
  have qa' := HA.out.drew.a; have qb' := HA.out.drew.b; have qc' := HA.out.drew.c; have qd' := HA.out.drew.d; have qz' := HA.out.drew.fz 0
  obtain ⟨la, lb, lc, ld⟩ := HO.out
  have qe : (((s4.a : Int)) + (s4.d : Int)) % 18446744073709551616 = ((s4.s5.a : Nat) : Int) := by simp only [W4.s5]; omega
  have qw : IntKind.u64.wrap ((s4.a : Int) + (s4.d : Int)) = ((s4.s5.a : Nat) : Int) := by rw [IntKind.wrap_u64]; exact qe
  go_region
  try simp only [qw]
  try simp only [qe]
  have HA1 := Lib.hid ((HA.out.puta (s4.s5.a)).drew); have HO1 := Lib.hid HO.out.s5
  clear HA HO qa qb qc qd qf qz la lb lc ld qe qw qa' qb' qc' qd' qz'
  have HA := Lib.hid (show At4 w ((w4.setCell ⟨g, 0, none⟩ (.int .u64 (s4.s5.a : Nat))).drew) g s4.s5 from HA1.out); have HO := HO1; clear HA1 HO1
  generalize ((w4.setCell ⟨g, 0, none⟩ (.int .u64 (s4.s5.a : Nat))).drew) = w5 at *
  obtain ⟨s5, e5⟩ : ∃ x, x = s4.s5 := ⟨_, rfl⟩
  rw [← e5] at HA HO
  have E5 := Lib.hid e5
  clear e5
  -- step 6
  have qa := HA.out.a; have qb := HA.out.b; have qc := HA.out.c; have qd := HA.out.d; have qf := HA.out.fz
  have qz := qf 3
  try go_wp2_with fail
  have qa' := HA.out.drew.a; have qb' := HA.out.drew.b; have qc' := HA.out.drew.c; have qd' := HA.out.drew.d; have qz' := HA.out.drew.fz 3
  obtain ⟨la, lb, lc, ld⟩ := HO.out
  have qe0 : Hid (bits .xor .u64 (rot 21 s5.d : Nat) (s5.a : Nat) = ((s5.s6.d : Nat) : Int)) := Lib.hid (xorw (rotw_lt (n := 21) ld (by omega)) la)
  have HC := fun W => (rotl21 s5.d (by omega) W).mono (fun e w' h => (show e = .returned (.int .u64 (rot 21 s5.d : Nat)) ∧ w' = W from ⟨h.1, h.2.symm⟩))
  refine wp_region_still_tail 13 (by kernel_rfl) (by kernel_rfl) ?_
  simp only [List.take_succ_cons, List.take_zero, List.drop_succ_cons, List.drop_zero]
  change wpStill _ _ w5.drew _ _ _
  still_step; still_step; still_step; still_step; still_step
  still_call (HC w5.drew)
  repeat still_step
  refine wpStill_nil ?_
  change wpList _ _ _ _ _ w5.drew
  go_upto_region 7 with fail
  have qe := qe0.out
  try simp only [qe]
  have HA1 := Lib.hid ((HA.out.putd (s5.s6.d)).drew); have HO1 := Lib.hid HO.out.s6
  clear HA HO qa qb qc qd qf qz la lb lc ld qe qe0 HC qa' qb' qc' qd' qz'
  have HA := Lib.hid (show At4 w ((w5.setCell ⟨g, 3, none⟩ (.int .u64 (s5.s6.d : Nat))).drew) g s5.s6 from HA1.out); have HO := HO1; clear HA1 HO1
  generalize ((w5.setCell ⟨g, 3, none⟩ (.int .u64 (s5.s6.d : Nat))).drew) = w6 at *
  obtain ⟨s6, e6⟩ : ∃ x, x = s5.s6 := ⟨_, rfl⟩
  rw [← e6] at HA HO
  have E6 := Lib.hid e6
  clear e6
  -- step 7
  have qa := HA.out.a; have qb := HA.out.b; have qc := HA.out.c; have qd := HA.out.d; have qf := HA.out.fz
  have qz := qf 2
  try go_wp2_with fail
  have qa' := HA.out.drew.a; have qb' := HA.out.drew.b; have qc' := HA.out.drew.c; have qd' := HA.out.drew.d; have qz' := HA.out.drew.fz 2
  obtain ⟨la, lb, lc, ld⟩ := HO.out
  have qe : (((s6.c : Int)) + (s6.b : Int)) % 18446744073709551616 = ((s6.s7.c : Nat) : Int) := by simp only [W4.s7]; omega
  have qw : IntKind.u64.wrap ((s6.c : Int) + (s6.b : Int)) = ((s6.s7.c : Nat) : Int) := by rw [IntKind.wrap_u64]; exact qe
  go_region
  try simp only [qw]
  try simp only [qe]
  have HA1 := Lib.hid ((HA.out.putc (s6.s7.c)).drew); have HO1 := Lib.hid HO.out.s7
  clear HA HO qa qb qc qd qf qz la lb lc ld qe qw qa' qb' qc' qd' qz'
  have HA := Lib.hid (show At4 w ((w6.setCell ⟨g, 2, none⟩ (.int .u64 (s6.s7.c : Nat))).drew) g s6.s7 from HA1.out); have HO := HO1; clear HA1 HO1
  generalize ((w6.setCell ⟨g, 2, none⟩ (.int .u64 (s6.s7.c : Nat))).drew) = w7 at *
  obtain ⟨s7, e7⟩ : ∃ x, x = s6.s7 := ⟨_, rfl⟩
  rw [← e7] at HA HO
  have E7 := Lib.hid e7
  clear e7
  -- step 8
  have qa := HA.out.a; have qb := HA.out.b; have qc := HA.out.c; have qd := HA.out.d; have qf := HA.out.fz
  have qz := qf 1
  try go_wp2_with fail
  have qa' := HA.out.drew.a; have qb' := HA.out.drew.b; have qc' := HA.out.drew.c; have qd' := HA.out.drew.d; have qz' := HA.out.drew.fz 1
  obtain ⟨la, lb, lc, ld⟩ := HO.out
  have qe0 : Hid (bits .xor .u64 (rot 17 s7.b : Nat) (s7.c : Nat) = ((s7.s8.b : Nat) : Int)) := Lib.hid (xorw (rotw_lt (n := 17) lb (by omega)) lc)
  have HC := fun W => (rotl17 s7.b (by omega) W).mono (fun e w' h => (show e = .returned (.int .u64 (rot 17 s7.b : Nat)) ∧ w' = W from ⟨h.1, h.2.symm⟩))
  refine wp_region_still_tail 13 (by kernel_rfl) (by kernel_rfl) ?_
  simp only [List.take_succ_cons, List.take_zero, List.drop_succ_cons, List.drop_zero]
  change wpStill _ _ w7.drew _ _ _
  still_step; still_step; still_step; still_step; still_step
  still_call (HC w7.drew)
  repeat still_step
  refine wpStill_nil ?_
  change wpList _ _ _ _ _ w7.drew
  go_upto_region 9 with fail
  have qe := qe0.out
  try simp only [qe]
  have HA1 := Lib.hid ((HA.out.putb (s7.s8.b)).drew); have HO1 := Lib.hid HO.out.s8
  clear HA HO qa qb qc qd qf qz la lb lc ld qe qe0 HC qa' qb' qc' qd' qz'
  have HA := Lib.hid (show At4 w ((w7.setCell ⟨g, 1, none⟩ (.int .u64 (s7.s8.b : Nat))).drew) g s7.s8 from HA1.out); have HO := HO1; clear HA1 HO1
  generalize ((w7.setCell ⟨g, 1, none⟩ (.int .u64 (s7.s8.b : Nat))).drew) = w8 at *
  obtain ⟨s8, e8⟩ : ∃ x, x = s7.s8 := ⟨_, rfl⟩
  rw [← e8] at HA HO
  have E8 := Lib.hid e8
  clear e8
  -- step 9
  have qa := HA.out.a; have qb := HA.out.b; have qc := HA.out.c; have qd := HA.out.d; have qf := HA.out.fz
  have qz := qf 2
  obtain ⟨la, lb, lc, ld⟩ := HO.out
  have qe : ((rot 32 s8.c : Nat) : Int) = ((s8.s9.c : Nat) : Int) := rfl
  have HC := fun W => rotl32 s8.c (by omega) W
  go_wp2_with (go_at_call 117; (with_reducible refine (HC _).mono ?_); rintro e w' ⟨rfl, rfl⟩)
  try simp only [qe]
  have HA1 := Lib.hid ((HA.out.putc (s8.s9.c))); have HO1 := Lib.hid HO.out.s9
  clear HA HO qa qb qc qd qf qz la lb lc ld qe HC
  have HA := Lib.hid (show At4 w ((w8.setCell ⟨g, 2, none⟩ (.int .u64 (s8.s9.c : Nat)))) g s8.s9 from HA1.out); have HO := HO1; clear HA1 HO1
  generalize ((w8.setCell ⟨g, 2, none⟩ (.int .u64 (s8.s9.c : Nat)))) = w9 at *
  obtain ⟨s9, e9⟩ : ∃ x, x = s8.s9 := ⟨_, rfl⟩
  rw [← e9] at HA HO
  have E9 := Lib.hid e9
  clear e9
  have hm : s9 = s.mix := by
    unfold W4.mix
    rw [← E0.out, ← E1.out, ← E2.out, ← E3.out, ← E4.out, ← E5.out, ← E6.out, ← E7.out, ← E8.out, ← E9.out]
  rw [hm] at HA
  go_end0
  exact ⟨rfl, HA.out⟩
end Go.Proofs.Ytdgnjalbpiciiaa.Dg
