/-
  Seeds that are unlike.
-/
import Derived.Test.YtcbgnmolfdhnfaaN2
namespace Go.Proofs.Ytcbgnmolfdhnfaa
set_option linter.unusedVariables false
set_option linter.unusedSimpArgs false
open Go.RowKit Go.Joins

theorem Try.seedFields : (Try.prog.fieldsOf 24).toList.map (fun f => (f.name, f.type, f.offset)) = [("A", 22, 0), ("B", 22, 1)] := by kernel_rfl
theorem part_u64 (W : World) (cs : Array Value) (o : Nat) (s : Int) (h : cs[o]? = some (.int .u64 s)) : (part 22 cs o).run Try.prog W = .ok (.int .u64 s) W := by
  simp [part, isAgg, run_underlying Try.underlying22, h]
theorem seeds_in (W : World) (a b c d : Nat) (k : Nat) : (Op.equalIn (k + 1 + 1) 24 (.agg #[.int .u64 a, .int .u64 b]) (.agg #[.int .u64 c, .int .u64 d])).run Try.prog W = .ok (decide (a = c ∧ b = d)) W := by
  rw [run_equalIn_struct _ _ _ _ _ (by kernel_rfl) (by kernel_rfl)]
  obtain ⟨f1, l1, hl1, e1, hm1⟩ := List.map_eq_cons_iff.1 Try.seedFields
  obtain ⟨f2, l2, rfl, e2, hm2⟩ := List.map_eq_cons_iff.1 hm1
  obtain rfl := List.map_eq_nil_iff.1 hm2
  rw [hl1]
  simp only [Prod.mk.injEq] at e1 e2
  obtain ⟨n1, t1, o1⟩ := e1
  obtain ⟨n2, t2, o2⟩ := e2
  simp only [Op.eqFields, n1, n2, t1, t2, o1, o2]
  by_cases h1 : a = c <;> by_cases h2 : b = d <;> simp [part_u64, run_equalIn_int W k _ _ _ _ _ Try.underlying22, h1, h2] <;> omega
theorem seeds_neq (W : World) (a b c d : Nat) : (binOp .neq 24 (.agg #[.int .u64 a, .int .u64 b]) (.agg #[.int .u64 c, .int .u64 d])).run Try.prog W = .ok (.bool (!decide (a = c ∧ b = d))) W := by
  rw [run_neq_struct, seeds_in W a b c d 9998]
  rfl
theorem seeds_eql (W : World) (a b c d : Nat) : (binOp .eql 24 (.agg #[.int .u64 a, .int .u64 b]) (.agg #[.int .u64 c, .int .u64 d])).run Try.prog W = .ok (.bool (decide (a = c ∧ b = d))) W := by
  rw [run_eql_struct, seeds_in W a b c d 9998]
  rfl
set_option maxRecDepth 100000 in
set_option maxHeartbeats 1600000 in
theorem Unlike_seeds {s s2 : Sd} {w : World} {ta tb : Nat} {S T : List Pl} (ha : TrIn s w ta S) (hb : TrIn s2 w tb T) (hne : ¬ (s.a = s2.a ∧ s.b = s2.b)) :
    Calls Try.prog 26 #[.pointer (some ⟨ta, 0, none⟩), .pointer (some ⟨tb, 0, none⟩)] w fun e w' => e = .returned (.tuple #[.slice none 0 0, .agg #[.int .i64 0, .int .i64 0], .int .i64 1]) ∧ Below w.heap.size w w' := by
  have hA := Lib.hid (below_alloc w (.cells #[.int .i64 0, .int .i64 0] 51))
  have HA := Lib.hid (ha.later hA.out)
  have HBb := Lib.hid (hb.later hA.out)
  have r0 : (w.alloc (.cells #[.int .i64 0, .int .i64 0] 51)).cell? ⟨w.heap.size, 0, none⟩ = some (.int .i64 0) := by go_simp
  have r1 : (w.alloc (.cells #[.int .i64 0, .int .i64 0] 51)).cell? ⟨w.heap.size, 1, none⟩ = some (.int .i64 0) := by go_simp
  have z0 : (w.alloc (.cells #[.int .i64 0, .int .i64 0] 51)).frozen? ⟨w.heap.size, 0, none⟩ = false := by go_simp
  have z1 : (w.alloc (.cells #[.int .i64 0, .int .i64 0] 51)).frozen? ⟨w.heap.size, 1, none⟩ = false := by go_simp
  have hN : ∀ W, (binOp .neq 24 (.agg #[.int .u64 s.a, .int .u64 s.b]) (.agg #[.int .u64 s2.a, .int .u64 s2.b])).run Try.prog W = .ok (.bool true) W := fun W => by
    rw [seeds_neq, decide_eq_false hne]; rfl
  clear ha hb hne
  go_enter Try.func26, Try.ntmps26
  go_upto_region 1 with fail
  generalize w.alloc (.cells #[.int .i64 0, .int .i64 0] 51) = V at *
  obtain ⟨N, hn⟩ : ∃ N, N = w.heap.size := ⟨_, rfl⟩
  rw [← hn] at r0 r1 z0 z1 ⊢
  have HN := Lib.hid hn
  have HR := Lib.hid (show _ ∧ _ ∧ _ ∧ _ from ⟨r0, r1, z0, z1⟩)
  clear hn r0 r1 z0 z1
  go_wp2_with fail
  go_fit (ready_any HA.out)
  rintro e w' ⟨rfl, rfl⟩
  go_wp2_with fail
  go_fit (ready_any HBb.out)
  rintro e w' ⟨rfl, rfl⟩
  have a0 := HA.out.a
  have a1 := HA.out.b
  have b0 := HBb.out.a
  have b1 := HBb.out.b
  go_upto_region 3 with fail
  go_quiet (fail)
  clear a0 a1 b0 b1 HA HBb
  have HX1 : Hid (Below w.heap.size w (V.drewN nq)) := Lib.hid (hA.out.trans ((below_drewN (Below.refl _ _) _ : Below V.heap.size V (V.drewN nq)).mono hA.out.size))
  have HR1 : Hid ((V.drewN nq).cell? ⟨N, 0, none⟩ = some (.int .i64 0) ∧ (V.drewN nq).cell? ⟨N, 1, none⟩ = some (.int .i64 0) ∧ (V.drewN nq).frozen? ⟨N, 0, none⟩ = false ∧ (V.drewN nq).frozen? ⟨N, 1, none⟩ = false) := Lib.hid HR.out
  clear HR
  generalize V.drewN nq = X at *
  obtain ⟨r0, r1, z0, z1⟩ := HR1.out
  go_wp2_with fail
  have HBe : Hid (Below w.heap.size w ((X.setCell ⟨N, 0, none⟩ (.int .i64 0)).setCell ⟨N, 1, none⟩ (.int .i64 0))) := Lib.hid ((HX1.out.setCell (by rw [HN.out]; exact Nat.le_refl _) _).setCell (by rw [HN.out]; exact Nat.le_refl _) _)
  have e0 : ((X.setCell ⟨N, 0, none⟩ (.int .i64 0)).setCell ⟨N, 1, none⟩ (.int .i64 0)).cell? ⟨N, 0, none⟩ = some (.int .i64 0) := (World.cell?_setCell_other _ _ _ _ (by simp)).trans (World.cell?_setCell_same _ _ _ r0)
  have e1 : ((X.setCell ⟨N, 0, none⟩ (.int .i64 0)).setCell ⟨N, 1, none⟩ (.int .i64 0)).cell? ⟨N, 1, none⟩ = some (.int .i64 0) := World.cell?_setCell_same _ _ _ ((World.cell?_setCell_other _ _ _ _ (by simp)).trans r1)
  refine bodyPost_ret (v := .tuple #[.slice none 0 0, .agg #[.int .i64 0, .int .i64 0], .int .i64 1]) (by simp [results, Try.results26, go_sem, e0, e1]) rfl ?_
  exact ⟨rfl, HBe.out⟩
end Go.Proofs.Ytcbgnmolfdhnfaa
