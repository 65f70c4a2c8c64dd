/-
  A number, so many times.
-/
import Derived.Test.YtdgnjalbpiciiaaG8
import Derived.Laws.IdiomCopy
namespace Go.Proofs.Ytdgnjalbpiciiaa
set_option linter.unusedVariables false
set_option linter.unusedSimpArgs false
open Go.RowKit Go.Shelf

theorem cells1 : (Try.prog.info? 3).map (·.size) = some 1 := by kernel_rfl
theorem set_cells {w : World} {g : Nat} {A : List Int} : ∀ (m : Nat) (l : List Int) {k : Nat} {at_ : Int}, k + m ≤ l.length → IRow w g l → IRow (w.setCells g k (List.replicate m (.int .i64 at_))) g (l.take k ++ (List.replicate m at_ ++ l.drop (k + m)))
  | 0, l, k, at_, _, h => by
    show IRow w g _
    simpa using h
  | m + 1, l, k, at_, hl, h => by
    have h1 := set_cells (w := w.setCell ⟨g, k, none⟩ (.int .i64 at_)) (A := A) m (l.set k at_) (k := k + 1) (at_ := at_) (by rw [List.length_set]; omega) (h.set k at_)
    have e : (l.set k at_).take (k + 1) ++ (List.replicate m at_ ++ (l.set k at_).drop (k + 1 + m)) = l.take k ++ (List.replicate (m + 1) at_ ++ l.drop (k + (m + 1))) := by
      rw [List.take_add_one, List.take_set_of_le (Nat.le_refl _), List.getElem?_set_self (by omega), List.drop_set_of_lt (by omega), List.replicate_succ, show k + 1 + m = k + (m + 1) by omega]
      simp
    rw [e] at h1
    exact h1
theorem setCells_other (g : Nat) : ∀ (vs : List Value) (o : Nat) (w : World) (k : Nat), k ≠ g → (w.setCells g o vs).heap[k]? = w.heap[k]? ∧ (w.setCells g o vs).heap.size = w.heap.size ∧ (w.setCells g o vs).os = w.os ∧ (w.setCells g o vs).tape = w.tape ∧ (w.setCells g o vs).output = w.output
  | [], o, w, k, _ => ⟨rfl, rfl, rfl, rfl, rfl⟩
  | v :: vs, o, w, k, hk => by
    obtain ⟨h1, h2, h3, h4, h5⟩ := setCells_other g vs (o + 1) (w.setCell ⟨g, o, none⟩ v) k hk
    exact ⟨h1.trans (Below.heap_setCell _ _ _ _ hk), h2.trans (set_size _ _ _), h3, h4, h5⟩
theorem below_setCells {w W : World} {g o : Nat} {vs : List Value} (h : Below w.heap.size w W) (hg : w.heap.size ≤ g) : Below w.heap.size w (W.setCells g o vs) := by
  have h0 := setCells_other g vs o W (g + 1) (by omega)
  exact ⟨h0.2.2.1.trans h.os, h0.2.2.2.1.trans h.tape, h0.2.2.2.2.trans h.output, by rw [h0.2.1]; exact h.size, fun k hk => (setCells_other g vs o W k (by omega)).1.trans (h.block k hk)⟩

set_option maxRecDepth 100000 in
set_option maxHeartbeats 3200000 in
theorem Repeat_any {w : World} {g c n : Nat} {x : Int} (hx : w.cell? ⟨g, 0, none⟩ = some (.int .i64 x)) (hn : 1 ≤ n) (hn2 : n ≤ 1000) : Calls Try.prog 66 #[.slice (some ⟨g, 0, none⟩) 1 c, .int .i64 n] w fun e w' => e = .returned (.slice (some ⟨w.heap.size, 0, none⟩) n n) ∧ IRow w' w.heap.size (List.replicate n x) ∧ Below w.heap.size w w' := by
  have hmk := run_make_row' (P := Try.prog) 43 3 (.int .i64 0) 8 Try.underlying43 infoInt rfl .i64 .i64 n (by omega) (by omega)
  have HMu : Hid (∀ V, Calls Try.prog 84 #[.int .u64 1, .int .u64 (n : Int)] V fun e w' => e = .returned (.tuple #[.int .u64 0, .int .u64 (n : Int)]) ∧ w' = V) := fun V => (Try.bits_Mul 1 n (by decide) (by omega) V).mono fun e w' ⟨he, hw⟩ => ⟨by rw [he, Nat.one_mul, Nat.div_eq_of_lt (by omega), Nat.mod_eq_of_lt (by omega)]; rfl, hw⟩
  have c0 := cell_later (below_alloc w (.cells (madeCells #[.int .i64 0] n) 3)) hx
  have HR0 := Lib.hid (IRow.made w n)
  have hcp : ∀ ty, (Builtin.copy_ #[43, 43] ty #[.slice (some ⟨w.heap.size, 0, none⟩) n n, .slice (some ⟨g, 0, none⟩) 1 c]).run Try.prog (w.alloc (.cells (madeCells #[.int .i64 0] n) 3)) = .ok (goInt 1) ((w.alloc (.cells (madeCells #[.int .i64 0] n) 3)).setCells w.heap.size 0 [.int .i64 x]) := fun ty =>
    run_copy_cells (P := Try.prog) _ _ _ ty 3 w.heap.size 0 n n ⟨g, 0, none⟩ 1 c [.int .i64 x] Try.underlying43 cells1 (by show 1 = Nat.min 1 n; simp [Nat.min_def]; omega)
      (fun j v hj => by
        have : j = 0 ∧ v = .int .i64 x := by
          cases j with
          | zero => exact ⟨rfl, by simpa using hj.symm⟩
          | succ j => simp at hj
        obtain ⟨rfl, rfl⟩ := this
        exact c0) (fun j hj => by
        have : j = 0 := by simp at hj; omega
        subst this
        rw [HR0.out.cell (i := 0) (x := 0) (by rw [List.getElem?_replicate]; simp; omega)]; rfl) (fun j hj => HR0.out.fz _) (fun v hv => by rw [List.mem_singleton.1 hv]; rfl)
  have HB0 := Lib.hid (below_alloc w (.cells (madeCells #[.int .i64 0] n) 3))
  have ec1 : IntKind.u64.wrap (1 : Int) = 1 := by decide
  have ec2 : IntKind.u64.wrap (n : Int) = (n : Int) := by show (n : Int) % 18446744073709551616 = _; omega
  have ec3 : IntKind.i64.wrap (n : Int) = (n : Int) := IntWalk.i64_in _ (by omega)
  have h0 : ¬ (n : Int) < 0 := by omega
  have h9 : ¬ (9223372036854775807 : Int) < (n : Int) := by omega
  clear c0
  go_enter Try.func66, Try.ntmps66
  go_wp2_with fail
  go_fit (HMu.out _)
  rintro e w1 ⟨rfl, rfl⟩
  go_wp2_with fail
  have hrow1 : Hid (IRow ((w1.alloc (.cells (madeCells #[.int .i64 0] n) 3)).setCells w1.heap.size 0 [.int .i64 x]) w1.heap.size (List.replicate 1 x ++ List.replicate (n - 1) 0)) := by
    show IRow _ _ _
    have h := set_cells (A := []) 1 (List.replicate n 0) (k := 0) (at_ := x) (by simp; omega) HR0.out
    rw [List.take_zero, List.nil_append, List.drop_replicate, Nat.zero_add] at h
    exact h
  have hb1 : Hid (Below w1.heap.size w1 ((w1.alloc (.cells (madeCells #[.int .i64 0] n) 3)).setCells w1.heap.size 0 [.int .i64 x])) := below_setCells HB0.out (Nat.le_refl _)
  generalize (w1.alloc (.cells (madeCells #[.int .i64 0] n) 3)).setCells w1.heap.size 0 [.int .i64 x] = W1 at *
  clear hcp hmk HR0 HB0
  go_loopw [8] (fun v wr => ∃ k : Nat, v = .int .i64 k ∧ 1 ≤ k ∧ k ≤ n ∧ Hid (IRow wr w1.heap.size (List.replicate k x ++ List.replicate (n - k) 0)) ∧ Hid (Below w1.heap.size w1 wr)) (fun v _ => n - (intOf v).toNat)
  case atStart => exact ⟨1, rfl, Nat.le_refl _, hn, hrow1, hb1⟩
  case round =>
    clear hrow1 hb1
    obtain ⟨k, rfl, hk1, hkn, hrow, hb⟩ := hrel
    by_cases hlt : k < n
    · obtain ⟨m, hm⟩ : ∃ m, m = min k (n - k) := ⟨_, rfl⟩
      have hm1 : 1 ≤ m ∧ m ≤ k ∧ k + m ≤ n := by omega
      have hlen : (List.replicate k x ++ List.replicate (n - k) 0).length = n := by simp; omega
      have hcell : ∀ j, j < k → wr.cell? ⟨w1.heap.size, j, none⟩ = some (.int .i64 x) := fun j hj => hrow.out.cell (by rw [List.getElem?_append_left (by simpa using hj), List.getElem?_replicate]; simp [hj])
      have hsome : ∀ j, j < n → (wr.cell? ⟨w1.heap.size, j, none⟩).isSome = true := fun j hj => by
        rw [hrow.out.cell (List.getElem?_eq_getElem (by rw [hlen]; exact hj))]; rfl
      have hcp : ∀ ty, (Builtin.copy_ #[43, 43] ty #[.slice (some ⟨w1.heap.size, k, none⟩) (n - k) (n - k), .slice (some ⟨w1.heap.size, 0, none⟩) k n]).run Try.prog wr.drew = .ok (.int .i64 (m : Int)) (wr.drew.setCells w1.heap.size k (List.replicate m (.int .i64 x))) := fun ty => by
        have h := run_copy_cells (P := Try.prog) wr.drew 43 43 ty 3 w1.heap.size k (n - k) (n - k) ⟨w1.heap.size, 0, none⟩ k n (List.replicate m (.int .i64 x)) Try.underlying43 cells1 (by rw [List.length_replicate, hm])
          (fun j v hj => by
            rw [List.getElem?_replicate] at hj
            split at hj
            · rw [← Option.some.inj hj, lay_add, Nat.zero_add]; exact hcell j (by omega)
            · cases hj) (fun j hj => by rw [List.length_replicate] at hj; exact hsome (k + j) (by omega)) (fun j hj => hrow.out.fz _) (fun v hv => by have e := (List.mem_replicate.1 hv).2; subst e; rfl)
        rw [List.length_replicate] at h
        exact h
      have K1 : Hid (IRow (wr.drew.setCells w1.heap.size k (List.replicate m (.int .i64 x))) w1.heap.size (List.replicate (k + m) x ++ List.replicate (n - (k + m)) 0)) := by
        show IRow _ _ _
        have h := set_cells (A := []) m (List.replicate k x ++ List.replicate (n - k) 0) (k := k) (at_ := x) (by rw [hlen]; omega) (show IRow wr.drew w1.heap.size _ from hrow.out)
        rw [List.take_left' (by simp), List.drop_append, List.drop_replicate, List.drop_replicate, List.length_replicate, ← List.append_assoc, List.replicate_append_replicate, show k - (k + m) = 0 by omega, show n - k - (k + m - k) = n - (k + m) by omega, List.replicate_zero, List.nil_append] at h
        exact h
      have K2 : Hid (Below w1.heap.size w1 (wr.drew.setCells w1.heap.size k (List.replicate m (.int .i64 x)))) := below_setCells (below_drew hb.out) (Nat.le_refl _)
      have ea : IntKind.i64.wrap ((k : Int) + (m : Int)) = (k : Int) + (m : Int) := IntWalk.i64_in _ (by omega)
      have hkI : (k : Int) < (n : Int) := by omega
      have hk0 : (0 : Int) ≤ (k : Int) := by omega
      have hk2 : (k : Int) ≤ (n : Int) := by omega
      have hne : ¬ k = n := by omega
      clear hm hcell hsome hlen
      go_wp2_with fail
      go_region
      go_wp2_with fail
      exact ⟨⟨k + m, by go_num, by omega, hm1.2.2, K1, K2⟩, by show n - ((k : Int) + (m : Int)).toNat < n - ((k : Int)).toNat; omega⟩
    · obtain rfl : k = n := by omega
      have HF : Hid (IRow wr w1.heap.size (List.replicate k x)) := by
        show IRow _ _ _
        have h := hrow.out
        rw [Nat.sub_self, List.replicate_zero, List.append_nil] at h
        exact h
      clear hrow
      go_wp2_with fail
      go_ret
      exact ⟨rfl, HF.out, hb.out⟩
end Go.Proofs.Ytdgnjalbpiciiaa
