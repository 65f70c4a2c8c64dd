/-
  Sorting ints, Sorted, Majority, Votes, Has; the document's.
-/
import Derived.Test.YticcmjiekopnbaaW4
import Derived.Test.YticcmjiekopnbaaIt
import Derived.Test.YticcmjiekopnbaaShelf
import Derived.Lib.SlKeysI
namespace Go.Proofs.Yticcmjiekopnbaa
set_option linter.unusedVariables false
set_option linter.unusedSimpArgs false
open Go.RowKit Go.Shelf

theorem intL_all (l : List Int) : intL.all l = l.map (Value.int .i64) := by
  unfold Lay.all intL
  induction l with
  | nil => rfl
  | cons x l ih => rw [List.flatMap_cons, List.map_cons, ih]; rfl
theorem intL_cells {w : World} {a : Option Addr} {n c : Nat} {l : List Int} (h : intL.In w (.slice a n c) l) (hne : l ≠ []) : ∃ g off, a = some ⟨g, off, none⟩ ∧ n = l.length ∧ g < w.heap.size ∧ ∀ j, j < l.length → w.cell? ⟨g, off + j, none⟩ = some (.int .i64 (l.getD j 0)) := by
  obtain ⟨a', c', hv, _, _, h⟩ := h
  simp only [Value.slice.injEq] at hv
  obtain ⟨rfl, rfl, rfl⟩ := hv
  obtain ⟨g, off, ha, hg, hat⟩ := h.resolve_left hne
  refine ⟨g, off, ha, rfl, hg, fun j hj => ?_⟩
  have := hat j l[j] (List.getElem?_eq_getElem hj) 0 (.int .i64 l[j]) rfl
  rw [List.getD_eq_getElem?_getD, List.getElem?_eq_getElem hj, Option.getD_some]
  simpa [intL] using this
theorem ints_of {w : World} {v : Value} {l : List Int} (h : intL.In w v l) : Ggi_Ints w.heap.size w v l := by
  obtain ⟨a, c, rfl, _, _⟩ := h.slice
  by_cases hne : l = []
  · subst hne
    exact .inl ⟨a, c, rfl, rfl⟩
  · obtain ⟨g, off, rfl, _, hg, hc⟩ := intL_cells h hne
    exact .inr ⟨g, off, c, rfl, hg, fun j hj => by rw [hc j hj, List.getD_eq_getElem?_getD]⟩
/-- Whether a number is in a list. -/
def hasI (l : List Int) (n : Int) : Bool := l.contains n
theorem hasI_iff (l : List Int) (n : Int) : hasI l n = true ↔ n ∈ l := List.contains_iff_mem
def ms (l : List Int) : List Int := l.mergeSort fun x y => decide (x ≤ y)
theorem ms_len (l : List Int) : (ms l).length = l.length := (List.mergeSort_perm _ _).length_eq
theorem ms_mem (l : List Int) (x : Int) : x ∈ ms l ↔ x ∈ l := (List.mergeSort_perm _ _).mem_iff
theorem hasI_ms (l : List Int) (n : Int) : hasI (ms l) n = hasI l n := by rw [Bool.eq_iff_iff, hasI_iff, hasI_iff]; exact ms_mem l n
theorem ms_nil : ms [] = [] := by unfold ms; exact List.mergeSort_nil
theorem ms_sorted (l : List Int) : (ms l).Pairwise (· ≤ ·) := sorted_ms l

def SortP (B : Nat) (v : Value) (l : List Int) (w : World) (e : Ending) (w' : World) : Prop := e = .returned (.tuple #[]) ∧ w'.ownsRow B 3 1 v l.length ((ms l).map (Value.int .i64)) ∧ w.grownBy w' v.ownBlock
theorem Sort_any {w : World} {B : Nat} {v : Value} {l : List Int} (h : w.ownsRow B 3 1 v l.length (l.map (Value.int .i64))) (hl : l.length ≤ 1000000) : Calls Try.prog 45 #[v] w (SortP B v l w) := by
  rcases h.2 with ⟨rfl, hz⟩ | ⟨gb, cap, cur, rfl, hbase, hgb, r1, r2, r3, r4⟩
  · obtain rfl : l = [] := List.eq_nil_of_length_eq_zero hz
    refine (Try.slices_Sort_int_none none 0 w).mono fun e w' ⟨he, hw⟩ => ?_
    subst hw
    exact ⟨he, by rw [ms_nil]; exact h, ⟨rfl, rfl, rfl, Nat.le_refl _, fun _ _ _ => rfl⟩⟩
  · refine (Try.slices_Sort_int gb 0 cap l w (holds_of_block_i hgb (by simpa using r4)) (Array.getElem?_eq_some_iff.1 hgb).1 (by omega)).mono fun e w' ⟨he, n, os, hw⟩ => ?_
    subst hw
    exact ⟨he, ownsRow_sorted_i (ms_len l) hbase hgb r1 r2 r3, grownBy_sorted_i _⟩
theorem own_rw {w0 w : World} {v : Value} {l : List Int} (h : w.ownsRow w0.heap.size 3 1 v l.length (l.map (Value.int .i64))) (hb : Below w0.heap.size w0 w) : Rw intL 3 w0 w v l := ⟨by rw [intL_all]; exact h, hb⟩
theorem Rw.sorted {w0 w w' : World} {v : Value} {l : List Int} (h : Rw intL 3 w0 w v l) {e : Ending} (hs : SortP w0.heap.size v l w e w') : Rw intL 3 w0 w' v (ms l) := by
  obtain ⟨_, h1, h2⟩ := hs
  refine ⟨by rw [intL_all, ms_len]; exact h1, h.grown.trans ⟨h2.os, h2.tape, h2.output, h2.size, fun k hk => h2.block k (Nat.lt_of_lt_of_le hk h.grown.size) fun e => ?_⟩⟩
  have := (h.lt k e.symm).1; omega

def RwP (l : List Int) (w : World) (e : Ending) (w' : World) : Prop := ∃ v, e = .returned v ∧ Rw intL 3 w w' v l
set_option maxHeartbeats 1600000 in
theorem Sorted_any (Bs : Nat) (sv : Value) (zs : List Int) (hlen : zs.length ≤ 100000) (w : World) (hBs : Bs < w.heap.size) (hcs : w.cell? ⟨Bs, 0, none⟩ = some sv) (hI : Ggi_Ints w.heap.size w sv zs) :
    Calls Try.prog 47 #[.func (.func 58) #[] #[.pointer (some ⟨Bs, 0, none⟩)]] w (RwP (ms zs) w) := by
  have HC := Lib.hid (Collect_any Bs sv zs hlen w hBs hcs hI)
  clear hcs hI hBs
  go_enter Try.func47, Try.ntmps47
  go_wp2_with fail
  go_fit HC.out
  rintro e w1 ⟨v, rfl, hrow, _, hb⟩
  have hR := own_rw hrow hb
  have HS := Lib.hid (Sort_any hrow (by omega))
  clear hb hrow HC
  have HR := Lib.hid hR
  clear hR
  go_wp2_with fail
  go_fit HS.out
  rintro e w2 ⟨rfl, h1, h2⟩
  have HF := Lib.hid (HR.out.sorted (e := .returned (.tuple #[])) ⟨rfl, h1, h2⟩)
  clear h1 h2 HS HR
  go_wp2_with fail
  go_ret
  exact ⟨_, rfl, HF.out⟩

/-- A list of ints is asked for one. -/
theorem Contains_any {w : World} {v : Value} {l : List Int} (h : intL.In w v l) (x : Int) : Calls Try.prog 33 #[v, .int .i64 x] w fun e w' => e = .returned (.bool (hasI l x)) ∧ w = w' := by
  obtain ⟨a, c, rfl, h1, h2⟩ := h.slice
  by_cases hne : l = []
  · subst hne
    exact (Try.slices_Contains_int_empty a c x w).mono fun e w' ⟨he, hw⟩ => ⟨he, hw.symm⟩
  · obtain ⟨g, off, rfl, _, hg, hc⟩ := intL_cells h hne
    refine (Try.slices_Contains_int g off l.length c l x w (Nat.le_refl _) (by omega) hc).mono fun e w' ⟨he, hw⟩ => ⟨?_, hw.symm⟩
    rw [he, List.take_length]; rfl
theorem Search_any {w : World} {v : Value} {l : List Int} (h : intL.In w v l) (hs : l.Pairwise (· ≤ ·)) (hl : l.length ≤ 1000000) (x : Int) : Calls Try.prog 49 #[v, .int .i64 x] w fun e w' => ∃ k, e = .returned (.tuple #[.int .i64 k, .bool (hasI l x)]) ∧ Drawn w w' := by
  obtain ⟨a, c, rfl, h1, h2⟩ := h.slice
  by_cases hne : l = []
  · subst hne
    exact (Try.slices_BinarySearch_int_empty a c x w).mono fun e w' ⟨he, hw⟩ => ⟨0, he, 0, hw⟩
  · obtain ⟨g, off, rfl, _, hg, hc⟩ := intL_cells h hne
    refine (Try.slices_BinarySearch_int g off l.length c l x w (Nat.le_refl _) (by omega) hc (by rw [List.take_length]; exact hs)).mono fun e w' ⟨he, hw⟩ => ⟨_, he.trans (by rw [List.take_length]; rfl), hw⟩

set_option maxRecDepth 100000 in
set_option maxHeartbeats 1600000 in
theorem Votes_any {w : World} {u v : Value} {vs ls : List Int} (h : RoCs w u v vs ls) (n : Int) : Calls Try.prog 23 #[.agg #[u, v], .int .i64 n] w (BoolP (hasI vs n) w) := by
  have hb0 := lay_alloc w (.cells #[u, v] 24)
  have HC := Lib.hid (Contains_any (h.1.later hb0) n)
  have HB := Lib.hid hb0
  obtain ⟨a1, c1, rfl, _, _⟩ := h.1.slice
  obtain ⟨a2, c2, rfl, _, _⟩ := h.2.slice
  clear h hb0
  go_enter Try.func23, Try.ntmps23
  go_wp2_with fail
  go_fit HC.out
  rintro e w1 ⟨rfl, rfl⟩
  go_wp2_with fail
  go_ret
  exact ⟨rfl, HB.out⟩

set_option maxRecDepth 100000 in
set_option maxHeartbeats 1600000 in
theorem Has_any {w : World} {u v : Value} {vs ls : List Int} (h : RoCs w u v vs ls) (n : Int) : Calls Try.prog 25 #[.agg #[u, v], .int .i64 n] w (BoolP (hasI vs n || hasI ls n) w) := by
  have hb0 := lay_alloc w (.cells #[u, v] 24)
  have hk := Go.heap_alloc_new w (.cells #[u, v] 24)
  have HV := Lib.hid (Votes_any (h.later hb0) n)
  have HI := Lib.hid (h.later hb0)
  have HB := Lib.hid hb0
  obtain ⟨a1, c1, rfl, _, _⟩ := h.1.slice
  obtain ⟨a2, c2, rfl, _, _⟩ := h.2.slice
  clear h hb0
  go_enter Try.func25, Try.ntmps25
  go_wp2_with fail
  generalize World.alloc _ _ = w0 at *
  have d1 : w0.cell? ⟨w.heap.size, 1, none⟩ = some (.slice a2 ls.length c2) := by rw [cell_of_row w0 _ _ _ _ _ hk]; rfl
  clear hk
  go_fit HV.out
  rintro e w1 ⟨rfl, hb⟩
  have d2 := lay_later hb d1
  have HC := Lib.hid (Contains_any (HI.out.2.later hb) n)
  have HB := Lib.hid (HB.out.trans (hb.mono HB.out.size))
  clear hb d1 HI HV
  cases hv : hasI vs n with
  | true =>
    have HE := Lib.hid hv
    clear hv
    go_wp2_with fail
    go_ret
    exact ⟨by rw [HE.out]; rfl, HB.out⟩
  | false =>
    have HE := Lib.hid hv
    clear hv
    go_wp2_with fail
    go_fit HC.out
    rintro e w2 ⟨rfl, rfl⟩
    go_wp2_with fail
    go_ret
    exact ⟨by rw [HE.out]; rfl, HB.out⟩

set_option maxRecDepth 100000 in
set_option maxHeartbeats 1600000 in
theorem RVotes_any {w : World} {u v : Value} {vs ls : List Int} (h : RoCs w u v vs ls) (n : Int) : Calls Try.prog 24 #[.agg #[u, v], .int .i64 n] w (BoolP (hasI vs n) w) := by
  have hb0 := lay_alloc w (.cells #[u, v] 24)
  have HC := Lib.hid (times_any (h.1.later hb0) n)
  have HB := Lib.hid hb0
  have HE : Hid (decide (0 < vs.count n) = hasI vs n) := by
    show _ = _
    rw [Bool.eq_iff_iff, decide_eq_true_eq, List.count_pos_iff, hasI_iff]
  obtain ⟨a1, c1, rfl, _, _⟩ := h.1.slice
  obtain ⟨a2, c2, rfl, _, _⟩ := h.2.slice
  clear h hb0
  rw [← HE.out]
  clear HE
  generalize vs.count n = p at *
  go_enter Try.func24, Try.ntmps24
  go_wp2_with fail
  go_fit HC.out
  rintro e w1 ⟨rfl, rfl⟩
  go_wp2_with fail
  go_ret
  exact ⟨rfl, HB.out⟩

set_option maxRecDepth 100000 in
set_option maxHeartbeats 1600000 in
theorem RHas_any {w : World} {u v : Value} {vs ls : List Int} (h : RoCs w u v vs ls) (n : Int) (l1 : vs.length ≤ 100000) (l2 : ls.length ≤ 100000) : Calls Try.prog 26 #[.agg #[u, v], .int .i64 n] w (BoolP (hasI vs n || hasI ls n) w) := by
  have hb0 := lay_alloc w (.cells #[u, v] 24)
  have hk := Go.heap_alloc_new w (.cells #[u, v] 24)
  have h' := h.later hb0
  have hc1 : vs.count n ≤ 100000 := Nat.le_trans List.count_le_length l1
  have hc2 : ls.count n ≤ 100000 := Nat.le_trans List.count_le_length l2
  have HE : Hid (decide (0 < (vs.count n : Int) + (ls.count n : Int)) = (hasI vs n || hasI ls n)) := by
    show _ = _
    have e1 : 0 < vs.count n ↔ hasI vs n = true := by rw [List.count_pos_iff, hasI_iff]
    have e2 : 0 < ls.count n ↔ hasI ls n = true := by rw [List.count_pos_iff, hasI_iff]
    rw [Bool.eq_iff_iff, decide_eq_true_eq, Bool.or_eq_true, ← e1, ← e2]
    omega
  obtain ⟨a1, c1, rfl, _, _⟩ := h.1.slice
  obtain ⟨a2, c2, rfl, _, _⟩ := h.2.slice
  rw [← HE.out]
  clear h HE
  go_enter Try.func26, Try.ntmps26
  go_wp2_with fail
  generalize World.alloc _ _ = w1 at *
  have c0 : w1.cell? ⟨w.heap.size, 0, none⟩ = some (.slice a1 vs.length c1) := by rw [cell_of_row w1 _ _ _ _ _ hk]; rfl
  have c1' : w1.cell? ⟨w.heap.size, 1, none⟩ = some (.slice a2 ls.length c2) := by rw [cell_of_row w1 _ _ _ _ _ hk]; rfl
  clear hk
  have HA := Lib.hid (fun N => times_q h'.1 n N)
  have HB := Lib.hid (fun N => times_q h'.2 n N)
  have HB0 := Lib.hid hb0
  clear h' hb0
  generalize vs.count n = p at *
  generalize ls.count n = q at *
  have e1 : IntKind.i64.wrap ((p : Int) + (q : Int)) = (p : Int) + (q : Int) := IntWalk.i64_in _ (by omega)
  go_quiet ((go_at_call 42; first | (with_reducible exact Calls.quiet_of_same (HA.out _)) | (with_reducible exact Calls.quiet_of_same (HB.out _))))
  go_wp2_with fail
  go_ret
  exact ⟨rfl, below_drewN HB0.out _⟩
end Go.Proofs.Yticcmjiekopnbaa
