/-
  Lists of ints: told, asked, sorted, copied.
-/
import Derived.Test.YtdgnjalbpiciiaaLc
import Derived.Test.YtdgnjalbpiciiaaShelf
import Derived.Lib.SlKeysI
import Derived.Lib.AppendZeros
import Derived.Laws.ResultCell
import Derived.BigRegion
namespace Go.Proofs.Ytdgnjalbpiciiaa
set_option linter.unusedVariables false
set_option linter.unusedSimpArgs false
open Go.RowKit Go.Shelf

theorem infoInt : (Try.prog.info? 3).map (fun i => (i.zero, i.size, i.bytes)) = some (some (.int .i64 0), 1, 8) := by kernel_rfl
def intL : Lay Int := ⟨fun x => [.int .i64 x], 1, fun _ => rfl, by intro o u hu; simp at hu; subst hu; rfl⟩
theorem intL_at {w : World} {a : Option Addr} {n c : Nat} {l : List Int} (h : intL.In w (.slice a n c) l) {k : Nat} {x : Int} (hx : l[k]? = some x) : ∃ g off, a = some ⟨g, off, none⟩ ∧ n = l.length ∧ w.cell? ⟨g, off + k, none⟩ = some (.int .i64 x) := by
  obtain ⟨g, off, ha, hn, h⟩ := h.cells hx
  have := h 0 (.int .i64 x) rfl
  exact ⟨g, off, ha, hn, by simpa [intL] using this⟩
set_option maxRecDepth 100000 in
set_option maxHeartbeats 1600000 in
theorem times_any {w : World} {u : Value} {l : List Int} (h : intL.In w u l) (n : Int) : Calls Try.prog 51 #[u, .int .i64 n] w fun e w' => e = .returned (.int .i64 (l.count n : Nat)) ∧ w = w' := by
  obtain ⟨a, c, rfl, hlc, hcm⟩ := h.slice
  go_enter Try.func51, Try.ntmps51
  go_wp2_with fail
  go_loop [5, 10] (fun u v => ∃ k : Nat, v = .int .i64 k ∧ k ≤ l.length ∧ u = .int .i64 (((l.take k).count n : Nat) : Int)) (fun _ v => l.length - (intOf v).toNat)
  case atStart => exact ⟨0, rfl, Nat.zero_le _, by simp⟩
  case round =>
    obtain ⟨k, rfl, hk, rfl⟩ := hrel
    have hcl : (l.take k).count n ≤ k := Nat.le_trans List.count_le_length (List.length_take_le _ _)
    by_cases hlt : k < l.length
    · have hg : l[k]? = some l[k] := List.getElem?_eq_getElem hlt
      obtain ⟨g, off, rfl, _, hc⟩ := intL_at h hg
      have HS : Hid ((l.take (k + 1)).count n = (l.take k).count n + if l[k] = n then 1 else 0) := by
        rw [List.take_add_one, hg, Option.toList_some, List.count_append, List.count_singleton]
        show _ = _
        by_cases e : l[k] = n <;> simp [e]
      clear hg
      generalize l[k] = x at *
      generalize hq : (l.take k).count n = q at *
      have HQ := Lib.hid hq
      clear hq
      by_cases e : x = n
      · go_wp2_with fail
        go_round
        case rel => exact ⟨k + 1, by go_num, by omega, by rw [HS.out, if_pos e]; go_num⟩
        case measure => simp [intOf]; omega
      · go_wp2_with fail
        go_round
        case rel => exact ⟨k + 1, by go_num, by omega, by rw [HS.out, if_neg e]; rfl⟩
        case measure => simp [intOf]; omega
    · obtain rfl : k = l.length := by omega
      rw [List.take_length] at *
      go_wp2_with fail
      go_ret
      exact ⟨rfl, rfl⟩
def IntP (x : Int) (w : World) (e : Ending) (w' : World) : Prop := e = .returned (.int .i64 x) ∧ Below w.heap.size w w'
def BoolP (b : Bool) (w : World) (e : Ending) (w' : World) : Prop := e = .returned (.bool b) ∧ Below w.heap.size w w'
theorem Lay.In.drewN {α : Type} {I : Lay α} {w : World} {v : Value} {l : List α} (h : I.In w v l) (N : Nat) : I.In (w.drewN N) v l := by
  obtain ⟨a, c, hv, h1, h2, h⟩ := h
  exact ⟨a, c, hv, h1, h2, h⟩
theorem times_q {w : World} {u : Value} {l : List Int} (h : intL.In w u l) (n : Int) (N : Nat) : Calls Try.prog 51 #[u, .int .i64 n] (w.drewN N) fun e w' => e = .returned (.int .i64 (l.count n : Nat)) ∧ w' = w.drewN N :=
  (times_any (h.drewN N) n).mono fun e w' ⟨he, hw⟩ => ⟨he, hw.symm⟩
theorem below_drewN {B : Nat} {w w' : World} (h : Below B w w') (N : Nat) : Below B w (w'.drewN N) := ⟨h.os, h.tape, h.output, h.size, h.block⟩
/-- Another world that only drew. -/
def Drawn (w w' : World) : Prop := ∃ N, w' = w.drewN N
theorem Drawn.cell {w w' : World} (h : Drawn w w') {p : Addr} {v : Value} (hc : w.cell? p = some v) : w'.cell? p = some v := by obtain ⟨N, rfl⟩ := h; exact hc
theorem Drawn.below {w w' : World} (h : Drawn w w') {B : Nat} {w0 : World} (hb : Below B w0 w) : Below B w0 w' := by obtain ⟨N, rfl⟩ := h; exact below_drewN hb N
theorem Drawn.next {w w' : World} (h : Drawn w w') (N : Nat) : Drawn w (w'.drewN N) := by
  obtain ⟨M, rfl⟩ := h
  refine ⟨M + N, ?_⟩
  unfold World.drewN
  simp [Nat.add_assoc]
theorem Drawn.in' {α : Type} {I : Lay α} {w w' : World} {v : Value} {l : List α} (hD : Drawn w w') (h : I.In w v l) : I.In w' v l := by obtain ⟨N, rfl⟩ := hD; exact h.drewN N
theorem Drawn.refl (w : World) : Drawn w w := ⟨0, rfl⟩
theorem Drawn.trans {a b c : World} (h : Drawn a b) (h' : Drawn b c) : Drawn a c := by obtain ⟨N, rfl⟩ := h'; exact h.next N
theorem intL_all (l : List Int) : intL.all l = l.map (Value.int .i64) := by
  unfold Lay.all intL
  induction l with
  | nil => rfl
  | cons x l ih => rw [List.flatMap_cons, List.map_cons, ih]; rfl
theorem intL_cells {w : World} {a : Option Addr} {n c : Nat} {l : List Int} (h : intL.In w (.slice a n c) l) (hne : l ≠ []) : ∃ g off, a = some ⟨g, off, none⟩ ∧ n = l.length ∧ g < w.heap.size ∧ ∀ j, j < l.length → w.cell? ⟨g, off + j, none⟩ = some (.int .i64 (l.getD j 0)) := by
  obtain ⟨a', c', hv, _, _, h⟩ := h
  simp only [Value.slice.injEq] at hv
  obtain ⟨rfl, rfl, rfl⟩ := hv
  obtain ⟨g, off, ha, hg, hat⟩ := h.resolve_left hne
  refine ⟨g, off, ha, rfl, hg, fun j hj => ?_⟩
  have := hat j l[j] (List.getElem?_eq_getElem hj) 0 (.int .i64 l[j]) rfl
  rw [List.getD_eq_getElem?_getD, List.getElem?_eq_getElem hj, Option.getD_some]
  simpa [intL] using this
/-- Whether a number is in a list. -/
def hasI (l : List Int) (n : Int) : Bool := l.contains n
theorem hasI_iff (l : List Int) (n : Int) : hasI l n = true ↔ n ∈ l := List.contains_iff_mem
def ms (l : List Int) : List Int := l.mergeSort fun x y => decide (x ≤ y)
theorem ms_len (l : List Int) : (ms l).length = l.length := (List.mergeSort_perm _ _).length_eq
theorem ms_mem (l : List Int) (x : Int) : x ∈ ms l ↔ x ∈ l := (List.mergeSort_perm _ _).mem_iff
theorem hasI_ms (l : List Int) (n : Int) : hasI (ms l) n = hasI l n := by rw [Bool.eq_iff_iff, hasI_iff, hasI_iff]; exact ms_mem l n
theorem ms_nil : ms [] = [] := by unfold ms; exact List.mergeSort_nil
def SortP (B : Nat) (v : Value) (l : List Int) (w : World) (e : Ending) (w' : World) : Prop := e = .returned (.tuple #[]) ∧ w'.ownsRow B 3 1 v l.length ((ms l).map (Value.int .i64)) ∧ w.grownBy w' v.ownBlock
theorem sorted_ms (L : List Int) : (L.mergeSort fun x y => decide (x ≤ y)).Pairwise (· ≤ ·) := by
  have := List.pairwise_mergeSort (le := fun (x y : Int) => decide (x ≤ y)) (fun a b c h1 h2 => by simp at *; omega) (fun a b => by simp; omega) L
  exact this.imp (fun h => by simpa using h)
theorem ms_sorted (l : List Int) : (ms l).Pairwise (· ≤ ·) := sorted_ms l
theorem Sort_any {w : World} {B : Nat} {v : Value} {l : List Int} (h : w.ownsRow B 3 1 v l.length (l.map (Value.int .i64))) (hl : l.length ≤ 1000000) : Calls Try.prog 77 #[v] w (SortP B v l w) := by
  rcases h.2 with ⟨rfl, hz⟩ | ⟨gb, cap, cur, rfl, hbase, hgb, r1, r2, r3, r4⟩
  · obtain rfl : l = [] := List.eq_nil_of_length_eq_zero hz
    refine (Try.slices_Sort_int_none none 0 w).mono fun e w' ⟨he, hw⟩ => ?_
    subst hw
    exact ⟨he, by rw [ms_nil]; exact h, ⟨rfl, rfl, rfl, Nat.le_refl _, fun _ _ _ => rfl⟩⟩
  · refine (Try.slices_Sort_int gb 0 cap l w (holds_of_block_i hgb (by simpa using r4)) (Array.getElem?_eq_some_iff.1 hgb).1 (by omega)).mono fun e w' ⟨he, n, os, hw⟩ => ?_
    subst hw
    exact ⟨he, ownsRow_sorted_i (ms_len l) hbase hgb r1 r2 r3, grownBy_sorted_i _⟩
theorem own_rw {w0 w : World} {v : Value} {l : List Int} (h : w.ownsRow w0.heap.size 3 1 v l.length (l.map (Value.int .i64))) (hb : Below w0.heap.size w0 w) : Rw intL 3 w0 w v l := ⟨by rw [intL_all]; exact h, hb⟩
theorem Rw.sorted {w0 w w' : World} {v : Value} {l : List Int} (h : Rw intL 3 w0 w v l) {e : Ending} (hs : SortP w0.heap.size v l w e w') : Rw intL 3 w0 w' v (ms l) := by
  obtain ⟨_, h1, h2⟩ := hs
  refine ⟨by rw [intL_all, ms_len]; exact h1, h.grown.trans ⟨h2.os, h2.tape, h2.output, h2.size, fun k hk => h2.block k (Nat.lt_of_lt_of_le hk h.grown.size) fun e => ?_⟩⟩
  have := (h.lt k e.symm).1; omega
def RwP (l : List Int) (w : World) (e : Ending) (w' : World) : Prop := ∃ v, e = .returned v ∧ Rw intL 3 w w' v l
/-- A list of ints is asked for one. -/
theorem Contains_any {w : World} {v : Value} {l : List Int} (h : intL.In w v l) (x : Int) : Calls Try.prog 37 #[v, .int .i64 x] w fun e w' => e = .returned (.bool (hasI l x)) ∧ w = w' := by
  obtain ⟨a, c, rfl, h1, h2⟩ := h.slice
  by_cases hne : l = []
  · subst hne
    exact (Try.slices_Contains_int_empty a c x w).mono fun e w' ⟨he, hw⟩ => ⟨he, hw.symm⟩
  · obtain ⟨g, off, rfl, _, hg, hc⟩ := intL_cells h hne
    refine (Try.slices_Contains_int g off l.length c l x w (Nat.le_refl _) (by omega) hc).mono fun e w' ⟨he, hw⟩ => ⟨?_, hw.symm⟩
    rw [he, List.take_length]; rfl
theorem comp_upto (zs : List Int) (hs : zs.Pairwise (· ≤ ·)) : ∀ m, m ≤ zs.length →
    (Lib.compactUpTo zs.toArray m).Pairwise (· < ·) ∧ (∀ x ∈ Lib.compactUpTo zs.toArray m, ∀ k, m = k + 1 → x ≤ zs.toArray[k]!) ∧ (∀ x, x ∈ Lib.compactUpTo zs.toArray m ↔ x ∈ zs.take m)
  | 0, _ => ⟨by simp [Lib.compactUpTo], fun x hx => by simp [Lib.compactUpTo] at hx, fun x => by simp [Lib.compactUpTo]⟩
  | m + 1, hm => by
    obtain ⟨h1, h2, h3⟩ := comp_upto zs hs m (by omega)
    have hget : zs.toArray[m]! = zs[m] := by rw [getElem!_pos _ _ (by simp; omega)]; rfl
    have hT : zs.take (m + 1) = zs.take m ++ [zs[m]] := by rw [List.take_add_one, List.getElem?_eq_getElem (by omega)]; rfl
    rw [Lib.compactUpTo_succ]
    by_cases hk : Lib.keeps zs.toArray m = true
    · rw [if_pos hk, hget, hT]
      have hlt : ∀ x ∈ Lib.compactUpTo zs.toArray m, x < zs[m] := by
        intro x hx
        cases m with
        | zero => simp [Lib.compactUpTo] at hx
        | succ k =>
          have hx2 := h2 x hx k rfl
          have hgk : zs.toArray[k]! = zs[k] := by rw [getElem!_pos _ _ (by simp; omega)]; rfl
          have hle := List.pairwise_iff_getElem.1 hs k (k + 1) (by omega) (by omega) (by omega)
          have hne : zs[k + 1] ≠ zs[k] := by
            have := of_decide_eq_true hk
            rcases this with h | h
            · omega
            · rw [hget, show k + 1 - 1 = k from rfl, hgk] at h; exact h
          rw [hgk] at hx2
          omega
      refine ⟨List.pairwise_append.2 ⟨h1, by simp, fun x hx y hy => ?_⟩, fun x hx k hk' => ?_, fun x => ?_⟩
      · have : y = zs[m] := by simpa using hy
        subst this; exact hlt x hx
      · obtain rfl : m = k := by omega
        rw [hget]
        rcases List.mem_append.1 hx with hx | hx
        · exact Int.le_of_lt (hlt x hx)
        · have : x = zs[m] := by simpa using hx
          omega
      · rw [List.mem_append, List.mem_append, h3]
    · have hk' : Lib.keeps zs.toArray m = false := by simpa using hk
      rw [if_neg hk, List.append_nil, hT]
      have hm0 : m ≠ 0 := by rintro rfl; simp [Lib.keeps] at hk'
      obtain ⟨k, rfl⟩ : ∃ k, m = k + 1 := ⟨m - 1, by omega⟩
      have hgk : zs.toArray[k]! = zs[k] := by rw [getElem!_pos _ _ (by simp; omega)]; rfl
      have he : zs[k + 1] = zs[k] := by
        unfold Lib.keeps at hk'
        have := of_decide_eq_false hk'
        rw [not_or, hget, show k + 1 - 1 = k from rfl, hgk] at this
        exact Classical.not_not.1 this.2
      have hmem : zs[k] ∈ zs.take (k + 1) := by
        rw [List.take_add_one, List.getElem?_eq_getElem (by omega), Option.toList_some]
        exact List.mem_append_right _ (by simp)
      refine ⟨h1, fun x hx j hj => ?_, fun x => ?_⟩
      · obtain rfl : k + 1 = j := by omega
        have := h2 x hx k rfl
        rw [hget, he]; rw [hgk] at this; exact this
      · rw [h3, List.mem_append]
        refine ⟨.inl, fun h => h.elim id fun h => ?_⟩
        have : x = zs[k + 1] := by simpa using h
        rw [this, he]; exact hmem
/-- All that stands in a list, each once, in its order. -/
def allE (l : List Int) : List Int := Lib.compact (ms l)
theorem allE_sorted (l : List Int) : (allE l).Pairwise (· < ·) := (comp_upto (ms l) (ms_sorted l) (ms l).length (Nat.le_refl _)).1
theorem allE_mem (l : List Int) (x : Int) : x ∈ allE l ↔ x ∈ l := by
  unfold allE Lib.compact
  rw [(comp_upto (ms l) (ms_sorted l) (ms l).length (Nat.le_refl _)).2.2, List.take_length, ms_mem]
theorem allE_len {l : List Int} (h : l.Nodup) : (allE l).length = l.length := by
  have h1 : (allE l).Nodup := (allE_sorted l).imp fun h => by omega
  have h2 : (allE l).Perm l := (List.perm_ext_iff_of_nodup h1 h).2 (allE_mem l)
  exact h2.length_eq
theorem allE_le (l : List Int) : (allE l).length ≤ l.length := by
  unfold allE Lib.compact Lib.compactUpTo
  rw [List.length_map]
  exact Nat.le_trans (List.length_filter_le _ _) (by rw [List.length_range, ms_len]; exact Nat.le_refl _)
theorem grow_none (w : World) : Sort.grow w #[] = w := by unfold Sort.grow; simp
set_option maxHeartbeats 1600000 in
theorem Compact_any {w0 w : World} {v : Value} {l : List Int} (h : Rw intL 3 w0 w v l) (hl : l.length ≤ 1000000) : Calls Try.prog 78 #[v] w fun e w' => ∃ u, e = .returned u ∧ Rw intL 3 w0 w' u (Lib.compact l) := by
  have hown : w.ownsRow w0.heap.size 3 1 v l.length (l.map (Value.int .i64)) := by have := h.own; rw [intL_all] at this; exact this
  rcases hown.2 with ⟨rfl, hz⟩ | ⟨gb, cap, cur, rfl, hbase, hgb, r1, r2, r3, r4⟩
  · obtain rfl : l = [] := List.eq_nil_of_length_eq_zero hz
    exact (Try.slices_Compact_int_empty none 0 w).mono fun e w' ⟨he, hw⟩ => ⟨_, he, by rw [hw]; exact h⟩
  · have hc : (Lib.compact l).length ≤ l.length := by
      unfold Lib.compact Lib.compactUpTo
      rw [List.length_map]
      exact Nat.le_trans (List.length_filter_le _ _) (Nat.le_of_eq List.length_range)
    refine (Try.slices_Compact_int gb 0 cap l w (holds_of_block_i hgb (by simpa using r4)) (by omega) r1).mono fun e w' ⟨he, q, hw⟩ => ⟨_, he, ?_⟩
    have hlen : (Lib.compact l ++ List.replicate (l.length - (Lib.compact l).length) 0).length = l.length := by simp; omega
    have ho := ownsRow_sorted_i (n := q) (os := #[]) (ts := Lib.compact l ++ List.replicate (l.length - (Lib.compact l).length) 0) hlen hbase hgb r1 r2 r3
    have hg := grownBy_sorted_i (w := w) (g := gb) (n := q) (os := #[]) (Lib.compact l ++ List.replicate (l.length - (Lib.compact l).length) 0).toArray
    rw [grow_none] at ho hg
    rw [hw]
    generalize Sort.putRow (Value.int .i64) (Sort.ahead w q) gb 0 (Lib.compact l ++ List.replicate (l.length - (Lib.compact l).length) 0).toArray = W at *
    refine ⟨?_, h.grown.trans ⟨hg.os, hg.tape, hg.output, hg.size, fun k hk => hg.block k (Nat.lt_of_lt_of_le hk h.grown.size) fun e => ?_⟩⟩
    · rw [intL_all]
      show W.ownsRow _ _ 1 _ _ _
      rcases ho.2 with ⟨hv, _⟩ | ⟨g', cap', cur', hv, hb', hgg', r1', r2', r3', r4'⟩
      · cases hv
      · obtain ⟨rfl, rfl⟩ : gb = g' ∧ cap = cap' := by simpa using hv
        refine ⟨by simp, .inr ⟨gb, cap, cur', rfl, hb', hgg', by omega, r2', r3', ?_⟩⟩
        have := congrArg (List.take (Lib.compact l).length) r4'
        rw [List.take_take, Nat.min_eq_left (by omega)] at this
        rw [Nat.mul_one, this, List.map_append, List.take_left' (by simp)]
    · obtain rfl : gb = k := by simpa using e.symm
      omega
theorem Clone_any {w : World} {v : Value} {l : List Int} (h : intL.In w v l) (hl : l.length ≤ 100000) : Calls Try.prog 27 #[v] w (RwP l w) := by
  obtain ⟨a, c, rfl, h1, h2⟩ := h.slice
  by_cases hne : l = []
  · subst hne
    cases a with
    | none => exact (Try.slices_Clone_int_nil 0 c w).mono fun e w' ⟨he, hw⟩ => ⟨_, he, by rw [hw]; exact Rw.nil w⟩
    | some p => exact (Try.slices_Clone_int_zero p c w).mono fun e w' ⟨v', he, ho, _, hb⟩ => ⟨v', he, ⟨ho, hb⟩⟩
  · obtain ⟨g, off, rfl, _, hg, hc⟩ := intL_cells h hne
    refine (Try.slices_Clone_int g off l.length c l w (Nat.le_refl _) (by omega) hc).mono fun e w' ⟨v', he, ho, _, hb⟩ => ⟨v', he, ⟨?_, hb⟩⟩
    rw [intL_all]; rw [List.take_length] at ho; exact ho
theorem Equal_any {w : World} {u v : Value} {xs ys : List Int} (h : intL.In w u xs) (h' : intL.In w v ys) : Calls Try.prog 28 #[u, v] w fun e w' => e = .returned (.bool (xs == ys)) ∧ Drawn w w' := by
  obtain ⟨a, c, rfl, _, m1⟩ := h.slice
  obtain ⟨a', c', rfl, _, m2⟩ := h'.slice
  by_cases hx : xs = []
  · subst hx
    refine (Try.slices_Equal_int_empty a a' c ys.length c' w (by omega)).mono fun e w' hh => ?_
    obtain ⟨he, hw⟩ := hh
    refine ⟨he.trans ?_, ?_⟩
    · congr 2
      cases ys <;> rfl
    · rw [hw]; exact Drawn.refl _
  · by_cases hy : ys = []
    · subst hy
      refine (Try.slices_Equal_int_lens a a' xs.length c 0 c' w (fun e => hx (List.eq_nil_of_length_eq_zero e))).mono fun e w' ⟨he, hw⟩ => ⟨he.trans ?_, ?_⟩
      · congr 2
        cases xs with
        | nil => exact absurd rfl hx
        | cons => rfl
      · rw [hw]; exact Drawn.refl _
    · obtain ⟨g, off, rfl, _, _, hc⟩ := intL_cells h hx
      obtain ⟨g', off', rfl, _, _, hc'⟩ := intL_cells h' hy
      refine (Try.slices_Equal_int g off xs.length c g' off' ys.length c' xs ys w (Nat.le_refl _) (Nat.le_refl _) (by omega) (by omega) hc hc').mono fun e w' ⟨he, hw⟩ => ⟨?_, hw⟩
      rw [he, List.take_length, List.take_length]
end Go.Proofs.Ytdgnjalbpiciiaa
