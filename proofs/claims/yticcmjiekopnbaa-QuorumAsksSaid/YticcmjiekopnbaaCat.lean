/-
  Two lists of ints, one behind the other; All walked.
-/
import Derived.Test.YticcmjiekopnbaaW6
import Derived.Test.YticcmjiekopnbaaLc
import Derived.Lib.AppendZeros
namespace Go.Proofs.Yticcmjiekopnbaa
set_option linter.unusedVariables false
set_option linter.unusedSimpArgs false
open Go.RowKit Go.Shelf

set_option maxRecDepth 100000 in
set_option maxHeartbeats 3200000 in
theorem Grow_nil (n : Nat) (w : World) (hn : n ≤ 1000000) : Calls Try.prog 53 #[.slice none 0 0, .int .i64 (n : Nat)] w (RwP [] w) := by
  have h0 : ¬ ((n : Int) < 0) := by omega
  have e0 : IntKind.i64.wrap ((n : Int) - 0) = n := IntWalk.i64_in _ (by omega)
  by_cases hz : n = 0
  · subst hz
    go_enter Try.func53, Try.ntmps53
    go_wp2_with fail
    go_ret
    exact ⟨_, rfl, Rw.nil w⟩
  · have h1 : (0 : Int) < (n : Int) := by omega
    obtain ⟨i0, hi, hz0, hz1, hz2⟩ := info_parts infoInt
    have hsz : (Value.int .i64 0).cells.size = 1 := rfl
    have hr := fun ty => Lib.run_append_nil_zeros (P := Try.prog) w 22 3 ty 3 i0 _ .i64 .i64 Try.underlying22 Try.underlying3 hi hz0 n (by omega) (by rw [hz1]; decide) (by omega) (by rw [hz2]; omega)
    have hge := grownCap_ge w n 0 3
    have hle := grownCap_le_maxLen w n 0 3 (by unfold maxLen; omega)
    generalize grownCap w n 0 3 = cap at *
    generalize hM : Builtin.zeroCells (Value.int .i64 0).cells n ++ Builtin.zeroCells (Value.int .i64 0).cells (cap - n) = M at *
    have hMs : M.size = cap * 1 := by rw [← hM, Array.size_append, size_zeroCells, size_zeroCells, hsz]; omega
    have HR := Lib.hid hr
    have HF : Hid (Rw intL 3 w (w.drew.alloc (.cells M 3)) (.slice (some ⟨w.heap.size, 0, none⟩) 0 cap) []) :=
      ⟨World.ownsRow_made (w := w.drew) (e := 3) (size := 1) M cap (Nat.le_refl _) hle hMs, (lay_drew (Below.refl _ _)).alloc (Nat.le_refl _) _⟩
    clear hr hM hMs hi hz0 hz1 hz2 hsz hle
    have hc : (0 : Int) ≤ ((cap : Nat) : Int) := by omega
    go_enter Try.func53, Try.ntmps53
    go_wp2_with (at_builtin; refine Lib.wpList_append_run _ rfl _ _ _ _ rfl _ _ rfl rfl _ _ (HR.out _) ?_)
    go_ret
    exact ⟨_, rfl, HF.out⟩

def catZs (xs ys : List Int) (i : Nat) : List Int := if i = 0 then [] else if i = 1 then xs else xs ++ ys
theorem catZs_step (xs ys : List Int) (i : Nat) (h : i < 2) : catZs xs ys (i + 1) = catZs xs ys i ++ (if i = 0 then xs else ys) := by
  rcases (by omega : i = 0 ∨ i = 1) with rfl | rfl <;> simp [catZs]
set_option maxRecDepth 100000 in
set_option maxHeartbeats 6400000 in
theorem Concat_two {w : World} {g : Nat} {u1 u2 : Value} {xs ys : List Int} (c1 : w.cell? ⟨g, 0, none⟩ = some u1) (c2 : w.cell? ⟨g, 1, none⟩ = some u2) (h1 : intL.In w u1 xs) (h2 : intL.In w u2 ys) (l1 : xs.length ≤ 100000) (l2 : ys.length ≤ 100000) :
    Calls Try.prog 34 #[.slice (some ⟨g, 0, none⟩) 2 2] w (RwP (xs ++ ys) w) := by
  obtain ⟨a1, d1, rfl, _, _⟩ := h1.slice
  obtain ⟨a2, d2, rfl, _, _⟩ := h2.slice
  have H1 := Lib.hid h1
  have H2 := Lib.hid h2
  have C1 := Lib.hid c1
  have C2 := Lib.hid c2
  clear h1 h2
  go_enter Try.func34, Try.ntmps34
  go_wp2_with fail
  go_loopw [3, 11] (fun u v wr => ∃ (i : Nat), u = .int .i64 ((catZs xs ys i).length : Nat) ∧ v = .int .i64 i ∧ i ≤ 2 ∧ w = wr)
    (fun _ v _ => 2 - (intOf v).toNat)
  case atStart => exact ⟨0, rfl, rfl, by omega, rfl⟩
  case round =>
    obtain ⟨i, rfl, rfl, hin, rfl⟩ := hrel
    rcases (by omega : i = 0 ∨ i = 1 ∨ i = 2) with rfl | rfl | rfl
    · have hn : (catZs xs ys 0).length = 0 := rfl
      have e1 : IntKind.i64.wrap (0 + (xs.length : Int)) = (xs.length : Int) := by rw [Int.zero_add]; exact IntWalk.i64_in _ (by omega)
      have e2 : ¬ ((xs.length : Int) < 0) := by omega
      rw [hn]
      clear hn
      go_wp2_with fail
      exact ⟨⟨1, by simp [catZs], rfl, by omega, trivial⟩, by show 2 - (1 : Int).toNat < 2 - (0 : Int).toNat; decide⟩
    · have hn : (catZs xs ys 1).length = xs.length := rfl
      have e1 : IntKind.i64.wrap ((xs.length : Int) + (ys.length : Int)) = (xs.length : Int) + (ys.length : Int) := IntWalk.i64_in _ (by omega)
      have e2 : ¬ ((xs.length : Int) + (ys.length : Int) < 0) := by omega
      rw [hn]
      clear hn
      go_wp2_with fail
      exact ⟨⟨2, by simp [catZs], rfl, by omega, trivial⟩, by show 2 - (2 : Int).toNat < 2 - (1 : Int).toNat; decide⟩
    · have hG := Grow_nil (catZs xs ys 2).length w (by show (xs ++ ys).length ≤ _; rw [List.length_append]; omega)
      generalize (catZs xs ys 2).length = N at *
      have HG := Lib.hid hG
      clear hG
      go_wp2_with fail
      go_fit HG.out
      rintro e w1 ⟨v1, rfl, hr⟩
      have HR := Lib.hid hr
      obtain ⟨va, vc, rfl, _, _⟩ := hr.slice
      clear hr HG
      go_wp2_with fail
      go_loopw [6, 27] (fun u v wr => ∃ (i : Nat), v = .int .i64 i ∧ i ≤ 2 ∧ Hid (Rw intL 3 w wr u (catZs xs ys i)))
        (fun _ v _ => 2 - (intOf v).toNat)
      case atStart => exact ⟨0, rfl, by omega, HR⟩
      case round =>
        obtain ⟨j, rfl, hjn, hR⟩ := hrel
        have hst := Lib.hid (catZs_step xs ys j)
        rcases (by omega : j = 0 ∨ j = 1 ∨ j = 2) with rfl | rfl | rfl
        · have k1 := lay_later hR.out.grown C1.out
          have HI := Lib.hid (H1.out.later hR.out.grown)
          obtain ⟨ra, rc, rfl, _, _⟩ := hR.out.slice
          have HL : Hid ((catZs xs ys 0).length + xs.length ≤ 1073741825) := by show _ ≤ _; have : (catZs xs ys 0).length = 0 := rfl; omega
          clear c1 c2
          go_wp2_with (at_builtin; refine wpList_catI (I := intL) rfl _ _ 22 3 rfl Try.underlying22 infoInt rfl (by decide) (by decide) hR.out.own HI.out HL.out hR.out.grown.size rfl rfl ?_; intro v' w' hown hgrow; have HO := Lib.hid hown; have HW := Lib.hid hgrow; clear hown hgrow)
          refine ⟨⟨1, rfl, by omega, ?_⟩, by show 2 - (1 : Int).toNat < 2 - (0 : Int).toNat; decide⟩
          show Rw _ _ _ _ _ _
          rw [hst.out (by omega)]
          exact ⟨HO.out, hR.out.grown.trans ⟨HW.out.os, HW.out.tape, HW.out.output, HW.out.size, fun k hk => HW.out.block k (Nat.lt_of_lt_of_le hk hR.out.grown.size) (fun e => by have := (hR.out.lt k e.symm).1; omega)⟩⟩
        · have k2 := lay_later hR.out.grown C2.out
          have HI := Lib.hid (H2.out.later hR.out.grown)
          obtain ⟨ra, rc, rfl, _, _⟩ := hR.out.slice
          have HL : Hid ((catZs xs ys 1).length + ys.length ≤ 1073741825) := by show _ ≤ _; have : (catZs xs ys 1).length = xs.length := rfl; omega
          clear c1 c2
          go_wp2_with (at_builtin; refine wpList_catI (I := intL) rfl _ _ 22 3 rfl Try.underlying22 infoInt rfl (by decide) (by decide) hR.out.own HI.out HL.out hR.out.grown.size rfl rfl ?_; intro v' w' hown hgrow; have HO := Lib.hid hown; have HW := Lib.hid hgrow; clear hown hgrow)
          refine ⟨⟨2, rfl, by omega, ?_⟩, by show 2 - (2 : Int).toNat < 2 - (1 : Int).toNat; decide⟩
          show Rw _ _ _ _ _ _
          rw [hst.out (by omega)]
          exact ⟨HO.out, hR.out.grown.trans ⟨HW.out.os, HW.out.tape, HW.out.output, HW.out.size, fun k hk => HW.out.block k (Nat.lt_of_lt_of_le hk hR.out.grown.size) (fun e => by have := (hR.out.lt k e.symm).1; omega)⟩⟩
        · clear hst
          obtain ⟨ra, rc, rfl, _, _⟩ := hR.out.slice
          go_wp2_with fail
          go_ret
          exact ⟨_, rfl, hR.out⟩


/-! what is left when neighbours that are alike are struck -/
theorem comp_upto (zs : List Int) (hs : zs.Pairwise (· ≤ ·)) : ∀ m, m ≤ zs.length →
    (Lib.compactUpTo zs.toArray m).Pairwise (· < ·) ∧ (∀ x ∈ Lib.compactUpTo zs.toArray m, ∀ k, m = k + 1 → x ≤ zs.toArray[k]!) ∧ (∀ x, x ∈ Lib.compactUpTo zs.toArray m ↔ x ∈ zs.take m)
  | 0, _ => ⟨by simp [Lib.compactUpTo], fun x hx => by simp [Lib.compactUpTo] at hx, fun x => by simp [Lib.compactUpTo]⟩
  | m + 1, hm => by
    obtain ⟨h1, h2, h3⟩ := comp_upto zs hs m (by omega)
    have hget : zs.toArray[m]! = zs[m] := by rw [getElem!_pos _ _ (by simp; omega)]; rfl
    have hT : zs.take (m + 1) = zs.take m ++ [zs[m]] := by rw [List.take_add_one, List.getElem?_eq_getElem (by omega)]; rfl
    rw [Lib.compactUpTo_succ]
    by_cases hk : Lib.keeps zs.toArray m = true
    · rw [if_pos hk, hget, hT]
      have hlt : ∀ x ∈ Lib.compactUpTo zs.toArray m, x < zs[m] := by
        intro x hx
        cases m with
        | zero => simp [Lib.compactUpTo] at hx
        | succ k =>
          have hx2 := h2 x hx k rfl
          have hgk : zs.toArray[k]! = zs[k] := by rw [getElem!_pos _ _ (by simp; omega)]; rfl
          have hle := List.pairwise_iff_getElem.1 hs k (k + 1) (by omega) (by omega) (by omega)
          have hne : zs[k + 1] ≠ zs[k] := by
            have := of_decide_eq_true hk
            rcases this with h | h
            · omega
            · rw [hget, show k + 1 - 1 = k from rfl, hgk] at h; exact h
          rw [hgk] at hx2
          omega
      refine ⟨List.pairwise_append.2 ⟨h1, by simp, fun x hx y hy => ?_⟩, fun x hx k hk' => ?_, fun x => ?_⟩
      · have : y = zs[m] := by simpa using hy
        subst this; exact hlt x hx
      · obtain rfl : m = k := by omega
        rw [hget]
        rcases List.mem_append.1 hx with hx | hx
        · exact Int.le_of_lt (hlt x hx)
        · have : x = zs[m] := by simpa using hx
          omega
      · rw [List.mem_append, List.mem_append, h3]
    · have hk' : Lib.keeps zs.toArray m = false := by simpa using hk
      rw [if_neg hk, List.append_nil, hT]
      have hm0 : m ≠ 0 := by rintro rfl; simp [Lib.keeps] at hk'
      obtain ⟨k, rfl⟩ : ∃ k, m = k + 1 := ⟨m - 1, by omega⟩
      have hgk : zs.toArray[k]! = zs[k] := by rw [getElem!_pos _ _ (by simp; omega)]; rfl
      have he : zs[k + 1] = zs[k] := by
        unfold Lib.keeps at hk'
        have := of_decide_eq_false hk'
        rw [not_or, hget, show k + 1 - 1 = k from rfl, hgk] at this
        exact Classical.not_not.1 this.2
      have hmem : zs[k] ∈ zs.take (k + 1) := by
        rw [List.take_add_one, List.getElem?_eq_getElem (by omega), Option.toList_some]
        exact List.mem_append_right _ (by simp)
      refine ⟨h1, fun x hx j hj => ?_, fun x => ?_⟩
      · obtain rfl : k + 1 = j := by omega
        have := h2 x hx k rfl
        rw [hget, he]; rw [hgk] at this; exact this
      · rw [h3, List.mem_append]
        refine ⟨.inl, fun h => h.elim id fun h => ?_⟩
        have : x = zs[k + 1] := by simpa using h
        rw [this, he]; exact hmem
/-- All that stands in a list, each once, in its order. -/
def allE (l : List Int) : List Int := Lib.compact (ms l)
theorem allE_sorted (l : List Int) : (allE l).Pairwise (· < ·) := (comp_upto (ms l) (ms_sorted l) (ms l).length (Nat.le_refl _)).1
theorem allE_mem (l : List Int) (x : Int) : x ∈ allE l ↔ x ∈ l := by
  unfold allE Lib.compact
  rw [(comp_upto (ms l) (ms_sorted l) (ms l).length (Nat.le_refl _)).2.2, List.take_length, ms_mem]
theorem allE_len {l : List Int} (h : l.Nodup) : (allE l).length = l.length := by
  have h1 : (allE l).Nodup := (allE_sorted l).imp fun h => by omega
  have h2 : (allE l).Perm l := (List.perm_ext_iff_of_nodup h1 h).2 (allE_mem l)
  exact h2.length_eq
theorem allE_le (l : List Int) : (allE l).length ≤ l.length := by
  unfold allE Lib.compact Lib.compactUpTo
  rw [List.length_map]
  exact Nat.le_trans (List.length_filter_le _ _) (by rw [List.length_range, ms_len]; exact Nat.le_refl _)
theorem grow_none (w : World) : Sort.grow w #[] = w := by unfold Sort.grow; simp
set_option maxHeartbeats 1600000 in
theorem Compact_any {w0 w : World} {v : Value} {l : List Int} (h : Rw intL 3 w0 w v l) (hl : l.length ≤ 1000000) : Calls Try.prog 46 #[v] w fun e w' => ∃ u, e = .returned u ∧ Rw intL 3 w0 w' u (Lib.compact l) := by
  have hown : w.ownsRow w0.heap.size 3 1 v l.length (l.map (Value.int .i64)) := by have := h.own; rw [intL_all] at this; exact this
  rcases hown.2 with ⟨rfl, hz⟩ | ⟨gb, cap, cur, rfl, hbase, hgb, r1, r2, r3, r4⟩
  · obtain rfl : l = [] := List.eq_nil_of_length_eq_zero hz
    exact (Try.slices_Compact_int_empty none 0 w).mono fun e w' ⟨he, hw⟩ => ⟨_, he, by rw [hw]; exact h⟩
  · have hc : (Lib.compact l).length ≤ l.length := by
      unfold Lib.compact Lib.compactUpTo
      rw [List.length_map]
      exact Nat.le_trans (List.length_filter_le _ _) (Nat.le_of_eq List.length_range)
    refine (Try.slices_Compact_int gb 0 cap l w (holds_of_block_i hgb (by simpa using r4)) (by omega) r1).mono fun e w' ⟨he, q, hw⟩ => ⟨_, he, ?_⟩
    have hlen : (Lib.compact l ++ List.replicate (l.length - (Lib.compact l).length) 0).length = l.length := by simp; omega
    have ho := ownsRow_sorted_i (n := q) (os := #[]) (ts := Lib.compact l ++ List.replicate (l.length - (Lib.compact l).length) 0) hlen hbase hgb r1 r2 r3
    have hg := grownBy_sorted_i (w := w) (g := gb) (n := q) (os := #[]) (Lib.compact l ++ List.replicate (l.length - (Lib.compact l).length) 0).toArray
    rw [grow_none] at ho hg
    rw [hw]
    generalize Sort.putRow (Value.int .i64) (Sort.ahead w q) gb 0 (Lib.compact l ++ List.replicate (l.length - (Lib.compact l).length) 0).toArray = W at *
    refine ⟨?_, h.grown.trans ⟨hg.os, hg.tape, hg.output, hg.size, fun k hk => hg.block k (Nat.lt_of_lt_of_le hk h.grown.size) fun e => ?_⟩⟩
    · rw [intL_all]
      show W.ownsRow _ _ 1 _ _ _
      rcases ho.2 with ⟨hv, _⟩ | ⟨g', cap', cur', hv, hb', hgg', r1', r2', r3', r4'⟩
      · cases hv
      · obtain ⟨rfl, rfl⟩ : gb = g' ∧ cap = cap' := by simpa using hv
        refine ⟨by simp, .inr ⟨gb, cap, cur', rfl, hb', hgg', by omega, r2', r3', ?_⟩⟩
        have := congrArg (List.take (Lib.compact l).length) r4'
        rw [List.take_take, Nat.min_eq_left (by omega)] at this
        rw [Nat.mul_one, this, List.map_append, List.take_left' (by simp)]
    · obtain rfl : gb = k := by simpa using e.symm
      omega

set_option maxRecDepth 100000 in
set_option maxHeartbeats 3200000 in
theorem All_any {w : World} {u v : Value} {vs ls : List Int} (h : RoCs w u v vs ls) (l1 : vs.length ≤ 100000) (l2 : ls.length ≤ 100000) : Calls Try.prog 20 #[.agg #[u, v]] w (RwP (allE (vs ++ ls)) w) := by
  have hb0 := lay_alloc w (.cells #[u, v] 24)
  have hsz : (w.alloc (.cells #[u, v] 24)).heap.size = w.heap.size + 1 := by simp
  have HI := Lib.hid (h.later hb0)
  obtain ⟨a1, c1, rfl, _, _⟩ := h.1.slice
  obtain ⟨a2, c2, rfl, _, _⟩ := h.2.slice
  clear h
  go_enter Try.func20, Try.ntmps20
  go_wp2_with fail
  generalize w.alloc _ = w0 at *
  have hk := Go.heap_alloc_new w0 (.cells #[.slice a1 vs.length c1, .slice a2 ls.length c2] 22)
  rw [hsz] at hk
  have hb1 := lay_alloc w0 (.cells #[.slice a1 vs.length c1, .slice a2 ls.length c2] 22)
  have HI := Lib.hid (HI.out.later hb1)
  have HB := Lib.hid (hb0.trans (hb1.mono hb0.size))
  clear hb0 hb1 hsz
  generalize World.alloc _ _ = w1 at *
  have d0 : w1.cell? ⟨w.heap.size + 1, 0, none⟩ = some (.slice a1 vs.length c1) := by rw [cell_of_row w1 _ _ _ _ _ hk]; rfl
  have d1 : w1.cell? ⟨w.heap.size + 1, 1, none⟩ = some (.slice a2 ls.length c2) := by rw [cell_of_row w1 _ _ _ _ _ hk]; rfl
  clear hk
  go_fit (Concat_two d0 d1 HI.out.1 HI.out.2 l1 l2)
  rintro e w2 ⟨va, rfl, hR⟩
  have hL : (vs ++ ls).length ≤ 200000 := by rw [List.length_append]; omega
  generalize vs ++ ls = L at *
  have HR := Lib.hid hR
  have hown : w2.ownsRow w1.heap.size 3 1 va L.length (L.map (Value.int .i64)) := by have := hR.own; rw [intL_all] at this; exact this
  have HS := Lib.hid (Sort_any hown (by omega))
  clear hR hown d0 d1
  obtain ⟨aa, cc, rfl, _, _⟩ := HR.out.slice
  go_wp2_with fail
  go_fit HS.out
  rintro e w3 ⟨rfl, h1, h2⟩
  have HR2 := Lib.hid (HR.out.sorted (e := .returned (.tuple #[])) ⟨rfl, h1, h2⟩)
  have HC := Lib.hid (Compact_any HR2.out (by rw [ms_len]; omega))
  clear h1 h2 HS
  go_wp2_with fail
  go_fit HC.out
  rintro e w4 ⟨vb, rfl, hR4⟩
  have HF := Lib.hid (hR4.base HB.out)
  clear hR4 HC HR HR2
  go_wp2_with fail
  go_ret
  exact ⟨_, rfl, HF.out⟩
end Go.Proofs.Yticcmjiekopnbaa
