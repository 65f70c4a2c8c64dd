/-
  Keys sorted.
-/
import Derived.Test.YtcbgnmolfdhnfaaCC
import Derived.Test.YtcbgnmolfdhnfaaShelf2
import Derived.Sort.OwnSorted
namespace Go.Proofs.Ytcbgnmolfdhnfaa
set_option linter.unusedVariables false
set_option linter.unusedSimpArgs false
open Go.RowKit Go.Shelf Go.Sort

/-- A key's bytes; a key of bytes. -/
def kb (k : ByteArray) : List UInt8 := k.data.toList
def bk (l : List UInt8) : ByteArray := ⟨l.toArray⟩
theorem bk_kb (k : ByteArray) : bk (kb k) = k := by cases k; simp [bk, kb]
/-- Keys, sorted. -/
def sortK (l : List ByteArray) : List ByteArray := ((l.map kb).mergeSort fun x y => decide (x ≤ y)).map bk
theorem sortK_len (l : List ByteArray) : (sortK l).length = l.length := by
  unfold sortK
  rw [List.length_map, (List.mergeSort_perm _ _).length_eq, List.length_map]
theorem sortK_mem (l : List ByteArray) (k : ByteArray) : k ∈ sortK l ↔ k ∈ l := by
  unfold sortK
  rw [List.mem_map]
  constructor
  · rintro ⟨x, hx, rfl⟩
    obtain ⟨y, hy, rfl⟩ := List.mem_map.1 ((List.mergeSort_perm _ _).mem_iff.1 hx)
    rw [bk_kb]; exact hy
  · intro h
    exact ⟨kb k, (List.mergeSort_perm _ _).mem_iff.2 (List.mem_map.2 ⟨k, h, rfl⟩), bk_kb k⟩
theorem str_all (l : List ByteArray) : strL.all l = (l.map kb).map encStr := by
  unfold Lay.all strL
  induction l with
  | nil => rfl
  | cons x l ih =>
    rw [List.flatMap_cons, List.map_cons, List.map_cons, ih]
    have : encStr (kb x) = .string x := by
      show Value.string _ = _
      exact congrArg Value.string (bk_kb x)
    rw [this]; rfl
theorem str_all2 (l : List (List UInt8)) : strL.all (l.map bk) = l.map encStr := by
  unfold Lay.all strL
  induction l with
  | nil => rfl
  | cons x l ih => rw [List.map_cons, List.flatMap_cons, List.map_cons, ih]; rfl
def SortP (B : Nat) (v : Value) (l : List ByteArray) (w : World) (e : Ending) (w' : World) : Prop := e = .returned (.tuple #[]) ∧ w'.ownsRow B 9 1 v l.length (strL.all (sortK l)) ∧ w.grownBy w' v.ownBlock
theorem Sort_any {w : World} {B : Nat} {v : Value} {l : List ByteArray} (h : w.ownsRow B 9 1 v l.length (strL.all l)) (hl : l.length ≤ 1000000000) : Calls Try.prog 57 #[v] w (SortP B v l w) := by
  rcases h.2 with ⟨rfl, hz⟩ | ⟨gb, cap, cur, rfl, hbase, hgb, r1, r2, r3, r4⟩
  · obtain rfl : l = [] := List.eq_nil_of_length_eq_zero hz
    refine (Try.slices_Sort_string_none none 0 w).mono fun e w' ⟨he, hw⟩ => ?_
    subst hw
    have e0 : sortK [] = [] := List.eq_nil_of_length_eq_zero (by rw [sortK_len]; rfl)
    exact ⟨he, by rw [e0]; exact h, ⟨rfl, rfl, rfl, Nat.le_refl _, fun _ _ _ => rfl⟩⟩
  · have hll : (l.map kb).length = l.length := List.length_map _
    rw [str_all] at r4
    have hs := Try.slices_Sort_string gb 0 cap (l.map kb) w (holds_of_block hgb (by rw [hll]; simpa using r4)) (Array.getElem?_eq_some_iff.1 hgb).1 (by rw [hll]; omega)
    rw [hll] at hs
    refine hs.mono fun e w' ⟨he, n, os, hw⟩ => ?_
    subst hw
    refine ⟨he, ?_, grownBy_sorted _⟩
    have := ownsRow_sorted (n := n) (os := os) (ss := l.map kb) (ts := (l.map kb).mergeSort fun x y => decide (x ≤ y)) (List.mergeSort_perm _ _).length_eq hbase hgb (by rw [hll]; exact r1) r2 r3
    rw [hll] at this
    unfold sortK
    rw [str_all2]
    exact this

def UnP (s : Sd) (S T : List Pl) (w : World) (e : Ending) (w' : World) : Prop := ∃ v, e = .returned (.tuple #[v, .agg #[.int .i64 ((1 + s.vd 4 S T : Nat) : Int), .int .i64 ((s.vp 4 S T : Nat) : Int)], .int .i64 0]) ∧ Rw strL 9 w w' v (sortK (s.vk 4 S T))
set_option maxRecDepth 100000 in
set_option maxHeartbeats 3200000 in
theorem Unlike_any {s : Sd} {w : World} {ta tb : Nat} {S T : List Pl} (ha : TrIn s w ta S) (hb : TrIn s w tb T) (hS : S.length + T.length ≤ 1000) :
    Calls Try.prog 26 #[.pointer (some ⟨ta, 0, none⟩), .pointer (some ⟨tb, 0, none⟩)] w (UnP s S T w) := by
  have hA := Lib.hid (below_alloc w (.cells #[.int .i64 0, .int .i64 0] 51))
  have HA := Lib.hid (ha.later hA.out)
  have HBb := Lib.hid (hb.later hA.out)
  have HLn := Lib.hid hS
  have r0 : (w.alloc (.cells #[.int .i64 0, .int .i64 0] 51)).cell? ⟨w.heap.size, 0, none⟩ = some (.int .i64 0) := by go_simp
  have r1 : (w.alloc (.cells #[.int .i64 0, .int .i64 0] 51)).cell? ⟨w.heap.size, 1, none⟩ = some (.int .i64 0) := by go_simp
  have rz : ∀ j, (w.alloc (.cells #[.int .i64 0, .int .i64 0] 51)).frozen? ⟨w.heap.size, j, none⟩ = false := by intro j; go_simp
  have HR := Lib.hid (show _ ∧ _ ∧ _ from ⟨r0, r1, rz⟩)
  clear ha hb r0 r1 rz hS
  go_enter Try.func26, Try.ntmps26
  go_upto_region 1 with fail
  generalize w.alloc (.cells #[.int .i64 0, .int .i64 0] 51) = V at *
  obtain ⟨N, hN⟩ : ∃ N, N = w.heap.size := ⟨_, rfl⟩
  rw [← hN] at HR ⊢
  have HN := Lib.hid hN
  clear hN
  go_wp2_with fail
  go_fit (ready_any HA.out)
  rintro e w' ⟨rfl, rfl⟩
  go_wp2_with fail
  go_fit (ready_any HBb.out)
  rintro e w' ⟨rfl, rfl⟩
  have a0 := HA.out.a
  have a1 := HA.out.b
  have b0 := HBb.out.a
  have b1 := HBb.out.b
  go_upto_region 3 with fail
  go_quiet (fail)
  have hbX : Below V.heap.size V (V.drewN nq) := below_drewN (Below.refl _ _) _
  have HA1 := Lib.hid (HA.out.later hbX)
  have HB1 := Lib.hid (HBb.out.later hbX)
  have HX1 : Hid (Below w.heap.size w (V.drewN nq)) := Lib.hid (hA.out.trans (hbX.mono hA.out.size))
  have HR1 : Hid ((V.drewN nq).cell? ⟨N, 0, none⟩ = some (.int .i64 0) ∧ (V.drewN nq).cell? ⟨N, 1, none⟩ = some (.int .i64 0) ∧ ∀ j, (V.drewN nq).frozen? ⟨N, j, none⟩ = false) := Lib.hid HR.out
  clear a0 a1 b0 b1 HA HBb HR hbX
  generalize V.drewN nq = X at *
  obtain ⟨qa, hqa, hpa⟩ := HA1.out.q
  obtain ⟨qb, hqb, hpb⟩ := HB1.out.q
  have hbW := below_alloc X (.cells #[.int .i64 1, .int .i64 0, .slice none 0 0] 102)
  have HSz : Hid (Sz (X.alloc (.cells #[.int .i64 1, .int .i64 0, .slice none 0 0] 102)).drew X.heap.size X.heap.size 1 0 (.slice none 0 0) []) := by
    refine Lib.hid ⟨by go_simp, by go_simp, by go_simp, by intro j; go_simp, World.ownsRow_nil _ _ _ _, Nat.le_refl _, by simp [Value.ownBlock]⟩
  have HPa : Hid (PtIn s (X.alloc (.cells #[.int .i64 1, .int .i64 0, .slice none 0 0] 102)).drew (fun k => k < X.heap.size) 4 qa S) := Lib.hid (hpa.keep fun k _ hk => ⟨hk, (below_drew hbW).block k hk⟩)
  have HPb : Hid (PtIn s (X.alloc (.cells #[.int .i64 1, .int .i64 0, .slice none 0 0] 102)).drew (fun k => k < X.heap.size) 4 qb T) := Lib.hid (hpb.keep fun k _ hk => ⟨hk, (below_drew hbW).block k hk⟩)
  have ka : (X.alloc (.cells #[.int .i64 1, .int .i64 0, .slice none 0 0] 102)).drew.cell? ⟨ta, 2, none⟩ = some (.pointer qa) := cell_later (below_drew hbW) hqa
  have kb : (X.alloc (.cells #[.int .i64 1, .int .i64 0, .slice none 0 0] 102)).drew.cell? ⟨tb, 2, none⟩ = some (.pointer qb) := cell_later (below_drew hbW) hqb
  have HWs : Hid (X.heap.size ≤ (X.alloc (.cells #[.int .i64 1, .int .i64 0, .slice none 0 0] 102)).drew.heap.size) := Lib.hid (below_drew hbW).size
  have HbW := Lib.hid (below_drew hbW)
  clear hqa hqb hpa hpb hbW
  go_upto_region 6 with fail
  generalize X.alloc (.cells #[.int .i64 1, .int .i64 0, .slice none 0 0] 102) = W at *
  obtain ⟨M, hM⟩ : ∃ M, M = X.heap.size := ⟨_, rfl⟩
  rw [← hM] at HSz HPa HPb HWs HbW ⊢
  have HMX := Lib.hid hM
  clear hM
  refine wp_region_still_tail 8 (by kernel_rfl) (by kernel_rfl) ?_
  simp only [List.take_succ_cons, List.take_zero, List.drop_succ_cons, List.drop_zero]
  change wpStill _ _ W.drew _ _ _
  repeat still_step
  refine wpStill_nil ?_
  change wpList _ _ _ _ _ W.drew
  have HC := Lib.hid (cm2_any (s := s) (L := 1000) (by decide) 4 (by decide) W.drew M M 1 0 (.slice none 0 0) [] qa qb S T 0 (by decide) HSz.out HWs.out HPa.out HPb.out HLn.out (by decide) (by decide) (by decide))
  clear ka kb
  go_wp2_with fail
  go_fit HC.out
  rintro e w5 ⟨kv', rfl, hs5, hb5⟩
  rw [List.nil_append, Nat.zero_add] at hs5
  have HS5 := Lib.hid hs5
  have HB5 : Hid (Below w.heap.size w w5) := by
    have h1 := HX1.out.trans (HbW.out.mono (by rw [HMX.out]; exact HX1.out.size))
    exact Lib.hid (h1.trans (hb5.mono (by rw [HMX.out]; exact HX1.out.size)))
  have HR5 : Hid (w5.cell? ⟨N, 0, none⟩ = some (.int .i64 0) ∧ w5.cell? ⟨N, 1, none⟩ = some (.int .i64 0) ∧ ∀ j, w5.frozen? ⟨N, j, none⟩ = false) := by
    obtain ⟨h0, h1, h2⟩ := HR1.out
    have hl : N < X.heap.size := World.block_lt_of_cell? X ⟨N, 0, none⟩ h0
    have hb : Below X.heap.size X w5 := by rw [← HMX.out]; exact HbW.out.trans hb5
    exact Lib.hid ⟨cell_later hb h0, cell_later hb h1, fun j => (hb.frozen (p := ⟨N, j, none⟩) hl).trans (h2 j)⟩
  have HNl : Hid (N < M) := Lib.hid (by rw [HMX.out]; exact World.block_lt_of_cell? X ⟨N, 0, none⟩ HR1.out.1)
  have HKl : Hid ((s.vk 4 S T).length ≤ 1000000000) := by
    have h1 := s.vk_le 1000 4 S T HLn.out
    have e : 16 ^ 4 * 1000 = 65536000 := by decide
    exact Lib.hid (by omega)
  have HWM : Hid (w.heap.size ≤ M) := Lib.hid (by rw [HMX.out]; exact HX1.out.size)
  clear hs5 hb5 HSz HPa HPb HWs HbW HC HR1 HA1 HB1
  obtain ⟨ks, hks⟩ : ∃ ks, ks = s.vk 4 S T := ⟨_, rfl⟩
  obtain ⟨dg, hdg⟩ : ∃ dg, dg = 1 + s.vd 4 S T := ⟨_, rfl⟩
  obtain ⟨pr, hpr⟩ : ∃ pr, pr = s.vp 4 S T := ⟨_, rfl⟩
  rw [← hks, ← hdg, ← hpr] at HS5
  rw [← hks] at HKl
  have HE := Lib.hid (show ks = s.vk 4 S T ∧ dg = 1 + s.vd 4 S T ∧ pr = s.vp 4 S T from ⟨hks, hdg, hpr⟩)
  clear hks hdg hpr
  have s2 := HS5.out.k
  have HSo := Lib.hid (Sort_any HS5.out.own HKl.out)
  obtain ⟨va, vc, hkv, _⟩ := row_slice HS5.out.own
  subst hkv
  clear s2
  have s2 := HS5.out.k
  go_wp2_with fail
  go_fit HSo.out
  rintro e w6 ⟨rfl, hown6, hg6⟩
  have hsb : w6.heap[M]? = w5.heap[M]? := hg6.block M HS5.out.lt (fun e => HS5.out.ne e.symm)
  have hNb : w6.heap[N]? = w5.heap[N]? := hg6.block N (Nat.lt_trans HNl.out HS5.out.lt) (fun e => by have := (HS5.out.own.lt N e.symm).1; have := HNl.out; omega)
  have t0 : w6.cell? ⟨M, 0, none⟩ = some (.int .i64 dg) := (World.cell?_of_block (a := ⟨M, 0, none⟩) hsb).trans HS5.out.d
  have t1 : w6.cell? ⟨M, 1, none⟩ = some (.int .i64 pr) := (World.cell?_of_block (a := ⟨M, 1, none⟩) hsb).trans HS5.out.p
  have t2 : w6.cell? ⟨M, 2, none⟩ = some (.slice va ks.length vc) := (World.cell?_of_block (a := ⟨M, 2, none⟩) hsb).trans HS5.out.k
  have n0 : w6.cell? ⟨N, 0, none⟩ = some (.int .i64 0) := (World.cell?_of_block (a := ⟨N, 0, none⟩) hNb).trans HR5.out.1
  have n1 : w6.cell? ⟨N, 1, none⟩ = some (.int .i64 0) := (World.cell?_of_block (a := ⟨N, 1, none⟩) hNb).trans HR5.out.2.1
  have z0 : w6.frozen? ⟨N, 0, none⟩ = false := (World.frozen?_of_block (a := ⟨N, 0, none⟩) hNb).trans (HR5.out.2.2 0)
  have z1 : w6.frozen? ⟨N, 1, none⟩ = false := (World.frozen?_of_block (a := ⟨N, 1, none⟩) hNb).trans (HR5.out.2.2 1)
  have HB6 : Hid (Below w.heap.size w w6) := Lib.hid (HB5.out.trans ⟨hg6.os, hg6.tape, hg6.output, hg6.size, fun k hk => hg6.block k (Nat.lt_of_lt_of_le hk HB5.out.size) (fun e => by have := (HS5.out.own.lt k e.symm).1; have := HWM.out; omega)⟩)
  have HO6 := Lib.hid hown6
  have HNe : Hid ((Value.slice va ks.length vc).ownBlock ≠ some N) := Lib.hid fun e => by have := (HS5.out.own.lt N e).1; have := HNl.out; omega
  clear hown6 hg6 hsb hNb s2 HSo HR5
  go_upto_region 8 with fail
  go_region
  all_goals
    have HBe : Hid (Below w.heap.size w (((w6.setCell ⟨N, 0, none⟩ (.int .i64 dg)).setCell ⟨N, 1, none⟩ (.int .i64 pr)).drew)) := Lib.hid (below_drew ((HB6.out.setCell (by rw [HN.out]; exact Nat.le_refl _) _).setCell (by rw [HN.out]; exact Nat.le_refl _) _))
    have e0 : (((w6.setCell ⟨N, 0, none⟩ (.int .i64 dg)).setCell ⟨N, 1, none⟩ (.int .i64 pr)).drew).cell? ⟨N, 0, none⟩ = some (.int .i64 dg) := (World.cell?_setCell_other _ _ _ _ (by simp)).trans (World.cell?_setCell_same _ _ _ n0)
    have e1 : (((w6.setCell ⟨N, 0, none⟩ (.int .i64 dg)).setCell ⟨N, 1, none⟩ (.int .i64 pr)).drew).cell? ⟨N, 1, none⟩ = some (.int .i64 pr) := World.cell?_setCell_same _ _ _ ((World.cell?_setCell_other _ _ _ _ (by simp)).trans n1)
    have HOe : Hid ((((w6.setCell ⟨N, 0, none⟩ (.int .i64 dg)).setCell ⟨N, 1, none⟩ (.int .i64 pr)).drew).ownsRow M 9 1 (.slice va ks.length vc) ks.length (strL.all (sortK ks))) := Lib.hid (row_set (row_set HO6.out HNe.out) HNe.out)
    clear t0 t1 t2 n0 n1 z0 z1
    generalize ((w6.setCell ⟨N, 0, none⟩ (.int .i64 dg)).setCell ⟨N, 1, none⟩ (.int .i64 pr)).drew = w7 at *
    go_wp2_with fail
    refine bodyPost_ret (v := .tuple #[.slice va ks.length vc, .agg #[.int .i64 dg, .int .i64 pr], .int .i64 0]) (by simp [results, Try.results26, go_sem, e0, e1]) rfl ?_
    refine ⟨.slice va ks.length vc, by rw [← HE.out.2.1, ← HE.out.2.2], ?_, HBe.out⟩
    rw [← HE.out.1, sortK_len]
    exact ⟨HOe.out.1, HOe.out.2.imp id fun ⟨g, cap, cur, hv, hg, rest⟩ => ⟨g, cap, cur, hv, Nat.le_trans HWM.out hg, rest⟩⟩
end Go.Proofs.Ytcbgnmolfdhnfaa
