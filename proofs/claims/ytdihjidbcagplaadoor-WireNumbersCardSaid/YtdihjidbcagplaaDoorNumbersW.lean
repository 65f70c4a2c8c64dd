/-
  The walk of WireNumbers.
-/
import Derived.Test.YtdihjidbcagplaaDoorAw
import Derived.Test.YtdihjidbcagplaaDoorR3
namespace Go.Proofs.YtdihjidbcagplaaDoor
open Go.RowKit

set_option maxHeartbeats 800000 in
theorem Numbers_far (p q : Option Addr) (n c m d : Nat) (w : World) (hT : TabIn w) (hn : 65536 < n ∨ (n ≤ 65536 ∧ 1000 < m)) :
    Calls Tryd.prog 3 #[.slice p n c, .slice q m d] w (Yes w) := by
  have HT := Lib.hid hT
  clear hT
  rcases hn with hn | ⟨hn, hn2⟩
  all_goals
    go_enter Tryd.func3, Tryd.ntmps3
    go_wp2_with fail
    go_fit (awake_any w HT.out)
    rintro e w1 ⟨rfl, hb1⟩
    go_wp2_with fail
    go_ret
    exact ⟨rfl, hb1⟩

theorem ints_later {w w' : World} {p : Option Addr} {n : Nat} {xs : List Int} (h : IntsIn w p n xs) (hb : Below w.heap.size w w') : IntsIn w' p n xs := by
  intro hn
  obtain ⟨b, o, rfl, hc⟩ := h hn
  exact ⟨b, o, rfl, fun i hi => (hb.cell (p := ⟨b, o + i, none⟩) (World.block_lt_of_cell? w _ (hc i hi))).trans (hc i hi)⟩

set_option maxHeartbeats 1600000 in
theorem Numbers_none (p q : Option Addr) (n c d : Nat) (xs : List Int) (w : World) (hT : TabIn w) (hx : xs.length = n) (hb : Lib.BytesIn w p n xs) (hp : p = none → n = 0 ∧ c = 0) (hn : n ≤ 65536) :
    Calls Tryd.prog 3 #[.slice p n c, .slice q 0 d] w (Yes w) := by
  have HT := Lib.hid hT
  have Hx := Lib.hid hx
  have Hb := Lib.hid hb
  clear hT hx hb
  go_enter Tryd.func3, Tryd.ntmps3
  go_wp2_with fail
  go_fit (Clone_any p n c xs w Hx.out Hb.out hp (by omega))
  rintro e w1 ⟨q1, m1, d1, rfl, hin1, hm1, hmd1, hq1, hb1⟩
  have Hm1 := Lib.hid hm1
  have Hin1 := Lib.hid hin1
  have Hb1 := Lib.hid hb1
  clear hm1 hin1 hb1
  go_wp2_with fail
  refine wp_loop_rounds 1 ?_
  rw [rounds_succ]
  go_wp2_with fail
  go_fit (Clone_any p n c xs w1 Hx.out (later Hb.out Hb1.out) hp (by omega))
  rintro e w2 ⟨q2, m2, d2, rfl, hin2, hm2, hmd2, hq2, hb2⟩
  have Hb2 := Lib.hid (Hb1.out.trans (hb2.mono Hb1.out.size))
  have hm2n : m2 ≤ 65536 := by rw [← hm2, Hx.out]; exact hn
  have Hm2 := Lib.hid hm2
  have Hin2 := Lib.hid hin2
  have Hin1' := Lib.hid (later Hin1.out hb2)
  clear hm2 hin2 hb2
  go_wp2_with fail
  go_fit (Numbers_any q2 q m2 d2 0 d xs [] w2 Hm2.out Hin2.out hq2 rfl (fun h => absurd h (by omega)) (by simp) (by omega))
  rintro e w3 ⟨g3, n3, c3, rfl, hown3, hb3⟩
  rw [show xs ++ nums [] = xs from List.append_nil _] at hown3
  have Hb3 := Lib.hid (Hb2.out.trans (hb3.mono Hb2.out.size))
  have Heq := Lib.hid (Equal_same (some ⟨g3, 0, none⟩) q1 n3 c3 m1 d1 xs w3 (owns_len hown3) Hm1.out (owns_in hown3) (later Hin1'.out hb3))
  have Heq2 := Lib.hid (Equal_same q2 p m2 d2 n c xs w3 Hm2.out Hx.out (later Hin2.out hb3) (later Hb.out Hb3.out))
  clear hown3 hb3
  go_wp2_with fail
  go_fit Heq.out
  rintro e w' ⟨rfl, rfl⟩
  go_wp2_with fail
  go_fit Heq2.out
  rintro e w' ⟨rfl, rfl⟩
  go_wp2_with fail
  go_fit (awake_any w3 (HT.out.later Hb3.out))
  rintro e w4 ⟨rfl, hb4⟩
  go_wp2_with fail
  go_ret
  exact ⟨rfl, Hb3.out.trans (hb4.mono Hb3.out.size)⟩

set_option maxRecDepth 100000 in
set_option maxHeartbeats 3200000 in
theorem Numbers_some (p q : Option Addr) (n c m d : Nat) (xs l : List Int) (w : World) (hT : TabIn w) (hx : xs.length = n) (hb : Lib.BytesIn w p n xs) (hp : p = none → n = 0 ∧ c = 0) (hn : n ≤ 65536) (hl : l.length = m) (hq : IntsIn w q m l) (hr : ∀ z ∈ l, z ≤ 9223372036854775807) (hm0 : 0 < m) (hm : m ≤ 1000) :
    Calls Tryd.prog 3 #[.slice p n c, .slice q m d] w (Yes w) := by
  have Hq := Lib.hid hq
  obtain ⟨lb, lo, rfl, hlc⟩ := hq hm0
  have HT := Lib.hid hT
  have Hx := Lib.hid hx
  have Hb := Lib.hid hb
  have Hl := Lib.hid hl
  have Hr := Lib.hid hr
  have Hlc := Lib.hid hlc
  clear hT hx hb hl hr hlc
  go_enter Tryd.func3, Tryd.ntmps3
  go_wp2_with fail
  go_fit (Clone_any p n c xs w Hx.out Hb.out hp (by omega))
  rintro e w1 ⟨q1, m1, d1, rfl, hin1, hm1, hmd1, hq1, hb1⟩
  go_wp2_with fail
  go_loopw [5, 26] (fun v i wr => ∃ (k m' d' : Nat) (r : Option Addr), k ≤ m ∧ i = .int .i64 k ∧ v = .slice r m' d' ∧ Lib.BytesIn wr r m' (xs ++ nums (l.take k)) ∧ Hid ((xs ++ nums (l.take k)).length = m') ∧ (r = none → m' = 0 ∧ d' = 0) ∧ Below w.heap.size w wr)
    (fun _ i _ => (m - (intOf i).toNat))
  case atStart => exact ⟨0, m1, d1, q1, Nat.zero_le _, rfl, rfl, by simpa [nums] using hin1, by show _ = _; simpa [nums] using hm1, hq1, hb1⟩
  case round =>
    obtain ⟨k, m', d', r, hk, rfl, rfl, hin, Hm', hr', hbel⟩ := hrel
    have hm'l : m' ≤ n + 9 * k := by
      rw [← Hm'.out, List.length_append, Hx.out]
      have := nums_le (l.take k) (fun z h => Hr.out z (List.mem_of_mem_take h))
      have := List.length_take_le k l
      omega
    by_cases hlt : k < m
    · have hcell : wr.cell? ⟨lb, lo + k, none⟩ = some (.int .i64 (l.getD k 0)) := (hbel.cell (World.block_lt_of_cell? w _ (Hlc.out k hlt))).trans (Hlc.out k hlt)
      have hz : l.getD k 0 ≤ 9223372036854775807 := Hr.out _ (by rw [List.getD_eq_getElem?_getD, List.getElem?_eq_getElem (by rw [Hl.out]; exact hlt)]; simp)
      have Hs := Lib.hid (nums_snoc l k (by rw [Hl.out]; exact hlt))
      have Hc2 := Lib.hid (RNumber_any r m' d' _ (l.getD k 0) wr Hm'.out hin hr' hz (by omega))
      generalize l.getD k 0 = z at *
      clear hin
      go_wp2_with fail
      go_fit Hc2.out
      rintro e w2 ⟨g2, n2, c2, rfl, hown2, hb2⟩
      go_wp2_with fail
      go_roundw
      case rel => exact ⟨k + 1, n2, c2, some ⟨g2, 0, none⟩, by omega, by go_num, rfl, by rw [Hs.out, ← List.append_assoc]; exact owns_in hown2, by show _ = _; rw [Hs.out, ← List.append_assoc]; exact owns_len hown2, (by intro h; cases h), hbel.trans (hb2.mono hbel.size)⟩
      case measure => simp [intOf]; omega
    · have hkm : Hid (l.take k = l) := List.take_of_length_le (by rw [Hl.out]; omega)
      rw [hkm.out] at hin Hm'
      have Hin := Lib.hid hin
      have Hbel := Lib.hid hbel
      clear hin hbel
      have hcell0 : ∀ W, Below w.heap.size w W → W.cell? ⟨lb, lo, none⟩ = some (.int .i64 (l.getD 0 0)) := fun W h => (h.cell (World.block_lt_of_cell? w _ (Hlc.out 0 hm0))).trans (Hlc.out 0 hm0)
      have Hcell0 := Lib.hid hcell0
      have hz : l.getD 0 0 ≤ 9223372036854775807 := Hr.out _ (by rw [List.getD_eq_getElem?_getD, List.getElem?_eq_getElem (by rw [Hl.out]; exact hm0)]; simp)
      clear hcell0
      generalize l.getD 0 0 = z at *
      go_wp2_with fail
      go_fit (Clone_any p n c xs wr Hx.out (later Hb.out Hbel.out) hp (by omega))
      rintro e w2 ⟨q2, m2, d2, rfl, hin2, hm2, hmd2, hq2, hb2⟩
      have Hb2 := Lib.hid (Hbel.out.trans (hb2.mono Hbel.out.size))
      have hm2n : m2 ≤ 65536 := by rw [← hm2, Hx.out]; exact hn
      have Hm2 := Lib.hid hm2
      have Hin2 := Lib.hid hin2
      have Hin1' := Lib.hid (later Hin.out hb2)
      clear hm2 hin2 hb2
      go_wp2_with fail
      go_fit (Numbers_any q2 (some ⟨lb, lo, none⟩) m2 d2 m d xs l w2 Hm2.out Hin2.out hq2 Hl.out (ints_later Hq.out Hb2.out) Hr.out (by omega))
      rintro e w3 ⟨g3, n3, c3, rfl, hown3, hb3⟩
      have Hb3 := Lib.hid (Hb2.out.trans (hb3.mono Hb2.out.size))
      have Heq := Lib.hid (Equal_same (some ⟨g3, 0, none⟩) r n3 c3 m' d' _ w3 (owns_len hown3) Hm'.out (owns_in hown3) (later Hin1'.out hb3))
      have Hin3 := Lib.hid (later Hin2.out hb3)
      have hcl3 := Hcell0.out w3 Hb3.out
      clear hown3 hb3
      go_wp2_with fail
      go_fit Heq.out
      rintro e w' ⟨rfl, rfl⟩
      go_wp2_with fail
      go_fit (Number_any q2 m2 d2 xs z w3 Hm2.out Hin3.out hq2 hz (by omega))
      rintro e w4 ⟨g4, n4, c4, rfl, hown4, hb4⟩
      have Hb34 := Lib.hid hb4
      have Hb4 := Lib.hid (Hb3.out.trans (hb4.mono Hb3.out.size))
      have hcl4 := Hcell0.out w4 Hb4.out
      have hn4 : n4 ≤ 65545 := by
        rw [← owns_len hown4, List.length_append, Hx.out]
        have := num_le z.toNat (by omega)
        omega
      have Hown4 := Lib.hid hown4
      clear hb4 hown4
      go_wp2_with fail
      go_fit (RNumber_any p n c xs z w4 Hx.out (later Hb.out Hb4.out) hp hz (by omega))
      rintro e w5 ⟨g5, n5, c5, rfl, hown5, hb5⟩
      have Heq2 := Lib.hid (Equal_same (some ⟨g4, 0, none⟩) (some ⟨g5, 0, none⟩) n4 c4 n5 c5 _ w5 (owns_len Hown4.out) (owns_len hown5) (later (owns_in Hown4.out) hb5) (owns_in hown5))
      have Hown5 : Hid (w5.ownsRow w3.heap.size 5 1 (.slice (some ⟨g4, 0, none⟩) n4 c4) n4 ((xs ++ num z.toNat).map (Value.int .u8))) := by
        refine Hown4.out.kept (row := none) ⟨hb5.os, hb5.tape, hb5.output, hb5.size, fun k hk _ => hb5.block k hk⟩ (.inr (by simp [Value.ownBlock]))
      have Hb35 := Lib.hid (Hb34.out.trans (hb5.mono Hb34.out.size))
      clear hown5 hb5
      go_wp2_with fail
      go_fit Heq2.out
      rintro e w' ⟨rfl, rfl⟩
      go_wp2_with fail
      go_loopw [12, 62, 68, 69] (fun _ i _ _ wr => ∃ (k : Nat) (zs : List Int), k ≤ n4 ∧ i = .int .i64 k ∧ wr.ownsRow w3.heap.size 5 1 (.slice (some ⟨g4, 0, none⟩) n4 c4) n4 (zs.map (Value.int .u8)) ∧ Below w3.heap.size w3 wr)
        (fun _ i _ _ _ => (n4 - (intOf i).toNat))
      case atStart => exact ⟨0, _, Nat.zero_le _, rfl, Hown5.out, Hb35.out⟩
      case round =>
        obtain ⟨k, zs, hk4, rfl, hown, hbel⟩ := hrel
        by_cases hlt4 : k < n4
        · have hzl : zs.length = n4 := owns_len hown
          have hcell : wr.cell? ⟨g4, k, none⟩ = some (.int .u8 (zs.getD k 0)) := by
            rw [hown.cellAt k (by omega), List.getElem?_map, List.getElem?_eq_getElem (by omega), List.getD_eq_getElem?_getD, List.getElem?_eq_getElem (by omega)]; rfl
          have hfz := hown.frozenAt k
          have hat := owns_at hown
          generalize zs.getD k 0 = y at *
          obtain ⟨Y, hY⟩ : ∃ Y : Int, Y = bits .xor .u8 y 255 := ⟨_, rfl⟩
          have Hst := Lib.hid (hown.stored k (.int .u8 Y))
          have hYe : bits .xor .u8 y 255 = Y := hY.symm
          clear hY hown hzl
          go_wp2_with fail
          go_roundw
          case rel => exact ⟨k + 1, zs.set k Y, by omega, by go_num, by have h := Hst.out.1; rw [← List.map_set] at h; exact h, made_grown hbel Hst.out.2 hbel.size hat.1⟩
          case measure => simp [intOf]; omega
        · have Hb6 := Lib.hid (Hb3.out.trans (hbel.mono Hb3.out.size))
          have Heq3 := Lib.hid (Equal_same q2 p m2 d2 n c xs wr Hm2.out Hx.out (later Hin3.out hbel) (later Hb.out Hb6.out))
          clear hown hbel
          go_wp2_with fail
          go_fit Heq3.out
          rintro e w' ⟨rfl, rfl⟩
          go_wp2_with fail
          go_fit (awake_any _ (HT.out.later Hb6.out))
          rintro e w7 ⟨rfl, hb7⟩
          go_wp2_with fail
          go_ret
          exact ⟨rfl, Hb6.out.trans (hb7.mono Hb6.out.size)⟩

end Go.Proofs.YtdihjidbcagplaaDoor
