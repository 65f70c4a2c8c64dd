/-
  The document's way and May walked.
-/
import Derived.Test.YticcmjiekopnbaaW3
import Derived.Deep.RegionHeld3
namespace Go.Proofs.Yticcmjiekopnbaa
set_option linter.unusedVariables false
set_option linter.unusedSimpArgs false
open Go.RowKit

set_option maxRecDepth 100000 in
set_option maxHeartbeats 1600000 in
theorem way_any {w : World} {u v : Value} {vs ls : List Int} (h : RoCs w u v vs ls) (n : Int) (l1 : vs.length ≤ 100000) (l2 : ls.length ≤ 100000) : Calls Try.prog 44 #[.agg #[u, v], .int .i64 n] w (IntP (2 * (vs.count n : Int) + (ls.count n : Int)) w) := by
  have hb0 := lay_alloc w (.cells #[u, v] 24)
  have hh := Go.heap_alloc_new w (.cells #[u, v] 24)
  have h' := h.later hb0
  obtain ⟨a1, c1, rfl, _, _⟩ := h.1.slice
  obtain ⟨a2, c2, rfl, _, _⟩ := h.2.slice
  clear h
  have hc1 : vs.count n ≤ 100000 := Nat.le_trans List.count_le_length l1
  have hc2 : ls.count n ≤ 100000 := Nat.le_trans List.count_le_length l2
  go_enter Try.func44, Try.ntmps44
  go_wp2_with fail
  generalize World.alloc _ _ = w1 at *
  have c0 : w1.cell? ⟨w.heap.size, 0, none⟩ = some (.slice a1 vs.length c1) := by rw [cell_of_row w1 _ _ _ _ _ hh]; rfl
  have c1' : w1.cell? ⟨w.heap.size, 1, none⟩ = some (.slice a2 ls.length c2) := by rw [cell_of_row w1 _ _ _ _ _ hh]; rfl
  clear hh
  have HA := Lib.hid (fun N => times_q h'.1 n N)
  have HB := Lib.hid (fun N => times_q h'.2 n N)
  have HB0 := Lib.hid hb0
  clear h' hb0
  generalize vs.count n = p at *
  generalize ls.count n = q at *
  have e1 : IntKind.i64.wrap (2 * (p : Int)) = 2 * (p : Int) := IntWalk.i64_in _ (by omega)
  have e2 : IntKind.i64.wrap (2 * (p : Int) + (q : Int)) = 2 * (p : Int) + (q : Int) := IntWalk.i64_in _ (by omega)
  go_quiet ((go_at_call 42; first | (with_reducible exact Calls.quiet_of_same (HA.out _)) | (with_reducible exact Calls.quiet_of_same (HB.out _))))
  go_wp2_with fail
  go_ret
  exact ⟨rfl, below_drewN HB0.out _⟩

structure May2 (w wr : World) (u v x y : Value) (vs ls us ms : List Int) : Prop where
  d0 : wr.cell? ⟨w.heap.size, 0, none⟩ = some u
  d1 : wr.cell? ⟨w.heap.size, 1, none⟩ = some v
  d2 : wr.cell? ⟨w.heap.size + 1, 0, none⟩ = some x
  d3 : wr.cell? ⟨w.heap.size + 1, 1, none⟩ = some y
  r1 : RoCs wr u v vs ls
  r2 : RoCs wr x y us ms
  b : Below w.heap.size w wr
theorem May2.later {w wr w' : World} {u v x y : Value} {vs ls us ms : List Int} (h : May2 w wr u v x y vs ls us ms) (hb : Below wr.heap.size wr w') : May2 w w' u v x y vs ls us ms :=
  ⟨lay_later hb h.d0, lay_later hb h.d1, lay_later hb h.d2, lay_later hb h.d3, h.r1.later hb, h.r2.later hb, h.b.trans (hb.mono h.b.size)⟩
theorem May2.drewN {w wr : World} {u v x y : Value} {vs ls us ms : List Int} (h : May2 w wr u v x y vs ls us ms) (N : Nat) : May2 w (wr.drewN N) u v x y vs ls us ms :=
  ⟨h.d0, h.d1, h.d2, h.d3, h.r1.drewN N, h.r2.drewN N, below_drewN h.b N⟩
theorem may2_new {w : World} {u v x y : Value} {vs ls us ms : List Int} (h : RoCs w u v vs ls) (h' : RoCs w x y us ms) : May2 w ((w.alloc (.cells #[u, v] 24)).alloc (.cells #[x, y] 24)) u v x y vs ls us ms := by
  have hb0 := lay_alloc w (.cells #[u, v] 24)
  have hb1 := lay_alloc (w.alloc (.cells #[u, v] 24)) (.cells #[x, y] 24)
  have hk := Go.heap_alloc_new w (.cells #[u, v] 24)
  have hk1 := Go.heap_alloc_new (w.alloc (.cells #[u, v] 24)) (.cells #[x, y] 24)
  have hs0 : (w.alloc (.cells #[u, v] 24)).heap.size = w.heap.size + 1 := by simp
  rw [hs0] at hk1
  have hk0 := (hb1.block w.heap.size (by omega)).trans hk
  exact ⟨by rw [cell_of_row _ _ _ _ _ _ hk0]; rfl, by rw [cell_of_row _ _ _ _ _ _ hk0]; rfl, by rw [cell_of_row _ _ _ _ _ _ hk1]; rfl, by rw [cell_of_row _ _ _ _ _ _ hk1]; rfl, (h.later hb0).later hb1, (h'.later hb0).later hb1, hb0.trans (hb1.mono (by omega))⟩

set_option maxRecDepth 100000 in
set_option maxHeartbeats 6400000 in
theorem RMay_any {w : World} {u v x y : Value} {vs ls us ms : List Int} (h : RoCs w u v vs ls) (h' : RoCs w x y us ms) (l1 : vs.length ≤ 100000) (l2 : ls.length ≤ 100000) (l3 : us.length ≤ 100000) (l4 : ms.length ≤ 100000) : Calls Try.prog 18 #[.agg #[u, v], .agg #[x, y]] w (IntP (mayE vs ls us ms) w) := by
  have H0 := Lib.hid (may2_new h h')
  obtain ⟨a1, c1, rfl, _, _⟩ := h.1.slice
  obtain ⟨a2, c2, rfl, _, _⟩ := h.2.slice
  obtain ⟨a3, c3, rfl, _, _⟩ := h'.1.slice
  obtain ⟨a4, c4, rfl, _, _⟩ := h'.2.slice
  clear h h'
  have HM : Hid (mayE vs ls us ms = if okR vs ls = true ∧ okR us ms = true then (if jmp (wayO vs ls) (wayO us ms) 5 = true ∨ chg (wayO vs ls) (wayO us ms) 5 ≠ 1 then 111 else 0) else 110) := by show _ = _; rfl
  have HL := Lib.hid (And.intro (And.intro l1 l2) (And.intro l3 l4))
  clear l1 l2 l3 l4
  go_enter Try.func18, Try.ntmps18
  go_wp2_with fail
  generalize World.alloc _ _ = W0 at *
  go_fit (RCheck_any H0.out.r1 HL.out.1.1 HL.out.1.2)
  rintro e w1 ⟨rfl, hb1⟩
  have H1 := Lib.hid (H0.out.later hb1)
  clear H0 hb1
  have e2 := H1.out.d2; have e3 := H1.out.d3
  cases ho : okR vs ls with
  | false =>
    have HM : Hid (mayE vs ls us ms = 110) := by show _ = _; rw [HM.out, ho]; simp
    have hc : ckE vs ls = 110 := by unfold ckE; rw [ho]; rfl
    rw [hc]
    clear ho hc
    go_wp2_with fail
    go_ret
    exact ⟨by rw [HM.out]; first | done | rfl, H1.out.b⟩
  | true =>
    have hc : ckE vs ls = 0 := by unfold ckE; rw [ho]; rfl
    rw [hc]
    have HO := Lib.hid ho
    clear hc ho
    go_wp2_with fail
    go_fit (RCheck_any H1.out.r2 HL.out.2.1 HL.out.2.2)
    rintro e w2 ⟨rfl, hb2⟩
    have H2 := Lib.hid (H1.out.later hb2)
    clear H1 hb2 e2 e3
    cases hn : okR us ms with
    | false =>
      have HM : Hid (mayE vs ls us ms = 110) := by show _ = _; rw [HM.out, hn]; simp
      have hc : ckE us ms = 110 := by unfold ckE; rw [hn]; rfl
      rw [hc]
      clear hn hc
      go_wp2_with fail
      go_ret
      exact ⟨by rw [HM.out]; first | done | rfl, H2.out.b⟩
    | true =>
      have hc : ckE us ms = 0 := by unfold ckE; rw [hn]; rfl
      rw [hc]
      have HN := Lib.hid hn
      have HM : Hid (mayE vs ls us ms = if jmp (wayO vs ls) (wayO us ms) 5 = true ∨ chg (wayO vs ls) (wayO us ms) 5 ≠ 1 then 111 else 0) := by show _ = _; rw [HM.out, HO.out, hn]; simp
      clear hn hc
      go_wp2_with fail
      go_loopw [5, 15] (fun a i wr => ∃ k : Nat, i = .int .i64 k ∧ k ≤ 5 ∧ a = .int .i64 ((chg (wayO vs ls) (wayO us ms) k : Nat) : Int) ∧ jmp (wayO vs ls) (wayO us ms) k = false ∧ May2 w wr (.slice a1 vs.length c1) (.slice a2 ls.length c2) (.slice a3 us.length c3) (.slice a4 ms.length c4) vs ls us ms) (fun _ i _ => 5 - (intOf i).toNat)
      case atStart => exact ⟨0, rfl, by omega, rfl, rfl, H2.out⟩
      case round =>
        obtain ⟨k, rfl, hk, rfl, hj, hm⟩ := hrel
        have hcl := chg_le (wayO vs ls) (wayO us ms) k
        by_cases hlt : k < 5
        · have HC : Hid (chg (wayO vs ls) (wayO us ms) (k + 1) = chg (wayO vs ls) (wayO us ms) k + if wayO vs ls (k : Nat) = wayO us ms (k : Nat) then 0 else 1) := by show _ = _; rfl
          have HJ := Lib.hid (jmp_succ (wayO vs ls) (wayO us ms) k)
          have HJ0 := Lib.hid hj
          have HWA : ∀ W, RoCs W (.slice a1 vs.length c1) (.slice a2 ls.length c2) vs ls → Calls Try.prog 44 #[.agg #[.slice a1 vs.length c1, .slice a2 ls.length c2], .int .i64 (k : Nat)] W (IntP (wayO vs ls (k : Nat)) W) := fun W hW => by
            rw [← way_ref HO.out]; exact way_any hW _ HL.out.1.1 HL.out.1.2
          have HWC : ∀ W, RoCs W (.slice a3 us.length c3) (.slice a4 ms.length c4) us ms → Calls Try.prog 44 #[.agg #[.slice a3 us.length c3, .slice a4 ms.length c4], .int .i64 (k : Nat)] W (IntP (wayO us ms (k : Nat)) W) := fun W hW => by
            rw [← way_ref HN.out]; exact way_any hW _ HL.out.2.1 HL.out.2.2
          have HWA := Lib.hid HWA
          have HWC := Lib.hid HWC
          have hp : 0 ≤ wayO vs ls (k : Nat) ∧ wayO vs ls (k : Nat) ≤ 2 := by unfold wayO; split <;> (try split) <;> omega
          have hq : 0 ≤ wayO us ms (k : Nat) ∧ wayO us ms (k : Nat) ≤ 2 := by unfold wayO; split <;> (try split) <;> omega
          clear hj
          generalize wayO vs ls (k : Nat) = p at *
          generalize wayO us ms (k : Nat) = q at *
          have g0 := hm.d0; have g1 := hm.d1; have g2 := hm.d2; have g3 := hm.d3
          have HM1 := Lib.hid (hm.drewN 1)
          have HA1 := Lib.hid (HWA.out wr.drew HM1.out.r1)
          have HC1 := Lib.hid (HWC.out wr.drew HM1.out.r2)
          clear hm H2
          go_wp2_with fail
          go_region_held3 (fun V => V.cell? ⟨w.heap.size, 0, none⟩ = some (.slice a1 vs.length c1) ∧ V.cell? ⟨w.heap.size, 1, none⟩ = some (.slice a2 ls.length c2) ∧ V.cell? ⟨w.heap.size + 1, 0, none⟩ = some (.slice a3 us.length c3) ∧ V.cell? ⟨w.heap.size + 1, 1, none⟩ = some (.slice a4 ms.length c4)) (go_keep)
            (first
              | (go_at_call 44; (with_reducible refine HA1.out.mono ?_); rintro e w6 ⟨rfl, hb6⟩; have HM6 := Lib.hid (HM1.out.later hb6); have g0 := HM6.out.d0; have g1 := HM6.out.d1; have g2 := HM6.out.d2; have g3 := HM6.out.d3; have HA6 := Lib.hid (HWA.out _ HM6.out.r1); have HC6 := Lib.hid (HWC.out _ HM6.out.r2); clear hb6)
              | (go_at_call 44; (with_reducible refine HC1.out.mono ?_); rintro e w6 ⟨rfl, hb6⟩; have HM6 := Lib.hid (HM1.out.later hb6); have g0 := HM6.out.d0; have g1 := HM6.out.d1; have g2 := HM6.out.d2; have g3 := HM6.out.d3; have HA6 := Lib.hid (HWA.out _ HM6.out.r1); have HC6 := Lib.hid (HWC.out _ HM6.out.r2); clear hb6)
              | (go_at_call 44; (with_reducible refine HC6.out.mono ?_); rintro e w7 ⟨rfl, hb7⟩; have HM7 := Lib.hid (HM6.out.later hb7); have g4 := HM7.out.d0; have g5 := HM7.out.d1; have g6 := HM7.out.d2; have g7 := HM7.out.d3; clear hb7)
              | (go_at_call 44; (with_reducible refine HA6.out.mono ?_); rintro e w7 ⟨rfl, hb7⟩; have HM7 := Lib.hid (HM6.out.later hb7); have g4 := HM7.out.d0; have g5 := HM7.out.d1; have g6 := HM7.out.d2; have g7 := HM7.out.d3; clear hb7))
          clear g0 g1 g2 g3 HM6 HA6 HC6 HA1 HC1 HM1
          by_cases e : p = q
          · have b : (p != q) = false := by simpa using e
            have e' : ¬ (p = 0 ∧ q = 2) := by omega
            have HE := Lib.hid e
            clear e
            go_wp2_with fail
            exact ⟨⟨k + 1, by go_num, by omega, by rw [HC.out, if_pos HE.out]; rfl, by rw [HJ.out, HJ0.out, decide_eq_false e']; rfl, HM7.out⟩, by simp [intOf]; omega⟩
          · have b : (p != q) = true := by simpa using e
            have HE := Lib.hid e
            have e1 : IntKind.i64.wrap (((chg (wayO vs ls) (wayO us ms) k : Nat) : Int) + 1) = ((chg (wayO vs ls) (wayO us ms) k : Nat) : Int) + 1 := IntWalk.i64_in _ (by omega)
            have e3 : IntKind.i64.wrap (q - p) = q - p := IntWalk.i64_in _ (by omega)
            have HX1 := Lib.hid (HM7.out.drewN 1)
            have HA1 := Lib.hid (HWA.out w7.drew HX1.out.r1)
            have HC1 := Lib.hid (HWC.out w7.drew HX1.out.r2)
            clear e HM7
            by_cases e' : p = 0 ∧ q = 2
            · have HM : Hid (mayE vs ls us ms = 111) := by
                show _ = _
                rw [HM.out, if_pos (.inl (jmp_mono (k := k + 1) (by omega) (by rw [HJ.out, decide_eq_true e', Bool.or_true])))]
              have b1 : (q - p == 2) = true := by rw [beq_iff_eq]; omega
              have HE' := Lib.hid e'
              clear e'
              go_wp2_with fail
              go_region_held3 (fun V => V.cell? ⟨w.heap.size, 0, none⟩ = some (.slice a1 vs.length c1) ∧ V.cell? ⟨w.heap.size, 1, none⟩ = some (.slice a2 ls.length c2) ∧ V.cell? ⟨w.heap.size + 1, 0, none⟩ = some (.slice a3 us.length c3) ∧ V.cell? ⟨w.heap.size + 1, 1, none⟩ = some (.slice a4 ms.length c4)) (go_keep)
              (first
                | (go_at_call 44; (with_reducible refine HA1.out.mono ?_); rintro e w6 ⟨rfl, hb6⟩; have HM6 := Lib.hid (HX1.out.later hb6); have g0 := HM6.out.d0; have g1 := HM6.out.d1; have g2 := HM6.out.d2; have g3 := HM6.out.d3; have HA6 := Lib.hid (HWA.out _ HM6.out.r1); have HC6 := Lib.hid (HWC.out _ HM6.out.r2); clear hb6)
                | (go_at_call 44; (with_reducible refine HC1.out.mono ?_); rintro e w6 ⟨rfl, hb6⟩; have HM6 := Lib.hid (HX1.out.later hb6); have g0 := HM6.out.d0; have g1 := HM6.out.d1; have g2 := HM6.out.d2; have g3 := HM6.out.d3; have HA6 := Lib.hid (HWA.out _ HM6.out.r1); have HC6 := Lib.hid (HWC.out _ HM6.out.r2); clear hb6)
                | (go_at_call 44; (with_reducible refine HC6.out.mono ?_); rintro e w7 ⟨rfl, hb7⟩; have HM7 := Lib.hid (HM6.out.later hb7); have g4 := HM7.out.d0; have g5 := HM7.out.d1; have g6 := HM7.out.d2; have g7 := HM7.out.d3; clear hb7)
                | (go_at_call 44; (with_reducible refine HA6.out.mono ?_); rintro e w7 ⟨rfl, hb7⟩; have HM7 := Lib.hid (HM6.out.later hb7); have g4 := HM7.out.d0; have g5 := HM7.out.d1; have g6 := HM7.out.d2; have g7 := HM7.out.d3; clear hb7))
              go_wp2_with fail
              go_ret
              exact ⟨by rw [HM.out]; first | done | rfl, HM7.out.b⟩
            · have b1 : (q - p == 2) = false := by rw [beq_eq_false_iff_ne]; omega
              have HE' := Lib.hid e'
              clear e'
              go_wp2_with fail
              go_region_held3 (fun V => V.cell? ⟨w.heap.size, 0, none⟩ = some (.slice a1 vs.length c1) ∧ V.cell? ⟨w.heap.size, 1, none⟩ = some (.slice a2 ls.length c2) ∧ V.cell? ⟨w.heap.size + 1, 0, none⟩ = some (.slice a3 us.length c3) ∧ V.cell? ⟨w.heap.size + 1, 1, none⟩ = some (.slice a4 ms.length c4)) (go_keep)
              (first
                | (go_at_call 44; (with_reducible refine HA1.out.mono ?_); rintro e w6 ⟨rfl, hb6⟩; have HM6 := Lib.hid (HX1.out.later hb6); have g0 := HM6.out.d0; have g1 := HM6.out.d1; have g2 := HM6.out.d2; have g3 := HM6.out.d3; have HA6 := Lib.hid (HWA.out _ HM6.out.r1); have HC6 := Lib.hid (HWC.out _ HM6.out.r2); clear hb6)
                | (go_at_call 44; (with_reducible refine HC1.out.mono ?_); rintro e w6 ⟨rfl, hb6⟩; have HM6 := Lib.hid (HX1.out.later hb6); have g0 := HM6.out.d0; have g1 := HM6.out.d1; have g2 := HM6.out.d2; have g3 := HM6.out.d3; have HA6 := Lib.hid (HWA.out _ HM6.out.r1); have HC6 := Lib.hid (HWC.out _ HM6.out.r2); clear hb6)
                | (go_at_call 44; (with_reducible refine HC6.out.mono ?_); rintro e w7 ⟨rfl, hb7⟩; have HM7 := Lib.hid (HM6.out.later hb7); have g4 := HM7.out.d0; have g5 := HM7.out.d1; have g6 := HM7.out.d2; have g7 := HM7.out.d3; clear hb7)
                | (go_at_call 44; (with_reducible refine HA6.out.mono ?_); rintro e w7 ⟨rfl, hb7⟩; have HM7 := Lib.hid (HM6.out.later hb7); have g4 := HM7.out.d0; have g5 := HM7.out.d1; have g6 := HM7.out.d2; have g7 := HM7.out.d3; clear hb7))
              go_wp2_with fail
              exact ⟨⟨k + 1, by go_num, by omega, by rw [HC.out, if_neg HE.out]; go_num, by rw [HJ.out, HJ0.out, decide_eq_false HE'.out]; rfl, HM7.out⟩, by simp [intOf]; omega⟩
        · obtain rfl : k = 5 := by omega
          have HM : Hid (mayE vs ls us ms = if chg (wayO vs ls) (wayO us ms) 5 = 1 then 0 else 111) := by
            show _ = _
            rw [HM.out, hj]
            by_cases h : chg (wayO vs ls) (wayO us ms) 5 = 1 <;> simp [h]
          clear hj
          have HB := Lib.hid hm.b
          clear hm
          generalize chg (wayO vs ls) (wayO us ms) 5 = c at *
          by_cases h : c = 1
          · have b : ((c : Int) != 1) = false := by rw [bne_eq_false_iff_eq]; omega
            have HM : Hid (mayE vs ls us ms = 0) := by show _ = _; rw [HM.out, if_pos h]
            clear h
            go_wp2_with fail
            go_ret
            exact ⟨by rw [HM.out]; first | done | rfl, HB.out⟩
          · have b : ((c : Int) != 1) = true := by rw [bne_iff_ne]; omega
            have HM : Hid (mayE vs ls us ms = 111) := by show _ = _; rw [HM.out, if_neg h]
            clear h
            go_wp2_with fail
            go_ret
            exact ⟨by rw [HM.out]; first | done | rfl, HB.out⟩
end Go.Proofs.Yticcmjiekopnbaa
