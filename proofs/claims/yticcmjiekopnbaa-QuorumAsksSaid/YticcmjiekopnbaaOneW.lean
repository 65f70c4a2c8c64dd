/-
  QuorumOne walked.
-/
import Derived.Test.YticcmjiekopnbaaMaysW
namespace Go.Proofs.Yticcmjiekopnbaa
set_option linter.unusedVariables false
set_option linter.unusedSimpArgs false
open Go.RowKit Go.Shelf

/-- How many nodes below k vote in one roster alone. -/
def vdN (vs us : List Int) : Nat → Nat
  | 0 => 0
  | k + 1 => vdN vs us k + if hasI vs (k : Nat) = hasI us (k : Nat) then 0 else 1
theorem vdN_le (vs ls us ms : List Int) : ∀ k, vdN vs us k ≤ chg (wayO vs ls) (wayO us ms) k
  | 0 => Nat.le_refl _
  | k + 1 => by
    have ih := vdN_le vs ls us ms k
    unfold vdN chg
    by_cases e : wayO vs ls (k : Nat) = wayO us ms (k : Nat)
    · have : hasI vs (k : Nat) = hasI us (k : Nat) := by
        rw [Bool.eq_iff_iff, hasI_iff, hasI_iff]
        unfold wayO at e
        by_cases h1 : ((k : Nat) : Int) ∈ vs
        · rw [if_pos h1] at e
          by_cases h2 : ((k : Nat) : Int) ∈ us
          · exact ⟨fun _ => h2, fun _ => h1⟩
          · rw [if_neg h2] at e
            split at e <;> cases e
        · rw [if_neg h1] at e
          by_cases h2 : ((k : Nat) : Int) ∈ us
          · rw [if_pos h2] at e
            split at e <;> cases e
          · exact ⟨fun h => absurd h h1, fun h => absurd h h2⟩
      rw [if_pos e, if_pos this]; omega
    · rw [if_neg e]
      split <;> omega
theorem may_zero {vs ls us ms : List Int} (h : mayE vs ls us ms = 0) : okR vs ls = true ∧ okR us ms = true ∧ jmp (wayO vs ls) (wayO us ms) 5 = false ∧ chg (wayO vs ls) (wayO us ms) 5 = 1 := by
  unfold mayE at h
  split at h
  · rename_i hok
    split at h
    · cases h
    · rename_i hn
      refine ⟨hok.1, hok.2, ?_, ?_⟩
      · cases e : jmp (wayO vs ls) (wayO us ms) 5 with
        | false => rfl
        | true => exact absurd (.inl e) hn
      · by_cases e : chg (wayO vs ls) (wayO us ms) 5 = 1
        · exact e
        · exact absurd (.inr e) hn
  · cases h
theorem may_self {vs ls : List Int} (h : okR vs ls = true) : mayE vs ls vs ls = 111 := by
  unfold mayE
  have hc : ∀ k, chg (wayO vs ls) (wayO vs ls) k = 0 := fun k => by
    induction k with
    | zero => rfl
    | succ k ih => unfold chg; rw [ih]; simp
  rw [if_pos ⟨h, h⟩, if_pos (.inr (by rw [hc]; decide))]

set_option maxRecDepth 100000 in
set_option maxHeartbeats 6400000 in
theorem One_law {w : World} {u v x y : Value} {vs ls us ms : List Int} (h : RoCs w u v vs ls) (h' : RoCs w x y us ms) : Calls Try.prog 12 #[.agg #[u, v], .agg #[x, y]] w (BoolP true w) := by
  have HM := Lib.hid (may2_new h h')
  have HZ : ((w.alloc (.cells #[u, v] 24)).alloc (.cells #[x, y] 24)).heap.size = w.heap.size + 1 + 1 := by simp
  obtain ⟨a1, c1, rfl, _, _⟩ := h.1.slice
  obtain ⟨a2, c2, rfl, _, _⟩ := h.2.slice
  obtain ⟨a3, c3, rfl, _, _⟩ := h'.1.slice
  obtain ⟨a4, c4, rfl, _, _⟩ := h'.2.slice
  clear h h'
  go_enter Try.func12, Try.ntmps12
  go_wp2_with fail
  generalize (w.alloc _).alloc _ = w0 at *
  have hz : w0.heap.size = w.heap.size + 1 + 1 := HZ
  have HR := block_in roL w0 [((a1, vs.length, c1), (a2, ls.length, c2)), ((a3, us.length, c3), (a4, ms.length, c4))] #[.slice a1 vs.length c1, .slice a2 ls.length c2, .slice a3 us.length c3, .slice a4 ms.length c4] 24 2 rfl rfl (by decide)
  rw [hz] at HR
  have HR := Lib.hid HR
  have hb1 := lay_alloc w0 (.cells #[.slice a1 vs.length c1, .slice a2 ls.length c2, .slice a3 us.length c3, .slice a4 ms.length c4] 24)
  have HM := Lib.hid (HM.out.later hb1)
  clear hb1 HZ hz
  generalize World.alloc _ _ = w1 at *
  have HLo := Lib.hid (long_any HR.out (by simp))
  go_fit HLo.out
  rintro e w2 ⟨rfl, hb2⟩
  have HM := Lib.hid (HM.out.later hb2)
  clear hb2 HR HLo
  have d0 := HM.out.d0; have d1 := HM.out.d1; have d2 := HM.out.d2; have d3 := HM.out.d3
  cases hlo : longB [((a1, vs.length, c1), (a2, ls.length, c2)), ((a3, us.length, c3), (a4, ms.length, c4))] with
  | true =>
    go_wp2_with fail
    go_fit (awake_any w2)
    rintro e wz ⟨rfl, hbz⟩
    have HB := Lib.hid (HM.out.b.trans (hbz.mono HM.out.b.size))
    clear hbz
    go_wp2_with fail
    go_ret
    exact ⟨rfl, HB.out⟩
  | false =>
    clear hlo
    go_wp2_with fail
    go_fit (May_any HM.out.r1 HM.out.r2)
    rintro e w3 ⟨rfl, hb3⟩
    have HM := Lib.hid (HM.out.later hb3)
    clear hb3 d0 d1 d2 d3
    by_cases hm : mayE vs ls us ms = 0
    · have hz := may_zero hm
      have HOK := Lib.hid hz.1
      have HV := Lib.hid (vdN_le vs ls us ms 5)
      have HC := Lib.hid hz.2.2.2
      have HSelf := Lib.hid (may_self hz.1)
      rw [hm]
      clear hz hm
      go_wp2_with fail
      go_loopw [5, 18] (fun a i wr => ∃ k : Nat, i = .int .i64 k ∧ k ≤ 5 ∧ a = .int .i64 ((vdN vs us k : Nat) : Int) ∧ May2 w wr (.slice a1 vs.length c1) (.slice a2 ls.length c2) (.slice a3 us.length c3) (.slice a4 ms.length c4) vs ls us ms) (fun _ i _ => 5 - (intOf i).toNat)
      case atStart => exact ⟨0, rfl, by omega, rfl, HM.out⟩
      case round =>
        obtain ⟨k, rfl, hk, rfl, hm⟩ := hrel
        have g0 := hm.d0; have g1 := hm.d1; have g2 := hm.d2; have g3 := hm.d3
        by_cases hlt : k < 5
        · have hvl : vdN vs us k ≤ k := by
            have : ∀ j, vdN vs us j ≤ j := fun j => by
              induction j with
              | zero => exact Nat.le_refl _
              | succ j ih => unfold vdN; split <;> omega
            exact this k
          have HN : Hid (vdN vs us (k + 1) = vdN vs us k + if hasI vs (k : Nat) = hasI us (k : Nat) then 0 else 1) := by show _ = _; rfl
          have HWA := Lib.hid (fun W (hW : RoCs W (.slice a1 vs.length c1) (.slice a2 ls.length c2) vs ls) => Votes_any hW ((k : Nat) : Int))
          have HWC := Lib.hid (fun W (hW : RoCs W (.slice a3 us.length c3) (.slice a4 ms.length c4) us ms) => Votes_any hW ((k : Nat) : Int))
          generalize hasI vs ((k : Nat) : Int) = p at *
          generalize hasI us ((k : Nat) : Int) = q at *
          generalize vdN vs us k = n at *
          have e1 : IntKind.i64.wrap ((n : Int) + 1) = (n : Int) + 1 := IntWalk.i64_in _ (by omega)
          have HM1 := Lib.hid (hm.drewN 1)
          have HA1 := Lib.hid (HWA.out wr.drew HM1.out.r1)
          have HC1 := Lib.hid (HWC.out wr.drew HM1.out.r2)
          clear hm HM
          cases p <;> cases q
          all_goals
            go_wp2_with fail
            go_region_held3 (fun V => V.cell? ⟨w.heap.size, 0, none⟩ = some (.slice a1 vs.length c1) ∧ V.cell? ⟨w.heap.size, 1, none⟩ = some (.slice a2 ls.length c2) ∧ V.cell? ⟨w.heap.size + 1, 0, none⟩ = some (.slice a3 us.length c3) ∧ V.cell? ⟨w.heap.size + 1, 1, none⟩ = some (.slice a4 ms.length c4)) (go_keep)
              (first
                | (go_at_call 23; (with_reducible refine HA1.out.mono ?_); rintro e w6 ⟨rfl, hb6⟩; have HM6 := Lib.hid (HM1.out.later hb6); have g0 := HM6.out.d0; have g1 := HM6.out.d1; have g2 := HM6.out.d2; have g3 := HM6.out.d3; have HA6 := Lib.hid (HWA.out _ HM6.out.r1); have HC6 := Lib.hid (HWC.out _ HM6.out.r2); clear hb6)
                | (go_at_call 23; (with_reducible refine HC1.out.mono ?_); rintro e w6 ⟨rfl, hb6⟩; have HM6 := Lib.hid (HM1.out.later hb6); have g0 := HM6.out.d0; have g1 := HM6.out.d1; have g2 := HM6.out.d2; have g3 := HM6.out.d3; have HA6 := Lib.hid (HWA.out _ HM6.out.r1); have HC6 := Lib.hid (HWC.out _ HM6.out.r2); clear hb6)
                | (go_at_call 23; (with_reducible refine HC6.out.mono ?_); rintro e w7 ⟨rfl, hb7⟩; have HM7 := Lib.hid (HM6.out.later hb7); have g4 := HM7.out.d0; have g5 := HM7.out.d1; have g6 := HM7.out.d2; have g7 := HM7.out.d3; clear hb7)
                | (go_at_call 23; (with_reducible refine HA6.out.mono ?_); rintro e w7 ⟨rfl, hb7⟩; have HM7 := Lib.hid (HM6.out.later hb7); have g4 := HM7.out.d0; have g5 := HM7.out.d1; have g6 := HM7.out.d2; have g7 := HM7.out.d3; clear hb7))
            clear g0 g1 g2 g3 HM6 HA6 HC6 HA1 HC1 HM1
            go_wp2_with fail
            exact ⟨⟨k + 1, by go_num, by omega, by rw [HN.out]; first | rfl | go_num, HM7.out⟩, by simp [intOf]; omega⟩
        · obtain rfl : k = 5 := by omega
          have HM := Lib.hid hm
          have hn : vdN vs us 5 ≤ 1 := by have h1 := HV.out; rw [HC.out] at h1; exact h1
          generalize vdN vs us 5 = n at *
          have hn' : (n : Int) ≤ 1 := by omega
          have HSM := May_any HM.out.r1 HM.out.r1
          rw [HSelf.out] at HSM
          have HSM := Lib.hid HSM
          clear hm
          go_wp2_with fail
          go_fit HSM.out
          rintro e w4 ⟨rfl, hb4⟩
          have HM := Lib.hid (HM.out.later hb4)
          clear hb4
          go_wp2_with fail
          go_fit (awake_any w4)
          rintro e wz ⟨rfl, hbz⟩
          have HB := Lib.hid (HM.out.b.trans (hbz.mono HM.out.b.size))
          clear hbz
          go_wp2_with fail
          go_ret
          exact ⟨rfl, HB.out⟩
    · generalize mayE vs ls us ms = m at *
      have b : (m != 0) = true := by rw [bne_iff_ne]; exact hm
      clear hm
      go_wp2_with fail
      go_fit (awake_any w3)
      rintro e wz ⟨rfl, hbz⟩
      have HB := Lib.hid (HM.out.b.trans (hbz.mono HM.out.b.size))
      clear hbz
      go_wp2_with fail
      go_ret
      exact ⟨rfl, HB.out⟩
end Go.Proofs.Yticcmjiekopnbaa
