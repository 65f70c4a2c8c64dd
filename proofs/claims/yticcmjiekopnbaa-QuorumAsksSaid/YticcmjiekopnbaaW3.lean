/-
  May walked; the document's way and May.
-/
import Derived.Test.YticcmjiekopnbaaW2
namespace Go.Proofs.Yticcmjiekopnbaa
set_option linter.unusedVariables false
set_option linter.unusedSimpArgs false
open Go.RowKit

theorem row5_new (w : World) (F : Int → Int) : Row5 (w.alloc (.cells #[.int .i64 (F 0), .int .i64 (F 1), .int .i64 (F 2), .int .i64 (F 3), .int .i64 (F 4)] 38)) w.heap.size F := by
  have hg := Go.heap_alloc_new w (.cells #[.int .i64 (F 0), .int .i64 (F 1), .int .i64 (F 2), .int .i64 (F 3), .int .i64 (F 4)] 38)
  generalize w.alloc _ = W at *
  refine ⟨fun x h0 h4 => ?_, fun j hj => frozen_of_row W _ j _ _ hg⟩
  rw [cell_of_row W _ _ _ _ _ hg]
  rcases (by omega : x = 0 ∨ x = 1 ∨ x = 2 ∨ x = 3 ∨ x = 4) with rfl | rfl | rfl | rfl | rfl <;> rfl
theorem Row5.below {w w' : World} {g : Nat} {F : Int → Int} (h : Row5 w g F) (hg : g < w.heap.size) (hb : Below w.heap.size w w') : Row5 w' g F := h.later (hb.block g hg)
theorem Row5.nat {w w' : World} {g : Nat} {F : Int → Int} (h : Row5 w g F) (hD : Drawn w w') {k : Nat} (hk : k < 5) : w'.cell? ⟨g, k, none⟩ = some (.int .i64 (F (k : Nat))) := by
  have := h.at' (k : Nat) (by omega) (by omega)
  rw [Int.toNat_natCast] at this
  exact hD.cell this

set_option maxRecDepth 100000 in
set_option maxHeartbeats 3200000 in
theorem May_any {w : World} {u v x y : Value} {vs ls us ms : List Int} (h : RoCs w u v vs ls) (h' : RoCs w x y us ms) : Calls Try.prog 17 #[.agg #[u, v], .agg #[x, y]] w (IntP (mayE vs ls us ms) w) := by
  have hb0 := lay_alloc w (.cells #[u, v] 24)
  have hb1 := lay_alloc (w.alloc (.cells #[u, v] 24)) (.cells #[x, y] 24)
  have h0 := (h.later hb0).later hb1
  have h1 := (h'.later hb0).later hb1
  have hk := Go.heap_alloc_new w (.cells #[u, v] 24)
  have hk1 := Go.heap_alloc_new (w.alloc (.cells #[u, v] 24)) (.cells #[x, y] 24)
  have hs0 : w.heap.size + 1 = (w.alloc (.cells #[u, v] 24)).heap.size := by simp
  rw [← hs0] at hk1
  have hk0 := (hb1.block w.heap.size (by omega)).trans hk
  have hB := hb0.trans (hb1.mono (by omega))
  have hs1 : w.heap.size + 1 < ((w.alloc (.cells #[u, v] 24)).alloc (.cells #[x, y] 24)).heap.size := by simp
  clear hb0 hb1 hk hs0
  obtain ⟨a1, c1, rfl, _, _⟩ := h.1.slice
  obtain ⟨a2, c2, rfl, _, _⟩ := h.2.slice
  obtain ⟨a3, c3, rfl, _, _⟩ := h'.1.slice
  obtain ⟨a4, c4, rfl, _, _⟩ := h'.2.slice
  clear h h'
  go_enter Try.func17, Try.ntmps17
  go_wp2_with fail
  generalize World.alloc _ _ = W0 at *
  have d0 : W0.cell? ⟨w.heap.size, 0, none⟩ = some (.slice a1 vs.length c1) := by rw [cell_of_row W0 _ _ _ _ _ hk0]; rfl
  have d1 : W0.cell? ⟨w.heap.size, 1, none⟩ = some (.slice a2 ls.length c2) := by rw [cell_of_row W0 _ _ _ _ _ hk0]; rfl
  have d2 : W0.cell? ⟨w.heap.size + 1, 0, none⟩ = some (.slice a3 us.length c3) := by rw [cell_of_row W0 _ _ _ _ _ hk1]; rfl
  have d3 : W0.cell? ⟨w.heap.size + 1, 1, none⟩ = some (.slice a4 ms.length c4) := by rw [cell_of_row W0 _ _ _ _ _ hk1]; rfl
  have HA := Lib.hid (ways_any h0)
  have H1 := Lib.hid h1
  have HB := Lib.hid hB
  have HS := Lib.hid hs1
  clear h0 h1 hB hk0 hk1 hs1
  go_fit HA.out
  rintro e w1 ⟨F, rfl, hF, hb1⟩
  have d2 := lay_later hb1 d2
  have d3 := lay_later hb1 d3
  have H1 := Lib.hid (H1.out.later hb1)
  have HB := Lib.hid (HB.out.trans (hb1.mono HB.out.size))
  have HS := Lib.hid (Nat.lt_of_lt_of_le HS.out hb1.size)
  have HF := Lib.hid hF
  clear hF hb1 d0 d1 HA
  have HR := Lib.hid (row5_new w1 F)
  have hb2 := lay_alloc w1 (.cells #[.int .i64 (F 0), .int .i64 (F 1), .int .i64 (F 2), .int .i64 (F 3), .int .i64 (F 4)] 38)
  have HZ : Hid (w1.heap.size < (w1.alloc (.cells #[.int .i64 (F 0), .int .i64 (F 1), .int .i64 (F 2), .int .i64 (F 3), .int .i64 (F 4)] 38)).heap.size) := by show _ < _; simp
  have d2 := lay_later hb2 d2
  have d3 := lay_later hb2 d3
  have H1 := Lib.hid (H1.out.later hb2)
  have HB := Lib.hid (HB.out.trans (hb2.mono HB.out.size))
  have HL := Lib.hid (Nat.lt_trans HS.out HZ.out)
  have HSB := Lib.hid HB.out.size
  clear hb2 HS
  go_wp2_with fail
  generalize World.alloc _ _ = W1 at *
  go_fit (ways_any H1.out)
  rintro e w2 ⟨G, rfl, hG, hb3⟩
  have HR := Lib.hid (HR.out.below HZ.out hb3)
  have HB := Lib.hid (HB.out.trans (hb3.mono HB.out.size))
  have HZ := Lib.hid (Nat.lt_of_lt_of_le HZ.out hb3.size)
  have HG := Lib.hid hG
  clear hG hb3 d2 d3 H1 HL HSB
  have HQ := Lib.hid (row5_new w2 G)
  have hb4 := lay_alloc w2 (.cells #[.int .i64 (G 0), .int .i64 (G 1), .int .i64 (G 2), .int .i64 (G 3), .int .i64 (G 4)] 38)
  have HR := Lib.hid (HR.out.below HZ.out hb4)
  have HB := Lib.hid (HB.out.trans (hb4.mono HB.out.size))
  clear hb4 HZ
  have HM : Hid (mayE vs ls us ms = if okR vs ls = true ∧ okR us ms = true then (if jmp (wayO vs ls) (wayO us ms) 5 = true ∨ chg (wayO vs ls) (wayO us ms) 5 ≠ 1 then 111 else 0) else 110) := by show _ = _; rfl
  cases ho : okR vs ls with
  | false =>
    have HM : Hid (mayE vs ls us ms = 110) := by show _ = _; rw [HM.out, ho]; simp
    clear ho
    go_wp2_with fail
    go_ret
    exact ⟨by rw [HM.out]; first | done | rfl, HB.out⟩
  | true =>
    cases hn : okR us ms with
    | false =>
      have HM : Hid (mayE vs ls us ms = 110) := by show _ = _; rw [HM.out, hn]; simp
      clear ho hn
      go_wp2_with fail
      go_ret
      exact ⟨by rw [HM.out]; first | done | rfl, HB.out⟩
    | true =>
      obtain rfl : F = wayO vs ls := funext (HF.out ho)
      obtain rfl : G = wayO us ms := funext (HG.out hn)
      have HM : Hid (mayE vs ls us ms = if jmp (wayO vs ls) (wayO us ms) 5 = true ∨ chg (wayO vs ls) (wayO us ms) 5 ≠ 1 then 111 else 0) := by show _ = _; rw [HM.out, ho, hn]; simp
      clear ho hn HF HG
      generalize wayO vs ls = F at *
      generalize wayO us ms = G at *
      go_wp2_with fail
      generalize World.alloc _ _ = W2 at *
      go_loopw [9, 27] (fun a i wr => ∃ k : Nat, i = .int .i64 k ∧ k ≤ 5 ∧ a = .int .i64 ((chg F G k : Nat) : Int) ∧ jmp F G k = false ∧ Drawn W2 wr) (fun _ i _ => 5 - (intOf i).toNat)
      case atStart => exact ⟨0, rfl, by omega, rfl, rfl, ⟨0, rfl⟩⟩
      case round =>
        obtain ⟨k, rfl, hk, rfl, hj, hD⟩ := hrel
        have hcl := chg_le F G k
        by_cases hlt : k < 5
        · have r1 := HR.out.nat hD hlt
          have r2 := HQ.out.nat hD hlt
          have HD := Lib.hid hD
          have HC : Hid (chg F G (k + 1) = chg F G k + if F (k : Nat) = G (k : Nat) then 0 else 1) := by show _ = _; rfl
          have HJ := Lib.hid (jmp_succ F G k)
          have HJ0 := Lib.hid hj
          clear hD hj
          generalize F ((k : Nat) : Int) = p at *
          generalize G ((k : Nat) : Int) = q at *
          by_cases e : p = q
          · have b : (p == q) = true := by simpa using e
            have e' : ¬ (p = 0 ∧ q = 2) := by omega
            have HE := Lib.hid e
            clear e
            go_wp2_with fail
            go_quiet (fail)
            go_wp2_with fail
            exact ⟨⟨k + 1, by go_num, by omega, by rw [HC.out, if_pos HE.out]; rfl, by rw [HJ.out, HJ0.out, decide_eq_false e']; rfl, HD.out.next _⟩, by simp [intOf]; omega⟩
          · have b : (p == q) = false := by simpa using e
            have HE := Lib.hid e
            have e1 : IntKind.i64.wrap (((chg F G k : Nat) : Int) + 1) = ((chg F G k : Nat) : Int) + 1 := IntWalk.i64_in _ (by omega)
            clear e
            by_cases e' : p = 0 ∧ q = 2
            · obtain ⟨rfl, rfl⟩ := e'
              have HM : Hid (mayE vs ls us ms = 111) := by
                show _ = _
                rw [HM.out, if_pos (.inl (jmp_mono (k := k + 1) (by omega) (by rw [HJ.out, decide_eq_true ⟨rfl, rfl⟩, Bool.or_true])))]
              go_wp2_with fail
              go_quiet (fail)
              go_wp2_with fail
              go_ret
              exact ⟨by rw [HM.out]; first | done | rfl, (HD.out.next _).below HB.out⟩
            · have HR : Hid (chg F G (k + 1) = chg F G k + 1 ∧ jmp F G (k + 1) = false) := ⟨by rw [HC.out, if_neg HE.out], by rw [HJ.out, HJ0.out, decide_eq_false e']; rfl⟩
              clear HC HJ HJ0
              by_cases p0 : p = 0
              · have b1 : (q == 2) = false := by rw [beq_eq_false_iff_ne]; omega
                subst p0
                clear e'
                go_wp2_with fail
                go_quiet (fail)
                go_wp2_with fail
                exact ⟨⟨k + 1, by go_num, by omega, by rw [HR.out.1]; go_num, HR.out.2, HD.out.next _⟩, by simp [intOf]; omega⟩
              · have b1 : (p == 0) = false := by rw [beq_eq_false_iff_ne]; omega
                clear e' p0
                go_wp2_with fail
                go_quiet (fail)
                go_wp2_with fail
                exact ⟨⟨k + 1, by go_num, by omega, by rw [HR.out.1]; go_num, HR.out.2, HD.out.next _⟩, by simp [intOf]; omega⟩
        · obtain rfl : k = 5 := by omega
          have HM : Hid (mayE vs ls us ms = if chg F G 5 = 1 then 0 else 111) := by
            show _ = _
            rw [HM.out, hj]
            by_cases h : chg F G 5 = 1 <;> simp [h]
          clear hj
          have HD := Lib.hid hD
          clear hD
          generalize chg F G 5 = c at *
          by_cases h : c = 1
          · have b : ((c : Int) != 1) = false := by rw [bne_eq_false_iff_eq]; omega
            have HM : Hid (mayE vs ls us ms = 0) := by show _ = _; rw [HM.out, if_pos h]
            clear h
            go_wp2_with fail
            go_ret
            exact ⟨by rw [HM.out]; first | done | rfl, HD.out.below HB.out⟩
          · have b : ((c : Int) != 1) = true := by rw [bne_iff_ne]; omega
            have HM : Hid (mayE vs ls us ms = 111) := by show _ = _; rw [HM.out, if_neg h]
            clear h
            go_wp2_with fail
            go_ret
            exact ⟨by rw [HM.out]; first | done | rfl, HD.out.below HB.out⟩
end Go.Proofs.Yticcmjiekopnbaa
