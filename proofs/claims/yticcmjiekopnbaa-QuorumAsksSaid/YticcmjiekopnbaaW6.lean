/-
  Majority walked; the document's.
-/
import Derived.Test.YticcmjiekopnbaaW5
namespace Go.Proofs.Yticcmjiekopnbaa
set_option linter.unusedVariables false
set_option linter.unusedSimpArgs false
open Go.RowKit Go.Shelf

/-- How many of a list are among some. -/
def cntI (some l : List Int) : Nat := l.countP fun v => hasI some v
theorem cntI_le (some l : List Int) : cntI some l ≤ l.length := List.countP_le_length
theorem cntI_step (some l : List Int) {k : Nat} {x : Int} (h : l[k]? = .some x) : cntI some (l.take (k + 1)) = cntI some (l.take k) + if hasI some x = true then 1 else 0 := by
  unfold cntI
  rw [List.take_add_one, h, Option.toList_some, List.countP_append, List.countP_singleton]
theorem cntI_ms (some l : List Int) : cntI (ms some) l = cntI some l := by
  unfold cntI
  congr 1
  funext v
  exact hasI_ms some v
theorem majB_cnt (vs some : List Int) : majB vs some = decide (vs.length < 2 * cntI some vs) := rfl
theorem majB_quo (vs some : List Int) : decide ((vs.length : Int) / 2 < ((cntI some vs : Nat) : Int)) = majB vs some := majB_half vs some
theorem majB_two (vs some : List Int) : decide ((vs.length : Int) < 2 * ((cntI some vs : Nat) : Int)) = majB vs some := by
  rw [majB_cnt, decide_eq_decide]; omega
theorem Drawn.in' {α : Type} {I : Lay α} {w w' : World} {v : Value} {l : List α} (hD : Drawn w w') (h : I.In w v l) : I.In w' v l := by obtain ⟨N, rfl⟩ := hD; exact h.drewN N
theorem Drawn.refl (w : World) : Drawn w w := ⟨0, rfl⟩
theorem Drawn.trans {a b c : World} (h : Drawn a b) (h' : Drawn b c) : Drawn a c := by obtain ⟨N, rfl⟩ := h'; exact h.next N

set_option maxRecDepth 100000 in
set_option maxHeartbeats 3200000 in
theorem Majority_any {w : World} {u v s : Value} {vs ls some : List Int} (h : RoCs w u v vs ls) (hs : intL.In w s some) (l1 : vs.length ≤ 100000) (l2 : some.length ≤ 100000) : Calls Try.prog 27 #[.agg #[u, v], s] w (BoolP (majB vs some) w) := by
  have hb0 := lay_alloc w (.cells #[u, v] 24)
  have hk := Go.heap_alloc_new w (.cells #[u, v] 24)
  have hsz : (w.alloc (.cells #[u, v] 24)).heap.size = w.heap.size + 1 := by simp
  have HI := Lib.hid (h.1.later hb0)
  have HS := Lib.hid (hs.later hb0)
  have HB := Lib.hid hb0
  obtain ⟨a1, c1, rfl, _, hv2⟩ := h.1.slice
  obtain ⟨a2, c2, rfl, _, _⟩ := h.2.slice
  obtain ⟨a3, c3, rfl, _, _⟩ := hs.slice
  clear h hs hb0
  go_enter Try.func27, Try.ntmps27
  go_wp2_with fail
  generalize World.alloc _ _ = w0 at *
  have d0 : w0.cell? ⟨w.heap.size, 0, none⟩ = .some (.slice a1 vs.length c1) := by rw [cell_of_row w0 _ _ _ _ _ hk]; rfl
  clear hk
  go_fit (Values_any a3 some.length c3 w0)
  rintro e w1 ⟨rfl, hw1⟩
  have hb1 : Below w0.heap.size w0 w1 := by rw [hw1]; exact lay_alloc w0 _
  have HCc : Hid (w1.cell? ⟨w0.heap.size, 0, none⟩ = .some (.slice a3 some.length c3)) := by
    show _ = _
    have := Go.heap_alloc_new w0 (.cells #[.slice a3 some.length c3] 22)
    rw [hw1, cell_of_row _ _ _ _ _ _ this]; rfl
  have HZ : Hid (w0.heap.size < w1.heap.size) := by show _ < _; rw [hw1]; simp
  have d0 := lay_later hb1 d0
  have HI := Lib.hid (HI.out.later hb1)
  have HS := Lib.hid (HS.out.later hb1)
  have HB := Lib.hid (HB.out.trans (hb1.mono HB.out.size))
  clear hb1 hw1 hsz
  go_wp2_with fail
  go_fit (Sorted_any w0.heap.size _ some l2 w1 HZ.out HCc.out (ints_of HS.out))
  rintro e w2 ⟨sv, rfl, hR⟩
  have hb2 := hR.grown
  have d0 := lay_later hb2 d0
  have HI := Lib.hid (HI.out.later hb2)
  have HT := Lib.hid hR.told
  have HB := Lib.hid (HB.out.trans (hb2.mono HB.out.size))
  clear hb2 hR HCc HZ HS
  go_wp2_with fail
  go_loopw [6, 17] (fun a i wr => ∃ k : Nat, i = .int .i64 k ∧ k ≤ vs.length ∧ a = .int .i64 ((cntI some (vs.take k) : Nat) : Int) ∧ Drawn w2 wr) (fun _ i _ => vs.length - (intOf i).toNat)
  case atStart => exact ⟨0, rfl, Nat.zero_le _, by simp [cntI], Drawn.refl _⟩
  case round =>
    obtain ⟨k, rfl, hk, rfl, hD⟩ := hrel
    have hcl : cntI some (vs.take k) ≤ k := Nat.le_trans (cntI_le _ _) (List.length_take_le _ _)
    have d0 := hD.cell d0
    have HD := Lib.hid hD
    by_cases hlt : k < vs.length
    · have hg : vs[k]? = .some vs[k] := List.getElem?_eq_getElem hlt
      obtain ⟨g, off, rfl, _, hc⟩ := intL_at (hD.in' HI.out) hg
      have HN := Lib.hid (cntI_step some vs hg)
      have HQ := Lib.hid (Search_any (hD.in' HT.out) (ms_sorted some) (by rw [ms_len]; omega) vs[k])
      rw [hasI_ms] at HQ
      clear hg hD
      generalize vs[k] = x at *
      generalize cntI some (vs.take k) = q at *
      have e1 : IntKind.i64.wrap ((q : Int) + 1) = (q : Int) + 1 := IntWalk.i64_in _ (by omega)
      cases hx : hasI some x with
      | true =>
        rw [hx] at HQ
        have HX := Lib.hid hx
        clear hx
        go_wp2_with fail
        go_fit HQ.out
        rintro e w3 ⟨j, rfl, hD3⟩
        have HD3 := Lib.hid (HD.out.trans hD3)
        clear hD3
        go_wp2_with fail
        exact ⟨⟨k + 1, by go_num, by omega, by rw [HN.out, HX.out]; go_num, HD3.out⟩, by simp [intOf]; omega⟩
      | false =>
        rw [hx] at HQ
        have HX := Lib.hid hx
        clear hx
        go_wp2_with fail
        go_fit HQ.out
        rintro e w3 ⟨j, rfl, hD3⟩
        have HD3 := Lib.hid (HD.out.trans hD3)
        clear hD3
        go_wp2_with fail
        exact ⟨⟨k + 1, by go_num, by omega, by rw [HN.out, HX.out]; rfl, HD3.out⟩, by simp [intOf]; omega⟩
    · obtain rfl : k = vs.length := by omega
      rw [List.take_length] at *
      have HM := Lib.hid (majB_quo vs some)
      clear hD
      generalize cntI some vs = q at *
      go_wp2_with fail
      go_ret
      exact ⟨by rw [← HM.out]; first | done | rfl, HD.out.below HB.out⟩

set_option maxRecDepth 100000 in
set_option maxHeartbeats 3200000 in
theorem RMajority_any {w : World} {u v s : Value} {vs ls some : List Int} (h : RoCs w u v vs ls) (hs : intL.In w s some) (l1 : vs.length ≤ 100000) : Calls Try.prog 28 #[.agg #[u, v], s] w (BoolP (majB vs some) w) := by
  have hb0 := lay_alloc w (.cells #[u, v] 24)
  have hk := Go.heap_alloc_new w (.cells #[u, v] 24)
  have HI := Lib.hid (h.1.later hb0)
  have HS := Lib.hid (hs.later hb0)
  have HB := Lib.hid hb0
  obtain ⟨a1, c1, rfl, _, hv2⟩ := h.1.slice
  obtain ⟨a2, c2, rfl, _, _⟩ := h.2.slice
  obtain ⟨a3, c3, rfl, _, _⟩ := hs.slice
  clear h hs hb0
  go_enter Try.func28, Try.ntmps28
  go_wp2_with fail
  generalize World.alloc _ _ = w0 at *
  have d0 : w0.cell? ⟨w.heap.size, 0, none⟩ = .some (.slice a1 vs.length c1) := by rw [cell_of_row w0 _ _ _ _ _ hk]; rfl
  clear hk
  go_loop [5, 11] (fun a i => ∃ k : Nat, i = .int .i64 k ∧ k ≤ vs.length ∧ a = .int .i64 ((cntI some (vs.take k) : Nat) : Int)) (fun _ i => vs.length - (intOf i).toNat)
  case atStart => exact ⟨0, rfl, Nat.zero_le _, by simp [cntI]⟩
  case round =>
    obtain ⟨k, rfl, hk, rfl⟩ := hrel
    have hcl : cntI some (vs.take k) ≤ k := Nat.le_trans (cntI_le _ _) (List.length_take_le _ _)
    by_cases hlt : k < vs.length
    · have hg : vs[k]? = .some vs[k] := List.getElem?_eq_getElem hlt
      obtain ⟨g, off, rfl, _, hc⟩ := intL_at HI.out hg
      have HN := Lib.hid (cntI_step some vs hg)
      have HQ := Lib.hid (times_any HS.out vs[k])
      clear hg
      generalize vs[k] = x at *
      generalize cntI some (vs.take k) = q at *
      have e1 : IntKind.i64.wrap ((q : Int) + 1) = (q : Int) + 1 := IntWalk.i64_in _ (by omega)
      have HP : Hid (hasI some x = decide (0 < some.count x)) := by
        show _ = _
        rw [Bool.eq_iff_iff, decide_eq_true_eq, List.count_pos_iff, hasI_iff]
      by_cases hx : 0 < some.count x
      · have HX : Hid (hasI some x = true) := by show _ = _; rw [HP.out, decide_eq_true hx]
        generalize some.count x = p at *
        go_wp2_with fail
        go_fit HQ.out
        rintro e w3 ⟨rfl, rfl⟩
        go_wp2_with fail
        go_round
        case rel => exact ⟨k + 1, by go_num, by omega, by rw [HN.out, HX.out]; go_num⟩
        case measure => simp [intOf]; omega
      · have HX : Hid (hasI some x = false) := by show _ = _; rw [HP.out, decide_eq_false hx]
        generalize some.count x = p at *
        go_wp2_with fail
        go_fit HQ.out
        rintro e w3 ⟨rfl, rfl⟩
        go_wp2_with fail
        go_round
        case rel => exact ⟨k + 1, by go_num, by omega, by rw [HN.out, HX.out]; rfl⟩
        case measure => simp [intOf]; omega
    · obtain rfl : k = vs.length := by omega
      rw [List.take_length] at *
      have HM := Lib.hid (majB_two vs some)
      generalize cntI some vs = q at *
      go_wp2_with fail
      go_ret
      exact ⟨by rw [← HM.out]; first | done | rfl, HB.out⟩
end Go.Proofs.Yticcmjiekopnbaa
