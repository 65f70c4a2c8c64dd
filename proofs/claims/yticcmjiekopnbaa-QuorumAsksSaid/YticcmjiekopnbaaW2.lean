/-
  Check, May walked; the document's.
-/
import Derived.Test.YticcmjiekopnbaaW1
namespace Go.Proofs.Yticcmjiekopnbaa
set_option linter.unusedVariables false
set_option linter.unusedSimpArgs false
open Go.RowKit

def IntP (x : Int) (w : World) (e : Ending) (w' : World) : Prop := e = .returned (.int .i64 x) ∧ Below w.heap.size w w'
def BoolP (b : Bool) (w : World) (e : Ending) (w' : World) : Prop := e = .returned (.bool b) ∧ Below w.heap.size w w'

theorem Lay.In.drewN {α : Type} {I : Lay α} {w : World} {v : Value} {l : List α} (h : I.In w v l) (N : Nat) : I.In (w.drewN N) v l := by
  obtain ⟨a, c, hv, h1, h2, h⟩ := h
  exact ⟨a, c, hv, h1, h2, h⟩
theorem times_q {w : World} {u : Value} {l : List Int} (h : intL.In w u l) (n : Int) (N : Nat) : Calls Try.prog 42 #[u, .int .i64 n] (w.drewN N) fun e w' => e = .returned (.int .i64 (l.count n : Nat)) ∧ w' = w.drewN N :=
  (times_any (h.drewN N) n).mono fun e w' ⟨he, hw⟩ => ⟨he, hw.symm⟩
theorem RoCs.drewN {w : World} {u v : Value} {vs ls : List Int} (h : RoCs w u v vs ls) (N : Nat) : RoCs (w.drewN N) u v vs ls := ⟨h.1.drewN N, h.2.drewN N⟩
theorem below_drewN {B : Nat} {w w' : World} (h : Below B w w') (N : Nat) : Below B w (w'.drewN N) := ⟨h.os, h.tape, h.output, h.size, h.block⟩

/-- Another world that only drew. -/
def Drawn (w w' : World) : Prop := ∃ N, w' = w.drewN N
theorem Drawn.cell {w w' : World} (h : Drawn w w') {p : Addr} {v : Value} (hc : w.cell? p = some v) : w'.cell? p = some v := by obtain ⟨N, rfl⟩ := h; exact hc
theorem Drawn.cs {w w' : World} (h : Drawn w w') {u v : Value} {vs ls : List Int} (hc : RoCs w u v vs ls) : RoCs w' u v vs ls := by obtain ⟨N, rfl⟩ := h; exact hc.drewN N
theorem Drawn.below {w w' : World} (h : Drawn w w') {B : Nat} {w0 : World} (hb : Below B w0 w) : Below B w0 w' := by obtain ⟨N, rfl⟩ := h; exact below_drewN hb N
theorem Drawn.next {w w' : World} (h : Drawn w w') (N : Nat) : Drawn w (w'.drewN N) := by
  obtain ⟨M, rfl⟩ := h
  refine ⟨M + N, ?_⟩
  unfold World.drewN
  simp [Nat.add_assoc]
set_option maxRecDepth 100000 in
set_option maxHeartbeats 1600000 in
theorem Check_any {w : World} {u v : Value} {vs ls : List Int} (h : RoCs w u v vs ls) : Calls Try.prog 14 #[.agg #[u, v]] w (IntP (ckE vs ls) w) := by
  have hb0 := lay_alloc w (.cells #[u, v] 24)
  have H := Lib.hid (ways_any (h.later hb0))
  have HB := Lib.hid hb0
  obtain ⟨a1, c1, rfl, _, _⟩ := h.1.slice
  obtain ⟨a2, c2, rfl, _, _⟩ := h.2.slice
  clear h hb0
  by_cases hok : okR vs ls = true
  · have HE : Hid (ckE vs ls = 0) := by show _ = _; rw [ckE, if_pos hok]
    rw [HE.out]
    go_enter Try.func14, Try.ntmps14
    go_wp2_with fail
    go_fit H.out
    rintro e w1 ⟨F, rfl, _, hb⟩
    rw [hok]
    clear hok
    have HB1 := Lib.hid hb
    clear hb
    go_wp2_with fail
    go_ret
    exact ⟨rfl, (HB.out.trans (HB1.out.mono HB.out.size)).trans ((lay_alloc w1 _).mono (Nat.le_trans HB.out.size HB1.out.size))⟩
  · have hok : okR vs ls = false := by simpa using hok
    have HE : Hid (ckE vs ls = 110) := by show _ = _; rw [ckE, hok]; rfl
    rw [HE.out]
    go_enter Try.func14, Try.ntmps14
    go_wp2_with fail
    go_fit H.out
    rintro e w1 ⟨F, rfl, _, hb⟩
    rw [hok]
    clear hok
    have HB1 := Lib.hid hb
    clear hb
    go_wp2_with fail
    go_ret
    exact ⟨rfl, (HB.out.trans (HB1.out.mono HB.out.size)).trans ((lay_alloc w1 _).mono (Nat.le_trans HB.out.size HB1.out.size))⟩

set_option maxRecDepth 100000 in
set_option maxHeartbeats 3200000 in
theorem RCheck_any {w : World} {u v : Value} {vs ls : List Int} (h : RoCs w u v vs ls) (l1 : vs.length ≤ 100000) (l2 : ls.length ≤ 100000) : Calls Try.prog 15 #[.agg #[u, v]] w (IntP (ckE vs ls) w) := by
  have hb0 := lay_alloc w (.cells #[u, v] 24)
  have hh := Go.heap_alloc_new w (.cells #[u, v] 24)
  have h' := h.later hb0
  obtain ⟨a1, c1, rfl, _, _⟩ := h.1.slice
  obtain ⟨a2, c2, rfl, _, _⟩ := h.2.slice
  clear h
  go_enter Try.func15, Try.ntmps15
  go_wp2_with fail
  generalize World.alloc _ _ = w1 at *
  have c0 : w1.cell? ⟨w.heap.size, 0, none⟩ = some (.slice a1 vs.length c1) := by rw [cell_of_row w1 _ _ _ _ _ hh]; rfl
  have c1' : w1.cell? ⟨w.heap.size, 1, none⟩ = some (.slice a2 ls.length c2) := by rw [cell_of_row w1 _ _ _ _ _ hh]; rfl
  clear hh
  have HI := Lib.hid h'
  have HB0 := Lib.hid hb0
  clear h' hb0
  go_loopw [3, 6] (fun a i wr => ∃ (k : Nat), i = .int .i64 k ∧ k ≤ 5 ∧ a = .int .i64 ((cnSum vs ls k : Nat) : Int) ∧ (∀ j, j < k → cn vs ls (j : Nat) ≤ 1) ∧ Drawn w1 wr) (fun _ i _ => 5 - (intOf i).toNat)
  case atStart => exact ⟨0, rfl, by omega, rfl, fun j hj => absurd hj (Nat.not_lt_zero _), ⟨0, rfl⟩⟩
  case round =>
    obtain ⟨k, rfl, hk, rfl, hle, hD⟩ := hrel
    have c0 := hD.cell c0
    have c1' := hD.cell c1'
    have HD := Lib.hid hD
    have HI := Lib.hid (hD.cs HI.out)
    clear hD
    have hsum : ∀ k, (∀ j, j < k → cn vs ls (j : Nat) ≤ 1) → cnSum vs ls k ≤ k := fun k => by
      induction k with
      | zero => intro _; exact Nat.le_refl _
      | succ k ih => intro h; have := ih fun j hj => h j (by omega); have := h k (by omega); simp only [cnSum]; omega
    have hsum' := Lib.hid (hsum k hle)
    clear hsum
    by_cases hlt : k < 5
    · have hc1 : vs.count (k : Int) ≤ 100000 := Nat.le_trans List.count_le_length l1
      have hc2 : ls.count (k : Int) ≤ 100000 := Nat.le_trans List.count_le_length l2
      have HC : Hid (cn vs ls (k : Nat) = vs.count (k : Int) + ls.count (k : Int)) := by show _ = _; rfl
      have HS : Hid (cnSum vs ls (k + 1) = cnSum vs ls k + cn vs ls (k : Nat)) := by show _ = _; rfl
      have HA := Lib.hid (fun N => times_q HI.out.1 (k : Nat) N)
      have HB := Lib.hid (fun N => times_q HI.out.2 (k : Nat) N)
      generalize vs.count ((k : Nat) : Int) = p at *
      generalize ls.count ((k : Nat) : Int) = q at *
      have e1 : IntKind.i64.wrap ((p : Int) + (q : Int)) = (p : Int) + (q : Int) := IntWalk.i64_in _ (by omega)
      go_wp2_with fail
      clear hc1 hc2
      go_quiet ((go_at_call 42; first | (with_reducible exact Calls.quiet_of_same (HA.out _)) | (with_reducible exact Calls.quiet_of_same (HB.out _))))
      clear e1
      by_cases h1 : p + q ≤ 1
      · have b1 : ¬ ((1 : Int) < (p : Int) + (q : Int)) := by omega
        have e2 : IntKind.i64.wrap (((cnSum vs ls k : Nat) : Int) + ((p : Int) + (q : Int))) = ((cnSum vs ls k : Nat) : Int) + ((p : Int) + (q : Int)) := IntWalk.i64_in _ (by have := hsum'.out; omega)
        go_wp2_with fail
        exact ⟨⟨k + 1, by go_num, by omega, by rw [HS.out, HC.out]; go_num, (fun j hj => by
          rcases Nat.lt_or_eq_of_le (Nat.le_of_lt_succ hj) with hj | rfl
          · exact hle j hj
          · rw [HC.out]; exact h1), HD.out.next nq⟩, by simp [intOf]; omega⟩
      · have b1 : (1 : Int) < (p : Int) + (q : Int) := by omega
        have HE : Hid (ckE vs ls = 110) := by
          show _ = _
          unfold ckE
          rw [if_neg]
          intro h
          have := ((okR_ref vs ls).1 h).1 k hlt
          rw [HC.out] at this
          exact h1 this
        go_wp2_with fail
        go_ret
        exact ⟨by rw [HE.out]; first | done | rfl, (HD.out.next nq).below HB0.out⟩
    · obtain rfl : k = 5 := by omega
      have HE : Hid (ckE vs ls = if cnSum vs ls 5 = vs.length + ls.length ∧ 0 < vs.length then 0 else 110) := by
        show _ = _
        unfold ckE
        by_cases h : okR vs ls = true
        · rw [if_pos h, if_pos ((okR_ref vs ls).1 h).2]
        · rw [if_neg h, if_neg (fun h' => h ((okR_ref vs ls).2 ⟨hle, h'⟩))]
      have hs5 := hsum'.out
      clear hle hsum'
      generalize cnSum vs ls 5 = c at *
      have e1 : IntKind.i64.wrap ((vs.length : Int) + (ls.length : Int)) = (vs.length : Int) + (ls.length : Int) := IntWalk.i64_in _ (by omega)
      by_cases h1 : c = vs.length + ls.length
      · have b1 : ((c : Int) != (vs.length : Int) + (ls.length : Int)) = false := by rw [bne_eq_false_iff_eq]; omega
        have H1 := Lib.hid h1
        clear h1
        by_cases h2 : 0 < vs.length
        · have b2 : ((vs.length : Int) == 0) = false := by rw [beq_eq_false_iff_ne]; omega
          have HG : Hid (ckE vs ls = 0) := by show _ = _; rw [HE.out, if_pos ⟨H1.out, h2⟩]
          clear h2
          go_wp2_with fail
          go_ret
          exact ⟨by rw [HG.out]; first | done | rfl, HD.out.below HB0.out⟩
        · have b2 : ((vs.length : Int) == 0) = true := by rw [beq_iff_eq]; omega
          have HG : Hid (ckE vs ls = 110) := by show _ = _; rw [HE.out, if_neg (fun h => h2 h.2)]
          clear h2
          go_wp2_with fail
          go_ret
          exact ⟨by rw [HG.out]; first | done | rfl, HD.out.below HB0.out⟩
      · have b1 : ((c : Int) != (vs.length : Int) + (ls.length : Int)) = true := by rw [bne_iff_ne]; omega
        have HG : Hid (ckE vs ls = 110) := by show _ = _; rw [HE.out, if_neg (fun h => h1 h.1)]
        clear h1
        go_wp2_with fail
        go_ret
        exact ⟨by rw [HG.out]; first | done | rfl, HD.out.below HB0.out⟩
end Go.Proofs.Yticcmjiekopnbaa
