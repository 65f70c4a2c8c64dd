/-
  slices.EqualFunc of slices of bytes that read alike.
-/
import Derived.Test.YtpdabpcdmenlaaaDoorAlW
namespace Go.Proofs.YtpdabpcdmenlaaaDoor
set_option linter.unusedVariables false
set_option linter.unusedSimpArgs false
open Go.RowKit

theorem OwnL.open {w : World} {B : Nat} {v : Value} {ls : List (List Int)} {vals : List Value} (h : OwnL w B v ls vals) : (∃ c, v = .slice none 0 c ∧ ls.length = 0) ∨
    ∃ g c, v = .slice (some ⟨g, 0, none⟩) ls.length c ∧ ∀ i, i < ls.length → ∃ a m d, w.cell? ⟨g, i, none⟩ = some (.slice (some ⟨a, 0, none⟩) m d) ∧ Lib.BytesIn w (some ⟨a, 0, none⟩) m (ls.getD i []) ∧ (ls.getD i []).length = m := by
  rcases h.own.2 with ⟨rfl, hz⟩ | ⟨g, cap, cur, rfl, _⟩
  · exact .inl ⟨0, rfl, hz⟩
  · refine .inr ⟨g, cap, rfl, fun i hi => ?_⟩
    obtain ⟨a, m, d, h1, h2, h3⟩ := h.each i hi
    exact ⟨a, m, d, by rw [h.own.cellAt i (by omega), h1], h2, h3⟩

set_option maxRecDepth 100000 in
set_option maxHeartbeats 1600000 in
theorem EqF_none (p q : Option Addr) (c d : Nat) (w : World) :
    Calls Tryd.prog 50 #[.slice p 0 c, .slice q 0 d, .func (.func 18) #[] #[]] w (fun e w' => e = .returned (.bool true) ∧ w = w') := by
  go_enter Tryd.func50, Tryd.ntmps50
  go_wp2_with fail
  all_goals
    refine wp_loop_rounds 1 ?_
    rw [rounds_succ]
    go_wp2_with fail
    go_ret
    exact ⟨rfl, rfl⟩

set_option maxRecDepth 100000 in
set_option maxHeartbeats 1600000 in
theorem EqF_some (g1 g2 k c d : Nat) (ls : List (List Int)) (w : World) (hkb : k ≤ 100000)
    (h1 : ∀ i, i < k → ∃ a m d, w.cell? ⟨g1, i, none⟩ = some (.slice (some ⟨a, 0, none⟩) m d) ∧ Lib.BytesIn w (some ⟨a, 0, none⟩) m (ls.getD i []) ∧ (ls.getD i []).length = m)
    (h2 : ∀ i, i < k → ∃ a m d, w.cell? ⟨g2, i, none⟩ = some (.slice (some ⟨a, 0, none⟩) m d) ∧ Lib.BytesIn w (some ⟨a, 0, none⟩) m (ls.getD i []) ∧ (ls.getD i []).length = m) :
    Calls Tryd.prog 50 #[.slice (some ⟨g1, 0, none⟩) k c, .slice (some ⟨g2, 0, none⟩) k d, .func (.func 18) #[] #[]] w (fun e w' => e = .returned (.bool true) ∧ w = w') := by
  have H1 := Lib.hid h1
  have H2 := Lib.hid h2
  clear h1 h2
  go_enter Tryd.func50, Tryd.ntmps50
  go_wp2_with fail
  go_loop [17] (fun i => ∃ j : Nat, j ≤ k ∧ i = .int .i64 j) (fun i => k - (intOf i).toNat)
  case atStart => exact ⟨0, Nat.zero_le _, rfl⟩
  case round =>
    obtain ⟨j, hj, rfl⟩ := hrel
    by_cases hlt : j < k
    · obtain ⟨a1, m1, d1, hc1, hi1, hl1⟩ := H1.out j hlt
      obtain ⟨a2, m2, d2, hc2, hi2, hl2⟩ := H2.out j hlt
      have Heq := Lib.hid (Equal_same (some ⟨a1, 0, none⟩) (some ⟨a2, 0, none⟩) m1 d1 m2 d2 _ w hl1 hl2 hi1 hi2)
      clear hi1 hi2 hl1 hl2
      go_wp2_with fail
      go_fit Heq.out
      rintro e w' ⟨rfl, rfl⟩
      go_wp2_with fail
      go_round
      case rel => exact ⟨j + 1, by omega, by go_num⟩
      case measure => simp [intOf]; omega
    · go_wp2_with fail
      go_ret
      exact ⟨rfl, rfl⟩

theorem EqF_any {w : World} {B1 B2 : Nat} {v1 v2 : Value} {ls : List (List Int)} {vals1 vals2 : List Value} (h1 : OwnL w B1 v1 ls vals1) (h2 : OwnL w B2 v2 ls vals2) (hl : ls.length ≤ 100000) :
    Calls Tryd.prog 50 #[v1, v2, .func (.func 18) #[] #[]] w (fun e w' => e = .returned (.bool true) ∧ w = w') := by
  rcases Nat.eq_zero_or_pos ls.length with h0 | h0
  · have e1 : ∃ p c, v1 = .slice p 0 c := by
      rcases h1.open with ⟨c, e, _⟩ | ⟨g, c, e, _⟩
      · exact ⟨_, _, e⟩
      · rw [h0] at e; exact ⟨_, _, e⟩
    have e2 : ∃ p c, v2 = .slice p 0 c := by
      rcases h2.open with ⟨c, e, _⟩ | ⟨g, c, e, _⟩
      · exact ⟨_, _, e⟩
      · rw [h0] at e; exact ⟨_, _, e⟩
    obtain ⟨p, c, rfl⟩ := e1
    obtain ⟨q, d, rfl⟩ := e2
    exact EqF_none p q c d w
  · rcases h1.open with ⟨_, _, e⟩ | ⟨g1, c, rfl, h1'⟩
    · omega
    rcases h2.open with ⟨_, _, e⟩ | ⟨g2, d, rfl, h2'⟩
    · omega
    exact EqF_some g1 g2 _ c d ls w hl h1' h2'

set_option maxRecDepth 100000 in
set_option maxHeartbeats 1600000 in
theorem All_none (w : World) (hT : TabIn w) : Calls Tryd.prog 48 #[.slice none 0 0] w (AllP w.heap.size w []) := by
  have HN := Lib.hid (Next_nx none 0 0 [] w rfl (fun h => absurd h (by omega)) hT (fun x hx => by cases hx) (by omega) (by omega))
  go_enter Tryd.func48, Tryd.ntmps48
  go_wp2_with fail
  all_goals
    refine wp_loop_rounds 1 ?_
    rw [rounds_succ]
    go_wp2_with fail
    go_fit HN.out
    rintro e w2 (⟨h1, rfl, hb2⟩ | ⟨h1, _⟩)
    · rw [next_empty]
      have Hb2 := Lib.hid hb2
      clear hb2 h1
      go_wp2_with fail
      go_ret2
      exact ⟨0, _, [], rfl, (fun i hi => absurd hi (by omega)), (by rw [List.drop_nil, next_empty]; decide), rfl, OwnL.nil _ _, Hb2.out⟩
    · rw [next_empty] at h1; cases h1

set_option maxRecDepth 100000 in
set_option maxHeartbeats 1600000 in
theorem RAll_none (p : Option Addr) (c : Nat) (w : World) : Calls Tryd.prog 49 #[.slice p 0 c] w (AllP w.heap.size w []) := by
  go_enter Tryd.func49, Tryd.ntmps49
  go_wp2_with fail
  all_goals
    refine wp_loop_rounds 1 ?_
    rw [rounds_succ]
    go_wp2_with fail
    go_ret2
    exact ⟨0, _, [], rfl, (fun i hi => absurd hi (by omega)), (by rw [List.drop_nil, next_empty]; decide), rfl, OwnL.nil _ _, Below.refl _ _⟩

end Go.Proofs.YtpdabpcdmenlaaaDoor
