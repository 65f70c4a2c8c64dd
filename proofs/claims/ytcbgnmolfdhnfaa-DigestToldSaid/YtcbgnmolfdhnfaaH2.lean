/-
  Parts asked; digits; what is searched by.
-/
import Derived.Test.YtcbgnmolfdhnfaaH1
namespace Go.Proofs.Ytcbgnmolfdhnfaa
set_option linter.unusedVariables false
set_option linter.unusedSimpArgs false
open Go.RowKit
variable {s : Sd} {w : World} {A : Nat → Prop} {n : Nat} {q : Option Addr} {S : List Pl}

theorem PtIn.some (h : PtIn s w A n q S) (hS : S ≠ []) : ∃ b av, q = Option.some ⟨b, 0, none⟩ ∧ A b ∧ w.cell? ⟨b, 0, none⟩ = Option.some (.int .u64 (s.tr n S)) ∧ w.cell? ⟨b, 1, none⟩ = Option.some av ∧ ∃ g off c, av = .slice (Option.some ⟨g, off, none⟩) S.length c ∧ S.length ≤ c ∧ c ≤ 9223372036854775807 ∧ A g ∧ PairsAt w g off S := by
  cases n with
  | zero =>
    rcases h with ⟨h, _⟩ | ⟨_, b, av, hq, hb, c0, c1, _, h⟩
    · exact absurd h hS
    · exact ⟨b, av, hq, hb, c0, c1, h⟩
  | succ n =>
    rcases h with ⟨h, _⟩ | ⟨_, b, av, kg, kc, hq, hb, c0, c1, _, _, _, h, _⟩
    · exact absurd h hS
    · exact ⟨b, av, hq, hb, c0, c1, h⟩
theorem PtIn.none_ (h : PtIn s w A n q []) : q = none := by
  cases n with
  | zero =>
    rcases h with ⟨_, h⟩ | ⟨h, _⟩
    · exact h
    · exact absurd rfl h
  | succ n =>
    rcases h with ⟨_, h⟩ | ⟨h, _⟩
    · exact h
    · exact absurd rfl h

set_option maxRecDepth 100000 in
set_option maxHeartbeats 800000 in
theorem told_any (h : PtIn s w A n q S) : Calls Try.prog 51 #[.pointer q] w fun e w' => e = .returned (.int .u64 (s.tr n S : Nat)) ∧ w = w' := by
  by_cases hS : S = []
  · subst hS
    obtain rfl := h.none_
    clear h
    rw [s.tr_nil]
    go_enter Try.func51, Try.ntmps51
    go_wp2_with fail
    go_ret
    exact ⟨rfl, rfl⟩
  · obtain ⟨b, av, rfl, _, c0, _⟩ := h.some hS
    generalize s.tr n S = x at *
    clear h
    go_enter Try.func51, Try.ntmps51
    go_wp2_with fail
    go_ret
    exact ⟨rfl, rfl⟩
def PairsOf (S : List Pl) (w : World) (e : Ending) (w' : World) : Prop := ∃ v, e = .returned v ∧ w = w' ∧ plL.In w v S
theorem pairs_in {g off c : Nat} (hS : S ≠ []) (h1 : S.length ≤ c) (h2 : c ≤ 9223372036854775807) (hp : PairsAt w g off S) : plL.In w (.slice (Option.some ⟨g, off, none⟩) S.length c) S :=
  ⟨_, c, rfl, h1, h2, .inr ⟨g, off, rfl, pairs_block hp hS, fun i x hx j v hv => by
    obtain ⟨h0, h1, h2⟩ := hp i x hx
    have e : plL.sz = 3 := rfl
    rw [e]
    rcases j with _ | _ | _ | j
    · cases hv; exact h0
    · cases hv; exact h1
    · cases hv; exact h2
    · simp [plL] at hv⟩⟩
set_option maxRecDepth 100000 in
set_option maxHeartbeats 800000 in
theorem pairs_any (h : PtIn s w A n q S) : Calls Try.prog 55 #[.pointer q] w (PairsOf S w) := by
  by_cases hS : S = []
  · subst hS
    obtain rfl := h.none_
    clear h
    go_enter Try.func55, Try.ntmps55
    go_wp2_with fail
    go_ret
    exact ⟨_, rfl, rfl, Lay.In.nil _⟩
  · obtain ⟨b, av, rfl, _, c0, c1, g, off, c, rfl, h1, h2, _, hp⟩ := h.some hS
    have HI := Lib.hid (pairs_in hS h1 h2 hp)
    clear h c0 h1 h2 hp
    go_enter Try.func55, Try.ntmps55
    go_wp2_with fail
    go_ret
    exact ⟨_, rfl, rfl, HI.out⟩
def KidOf (s : Sd) (A : Nat → Prop) (n i : Nat) (S : List Pl) (w : World) (e : Ending) (w' : World) : Prop := ∃ r, e = .returned (.pointer r) ∧ w = w' ∧ PtIn s w A n r (sub n i S)
set_option maxRecDepth 100000 in
set_option maxHeartbeats 800000 in
theorem kid_any (h : PtIn s w A (n + 1) q S) (i : Nat) (hi : i < 16) : Calls Try.prog 66 #[.pointer q, .int .i64 i] w (KidOf s A n i S w) := by
  rcases h with ⟨rfl, rfl⟩ | ⟨hS, b, av, kg, kc, rfl, _, _, _, c2, hkc, _, _, hk⟩
  · go_enter Try.func66, Try.ntmps66
    go_wp2_with fail
    go_ret
    exact ⟨none, rfl, rfl, PtIn.nil n⟩
  · obtain ⟨r, hr, hp⟩ := hk i hi
    have HP := Lib.hid hp
    have hi2 : (i : Int) < 16 := by omega
    clear hk hp hS hi
    go_enter Try.func66, Try.ntmps66
    go_wp2_with fail
    go_ret
    exact ⟨r, rfl, rfl, HP.out⟩

set_option maxRecDepth 100000 in
set_option maxHeartbeats 1600000 in
theorem digit_any (w : World) (p : Pl) (n : Nat) (hn : n < 4) (hp : p.1.1 < 65536) : Calls Try.prog 78 #[.agg #[.string p.1.2, .string p.2, .int .u64 p.1.1], .int .i64 (3 - (n : Int))] w fun e w' => e = .returned (.int .i64 (dgt n p : Nat)) ∧ Below w.heap.size w w' := by
  obtain ⟨⟨d, k⟩, v⟩ := p
  simp only at hp ⊢
  have HB := Lib.hid (below_alloc w (.cells #[.string k, .string v, .int .u64 d] 118))
  have h : n = 0 ∨ n = 1 ∨ n = 2 ∨ n = 3 := by omega
  rcases h with rfl | rfl | rfl | rfl
  · have HE : Hid ((d : Int) % 16 = ((dgt 0 ((d, k), v) : Nat) : Int)) := by refine Lib.hid ?_; unfold dgt; simp
    go_enter Try.func78, Try.ntmps78
    go_wp2_with fail
    go_ret
    try rw [HE.out]
    exact ⟨rfl, HB.out⟩
  · have HE : Hid ((d : Int) / 16 % 16 = ((dgt 1 ((d, k), v) : Nat) : Int)) := by refine Lib.hid ?_; unfold dgt; simp
    have b1 : (d : Int) / 16 ≤ 65536 := by omega
    go_enter Try.func78, Try.ntmps78
    go_wp2_with fail
    go_ret
    try rw [HE.out]
    exact ⟨rfl, HB.out⟩
  · have HE : Hid ((d : Int) / 256 % 16 = ((dgt 2 ((d, k), v) : Nat) : Int)) := by refine Lib.hid ?_; unfold dgt; simp
    have b1 : (d : Int) / 256 ≤ 65536 := by omega
    go_enter Try.func78, Try.ntmps78
    go_wp2_with fail
    go_ret
    try rw [HE.out]
    exact ⟨rfl, HB.out⟩
  · have HE : Hid ((d : Int) / 4096 % 16 = ((dgt 3 ((d, k), v) : Nat) : Int)) := by refine Lib.hid ?_; unfold dgt; simp
    have b1 : (d : Int) / 4096 ≤ 65536 := by omega
    go_enter Try.func78, Try.ntmps78
    go_wp2_with fail
    go_ret
    try rw [HE.out]
    exact ⟨rfl, HB.out⟩
end Go.Proofs.Ytcbgnmolfdhnfaa
