/-
  The walk of WireNexts.
-/
import Derived.Test.YtpdabpcdmenlaaaDoorEqF
namespace Go.Proofs.YtpdabpcdmenlaaaDoor
set_option linter.unusedVariables false
set_option linter.unusedSimpArgs false
open Go.RowKit

def nyP (xs : List Int) : List Int := if (nextAt xs).2.2 = 0 then (nextAt xs).1 else []
def nyM (xs : List Int) : Nat := if (nextAt xs).2.2 = 0 then (nextAt xs).2.1 else 0

theorem next_size (ys : List Int) (h : (nextAt ys).2.2 = 0) : 1 ≤ (nextAt ys).2.1 ∧ (nextAt ys).2.1 ≤ ys.length := by
  revert h
  unfold nextAt
  split
  · rename_i h1; intro h; exact absurd h h1
  split
  · intro h; cases h
  split
  · intro h; cases h
  split
  · intro h; cases h
  rename_i h1 _
  intro _
  simp only []
  omega

theorem run_at (xs : List Int) : ∀ k, Good xs k → k ≤ (run xs k).2 ∧ (run xs k).2 ≤ xs.length
  | 0, _ => ⟨Nat.zero_le _, Nat.zero_le _⟩
  | k + 1, h => by
    have ih := run_at xs k (fun i hi => h i (by omega))
    have hs := next_size _ (h k (by omega))
    rw [List.length_drop] at hs
    rw [run]
    simp only []
    omega

/-- The Nexts' answer, as it is read later. -/
def NY (B : Nat) (w : World) (xs : List Int) (e : Ending) (w' : World) : Prop :=
  ∃ p n c, e = .returned (.tuple #[.slice p n c, .int .i64 (nyM xs), .int .i64 (nextAt xs).2.2]) ∧ Lib.BytesIn w' p n (nyP xs) ∧ (nyP xs).length = n ∧ Below B w w'

theorem NX.read {B : Nat} {w : World} {xs : List Int} {e : Ending} {w' : World} (h : NX B w xs e w') : NY B w xs e w' := by
  unfold NY nyP nyM
  rcases h with ⟨h1, rfl, hb⟩ | ⟨h1, _, _, g, n, c, rfl, hown, hb⟩
  · rw [if_neg h1, if_neg h1]
    exact ⟨none, 0, 0, rfl, fun h => absurd h (by omega), rfl, hb⟩
  · rw [if_pos h1, if_pos h1]
    exact ⟨_, n, c, by rw [h1], owns_in hown, owns_len hown, hb⟩

/-- A slice's clone, and where it lies. -/
def ClonedAt (w : World) (xs : List Int) (e : Ending) (w' : World) : Prop :=
  (e = .returned (.slice none 0 0) ∧ xs.length = 0 ∧ Below w.heap.size w w') ∨
  ∃ g n c, e = .returned (.slice (some ⟨g, 0, none⟩) n c) ∧ Lib.BytesIn w' (some ⟨g, 0, none⟩) n xs ∧ xs.length = n ∧ n ≤ c ∧ Below w.heap.size w w'

set_option maxHeartbeats 800000 in
theorem Clone_at (p : Option Addr) (n c : Nat) (xs : List Int) (w : World) (hx : xs.length = n) (hb : Lib.BytesIn w p n xs) (hp : p = none → n = 0 ∧ c = 0) (h1 : n ≤ 140737488355328) :
    Calls Tryd.prog 15 #[.slice p n c] w (ClonedAt w xs) := by
  have Hx := Lib.hid hx
  have Hb := Lib.hid hb
  have q22 : ∀ (w : World) (a : Option Addr) (n c n' c' : Nat), (binOp .eql 22 (.slice a n c) (.slice none n' c')).run Tryd.prog w = .ok (.bool a.isNone) w := fun w a n c n' c' => Lib.run_eql_slice_nil w _ _ a n c n' c' Tryd.underlying22
  clear hx hb
  cases p with
  | none =>
    obtain ⟨rfl, rfl⟩ := hp rfl
    go_enter Tryd.func15, Tryd.ntmps15
    go_wp2_with fail
    go_ret
    exact .inl ⟨rfl, Hx.out, Below.refl _ _⟩
  | some ad =>
    have hb0 := (Below.refl w.heap.size w).alloc (Nat.le_refl _) (.cells #[] 5)
    have hin0 := later Hb.out hb0
    go_enter Tryd.func15, Tryd.ntmps15
    go_wp2_with (at_builtin; go_loud (refine wpList_push rfl _ _ rfl w.heap.size w.heap.size 0 0 [] rfl (own_lit w.heap.size _ [] rfl (Nat.le_refl _) (by simp)) (some ad) n c xs rfl hin0 Hx.out hp (by omega) (by simp) ?_; intro g1 c1 w1 hown1 hgrow1))
    simp only [Nat.zero_add, List.nil_append] at hown1
    have hc1 : n ≤ c1 := by
      rcases hown1.2 with ⟨h, _⟩ | ⟨_, cap, _, h, _, _, h2, _⟩
      · cases h
      · simp only [Value.slice.injEq] at h; omega
    go_ret
    exact .inr ⟨g1, n, c1, by simp, owns_in hown1, Hx.out, hc1, made_grown hb0 hgrow1 (by simp) (Nat.le_refl _)⟩

theorem RAll_full (p : Option Addr) (n c : Nat) (xs : List Int) (w : World) (hx : xs.length = n) (hb : Lib.BytesIn w p n xs) (hr : ∀ x ∈ xs, 0 ≤ x ∧ x < 256) (hnc : n ≤ c) (hn : n ≤ 65536) :
    Calls Tryd.prog 49 #[.slice p n c] w (AllP w.heap.size w xs) := by
  rcases Nat.eq_zero_or_pos n with h0 | h0
  · obtain rfl : xs = [] := List.eq_nil_of_length_eq_zero (by omega)
    subst h0
    exact RAll_none p c w
  · obtain ⟨b, o, rfl, _⟩ := hb h0
    exact RAll_any b o n c xs w hx hb hr hnc hn

def ClonedAll (w : World) (xs : List Int) (e : Ending) (w' : World) : Prop :=
  ∃ p1 n1 c1, e = .returned (.slice p1 n1 c1) ∧ Lib.BytesIn w' p1 n1 xs ∧ xs.length = n1 ∧ n1 ≤ c1 ∧ Below w.heap.size w w' ∧
    ∀ W, Below w'.heap.size w' W → Calls Tryd.prog 48 #[.slice p1 n1 c1] W (AllP W.heap.size W xs)

theorem Clone_all (p : Option Addr) (n c : Nat) (xs : List Int) (w : World) (hx : xs.length = n) (hb : Lib.BytesIn w p n xs) (hp : p = none → n = 0 ∧ c = 0) (hT : TabIn w) (hr : ∀ x ∈ xs, 0 ≤ x ∧ x < 256) (hn : n ≤ 65536) :
    Calls Tryd.prog 15 #[.slice p n c] w (ClonedAll w xs) := by
  refine (Clone_at p n c xs w hx hb hp (by omega)).mono fun e w' h => ?_
  rcases h with ⟨rfl, h0, hbel⟩ | ⟨g, n1, c1, rfl, hin, hl, hnc, hbel⟩
  · obtain rfl : xs = [] := List.eq_nil_of_length_eq_zero h0
    exact ⟨none, 0, 0, rfl, fun h => absurd h (by omega), rfl, Nat.le_refl _, hbel, fun W hW => All_none W (hT.later (hbel.trans (hW.mono hbel.size)))⟩
  · exact ⟨_, n1, c1, rfl, hin, hl, hnc, hbel, fun W hW => All_any g 0 n1 c1 xs W hl (later hin hW) (hT.later (hbel.trans (hW.mono hbel.size))) hr hnc (by omega)⟩

set_option maxHeartbeats 800000 in
theorem Nexts_far (p : Option Addr) (n c : Nat) (w : World) (hT : TabIn w) (hn : 65536 < n) :
    Calls Tryd.prog 7 #[.slice p n c] w (Yes w) := by
  have HT := Lib.hid hT
  clear hT
  go_enter Tryd.func7, Tryd.ntmps7
  go_wp2_with fail
  go_fit (awake_any w HT.out)
  rintro e w1 ⟨rfl, hb1⟩
  go_wp2_with fail
  go_ret
  exact ⟨rfl, hb1⟩

set_option maxRecDepth 100000 in
set_option maxHeartbeats 3200000 in
theorem Nexts_near (p : Option Addr) (n c : Nat) (xs : List Int) (w : World) (hT : TabIn w) (hx : xs.length = n) (hb : Lib.BytesIn w p n xs) (hp : p = none → n = 0 ∧ c = 0) (hr : ∀ x ∈ xs, 0 ≤ x ∧ x < 256) (hnc : n ≤ c) (hn : n ≤ 65536) :
    Calls Tryd.prog 7 #[.slice p n c] w (Yes w) := by
  have HRN : Hid (∀ W : World, Below w.heap.size w W → Calls Tryd.prog 47 #[.slice p n c] W (NY W.heap.size W xs)) := fun W h => (RNext_nx p n c xs W hx (later hb h) hr hnc (by omega)).mono fun _ _ h => h.read
  have HRA : Hid (∀ W : World, Below w.heap.size w W → Calls Tryd.prog 49 #[.slice p n c] W (AllP W.heap.size W xs)) := fun W h => RAll_full p n c xs W hx (later hb h) hr hnc hn
  have HT := Lib.hid hT
  have Hx := Lib.hid hx
  have Hb := Lib.hid hb
  have Hr := Lib.hid hr
  have HC : Hid (Calls Tryd.prog 15 #[.slice p n c] w (ClonedAll w xs)) := Clone_all p n c xs w hx hb hp hT hr hn
  have HN : Hid (∀ (W : World) (p1 : Option Addr) (n1 c1 : Nat), Below w.heap.size w W → xs.length = n1 → Lib.BytesIn W p1 n1 xs → n1 ≤ c1 → Calls Tryd.prog 46 #[.slice p1 n1 c1] W (NY W.heap.size W xs)) :=
    fun W p1 n1 c1 h hx1 hin1 hnc1 => (Next_nx p1 n1 c1 xs W hx1 hin1 (hT.later h) hr hnc1 (by omega)).mono fun _ _ h => NX.read h
  clear hT hx hb hr
  go_enter Tryd.func7, Tryd.ntmps7
  go_wp2_with fail
  go_fit HC.out
  rintro e w1 ⟨p1, n1, c1, rfl, hin1, hx1, hnc1, hb1, hall⟩
  have Hin1 := Lib.hid hin1
  have Hx1 := Lib.hid hx1
  have Hb1 := Lib.hid hb1
  have HA := Lib.hid hall
  clear hin1 hx1 hb1 hall
  go_wp2_with fail
  go_fit (HN.out w1 p1 n1 c1 Hb1.out Hx1.out Hin1.out hnc1)
  rintro e w2 ⟨p2, n2, c2, rfl, hin2, hl2, hb2⟩
  have Hin2 := Lib.hid hin2
  have Hl2 := Lib.hid hl2
  have Hs2 := Lib.hid hb2
  have Hb2 := Lib.hid (Hb1.out.trans (hb2.mono Hb1.out.size))
  clear hin2 hl2 hb2
  go_wp2_with fail
  go_fit (HRN.out w2 Hb2.out)
  rintro e w3 ⟨p3, n3, c3, rfl, hin3, hl3, hb3⟩
  have Hin3 := Lib.hid hin3
  have Hl3 := Lib.hid hl3
  have Hs3 := Lib.hid hb3
  have Hs13 := Lib.hid (Hs2.out.trans (hb3.mono Hs2.out.size))
  have Hb3 := Lib.hid (Hb2.out.trans (hb3.mono Hb2.out.size))
  clear hin3 hl3 hb3
  go_wp2_with fail
  go_fit (HA.out w3 Hs13.out)
  rintro e w4 ⟨k, v4, vals4, rfl, hG4, hE4, hl4, hL4, hb4⟩
  have HG4 := Lib.hid hG4
  have HE4 := Lib.hid hE4
  have Hl4 := Lib.hid hl4
  have HL4 := Lib.hid hL4
  have Hs4 := Lib.hid hb4
  have Hb4 := Lib.hid (Hb3.out.trans (hb4.mono Hb3.out.size))
  clear hG4 hE4 hl4 hL4 hb4
  go_wp2_with fail
  go_fit (HRA.out w4 Hb4.out)
  rintro e w5 ⟨j, v5, vals5, rfl, hG5, hE5, hl5, hL5, hb5⟩
  obtain rfl : k = j := run_one HG4.out hG5 HE4.out hE5
  have HL5 := Lib.hid hL5
  have HL45 := Lib.hid (HL4.out.later hb5)
  have Hs45 := Lib.hid hb5
  have Hb5 := Lib.hid (Hb4.out.trans (hb5.mono Hb4.out.size))
  have Hs35 := Lib.hid (Hs4.out.trans (hb5.mono Hs4.out.size))
  have Hs25 := Lib.hid (Hs3.out.trans (Hs35.out.mono Hs3.out.size))
  have Hs15 := Lib.hid (Hs2.out.trans (Hs25.out.mono Hs2.out.size))
  have Heq1 := Lib.hid (Equal_same p2 p3 n2 c2 n3 c3 _ w5 Hl2.out Hl3.out (later Hin2.out Hs25.out) (later Hin3.out Hs35.out))
  have Heq2 := Lib.hid (Equal_same p1 p n1 c1 n c _ w5 Hx1.out Hx.out (later Hin1.out Hs15.out) (later Hb.out Hb5.out))
  have hk : (run xs k).1.length ≤ 100000 := by
    have h1 := run_at xs k HG4.out
    have h2 := Hx.out
    have h3 := Hl4.out
    omega
  have Heq3 := Lib.hid (EqF_any HL45.out HL5.out hk)
  clear hG5 hE5 hl5 hL5 hb5 HL5 HL45 HL4 HE4 HG4 hk
  generalize (run xs k).2 = K at *
  generalize nyM xs = M at *
  generalize (nextAt xs).2.2 = E at *
  have e1 : ((M : Int) == (M : Int)) = true := beq_self_eq_true _
  have e2 : (E == E) = true := beq_self_eq_true _
  have e3 : ((K : Int) == (K : Int)) = true := beq_self_eq_true _
  go_wp2_with fail
  go_fit Heq1.out
  rintro e w' ⟨rfl, rfl⟩
  go_wp2_with fail
  go_fit Heq3.out
  rintro e w' ⟨rfl, rfl⟩
  go_wp2_with fail
  go_fit Heq2.out
  rintro e w' ⟨rfl, rfl⟩
  go_wp2_with fail
  go_fit (awake_any w5 (HT.out.later Hb5.out))
  rintro e w6 ⟨rfl, hb6⟩
  go_wp2_with fail
  go_ret
  exact ⟨rfl, Hb5.out.trans (hb6.mono Hb5.out.size)⟩

end Go.Proofs.YtpdabpcdmenlaaaDoor
