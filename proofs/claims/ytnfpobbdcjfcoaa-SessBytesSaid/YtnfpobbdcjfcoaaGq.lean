/-
  Plain facts: the bytes that a table was read from are its bytes.
-/
import Derived.Test.YtnfpobbdcjfcoaaTake
import Derived.Test.YtnfpobbdcjfcoaaPut
namespace Go.Proofs.Ytnfpobbdcjfcoaa
set_option linter.unusedVariables false
set_option linter.unusedSimpArgs false
open Go.RowKit

theorem wn_take {xs : List Int} {lo hi : Int} {p : Nat × Int} (hr : ∀ x ∈ xs, 0 ≤ x ∧ x < 256) (h : (wn xs lo hi p).2.2 = 0) : p.2 = 0 ∧ xs.take (wn xs lo hi p).2.1 = xs.take p.1 ++ num (wn xs lo hi p).1.toNat := by
  obtain ⟨i, e⟩ := p
  obtain ⟨he, N, S, hn, hw, _, _⟩ := wn_ok h
  have hb := numAt_back (xs.drop i) (fun x hx => hr x (List.mem_of_mem_drop hx)) N S hn
  refine ⟨he, ?_⟩
  rw [hw]
  show xs.take (i + S) = xs.take i ++ num N
  rw [hb.1, List.take_add]
theorem gRow_take {xs : List Int} {lo hi : Int} {p : Nat × Int} (hr : ∀ x ∈ xs, 0 ≤ x ∧ x < 256) (h : (gRow xs lo hi p).2.2 = 0) : p.2 = 0 ∧ xs.take (gRow xs lo hi p).2.1 = xs.take p.1 ++ sput (gRow xs lo hi p).1 := by
  unfold gRow at h ⊢
  simp only at h ⊢
  have a4 := wn_take hr h
  have a3 := wn_take hr a4.1
  have a2 := wn_take hr a3.1
  have a1 := wn_take hr a2.1
  refine ⟨a1.1, ?_⟩
  rw [a4.2, a3.2, a2.2, a1.2]
  simp only [sput, nums, List.map_cons, List.map_nil, List.flatten_cons, List.flatten_nil, List.append_nil, List.append_assoc]
theorem gRows_take {xs : List Int} (hr : ∀ x ∈ xs, 0 ≤ x ∧ x < 256) (bg : Int) (p : Nat × Int) : ∀ k, (gRows xs bg p k).2.2 = 0 → p.2 = 0 ∧ xs.take (gRows xs bg p k).2.1 = xs.take p.1 ++ tputs (gRows xs bg p k).1
  | 0, h => ⟨h, by simp [gRows, tputs]⟩
  | k + 1, h => by
    have a := gRow_take hr (show (gRow xs (lid (gRows xs bg p k).1 + 1) bg (gRows xs bg p k).2).2.2 = 0 from h)
    have b := gRows_take hr bg p k a.1
    refine ⟨b.1, ?_⟩
    show xs.take (gRow xs (lid (gRows xs bg p k).1 + 1) bg (gRows xs bg p k).2).2.1 = xs.take p.1 ++ tputs ((gRows xs bg p k).1 ++ [(gRow xs (lid (gRows xs bg p k).1 + 1) bg (gRows xs bg p k).2).1])
    rw [a.2, b.2]
    simp [tputs]
theorem gAll_take {xs : List Int} (hr : ∀ x ∈ xs, 0 ≤ x ∧ x < 256) (h : (gAll xs 0 0).2.2 = 0) : xs.take (gAll xs 0 0).2.1 = tput ⟨gBg xs 0 0, (gAll xs 0 0).1⟩ := by
  have a := gRows_take hr _ _ _ h
  have b := wn_take hr (show (wn xs 0 8 (wn xs 0 top40 (0, 0)).2).2.2 = 0 from a.1)
  have c := wn_take hr b.1
  have hl : (gAll xs 0 0).1.length = (gCn xs 0 0).toNat := gRows_length _ _ _ _
  have a2 : xs.take (gAll xs 0 0).2.1 = xs.take (wn xs 0 8 (wn xs 0 top40 (0, 0)).2).2.1 ++ tputs (gAll xs 0 0).1 := a.2
  rw [a2, b.2, c.2]
  unfold tput
  simp only [nums, List.map_cons, List.map_nil, List.flatten_cons, List.flatten_nil, List.append_nil, List.append_assoc, List.take_zero, List.nil_append, hl, Int.toNat_natCast]
  rfl
theorem rows_fit (xs : List Int) (bg : Int) (p : Nat × Int) (hb : bg ≤ 9223372036854775807) : ∀ k, ∀ s ∈ (gRows xs bg p k).1, s.id ≤ 9223372036854775807 ∧ s.seq ≤ 9223372036854775807 ∧ s.err ≤ 9223372036854775807 ∧ s.n ≤ 9223372036854775807
  | 0, s, h => by simp [gRows] at h
  | k + 1, s, h => by
    rcases List.mem_append.1 (show s ∈ (gRows xs bg p k).1 ++ [(gRow xs (lid (gRows xs bg p k).1 + 1) bg (gRows xs bg p k).2).1] from h) with h | h
    · exact rows_fit xs bg p hb k s h
    · obtain rfl := List.mem_singleton.1 h
      generalize (gRows xs bg p k).2 = q
      generalize lid (gRows xs bg p k).1 + 1 = lo
      have h1 := wn_range (xs := xs) (lo := lo) (hi := bg) (p := q) (.inr trivial)
      have h2 := wn_range (xs := xs) (lo := 0) (hi := top40) (p := (wn xs lo bg q).2) (.inr trivial)
      have h3 := wn_range (xs := xs) (lo := 0) (hi := 1000) (p := (wn xs 0 top40 (wn xs lo bg q).2).2) (.inr trivial)
      have h4 := wn_range (xs := xs) (lo := 0) (hi := top40) (p := (wn xs 0 1000 (wn xs 0 top40 (wn xs lo bg q).2).2).2) (.inr trivial)
      have ht : top40 = 1099511627776 := rfl
      refine ⟨?_, ?_, ?_, ?_⟩
      · show (wn xs lo bg q).1 ≤ _; omega
      · show (wn xs 0 top40 (wn xs lo bg q).2).1 ≤ _; omega
      · show (wn xs 0 1000 (wn xs 0 top40 (wn xs lo bg q).2).2).1 ≤ _; omega
      · show (wn xs 0 top40 (wn xs 0 1000 (wn xs 0 top40 (wn xs lo bg q).2).2).2).1 ≤ _; omega
theorem gBg_le (xs : List Int) (i : Nat) (err : Int) : gBg xs i err ≤ 9223372036854775807 := by
  have h := wn_range (xs := xs) (lo := 0) (hi := top40) (p := (i, err)) (.inr trivial)
  have ht : top40 = 1099511627776 := rfl
  show (wn xs 0 top40 (i, err)).1 ≤ _
  omega
theorem gAll_fit (xs : List Int) (i : Nat) (err : Int) : (Tb.mk (gBg xs i err) (gAll xs i err).1).Fit := ⟨gBg_le xs i err, rows_fit xs _ _ (gBg_le xs i err) _⟩
theorem gAll_len (xs : List Int) (i : Nat) (err : Int) : (gAll xs i err).1.length ≤ 8 := by
  have h := wn_range (xs := xs) (lo := 0) (hi := 8) (p := (wn xs 0 top40 (i, err)).2) (.inr trivial)
  have hl : (gAll xs i err).1.length = (gCn xs i err).toNat := gRows_length _ _ _ _
  have hc : gCn xs i err = (wn xs 0 8 (wn xs 0 top40 (i, err)).2).1 := rfl
  omega
theorem all_alike {xs : List Int} (hr : ∀ x ∈ xs, 0 ≤ x ∧ x < 256) :
    ((gAll xs 0 0).2.2 = 0 ∧ xAll xs 0 0 = (gAll xs 0 0, true)) ∨ ((gAll xs 0 0).2.2 ≠ 0 ∧ ((xAll xs 0 0).1.2.2 ≠ 0 ∨ (xAll xs 0 0).2 = false)) :=
  rows_alike hr (gBg xs 0 0) (gBg_le xs 0 0) (gP xs 0 0) (gCn xs 0 0).toNat
/-- Read: a reader over a copy; where the copy is. -/
theorem Read_any2 {w : World} (p : Option Addr) (n c : Nat) (xs : List Int) (hx : xs.length = n) (hb : Lib.BytesIn w p n xs) (hp : p = none → n = 0 ∧ c = 0) (hr : ∀ x ∈ xs, 0 ≤ x ∧ x < 256) (hn : n ≤ 140737488355328) :
    Calls Try.prog 30 #[.slice p n c] w fun e w' => ∃ rb g cap, e = .returned (.pointer (some ⟨rb, 0, none⟩)) ∧ RS w' rb g n cap xs 0 0 ∧ Below w.heap.size w w' ∧ w.heap.size ≤ rb ∧ rb < w'.heap.size ∧ g < w'.heap.size := by
  have Hc := Lib.hid (own_any p n c xs 0 w hx hb hp (by omega) (by omega))
  have Hx := Lib.hid hx
  have Hr := Lib.hid hr
  clear hx hr
  go_enter Try.func30, Try.ntmps30
  go_wp2_with fail
  go_fit Hc.out
  rintro e w1 ⟨g1, n1, c1, rfl, hown1, hb1⟩
  obtain rfl : n1 = n := by rw [← owns_len hown1, Hx.out]
  have hat := owns_at hown1
  have hg1 := (hown1.lt g1 rfl).2
  have hc1 : n1 ≤ c1 := by
    rcases hown1.2 with ⟨h, _⟩ | ⟨_, cap, _, h, _, _, h2, _⟩
    · cases h
    · simp only [Value.slice.injEq] at h; omega
  have Hin := Lib.hid (owns_in hown1)
  clear hown1
  go_wp2_with fail
  go_ret
  refine ⟨w1.heap.size, g1, c1, rfl, ⟨?_, ?_, ?_, ?_, ?_, ?_, later Hin.out ((Below.refl _ _).alloc (Nat.le_refl _) _), Hx.out, hc1, by omega, by omega, Hr.out, by omega⟩, hb1.alloc hb1.size _, hb1.size, by simp, by simp; omega⟩
  all_goals first
    | (rw [World.cell?_alloc_at _ _ _ _ rfl]; rfl)
    | exact World.frozen?_alloc_at _ _ _ _ rfl

end Go.Proofs.Ytnfpobbdcjfcoaa
