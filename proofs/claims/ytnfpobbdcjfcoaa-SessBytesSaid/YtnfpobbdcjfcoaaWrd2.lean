/-
  Walks of package wire's reader: what it is asked for.
-/
import Derived.Test.YtnfpobbdcjfcoaaWrd
namespace Go.Proofs.Ytnfpobbdcjfcoaa
set_option linter.unusedVariables false
set_option linter.unusedSimpArgs false
open Go.RowKit

/-- Within a span: the number, how many bytes it has, why not. -/
def withinOf (lo hi : Int) (t : Nat × Nat × Int) : Nat × Nat × Int :=
  if t.2.2 ≠ 0 then (0, 0, t.2.2) else if (t.1 : Int) < lo ∨ hi < (t.1 : Int) then (0, 0, 5) else t

section
variable {w : World} {rb g n cap : Nat} {xs : List Int} {i : Nat} {err : Int}

set_option maxHeartbeats 400000 in
theorem Within_err (h : RS w rb g n cap xs i err) (lo hi : Int) (he : err ≠ 0) : Calls Try.prog 44 #[.pointer (some ⟨rb, 0, none⟩), .int .i64 lo, .int .i64 hi] w (Out (.int .i64 0) w rb g n cap xs i err) := by
  have Hc := Lib.hid (ready_rs h false (by simpa using he))
  have H := Lib.hid h
  clear h
  go_enter Try.func44, Try.ntmps44
  go_wp2_with fail
  go_fit Hc.out
  rintro e w' ⟨rfl, rfl⟩
  go_wp2_with fail
  go_ret
  exact ⟨rfl, H.out, World.grownBy.refl _ _⟩

set_option maxHeartbeats 800000 in
theorem Within_bad (h : RS w rb g n cap xs i 0) (lo hi : Int) (t : Nat × Nat × Int) (ht : numAt (xs.drop i) = t) (h0 : t.2.2 ≠ 0) :
    Calls Try.prog 44 #[.pointer (some ⟨rb, 0, none⟩), .int .i64 lo, .int .i64 hi] w (Out (.int .i64 0) w rb g n cap xs i t.2.2) := by
  have Hc := Lib.hid (ready_rs h true rfl)
  have Hp := Lib.hid (peek_rs h)
  rw [ht] at Hp
  have H := Lib.hid h
  have c2 := h.c2
  have f2 := h.f2
  obtain ⟨N, S, E⟩ := t
  simp only at h0
  have t1 : (E == 0) = false := by simpa using h0
  have t2 : (E != 0) = true := by simpa using h0
  clear h ht
  go_enter Try.func44, Try.ntmps44
  go_wp2_with fail
  go_fit Hc.out
  rintro e w' ⟨rfl, rfl⟩
  go_wp2_with fail
  go_fit Hp.out
  rintro e w' ⟨rfl, q, rfl⟩
  go_wp2_with fail
  go_ret
  exact ⟨rfl, ((H.out).setErr E).drewN q, grown_dset w q rb 2 _⟩

set_option maxHeartbeats 800000 in
theorem Within_range (h : RS w rb g n cap xs i 0) (lo hi : Int) (N S : Nat) (ht : numAt (xs.drop i) = (N, S, 0)) (h0 : (N : Int) < lo ∨ hi < (N : Int)) :
    Calls Try.prog 44 #[.pointer (some ⟨rb, 0, none⟩), .int .i64 lo, .int .i64 hi] w (Out (.int .i64 0) w rb g n cap xs i 5) := by
  have Hc := Lib.hid (ready_rs h true rfl)
  have Hp := Lib.hid (peek_rs h)
  rw [ht] at Hp
  have H := Lib.hid h
  have c2 := h.c2
  have f2 := h.f2
  clear h ht
  have h0' : (N : Int) < lo ∨ (¬ (N : Int) < lo ∧ hi < (N : Int)) := by
    by_cases hh : (N : Int) < lo
    · exact .inl hh
    · exact .inr ⟨hh, by rcases h0 with h | h; exact absurd h hh; exact h⟩
  clear h0
  rcases h0' with h0 | ⟨h0, h1⟩
  all_goals
    go_enter Try.func44, Try.ntmps44
    go_wp2_with fail
    go_fit Hc.out
    rintro e w' ⟨rfl, rfl⟩
    go_wp2_with fail
    go_fit Hp.out
    rintro e w' ⟨rfl, q, rfl⟩
    go_wp2_with fail
    go_ret
    exact ⟨rfl, ((H.out).setErr 5).drewN q, grown_dset w q rb 2 _⟩

set_option maxHeartbeats 800000 in
theorem Within_ok (h : RS w rb g n cap xs i 0) (lo hi : Int) (N S : Nat) (ht : numAt (xs.drop i) = (N, S, 0)) (h0 : ¬ (N : Int) < lo) (h1 : ¬ hi < (N : Int)) (hS : i + S ≤ n) :
    Calls Try.prog 44 #[.pointer (some ⟨rb, 0, none⟩), .int .i64 lo, .int .i64 hi] w (Out (.int .i64 N) w rb g n cap xs (i + S) 0) := by
  have Hc := Lib.hid (ready_rs h true rfl)
  have Hp := Lib.hid (peek_rs h)
  rw [ht] at Hp
  have H := Lib.hid h
  have c1 := h.c1
  have f1 := h.f1
  have hn := h.nb
  have hi' := h.ile
  have Hs := Lib.hid (h.setAt (i + S) hS)
  rw [show ((i + S : Nat) : Int) = (i : Int) + (S : Int) from by omega] at Hs
  clear h ht
  go_enter Try.func44, Try.ntmps44
  go_wp2_with fail
  go_fit Hc.out
  rintro e w' ⟨rfl, rfl⟩
  go_wp2_with fail
  go_fit Hp.out
  rintro e w' ⟨rfl, q, rfl⟩
  go_wp2_with fail
  go_ret
  exact ⟨rfl, (Hs.out).drewN q, grown_dset w q rb 1 _⟩

theorem numAt_size (h : RS w rb g n cap xs i err) (N S : Nat) (ht : numAt (xs.drop i) = (N, S, 0)) : i + S ≤ n ∧ N ≤ 9223372036854775807 := by
  have hok := numAt_ok (xs.drop i) (fun x hx => h.rng x (List.mem_of_mem_drop hx)) (by rw [ht])
  rw [ht] at hok
  simp only [List.length_drop, h.len] at hok
  refine ⟨by have := h.ile; omega, ?_⟩
  unfold numAt at ht
  split at ht
  · simp at ht
  simp only [] at ht
  split at ht
  · simp at ht
  split at ht
  · simp at ht
  split at ht
  · simp at ht
  split at ht
  · simp at ht
  rename_i hl h8 hk h1 h127
  have hrng : ∀ x ∈ xs.drop i, 0 ≤ x ∧ x < 256 := fun x hx => h.rng x (List.mem_of_mem_drop hx)
  generalize xs.drop i = ys at *
  have hk0 := hrng (ys.getD 0 0) (by rw [List.getD_eq_getElem?_getD, List.getElem?_eq_getElem (by omega)]; simp)
  simp only [Prod.mk.injEq] at ht
  rw [← ht.1]
  have hlen : ((ys.drop 1).take (ys.getD 0 0).toNat).length = (ys.getD 0 0).toNat := by simp only [List.length_take, List.length_drop]; omega
  refine ofBe_bound _ (fun x hx => hrng x (List.mem_of_mem_drop (List.mem_of_mem_take hx))) (by omega) (fun h8' => ?_)
  rw [hlen] at h8'
  have hg : ((ys.drop 1).take (ys.getD 0 0).toNat).getD 0 0 = ys.getD 1 0 := by
    simp only [List.getD_eq_getElem?_getD, List.getElem?_take, List.getElem?_drop, Nat.add_zero]
    rw [if_pos (by rw [← List.getD_eq_getElem?_getD]; omega)]
  rw [hg]
  omega

/-- Within, whatever there is: the answer, where the reader stands, its error. -/
theorem Within_rs (h : RS w rb g n cap xs i err) (lo hi : Int) :
    Calls Try.prog 44 #[.pointer (some ⟨rb, 0, none⟩), .int .i64 lo, .int .i64 hi] w
      (if err ≠ 0 then Out (.int .i64 0) w rb g n cap xs i err else
       Out (.int .i64 (withinOf lo hi (numAt (xs.drop i))).1) w rb g n cap xs (i + (withinOf lo hi (numAt (xs.drop i))).2.1) (withinOf lo hi (numAt (xs.drop i))).2.2) := by
  by_cases he : err ≠ 0
  · rw [if_pos he]; exact Within_err h lo hi he
  rw [if_neg he]
  obtain rfl : err = 0 := Decidable.not_not.1 he
  obtain ⟨N, S, E, ht⟩ : ∃ N S E, numAt (xs.drop i) = (N, S, E) := ⟨_, _, _, rfl⟩
  rw [ht]
  unfold withinOf
  by_cases hE : E ≠ 0
  · rw [if_pos hE]; exact Within_bad h lo hi (N, S, E) ht hE
  rw [if_neg hE]
  obtain rfl : E = 0 := Decidable.not_not.1 hE
  by_cases hr : (N : Int) < lo ∨ hi < (N : Int)
  · rw [if_pos hr]; exact Within_range h lo hi N S ht hr
  rw [if_neg hr]
  exact Within_ok h lo hi N S ht (fun hh => hr (.inl hh)) (fun hh => hr (.inr hh)) (numAt_size h N S ht).1

end

set_option maxHeartbeats 800000 in
/-- Read: a reader over a copy. -/
theorem Read_any (p : Option Addr) (n c : Nat) (xs : List Int) (w : World) (hx : xs.length = n) (hb : Lib.BytesIn w p n xs) (hp : p = none → n = 0 ∧ c = 0) (hr : ∀ x ∈ xs, 0 ≤ x ∧ x < 256) (hn : n ≤ 140737488355328) :
    Calls Try.prog 30 #[.slice p n c] w fun e w' => ∃ rb g cap, e = .returned (.pointer (some ⟨rb, 0, none⟩)) ∧ RS w' rb g n cap xs 0 0 ∧ Below w.heap.size w w' ∧ w.heap.size ≤ rb := by
  have Hc := Lib.hid (own_any p n c xs 0 w hx hb hp (by omega) (by omega))
  have Hx := Lib.hid hx
  have Hr := Lib.hid hr
  clear hx hr
  go_enter Try.func30, Try.ntmps30
  go_wp2_with fail
  go_fit Hc.out
  rintro e w1 ⟨g1, n1, c1, rfl, hown1, hb1⟩
  obtain rfl : n1 = n := by rw [← owns_len hown1, Hx.out]
  have hat := owns_at hown1
  have hc1 : n1 ≤ c1 := by
    rcases hown1.2 with ⟨h, _⟩ | ⟨_, cap, _, h, _, _, h2, _⟩
    · cases h
    · simp only [Value.slice.injEq] at h; omega
  have Hin := Lib.hid (owns_in hown1)
  clear hown1
  go_wp2_with fail
  go_ret
  refine ⟨w1.heap.size, g1, c1, rfl, ⟨?_, ?_, ?_, ?_, ?_, ?_, later Hin.out ((Below.refl _ _).alloc (Nat.le_refl _) _), Hx.out, hc1, by omega, by omega, Hr.out, by omega⟩, hb1.alloc hb1.size _, hb1.size⟩
  all_goals first
    | (rw [World.cell?_alloc_at _ _ _ _ rfl]; rfl)
    | exact World.frozen?_alloc_at _ _ _ _ rfl

end Go.Proofs.Ytnfpobbdcjfcoaa
