/-
  WRd WRd2 WRd3 WRd4 WRN WRS WRS2 WRS3 WRS4 WRS5 WStep in one text.
-/
import Derived.Test.YtdfjnpnkfjcpcaaWA

/- WRd -/
namespace Go.Proofs.Ytdfjnpnkfjcpcaa.Wi
set_option linter.unusedVariables false
set_option linter.unusedSimpArgs false
open Go.Proofs.Ytdfjnpnkfjcpcaa
open Go.RowKit

/-- A reader that Read made: it stands at i of the bytes xs, its error is err. -/
structure RS (w : World) (rb g n cap : Nat) (xs : List Int) (i : Nat) (err : Int) : Prop where
  c0 : w.cell? ⟨rb, 0, none⟩ = some (.slice (some ⟨g, 0, none⟩) n cap)
  c1 : w.cell? ⟨rb, 1, none⟩ = some (.int .i64 i)
  c2 : w.cell? ⟨rb, 2, none⟩ = some (.int .i64 err)
  c3 : w.cell? ⟨rb, 3, none⟩ = some (.bool true)
  f1 : w.frozen? ⟨rb, 1, none⟩ = false
  f2 : w.frozen? ⟨rb, 2, none⟩ = false
  inn : Lib.BytesIn w (some ⟨g, 0, none⟩) n xs
  len : xs.length = n
  ncap : n ≤ cap
  ile : i ≤ n
  gne : g ≠ rb
  rng : ∀ x ∈ xs, 0 ≤ x ∧ x < 256
  nb : n ≤ 140737488355328

theorem RS.drewN {w : World} {rb g n cap : Nat} {xs : List Int} {i : Nat} {err : Int} (h : RS w rb g n cap xs i err) (q : Nat) : RS (w.drewN q) rb g n cap xs i err := ⟨h.c0, h.c1, h.c2, h.c3, h.f1, h.f2, h.inn, h.len, h.ncap, h.ile, h.gne, h.rng, h.nb⟩

/-- What an ask of a reader leaves: this answer, the reader there, all else as it was. -/
def Out (r : Value) (w : World) (rb g n cap : Nat) (xs : List Int) (i : Nat) (err : Int) (e : Ending) (w' : World) : Prop :=
  e = .returned r ∧ RS w' rb g n cap xs i err ∧ w.grownBy w' (some rb)

theorem grownBy_drewN (w : World) (q : Nat) (row : Option Nat) : w.grownBy (w.drewN q) row := ⟨rfl, rfl, rfl, Nat.le_refl _, fun _ _ _ => rfl⟩

theorem cell_kept {w w' : World} {row : Option Nat} (hg : w.grownBy w' row) {b o : Nat} {v : Value} (hne : some b ≠ row) (h : w.cell? ⟨b, o, none⟩ = some v) : w'.cell? ⟨b, o, none⟩ = some v := hg.cell h hne

theorem in_kept {w w' : World} {row : Option Nat} (hg : w.grownBy w' row) {b o n : Nat} {xs : List Int} (hne : some b ≠ row) (h : Lib.BytesIn w (some ⟨b, o, none⟩) n xs) : Lib.BytesIn w' (some ⟨b, o, none⟩) n xs := by
  intro hn
  obtain ⟨b', o', hbo, hc⟩ := h hn
  simp only [Option.some.injEq, Addr.mk.injEq] at hbo
  obtain ⟨rfl, rfl, _⟩ := hbo
  exact ⟨b, o, rfl, fun i hi => hg.cell (hc i hi) hne⟩

theorem grown_setCell (w : World) (b o : Nat) (v : Value) : w.grownBy (w.setCell ⟨b, o, none⟩ v) (some b) :=
  ⟨rfl, rfl, rfl, by simp [World.setCell], fun k _ hk => Below.heap_setCell _ _ _ _ (fun e => hk (by rw [e]))⟩

theorem grown_dset (w : World) (q b o : Nat) (v : Value) : w.grownBy ((w.drewN q).setCell ⟨b, o, none⟩ v) (some b) :=
  ⟨rfl, rfl, rfl, by simp [World.setCell, World.drewN], fun k _ hk => Below.heap_setCell (w.drewN q) _ _ _ (fun e => hk (by rw [e]))⟩

theorem RS.setAt {w : World} {rb g n cap : Nat} {xs : List Int} {i : Nat} {err : Int} (h : RS w rb g n cap xs i err) (j : Nat) (hj : j ≤ n) : RS (w.setCell ⟨rb, 1, none⟩ (.int .i64 j)) rb g n cap xs j err where
  c0 := (World.cell?_setCell_other _ _ _ _ (by simp)).trans h.c0
  c1 := World.cell?_setCell_same _ _ _ h.c1
  c2 := (World.cell?_setCell_other _ _ _ _ (by simp)).trans h.c2
  c3 := (World.cell?_setCell_other _ _ _ _ (by simp)).trans h.c3
  f1 := (World.frozen?_setCell _ _ _ _).trans h.f1
  f2 := (World.frozen?_setCell _ _ _ _).trans h.f2
  inn := in_kept (grown_setCell w rb 1 _) (by simpa using h.gne) h.inn
  len := h.len
  ncap := h.ncap
  ile := hj
  gne := h.gne
  rng := h.rng
  nb := h.nb

theorem RS.setErr {w : World} {rb g n cap : Nat} {xs : List Int} {i : Nat} {err : Int} (h : RS w rb g n cap xs i err) (e : Int) : RS (w.setCell ⟨rb, 2, none⟩ (.int .i64 e)) rb g n cap xs i e where
  c0 := (World.cell?_setCell_other _ _ _ _ (by simp)).trans h.c0
  c1 := (World.cell?_setCell_other _ _ _ _ (by simp)).trans h.c1
  c2 := World.cell?_setCell_same _ _ _ h.c2
  c3 := (World.cell?_setCell_other _ _ _ _ (by simp)).trans h.c3
  f1 := (World.frozen?_setCell _ _ _ _).trans h.f1
  f2 := (World.frozen?_setCell _ _ _ _).trans h.f2
  inn := in_kept (grown_setCell w rb 2 _) (by simpa using h.gne) h.inn
  len := h.len
  ncap := h.ncap
  ile := h.ile
  gne := h.gne
  rng := h.rng
  nb := h.nb

section
variable {w : World} {rb g n cap : Nat} {xs : List Int} {i : Nat} {err : Int}

set_option maxHeartbeats 400000 in
theorem Err_rs (h : RS w rb g n cap xs i err) : Calls Try.prog 44 #[.pointer (some ⟨rb, 0, none⟩)] w fun e w' => e = .returned (.int .i64 err) ∧ w = w' := by
  have c2 := h.c2
  have c3 := h.c3
  clear h
  go_enter Try.func44, Try.ntmps44
  go_wp2_with fail
  go_ret
  exact ⟨rfl, rfl⟩

set_option maxHeartbeats 400000 in
theorem ready_rs (h : RS w rb g n cap xs i err) (r : Bool) (hr : (err == 0) = r) : Calls Try.prog 95 #[.pointer (some ⟨rb, 0, none⟩)] w fun e w' => e = .returned (.bool r) ∧ w = w' := by
  have Hc := Lib.hid (Err_rs h)
  clear h
  cases r
  all_goals
    go_enter Try.func95, Try.ntmps95
    go_wp2_with fail
    go_fit Hc.out
    rintro e w' ⟨rfl, rfl⟩
    go_wp2_with fail
    go_ret
    exact ⟨rfl, rfl⟩

set_option maxHeartbeats 400000 in
theorem Left_rs (h : RS w rb g n cap xs i err) : Calls Try.prog 45 #[.pointer (some ⟨rb, 0, none⟩)] w (fun e w' => e = .returned (.int .i64 ((n - i : Nat) : Int)) ∧ ∃ q, w' = w.drewN q) := by
  have c0 := h.c0
  have c1 := h.c1
  have hi := h.ile
  have hn := h.nb
  have He : Hid (((n - i : Nat) : Int) = (n : Int) - (i : Int)) := by show _ = _; omega
  have e1 : IntKind.i64.wrap ((n : Int) - (i : Int)) = (n : Int) - (i : Int) := wrap_i64 _ (by omega) (by omega)
  clear h
  rw [He.out]
  go_enter Try.func45, Try.ntmps45
  go_wp2_with fail
  go_quiet (fail)
  go_wp2_with fail
  go_ret
  exact ⟨rfl, _, rfl⟩

/-- Three ints; no more than draws. -/
def ThreeQ (t : Nat × Nat × Int) (w : World) (e : Ending) (w' : World) : Prop := e = .returned (.tuple #[.int .i64 t.1, .int .i64 t.2.1, .int .i64 t.2.2]) ∧ ∃ q, w' = w.drewN q

set_option maxHeartbeats 800000 in
theorem peek_rs (h : RS w rb g n cap xs i err) : Calls Try.prog 96 #[.pointer (some ⟨rb, 0, none⟩)] w (ThreeQ (numAt (xs.drop i)) w) := by
  have c0 := h.c0
  have c1 := h.c1
  have hi := h.ile
  have hn := h.nb
  have hnc := h.ncap
  have i1 : (0 : Int) ≤ (i : Int) := by omega
  have i2 : (i : Int) ≤ (n : Int) := by omega
  have i3 : (i : Int) ≤ (cap : Int) := by omega
  by_cases hic : cap = i
  · have hd : xs.drop i = [] := List.drop_eq_nil_of_le (by rw [h.len]; omega)
    have hni : n - i = 0 := by omega
    have Hc : Hid (∀ q, Calls Try.prog 111 #[.slice (some ⟨g, 0, none⟩) 0 0] (w.drewN q) fun e w' => e = .returned (.tuple #[.int .i64 0, .int .i64 0, .int .i64 2]) ∧ w.drewN q = w') := fun q => number_none _ 0 _
    rw [hd]
    have ht : numAt [] = (0, 0, 2) := rfl
    rw [ht]
    have hnn : n = i := by omega
    subst hic
    subst hnn
    clear h hd hni ht
    go_enter Try.func96, Try.ntmps96
    go_wp2_with fail
    go_quiet ((go_at_call 111; exact quiet_left (Hc.out _)))
    go_wp2_with fail
    go_ret3
    exact ⟨rfl, _, rfl⟩
  · have hin : Lib.BytesIn w (some ⟨g, i, none⟩) (n - i) (xs.drop i) := by
      refine Lib.BytesIn.of_cells fun j hj => ?_
      obtain ⟨b', o', hh, hc⟩ := h.inn.at (by omega)
      simp only [Option.some.injEq, Addr.mk.injEq] at hh
      obtain ⟨rfl, rfl, _⟩ := hh
      rw [addLit, List.getD_eq_getElem?_getD, List.getElem?_drop, ← List.getD_eq_getElem?_getD]
      have := hc (i + j) (by omega)
      rw [Nat.zero_add] at this; exact this
    have Hc : Hid (∀ q, Calls Try.prog 111 #[.slice (some ⟨g, i, none⟩) (n - i) (cap - i)] (w.drewN q) fun e w' => e = .returned (.tuple #[.int .i64 (numAt (xs.drop i)).1, .int .i64 (numAt (xs.drop i)).2.1, .int .i64 (numAt (xs.drop i)).2.2]) ∧ w.drewN q = w') := fun q =>
      number_any _ (n - i) (cap - i) (xs.drop i) (w.drewN q) (by rw [List.length_drop, h.len]) hin (by omega) (by omega) (fun x hx => h.rng x (List.mem_of_mem_drop hx))
    generalize numAt (xs.drop i) = t at *
    clear h hin
    go_enter Try.func96, Try.ntmps96
    go_wp2_with fail
    go_quiet ((go_at_call 111; exact quiet_left (Hc.out _)))
    go_wp2_with fail
    go_ret3
    exact ⟨rfl, _, rfl⟩

end

end Go.Proofs.Ytdfjnpnkfjcpcaa.Wi

/- WRd2 -/
namespace Go.Proofs.Ytdfjnpnkfjcpcaa.Wi
set_option linter.unusedVariables false
set_option linter.unusedSimpArgs false
open Go.Proofs.Ytdfjnpnkfjcpcaa
open Go.RowKit

/-- Within a span: the number, how many bytes it has, why not. -/
def withinOf (lo hi : Int) (t : Nat × Nat × Int) : Nat × Nat × Int :=
  if t.2.2 ≠ 0 then (0, 0, t.2.2) else if (t.1 : Int) < lo ∨ hi < (t.1 : Int) then (0, 0, 5) else t

section
variable {w : World} {rb g n cap : Nat} {xs : List Int} {i : Nat} {err : Int}

set_option maxHeartbeats 400000 in
theorem Within_err (h : RS w rb g n cap xs i err) (lo hi : Int) (he : err ≠ 0) : Calls Try.prog 72 #[.pointer (some ⟨rb, 0, none⟩), .int .i64 lo, .int .i64 hi] w (Out (.int .i64 0) w rb g n cap xs i err) := by
  have Hc := Lib.hid (ready_rs h false (by simpa using he))
  have H := Lib.hid h
  clear h
  go_enter Try.func72, Try.ntmps72
  go_wp2_with fail
  go_fit Hc.out
  rintro e w' ⟨rfl, rfl⟩
  go_wp2_with fail
  go_ret
  exact ⟨rfl, H.out, World.grownBy.refl _ _⟩

set_option maxHeartbeats 800000 in
theorem Within_bad (h : RS w rb g n cap xs i 0) (lo hi : Int) (t : Nat × Nat × Int) (ht : numAt (xs.drop i) = t) (h0 : t.2.2 ≠ 0) :
    Calls Try.prog 72 #[.pointer (some ⟨rb, 0, none⟩), .int .i64 lo, .int .i64 hi] w (Out (.int .i64 0) w rb g n cap xs i t.2.2) := by
  have Hc := Lib.hid (ready_rs h true rfl)
  have Hp := Lib.hid (peek_rs h)
  rw [ht] at Hp
  have H := Lib.hid h
  have c2 := h.c2
  have f2 := h.f2
  obtain ⟨N, S, E⟩ := t
  simp only at h0
  have t1 : (E == 0) = false := by simpa using h0
  have t2 : (E != 0) = true := by simpa using h0
  clear h ht
  go_enter Try.func72, Try.ntmps72
  go_wp2_with fail
  go_fit Hc.out
  rintro e w' ⟨rfl, rfl⟩
  go_wp2_with fail
  go_fit Hp.out
  rintro e w' ⟨rfl, q, rfl⟩
  go_wp2_with fail
  go_ret
  exact ⟨rfl, ((H.out).setErr E).drewN q, grown_dset w q rb 2 _⟩

set_option maxHeartbeats 800000 in
theorem Within_range (h : RS w rb g n cap xs i 0) (lo hi : Int) (N S : Nat) (ht : numAt (xs.drop i) = (N, S, 0)) (h0 : (N : Int) < lo ∨ hi < (N : Int)) :
    Calls Try.prog 72 #[.pointer (some ⟨rb, 0, none⟩), .int .i64 lo, .int .i64 hi] w (Out (.int .i64 0) w rb g n cap xs i 5) := by
  have Hc := Lib.hid (ready_rs h true rfl)
  have Hp := Lib.hid (peek_rs h)
  rw [ht] at Hp
  have H := Lib.hid h
  have c2 := h.c2
  have f2 := h.f2
  clear h ht
  have h0' : (N : Int) < lo ∨ (¬ (N : Int) < lo ∧ hi < (N : Int)) := by
    by_cases hh : (N : Int) < lo
    · exact .inl hh
    · exact .inr ⟨hh, by rcases h0 with h | h; exact absurd h hh; exact h⟩
  clear h0
  rcases h0' with h0 | ⟨h0, h1⟩
  all_goals
    go_enter Try.func72, Try.ntmps72
    go_wp2_with fail
    go_fit Hc.out
    rintro e w' ⟨rfl, rfl⟩
    go_wp2_with fail
    go_fit Hp.out
    rintro e w' ⟨rfl, q, rfl⟩
    go_wp2_with fail
    go_ret
    exact ⟨rfl, ((H.out).setErr 5).drewN q, grown_dset w q rb 2 _⟩

set_option maxHeartbeats 800000 in
theorem Within_ok (h : RS w rb g n cap xs i 0) (lo hi : Int) (N S : Nat) (ht : numAt (xs.drop i) = (N, S, 0)) (h0 : ¬ (N : Int) < lo) (h1 : ¬ hi < (N : Int)) (hS : i + S ≤ n) :
    Calls Try.prog 72 #[.pointer (some ⟨rb, 0, none⟩), .int .i64 lo, .int .i64 hi] w (Out (.int .i64 N) w rb g n cap xs (i + S) 0) := by
  have Hc := Lib.hid (ready_rs h true rfl)
  have Hp := Lib.hid (peek_rs h)
  rw [ht] at Hp
  have H := Lib.hid h
  have c1 := h.c1
  have f1 := h.f1
  have hn := h.nb
  have hi' := h.ile
  have Hs := Lib.hid (h.setAt (i + S) hS)
  rw [show ((i + S : Nat) : Int) = (i : Int) + (S : Int) from by omega] at Hs
  clear h ht
  go_enter Try.func72, Try.ntmps72
  go_wp2_with fail
  go_fit Hc.out
  rintro e w' ⟨rfl, rfl⟩
  go_wp2_with fail
  go_fit Hp.out
  rintro e w' ⟨rfl, q, rfl⟩
  go_wp2_with fail
  go_ret
  exact ⟨rfl, (Hs.out).drewN q, grown_dset w q rb 1 _⟩

theorem numAt_size (h : RS w rb g n cap xs i err) (N S : Nat) (ht : numAt (xs.drop i) = (N, S, 0)) : i + S ≤ n ∧ N ≤ 9223372036854775807 := by
  have hok := numAt_ok (xs.drop i) (fun x hx => h.rng x (List.mem_of_mem_drop hx)) (by rw [ht])
  rw [ht] at hok
  simp only [List.length_drop, h.len] at hok
  refine ⟨by have := h.ile; omega, ?_⟩
  unfold numAt at ht
  split at ht
  · simp at ht
  simp only [] at ht
  split at ht
  · simp at ht
  split at ht
  · simp at ht
  split at ht
  · simp at ht
  split at ht
  · simp at ht
  rename_i hl h8 hk h1 h127
  have hrng : ∀ x ∈ xs.drop i, 0 ≤ x ∧ x < 256 := fun x hx => h.rng x (List.mem_of_mem_drop hx)
  generalize xs.drop i = ys at *
  have hk0 := hrng (ys.getD 0 0) (by rw [List.getD_eq_getElem?_getD, List.getElem?_eq_getElem (by omega)]; simp)
  simp only [Prod.mk.injEq] at ht
  rw [← ht.1]
  have hlen : ((ys.drop 1).take (ys.getD 0 0).toNat).length = (ys.getD 0 0).toNat := by simp only [List.length_take, List.length_drop]; omega
  refine ofBe_bound _ (fun x hx => hrng x (List.mem_of_mem_drop (List.mem_of_mem_take hx))) (by omega) (fun h8' => ?_)
  rw [hlen] at h8'
  have hg : ((ys.drop 1).take (ys.getD 0 0).toNat).getD 0 0 = ys.getD 1 0 := by
    simp only [List.getD_eq_getElem?_getD, List.getElem?_take, List.getElem?_drop, Nat.add_zero]
    rw [if_pos (by rw [← List.getD_eq_getElem?_getD]; omega)]
  rw [hg]
  omega

/-- Within, whatever there is: the answer, where the reader stands, its error. -/
theorem Within_rs (h : RS w rb g n cap xs i err) (lo hi : Int) :
    Calls Try.prog 72 #[.pointer (some ⟨rb, 0, none⟩), .int .i64 lo, .int .i64 hi] w
      (if err ≠ 0 then Out (.int .i64 0) w rb g n cap xs i err else
       Out (.int .i64 (withinOf lo hi (numAt (xs.drop i))).1) w rb g n cap xs (i + (withinOf lo hi (numAt (xs.drop i))).2.1) (withinOf lo hi (numAt (xs.drop i))).2.2) := by
  by_cases he : err ≠ 0
  · rw [if_pos he]; exact Within_err h lo hi he
  rw [if_neg he]
  obtain rfl : err = 0 := Decidable.not_not.1 he
  obtain ⟨N, S, E, ht⟩ : ∃ N S E, numAt (xs.drop i) = (N, S, E) := ⟨_, _, _, rfl⟩
  rw [ht]
  unfold withinOf
  by_cases hE : E ≠ 0
  · rw [if_pos hE]; exact Within_bad h lo hi (N, S, E) ht hE
  rw [if_neg hE]
  obtain rfl : E = 0 := Decidable.not_not.1 hE
  by_cases hr : (N : Int) < lo ∨ hi < (N : Int)
  · rw [if_pos hr]; exact Within_range h lo hi N S ht hr
  rw [if_neg hr]
  exact Within_ok h lo hi N S ht (fun hh => hr (.inl hh)) (fun hh => hr (.inr hh)) (numAt_size h N S ht).1

end

set_option maxHeartbeats 800000 in
/-- Read: a reader over a copy. -/
theorem Read_any (p : Option Addr) (n c : Nat) (xs : List Int) (w : World) (hx : xs.length = n) (hb : Lib.BytesIn w p n xs) (hp : p = none → n = 0 ∧ c = 0) (hr : ∀ x ∈ xs, 0 ≤ x ∧ x < 256) (hn : n ≤ 140737488355328) :
    Calls Try.prog 42 #[.slice p n c] w fun e w' => ∃ rb g cap, e = .returned (.pointer (some ⟨rb, 0, none⟩)) ∧ RS w' rb g n cap xs 0 0 ∧ Below w.heap.size w w' ∧ w.heap.size ≤ rb := by
  have Hc := Lib.hid (own_any p n c xs 0 w hx hb hp (by omega) (by omega))
  have Hx := Lib.hid hx
  have Hr := Lib.hid hr
  clear hx hr
  go_enter Try.func42, Try.ntmps42
  go_wp2_with fail
  go_fit Hc.out
  rintro e w1 ⟨g1, n1, c1, rfl, hown1, hb1⟩
  obtain rfl : n1 = n := by rw [← owns_len hown1, Hx.out]
  have hat := owns_at hown1
  have hc1 : n1 ≤ c1 := by
    rcases hown1.2 with ⟨h, _⟩ | ⟨_, cap, _, h, _, _, h2, _⟩
    · cases h
    · simp only [Value.slice.injEq] at h; omega
  have Hin := Lib.hid (owns_in hown1)
  clear hown1
  go_wp2_with fail
  go_ret
  refine ⟨w1.heap.size, g1, c1, rfl, ⟨?_, ?_, ?_, ?_, ?_, ?_, later Hin.out ((Below.refl _ _).alloc (Nat.le_refl _) _), Hx.out, hc1, by omega, by omega, Hr.out, by omega⟩, hb1.alloc hb1.size _, hb1.size⟩
  all_goals first
    | (rw [World.cell?_alloc_at _ _ _ _ rfl]; rfl)
    | exact World.frozen?_alloc_at _ _ _ _ rfl

end Go.Proofs.Ytdfjnpnkfjcpcaa.Wi

/- WRd3 -/
namespace Go.Proofs.Ytdfjnpnkfjcpcaa.Wi
set_option linter.unusedVariables false
set_option linter.unusedSimpArgs false
open Go.Proofs.Ytdfjnpnkfjcpcaa
open Go.RowKit

section
variable {w : World} {rb g n cap : Nat} {xs : List Int} {i : Nat} {err : Int}

theorem or_u64_8 (a y : Nat) (ha : a * 256 + y ≤ 18446744073709551615) (hy : y < 256) : bits .or .u64 ((a : Int) * 256) (y : Int) = ((a * 256 + y : Nat) : Int) := by
  have hx := or_add 8 y a hy
  rw [Nat.or_comm] at hx
  rw [show (a : Int) * 256 = ((a * 256 : Nat) : Int) by omega, bits_or_u64_nat _ _ (by omega) (by omega), hx]
  omega

/-- A number of 64 bits with its sign. -/
def s64 (u : Nat) : Int := wrap64 u

end

end Go.Proofs.Ytdfjnpnkfjcpcaa.Wi

/- WRd4 -/
namespace Go.Proofs.Ytdfjnpnkfjcpcaa.Wi
set_option linter.unusedVariables false
set_option linter.unusedSimpArgs false
open Go.Proofs.Ytdfjnpnkfjcpcaa
open Go.RowKit

section
variable {w : World} {rb g n cap : Nat} {xs : List Int} {i : Nat} {err : Int}

set_option maxHeartbeats 400000 in
theorem Text_err (h : RS w rb g n cap xs i err) (most : Int) (he : err ≠ 0) : Calls Try.prog 73 #[.pointer (some ⟨rb, 0, none⟩), .int .i64 most] w (Out (.string ⟨#[]⟩) w rb g n cap xs i err) := by
  have Hc := Lib.hid (ready_rs h false (by simpa using he))
  have H := Lib.hid h
  clear h
  go_enter Try.func73, Try.ntmps73
  go_wp2_with fail
  go_fit Hc.out
  rintro e w' ⟨rfl, rfl⟩
  go_wp2_with fail
  go_ret
  exact ⟨rfl, H.out, World.grownBy.refl _ _⟩

set_option maxHeartbeats 800000 in
theorem Text_bad (h : RS w rb g n cap xs i 0) (most : Int) (N S M : Nat) (E err : Int) (ht : numAt (xs.drop i) = (N, S, E)) (hM : max most 0 = (M : Int)) (hS : S ≤ n - i ∨ E ≠ 0) (hS9 : S ≤ 9)
    (h0 : (E ≠ 0 ∧ err = E) ∨ (E = 0 ∧ M < N ∧ err = 4) ∨ (E = 0 ∧ N ≤ M ∧ n - i - S < N ∧ err = 2)) :
    Calls Try.prog 73 #[.pointer (some ⟨rb, 0, none⟩), .int .i64 most] w (Out (.string ⟨#[]⟩) w rb g n cap xs i err) := by
  have Hc := Lib.hid (ready_rs h true rfl)
  have Hp := Lib.hid (peek_rs h)
  have Hl : Hid (∀ q, Calls Try.prog 45 #[.pointer (some ⟨rb, 0, none⟩)] (w.drewN q) (fun e w' => e = .returned (.int .i64 ((n - i : Nat) : Int)) ∧ ∃ k, w' = (w.drewN q).drewN k)) := fun q => Left_rs (h.drewN q)
  rw [ht] at Hp
  have H := Lib.hid h
  have c2 := h.c2
  have f2 := h.f2
  have hn := h.nb
  generalize hm : n - i = m at *
  have hmn : m ≤ 140737488355328 := by omega
  clear h ht hm
  rcases h0 with ⟨h0, rfl⟩ | ⟨rfl, h1, rfl⟩ | ⟨rfl, h1, h2, rfl⟩
  · have t1 : (err == 0) = false := by simpa using h0
    have t2 : (err != 0) = true := by simpa using h0
    go_enter Try.func73, Try.ntmps73
    go_wp2_with fail
    go_fit Hc.out
    rintro e w' ⟨rfl, rfl⟩
    go_wp2_with fail
    go_fit Hp.out
    rintro e w' ⟨rfl, q, rfl⟩
    go_wp2_with fail
    go_ret
    exact ⟨rfl, ((H.out).setErr err).drewN q, grown_dset w q rb 2 _⟩
  · go_enter Try.func73, Try.ntmps73
    go_wp2_with fail
    go_fit Hc.out
    rintro e w' ⟨rfl, rfl⟩
    go_wp2_with fail
    go_fit Hp.out
    rintro e w' ⟨rfl, q, rfl⟩
    go_wp2_with fail
    go_ret
    exact ⟨rfl, ((H.out).setErr 4).drewN q, grown_dset w q rb 2 _⟩
  · have hSm : S ≤ m := by rcases hS with h | h; exact h; exact absurd rfl h
    have h3 : (m : Int) - (S : Int) < (N : Int) := by omega
    have e1 : IntKind.i64.wrap ((m : Int) - (S : Int)) = (m : Int) - (S : Int) := wrap_i64 _ (by omega) (by omega)
    go_enter Try.func73, Try.ntmps73
    go_wp2_with fail
    go_fit Hc.out
    rintro e w' ⟨rfl, rfl⟩
    go_wp2_with fail
    go_fit Hp.out
    rintro e w' ⟨rfl, q, rfl⟩
    go_wp2_with fail
    go_fit (Hl.out q)
    rintro e w' ⟨rfl, k, rfl⟩
    go_wp2_with fail
    go_ret
    exact ⟨rfl, ((H.out).setErr 2).drewN (q + k), grown_dset w (q + k) rb 2 _⟩

theorem grown_drew {w w' : World} {row : Option Nat} {q : Nat} (h : w.grownBy w' row) : w.grownBy (w'.drewN q) row := ⟨h.os, h.tape, h.output, h.size, h.block⟩

set_option maxRecDepth 100000 in
set_option maxHeartbeats 1600000 in
theorem Text_ok (h : RS w rb g n cap xs i 0) (most : Int) (N S M : Nat) (ht : numAt (xs.drop i) = (N, S, 0)) (hM : max most 0 = (M : Int)) (hNM : N ≤ M) (hend : i + S + N ≤ n) (hS9 : S ≤ 9) (hic : ¬ cap = i + S) :
    Calls Try.prog 73 #[.pointer (some ⟨rb, 0, none⟩), .int .i64 most] w (Out (.string (strOfNums ((xs.drop (i + S)).take N))) w rb g n cap xs (i + S + N) 0) := by
  have Hc := Lib.hid (ready_rs h true rfl)
  have Hp := Lib.hid (peek_rs h)
  have Hl : Hid (∀ q, Calls Try.prog 45 #[.pointer (some ⟨rb, 0, none⟩)] (w.drewN q) (fun e w' => e = .returned (.int .i64 ((n - i : Nat) : Int)) ∧ ∃ k, w' = (w.drewN q).drewN k)) := fun q => Left_rs (h.drewN q)
  rw [ht] at Hp
  have hs := h.setAt (i + S + N) hend
  rw [show ((i + S + N : Nat) : Int) = (i : Int) + (S : Int) + (N : Int) from by omega] at hs
  have Hs := Lib.hid hs
  have c1 := h.c1
  have f1 := h.f1
  have d0 := hs.c0
  have d1 := hs.c1
  rw [show ((i + S + N : Nat) : Int) = (i : Int) + (S : Int) + (N : Int) from by omega] at d1
  have hn := h.nb
  have hnc := h.ncap
  have hcut : Lib.BytesIn (w.setCell ⟨rb, 1, none⟩ (.int .i64 ((i : Int) + (S : Int) + (N : Int)))) (some ⟨g, i + S, none⟩) N ((xs.drop (i + S)).take N) := by
    refine Lib.BytesIn.of_cells fun j hj => ?_
    obtain ⟨b', o', hh, hc⟩ := hs.inn.at (by omega)
    simp only [Option.some.injEq, Addr.mk.injEq] at hh
    obtain ⟨rfl, rfl, _⟩ := hh
    have := hc (i + S + j) (by omega)
    rw [Nat.zero_add] at this
    rw [addLit, this, List.getD_eq_getElem?_getD, List.getD_eq_getElem?_getD, List.getElem?_take, if_pos hj, List.getElem?_drop]
  have hlen : ((xs.drop (i + S)).take N).length = N := by simp only [List.length_take, List.length_drop, h.len]; omega
  have hconv : Hid (∀ W : World, Lib.BytesIn W (some ⟨g, i + S, none⟩) N ((xs.drop (i + S)).take N) → ∀ q c, (convert 61 9 (.slice (some ⟨g, i + S, none⟩) N c)).run Try.prog (W.drewN q) = .ok (.string (strOfNums ((xs.drop (i + S)).take N))) (W.drewN q)) := fun W hW q c =>
    Lib.BytesIn.convert (w := W.drewN q) hW hlen c _ _ _ Try.underlying61 Try.underlying5 Try.underlying9
  have Hcut := Lib.hid hcut
  generalize (xs.drop (i + S)).take N = cutl at *
  generalize strOfNums cutl = str at *
  have hm : (n - i : Nat) = n - i := rfl
  have h3 : ¬ ((n - i : Nat) : Int) - (S : Int) < (N : Int) := by omega
  have e1 : IntKind.i64.wrap (((n - i : Nat) : Int) - (S : Int)) = ((n - i : Nat) : Int) - (S : Int) := wrap_i64 _ (by omega) (by omega)
  have hmn : n - i ≤ 140737488355328 := by omega
  generalize hm2 : n - i = m at *
  have i1 : (0 : Int) ≤ (i : Int) + (S : Int) := by omega
  have i2 : (i : Int) + (S : Int) ≤ (i : Int) + (S : Int) + (N : Int) := by omega
  have i3 : (i : Int) + (S : Int) + (N : Int) ≤ (cap : Int) := by omega
  clear h ht hs hcut hlen hm hm2
  · go_enter Try.func73, Try.ntmps73
    go_wp2_with fail
    go_fit Hc.out
    rintro e w' ⟨rfl, rfl⟩
    go_wp2_with fail
    go_fit Hp.out
    rintro e w' ⟨rfl, q, rfl⟩
    go_wp2_with fail
    go_fit (Hl.out q)
    rintro e w' ⟨rfl, k, rfl⟩
    go_wp2_with fail
    obtain ⟨W, hW⟩ : ∃ W : World, W = (w.drewN (q + k)).setCell ⟨rb, 1, none⟩ (.int .i64 ((i : Int) + (S : Int) + (N : Int))) := ⟨_, rfl⟩
    rw [← hW]
    have b0 : W.cell? ⟨rb, 0, none⟩ = some (.slice (some ⟨g, 0, none⟩) n cap) := by rw [hW]; exact d0
    have b1 : W.cell? ⟨rb, 1, none⟩ = some (.int .i64 ((i : Int) + (S : Int) + (N : Int))) := by rw [hW]; exact d1
    have hcv := hconv.out W (by rw [hW]; exact Hcut.out)
    have HW := Lib.hid hW
    clear hW d0 d1
    go_quiet (fail)
    go_wp2_with fail
    go_ret
    refine ⟨rfl, ?_, ?_⟩
    · rw [HW.out]; exact ((Hs.out).drewN (q + k)).drewN _
    · rw [HW.out]; exact grown_drew (grown_dset w (q + k) rb 1 _)

set_option maxRecDepth 100000 in
set_option maxHeartbeats 1600000 in
theorem Text_ok0 (h : RS w rb g n cap xs i 0) (most : Int) (S M : Nat) (ht : numAt (xs.drop i) = (0, S, 0)) (hM : max most 0 = (M : Int)) (hend : i + S ≤ n) (hS9 : S ≤ 9) (hic : cap = i + S) :
    Calls Try.prog 73 #[.pointer (some ⟨rb, 0, none⟩), .int .i64 most] w (Out (.string ⟨#[]⟩) w rb g n cap xs (i + S) 0) := by
  have Hc := Lib.hid (ready_rs h true rfl)
  have Hp := Lib.hid (peek_rs h)
  have Hl : Hid (∀ q, Calls Try.prog 45 #[.pointer (some ⟨rb, 0, none⟩)] (w.drewN q) (fun e w' => e = .returned (.int .i64 ((n - i : Nat) : Int)) ∧ ∃ k, w' = (w.drewN q).drewN k)) := fun q => Left_rs (h.drewN q)
  rw [ht] at Hp
  have hs := h.setAt (i + S) hend
  rw [show ((i + S : Nat) : Int) = (i : Int) + (S : Int) from by omega] at hs
  have Hs := Lib.hid hs
  have c1 := h.c1
  have f1 := h.f1
  have d0 := hs.c0
  have d1 := hs.c1
  rw [show ((i + S : Nat) : Int) = (i : Int) + (S : Int) from by omega] at d1
  have hn := h.nb
  have hnc := h.ncap
  have hconv : ∀ W : World, ∀ p q c, (convert 61 9 (.slice p 0 c)).run Try.prog (W.drewN q) = .ok (.string ⟨#[]⟩) (W.drewN q) := fun W p q c =>
    Lib.BytesIn.convert (w := W.drewN q) (p := p) (n := 0) (xs := []) (Lib.BytesIn.nil _ _ _) rfl c _ _ _ Try.underlying61 Try.underlying5 Try.underlying9
  have h3 : ¬ ((n - i : Nat) : Int) - (S : Int) < 0 := by omega
  have e1 : IntKind.i64.wrap (((n - i : Nat) : Int) - (S : Int)) = ((n - i : Nat) : Int) - (S : Int) := wrap_i64 _ (by omega) (by omega)
  have hmn : n - i ≤ 140737488355328 := by omega
  have hnn : n = i + S := by omega
  generalize hm2 : n - i = m at *
  have i1 : (0 : Int) ≤ (i : Int) + (S : Int) := by omega
  have i3 : (i : Int) + (S : Int) ≤ (cap : Int) := by omega
  subst hic
  clear h ht hs hm2 hnn
  go_enter Try.func73, Try.ntmps73
  go_wp2_with fail
  go_fit Hc.out
  rintro e w' ⟨rfl, rfl⟩
  go_wp2_with fail
  go_fit Hp.out
  rintro e w' ⟨rfl, q, rfl⟩
  go_wp2_with fail
  go_fit (Hl.out q)
  rintro e w' ⟨rfl, k, rfl⟩
  go_wp2_with fail
  obtain ⟨W, hW⟩ : ∃ W : World, W = (w.drewN (q + k)).setCell ⟨rb, 1, none⟩ (.int .i64 ((i : Int) + (S : Int))) := ⟨_, rfl⟩
  rw [← hW]
  have b0 : W.cell? ⟨rb, 0, none⟩ = some (.slice (some ⟨g, 0, none⟩) n (i + S)) := by rw [hW]; exact d0
  have b1 : W.cell? ⟨rb, 1, none⟩ = some (.int .i64 ((i : Int) + (S : Int))) := by rw [hW]; exact d1
  have HW := Lib.hid hW
  clear hW d0 d1
  have hcv := hconv W
  go_quiet (fail)
  go_wp2_with fail
  go_ret
  refine ⟨rfl, ?_, ?_⟩
  · rw [HW.out]; exact ((Hs.out).drewN (q + k)).drewN _
  · rw [HW.out]; exact grown_drew (grown_dset w (q + k) rb 1 _)

end

end Go.Proofs.Ytdfjnpnkfjcpcaa.Wi

/- WRN -/
namespace Go.Proofs.Ytdfjnpnkfjcpcaa.Wi
set_option linter.unusedVariables false
set_option linter.unusedSimpArgs false
open Go.Proofs.Ytdfjnpnkfjcpcaa
open Go.RowKit

set_option maxHeartbeats 800000 in
theorem rnumber_loop (b o n c k : Nat) (ys : List Int) (w : World) (hk : 1 ≤ k) (h8 : k ≤ 8) (hn : k < n) (hn2 : n ≤ 140737488355328) (_hnc : n ≤ c) (hy : ys.length = k) (h0 : w.cell? ⟨b, o, none⟩ = some (.int .u8 k))
    (hc : ∀ i, i < k → w.cell? ⟨b, o + 1 + i, none⟩ = some (.int .u8 (ys.getD i 0))) (hr : ∀ x ∈ ys, 0 ≤ x ∧ x < 256) (hz : ys.getD 0 0 ≠ 0) (h127 : k = 8 → ys.getD 0 0 ≤ 127) :
    Calls Try.prog 97 #[.slice (some ⟨b, o, none⟩) n c] w (Three (ofBe ys, 1 + k, 0) w) := by
  have hc1 := hc 0 (by omega)
  have hb := ofBe_bound ys hr (by omega) (fun h => h127 (by omega))
  have Hb := Lib.hid hb
  have Hc := Lib.hid hc
  have Hr := Lib.hid hr
  have Hy := Lib.hid hy
  obtain ⟨z, hzz⟩ : ∃ z : Int, z = ys.getD 0 0 := ⟨_, rfl⟩
  rw [← hzz] at hc1 hz h127
  simp only [Nat.add_zero] at hc1
  have t1 : (z == 0) = false := by simpa using hz
  have t2 : ((k : Int) == 8 && decide (127 < z)) = false := by
    by_cases e : k = 8
    · have := h127 e; simp [show ¬ 127 < z by omega]
    · have : ¬ (k : Int) = 8 := by omega
      simp [this]
  have hlen0 : ((n : Int) == 0) = false := by simp; omega
  clear hb hc hr hy hzz hz
  go_enter Try.func97, Try.ntmps97
  go_wp2_with fail
  all_goals
    go_loop [6, 7] (fun v i => ∃ (j a : Nat), j ≤ k ∧ i = .int .i64 ((j : Int) + 1) ∧ v = .int .i64 a ∧ Hid (a = ofBe (ys.take j))) (fun _ i => k + 1 - (intOf i).toNat)
    case atStart => exact ⟨0, 0, Nat.zero_le _, rfl, rfl, rfl⟩
    case round =>
      obtain ⟨j, a, hj, rfl, rfl, Ha⟩ := hrel
      by_cases hlt : j < k
      · have hcell := Hc.out j hlt
        have hjy : j < ys.length := by rw [Hy.out]; exact hlt
        have hx := Hr.out (ys.getD j 0) (by rw [List.getD_eq_getElem?_getD, List.getElem?_eq_getElem hjy]; simp)
        have hf := ofBe_front ys j hjy
        have Hs := Lib.hid (ofBe_snoc ys j hjy)
        have hB := Hb.out
        rw [← Ha.out] at hf
        generalize ys.getD j 0 = x at *
        obtain ⟨y, rfl⟩ := Int.eq_ofNat_of_zero_le hx.1
        have hy2 : y < 256 := by omega
        have hay : a * 256 + y ≤ 9223372036854775807 := by simp only [Int.toNat_natCast] at hf; omega
        obtain ⟨D, hD⟩ : ∃ D : Nat, D = a * 256 := ⟨_, rfl⟩
        have e1 : IntKind.i64.wrap (256 * (a : Int)) = (D : Int) := by rw [wrap_i64 _ (by omega) (by omega)]; omega
        obtain ⟨C, hC⟩ : ∃ C : Nat, C = a * 256 + y := ⟨_, rfl⟩
        have e2 : IntKind.i64.wrap ((D : Int) + (y : Int)) = (C : Int) := by rw [wrap_i64 _ (by omega) (by omega)]; omega
        have e3 : (((j : Int) + 1).toNat) = 1 + j := by omega
        rw [Nat.add_assoc] at hcell
        have HC := Lib.hid hC
        clear hC hD hf hB hx hjy hay
        go_wp2_with fail
        go_round
        case rel => exact ⟨j + 1, C, by omega, by go_num, rfl, by show C = _; rw [Hs.out, ← Ha.out, HC.out]; simp⟩
        case measure => simp [intOf]; omega
      · have He : Hid (a = ofBe ys) := by show a = _; rw [Ha.out, List.take_of_length_le (by rw [Hy.out]; omega)]
        go_wp2_with fail
        go_ret3
        rw [← He.out]
        exact ⟨three_ret rfl (by show _ = ((1 + k : Nat) : Int); omega) rfl, rfl⟩

set_option maxHeartbeats 400000 in
theorem rnumber_none (p : Option Addr) (c : Nat) (w : World) : Calls Try.prog 97 #[.slice p 0 c] w (Three (0, 0, 2) w) := by
  go_enter Try.func97, Try.ntmps97
  go_wp2_with fail
  go_ret3
  exact ⟨rfl, rfl⟩

set_option maxHeartbeats 400000 in
theorem rnumber_form (b o n c k : Nat) (w : World) (hn : 0 < n) (hk : 8 < k) (hk2 : k < 256) (h0 : w.cell? ⟨b, o, none⟩ = some (.int .u8 k)) : Calls Try.prog 97 #[.slice (some ⟨b, o, none⟩) n c] w (Three (0, 0, 11) w) := by
  have hlen0 : ((n : Int) == 0) = false := by simp; omega
  go_enter Try.func97, Try.ntmps97
  go_wp2_with fail
  go_ret3
  exact ⟨rfl, rfl⟩

set_option maxHeartbeats 400000 in
theorem rnumber_short (b o n c k : Nat) (w : World) (hn : 0 < n) (hk : k ≤ 8) (hnk : n ≤ k) (h0 : w.cell? ⟨b, o, none⟩ = some (.int .u8 k)) : Calls Try.prog 97 #[.slice (some ⟨b, o, none⟩) n c] w (Three (0, 0, 2) w) := by
  have hlen0 : ((n : Int) == 0) = false := by simp; omega
  go_enter Try.func97, Try.ntmps97
  go_wp2_with fail
  go_ret3
  exact ⟨rfl, rfl⟩

set_option maxHeartbeats 400000 in
theorem rnumber_zero (b o n c : Nat) (w : World) (hn : 0 < n) (hn2 : n ≤ 140737488355328) (_hnc : n ≤ c) (h0 : w.cell? ⟨b, o, none⟩ = some (.int .u8 0)) : Calls Try.prog 97 #[.slice (some ⟨b, o, none⟩) n c] w (Three (0, 1, 0) w) := by
  have hlen0 : ((n : Int) == 0) = false := by simp; omega
  go_enter Try.func97, Try.ntmps97
  go_wp2_with fail
  all_goals
    refine wp_loop_rounds 1 ?_
    rw [rounds_succ]
    go_wp2_with fail
    go_ret3
    exact ⟨rfl, rfl⟩

set_option maxHeartbeats 400000 in
theorem rnumber_nought (b o n c k : Nat) (w : World) (h1k : 1 ≤ k) (hk : k ≤ 8) (hnk : k < n) (h0 : w.cell? ⟨b, o, none⟩ = some (.int .u8 k)) (h1 : w.cell? ⟨b, o + 1, none⟩ = some (.int .u8 0)) : Calls Try.prog 97 #[.slice (some ⟨b, o, none⟩) n c] w (Three (0, 0, 11) w) := by
  have hlen0 : ((n : Int) == 0) = false := by simp; omega
  go_enter Try.func97, Try.ntmps97
  go_wp2_with fail
  go_ret3
  exact ⟨rfl, rfl⟩

set_option maxHeartbeats 400000 in
theorem rnumber_range (b o n c z : Nat) (w : World) (hnk : 8 < n) (hz : 127 < z) (hz2 : z < 256) (h0 : w.cell? ⟨b, o, none⟩ = some (.int .u8 8)) (h1 : w.cell? ⟨b, o + 1, none⟩ = some (.int .u8 z)) : Calls Try.prog 97 #[.slice (some ⟨b, o, none⟩) n c] w (Three (0, 0, 5) w) := by
  have hlen0 : ((n : Int) == 0) = false := by simp; omega
  have t1 : ((z : Int) == 0) = false := by simp; omega
  go_enter Try.func97, Try.ntmps97
  go_wp2_with fail
  go_ret3
  exact ⟨rfl, rfl⟩

theorem rnumber_any (p : Option Addr) (n c : Nat) (xs : List Int) (w : World) (hx : xs.length = n) (hb : Lib.BytesIn w p n xs) (hnc : n ≤ c) (hn2 : n ≤ 140737488355328) (hr : ∀ x ∈ xs, 0 ≤ x ∧ x < 256) :
    Calls Try.prog 97 #[.slice p n c] w (Three (numAt xs) w) := by
  unfold numAt
  rcases Nat.eq_zero_or_pos n with h0 | h0
  · subst h0
    rw [if_pos hx]
    exact rnumber_none p c w
  · obtain ⟨b, o, rfl, hc⟩ := hb h0
    rw [if_neg (by omega)]
    obtain ⟨k, ek, hk, hck⟩ := byte_at hc hx hr 0 h0
    simp only [Nat.add_zero] at hck
    simp only [ek]
    by_cases h8 : 8 < (k : Int)
    · rw [if_pos h8]; exact rnumber_form b o n c k w h0 (by omega) hk hck
    rw [if_neg h8]
    by_cases hs : (xs.length : Int) ≤ k
    · rw [if_pos hs]; exact rnumber_short b o n c k w h0 (by omega) (by omega) hck
    rw [if_neg hs]
    rcases Nat.eq_zero_or_pos k with hk0 | hk0
    · subst hk0
      rw [if_neg (by omega), if_neg (by omega)]
      have := rnumber_zero b o n c w h0 hn2 hnc hck
      simpa [ofBe] using this
    obtain ⟨z, ez, hz, hcz⟩ := byte_at hc hx hr 1 (by omega)
    simp only [ez]
    by_cases hz0 : z = 0
    · subst hz0
      rw [if_pos ⟨by omega, rfl⟩]; exact rnumber_nought b o n c k w hk0 (by omega) (by omega) hck hcz
    rw [if_neg (by omega)]
    by_cases h127 : (k : Int) = 8 ∧ 127 < (z : Int)
    · rw [if_pos h127]
      obtain rfl : k = 8 := by omega
      exact rnumber_range b o n c z w (by omega) (by omega) hz hck hcz
    rw [if_neg h127]
    have ey : ∀ i, i < k → ((xs.drop 1).take k).getD i 0 = xs.getD (i + 1) 0 := by
      intro i hi
      simp only [List.getD_eq_getElem?_getD, List.getElem?_take, hi, if_true, List.getElem?_drop, Nat.add_comm]
    refine rnumber_loop b o n c k ((xs.drop 1).take k) w hk0 (by omega) (by omega) hn2 hnc (by simp; omega) hck ?_ (fun x h => hr x (List.mem_of_mem_drop (List.mem_of_mem_take h))) ?_ ?_
    · intro i hi
      rw [ey i hi, ← hc (i + 1) (by omega)]; congr 2; omega
    · rw [ey 0 hk0]; simp only [Nat.zero_add]; rw [ez]; omega
    · intro e; rw [ey 0 hk0]; simp only [Nat.zero_add]; rw [ez]; omega

end Go.Proofs.Ytdfjnpnkfjcpcaa.Wi

/- WRS -/
namespace Go.Proofs.Ytdfjnpnkfjcpcaa.Wi
set_option linter.unusedVariables false
set_option linter.unusedSimpArgs false
open Go.Proofs.Ytdfjnpnkfjcpcaa
open Go.RowKit

theorem in_take {w : World} {p : Option Addr} {n : Nat} {xs : List Int} (h : Lib.BytesIn w p n xs) (k : Nat) (hk : k ≤ n) : Lib.BytesIn w p k (xs.take k) := by
  intro hk0
  obtain ⟨b, o, hp, hc⟩ := h.at (by omega)
  refine ⟨b, o, hp, fun i hi => ?_⟩
  rw [hc i (by omega), List.getD_eq_getElem?_getD, List.getD_eq_getElem?_getD, List.getElem?_take, if_pos hi]

theorem drop_in {w : World} {b o n : Nat} {xs : List Int} (h : Lib.BytesIn w (some ⟨b, o, none⟩) n xs) (a : Nat) : Lib.BytesIn w (some ⟨b, o + a, none⟩) (n - a) (xs.drop a) := by
  intro hm
  obtain ⟨b', o', hh, hc⟩ := h (by omega)
  simp only [Option.some.injEq, Addr.mk.injEq, and_true] at hh
  obtain ⟨rfl, rfl⟩ := hh
  refine ⟨b, o + a, rfl, fun i hi => ?_⟩
  rw [Nat.add_assoc, hc (a + i) (by omega), List.getD_eq_getElem?_getD, List.getD_eq_getElem?_getD, List.getElem?_drop]



/-- The document's reader: it stands at i of the bytes xs, its error is err. -/
structure XS (w : World) (xb : Nat) (p : Option Addr) (n c : Nat) (xs : List Int) (i : Nat) (err : Int) : Prop where
  c0 : w.cell? ⟨xb, 0, none⟩ = some (.slice p n c)
  c1 : w.cell? ⟨xb, 1, none⟩ = some (.int .i64 i)
  c2 : w.cell? ⟨xb, 2, none⟩ = some (.int .i64 err)
  f1 : w.frozen? ⟨xb, 1, none⟩ = false
  f2 : w.frozen? ⟨xb, 2, none⟩ = false
  inn : Lib.BytesIn w p n xs
  len : xs.length = n
  ncap : n ≤ c
  ile : i ≤ n
  hp : p = none → n = 0 ∧ c = 0
  pne : ∀ ad, p = some ad → ad.block ≠ xb
  rng : ∀ x ∈ xs, 0 ≤ x ∧ x < 256
  nb : n ≤ 140737488355328

variable {w : World} {xb n c : Nat} {p : Option Addr} {xs : List Int} {i : Nat} {err : Int}

theorem XS.drewN (h : XS w xb p n c xs i err) (q : Nat) : XS (w.drewN q) xb p n c xs i err := ⟨h.c0, h.c1, h.c2, h.f1, h.f2, h.inn, h.len, h.ncap, h.ile, h.hp, h.pne, h.rng, h.nb⟩

theorem in_kept2 {w w' : World} {xb n : Nat} {p : Option Addr} {xs : List Int} (hg : w.grownBy w' (some xb)) (hne : ∀ ad, p = some ad → ad.block ≠ xb) (h : Lib.BytesIn w p n xs) : Lib.BytesIn w' p n xs := by
  intro hn
  obtain ⟨b', o', rfl, hc⟩ := h hn
  exact ⟨b', o', rfl, fun i hi => hg.cell (hc i hi) (by simpa using hne _ rfl)⟩

theorem XS.setAt (h : XS w xb p n c xs i err) (j : Nat) (hj : j ≤ n) : XS (w.setCell ⟨xb, 1, none⟩ (.int .i64 j)) xb p n c xs j err where
  c0 := (World.cell?_setCell_other _ _ _ _ (by simp)).trans h.c0
  c1 := World.cell?_setCell_same _ _ _ h.c1
  c2 := (World.cell?_setCell_other _ _ _ _ (by simp)).trans h.c2
  f1 := (World.frozen?_setCell _ _ _ _).trans h.f1
  f2 := (World.frozen?_setCell _ _ _ _).trans h.f2
  inn := in_kept2 (grown_setCell w xb 1 _) h.pne h.inn
  len := h.len
  ncap := h.ncap
  ile := hj
  hp := h.hp
  pne := h.pne
  rng := h.rng
  nb := h.nb

theorem XS.setErr (h : XS w xb p n c xs i err) (e : Int) : XS (w.setCell ⟨xb, 2, none⟩ (.int .i64 e)) xb p n c xs i e where
  c0 := (World.cell?_setCell_other _ _ _ _ (by simp)).trans h.c0
  c1 := (World.cell?_setCell_other _ _ _ _ (by simp)).trans h.c1
  c2 := World.cell?_setCell_same _ _ _ h.c2
  f1 := (World.frozen?_setCell _ _ _ _).trans h.f1
  f2 := (World.frozen?_setCell _ _ _ _).trans h.f2
  inn := in_kept2 (grown_setCell w xb 2 _) h.pne h.inn
  len := h.len
  ncap := h.ncap
  ile := h.ile
  hp := h.hp
  pne := h.pne
  rng := h.rng
  nb := h.nb

/-- What an ask of the document's reader leaves. -/
def XOut (r : Value) (w : World) (xb : Nat) (p : Option Addr) (n c : Nat) (xs : List Int) (i : Nat) (err : Int) (e : Ending) (w' : World) : Prop :=
  e = .returned r ∧ XS w' xb p n c xs i err ∧ w.grownBy w' (some xb)

set_option maxHeartbeats 400000 in
theorem on_ok (h : XS w xb p n c xs i err) (S : Nat) (hS : i + S ≤ n) : Calls Try.prog 98 #[.pointer (some ⟨xb, 0, none⟩), .int .i64 S, .int .i64 0] w (XOut (.bool true) w xb p n c xs (i + S) err) := by
  have c0 := h.c0
  have c1 := h.c1
  have c2 := h.c2
  have f1 := h.f1
  have hi := h.ile
  have hn := h.nb
  have hnc := h.ncap
  have e1 : IntKind.i64.wrap ((i : Int) + (S : Int)) = (i : Int) + (S : Int) := wrap_i64 _ (by omega) (by omega)
  have Hs := Lib.hid (h.setAt (i + S) hS)
  clear h
  go_enter Try.func98, Try.ntmps98
  go_wp2_with fail
  go_ret
  exact ⟨rfl, Hs.out, grown_setCell w xb 1 _⟩

set_option maxHeartbeats 400000 in
theorem on_bad (h : XS w xb p n c xs i err) (k : Int) (E : Int) (hE : E ≠ 0) : Calls Try.prog 98 #[.pointer (some ⟨xb, 0, none⟩), .int .i64 k, .int .i64 E] w (XOut (.bool false) w xb p n c xs i E) := by
  have c2 := h.c2
  have f2 := h.f2
  have t1 : (E == 0) = false := by simpa using hE
  have t2 : (E != 0) = true := by simpa using hE
  have Hs := Lib.hid (h.setErr E)
  clear h
  go_enter Try.func98, Try.ntmps98
  go_wp2_with fail
  go_ret
  exact ⟨rfl, Hs.out, grown_setCell w xb 2 _⟩

/-- Where the document's reader reads: four ways that a slice of what is left lies. -/
inductive Lies (p : Option Addr) (n c i : Nat) : Prop
  | none (hp : p = none) (hn : n = 0) (hc : c = 0) (hi : i = 0)
  | full (ad : Addr) (hp : p = some ad) (hc : c = i) (hn : n = i)
  | some (b o : Nat) (hp : p = some ⟨b, o, Option.none⟩) (hc : c ≠ i)
  | zero (ad : Addr) (hp : p = some ad) (hn : n = 0) (hi : i = 0) (hc : c ≠ i)

theorem XS.lies (h : XS w xb p n c xs i err) : Lies p n c i := by
  have h1 := h.ile
  have h2 := h.ncap
  cases p with
  | none => obtain ⟨rfl, rfl⟩ := h.hp rfl; exact .none rfl rfl rfl (by omega)
  | some ad =>
    by_cases hc : c = i
    · exact .full ad rfl hc (by omega)
    rcases Nat.eq_zero_or_pos n with h0 | h0
    · exact .zero ad rfl h0 (by omega) hc
    · obtain ⟨b, o, e, _⟩ := h.inn h0
      exact .some b o e hc

/-- What the rest of the bytes is as a slice. -/
def IsV (p : Option Addr) (n c i : Nat) (V : Value) : Prop :=
  (n = i ∧ ∃ p' c', V = .slice p' 0 c') ∨ (∃ b o, p = some ⟨b, o, none⟩ ∧ V = .slice (some ⟨b, o + i, none⟩) (n - i) (c - i))

theorem num_v (h : XS w xb p n c xs i err) (q : Nat) (V : Value) (hV : IsV p n c i V) : Calls Try.prog 97 #[V] (w.drewN q) fun e w' => e = .returned (.tuple #[.int .i64 (numAt (xs.drop i)).1, .int .i64 (numAt (xs.drop i)).2.1, .int .i64 (numAt (xs.drop i)).2.2]) ∧ w.drewN q = w' := by
  rcases hV with ⟨hn, p', c', rfl⟩ | ⟨b, o, rfl, rfl⟩
  · have hd : xs.drop i = [] := List.drop_eq_nil_of_le (by rw [h.len]; omega)
    rw [hd]
    exact rnumber_none p' c' _
  · have h1 := h.nb
    have h2 := h.ncap
    exact rnumber_any _ (n - i) (c - i) (xs.drop i) (w.drewN q) (by rw [List.length_drop, h.len]) (drop_in h.inn i) (by omega) (by omega) (fun x hx => h.rng x (List.mem_of_mem_drop hx))

theorem isV_zero (p p' : Option Addr) (n c c' : Nat) : IsV p n c n (.slice p' 0 c') := .inl ⟨rfl, _, _, rfl⟩
theorem isV_some (b o n c i : Nat) : IsV (some ⟨b, o, none⟩) n c i (.slice (some ⟨b, o + i, none⟩) (n - i) (c - i)) := .inr ⟨b, o, rfl, rfl⟩

theorem xs_ok (h : XS w xb p n c xs i err) (N S : Nat) (ht : numAt (xs.drop i) = (N, S, 0)) : i + S ≤ n ∧ N ≤ 9223372036854775807 ∧ 1 ≤ S ∧ S ≤ 9 := by
  have h1 := numAt_ok (xs.drop i) (fun x hx => h.rng x (List.mem_of_mem_drop hx)) (by rw [ht])
  have h2 := numAt_back (xs.drop i) (fun x hx => h.rng x (List.mem_of_mem_drop hx)) N S ht
  rw [ht, List.length_drop, h.len] at h1
  have := h.ile
  simp only at h1
  omega

end Go.Proofs.Ytdfjnpnkfjcpcaa.Wi

/- WRS2 -/
namespace Go.Proofs.Ytdfjnpnkfjcpcaa.Wi
set_option linter.unusedVariables false
set_option linter.unusedSimpArgs false
open Go.Proofs.Ytdfjnpnkfjcpcaa
open Go.RowKit
variable {w : World} {xb n c : Nat} {p : Option Addr} {xs : List Int} {i : Nat} {err : Int}

set_option maxHeartbeats 400000 in
theorem XWithin_err (h : XS w xb p n c xs i err) (lo hi : Int) (he : err ≠ 0) : Calls Try.prog 75 #[.pointer (some ⟨xb, 0, none⟩), .int .i64 lo, .int .i64 hi] w (XOut (.int .i64 0) w xb p n c xs i err) := by
  have c2 := h.c2
  have t1 : (err == 0) = false := by simpa using he
  have t2 : (err != 0) = true := by simpa using he
  have H := Lib.hid h
  clear h
  go_enter Try.func75, Try.ntmps75
  go_wp2_with fail
  go_ret
  exact ⟨rfl, H.out, World.grownBy.refl _ _⟩

set_option maxHeartbeats 400000 in
theorem XText_err (h : XS w xb p n c xs i err) (most : Int) (he : err ≠ 0) : Calls Try.prog 76 #[.pointer (some ⟨xb, 0, none⟩), .int .i64 most] w (XOut (.string ⟨#[]⟩) w xb p n c xs i err) := by
  have c2 := h.c2
  have t1 : (err == 0) = false := by simpa using he
  have t2 : (err != 0) = true := by simpa using he
  have H := Lib.hid h
  clear h
  go_enter Try.func76, Try.ntmps76
  go_wp2_with fail
  go_ret
  exact ⟨rfl, H.out, World.grownBy.refl _ _⟩

set_option maxRecDepth 100000 in
set_option maxHeartbeats 1600000 in
theorem XWithin_bad (h : XS w xb p n c xs i 0) (lo hj : Int) (N S : Nat) (E : Int) (ht : numAt (xs.drop i) = (N, S, E)) (hE : E ≠ 0) : Calls Try.prog 75 #[.pointer (some ⟨xb, 0, none⟩), .int .i64 lo, .int .i64 hj] w (XOut (.int .i64 0) w xb p n c xs i E) := by
  have c0 := h.c0
  have c1 := h.c1
  have c2 := h.c2
  have hi := h.ile
  have hn := h.nb
  have hnc := h.ncap
  have hl := h.lies
  have t1 : (E == 0) = false := by simpa using hE
  have t2 : (E != 0) = true := by simpa using hE
  have Hn := Lib.hid (num_v h)
  rw [ht] at Hn
  have Hon : Hid (∀ q, Calls Try.prog 98 #[.pointer (some ⟨xb, 0, none⟩), .int .i64 S, .int .i64 E] (w.drewN q) (XOut (.bool false) (w.drewN q) xb p n c xs i E)) := fun q => on_bad (h.drewN q) S E hE
  clear h ht
  rcases hl with ⟨rfl, rfl, rfl, rfl⟩ | ⟨ad, rfl, rfl, rfl⟩ | ⟨b, o, rfl, hc⟩ | ⟨ad, rfl, rfl, rfl, hc⟩
  all_goals
    go_enter Try.func75, Try.ntmps75
    go_wp2_with fail
    go_quiet ((go_at_call 97; first | exact quiet_left (Hn.out _ _ (isV_zero _ _ _ _ _)) | exact quiet_left (Hn.out _ _ (isV_some _ _ _ _ _))))
    go_wp2_with fail
    go_fit (Hon.out _)
    rintro e w' ⟨rfl, hxs, hg⟩
    have Hxs := Lib.hid hxs
    have Hg := Lib.hid hg
    clear hxs hg
    go_wp2_with fail
    go_ret
    exact ⟨rfl, Hxs.out, ⟨Hg.out.os, Hg.out.tape, Hg.out.output, Hg.out.size, Hg.out.block⟩⟩

set_option maxRecDepth 100000 in
set_option maxHeartbeats 1600000 in
theorem XWithin_low (h : XS w xb p n c xs i 0) (lo hj : Int) (N S : Nat) (ht : numAt (xs.drop i) = (N, S, 0)) (h0 : (N : Int) < lo) : Calls Try.prog 75 #[.pointer (some ⟨xb, 0, none⟩), .int .i64 lo, .int .i64 hj] w (XOut (.int .i64 0) w xb p n c xs i 5) := by
  have c0 := h.c0
  have c1 := h.c1
  have c2 := h.c2
  have hi := h.ile
  have hn := h.nb
  have hnc := h.ncap
  have hl := h.lies
  have hS := xs_ok h N S ht
  have Hn := Lib.hid (num_v h)
  rw [ht] at Hn
  have Hon : Hid (∀ q, Calls Try.prog 98 #[.pointer (some ⟨xb, 0, none⟩), .int .i64 S, .int .i64 5] (w.drewN q) (XOut (.bool false) (w.drewN q) xb p n c xs i 5)) := fun q => on_bad (h.drewN q) S 5 (by decide)
  clear h ht
  obtain ⟨hS1, hS2, hS3, hS4⟩ := hS
  obtain ⟨b, o, rfl, hc⟩ : ∃ b o, p = some ⟨b, o, none⟩ ∧ c ≠ i := by
    rcases hl with ⟨_, _, _, _⟩ | ⟨_, _, _, _⟩ | ⟨b, o, e, hc⟩ | ⟨_, _, _, _, _⟩
    · omega
    · omega
    · exact ⟨b, o, e, hc⟩
    · omega
  all_goals
    go_enter Try.func75, Try.ntmps75
    go_wp2_with fail
    go_quiet ((go_at_call 97; first | exact quiet_left (Hn.out _ _ (isV_zero _ _ _ _ _)) | exact quiet_left (Hn.out _ _ (isV_some _ _ _ _ _))))
    go_wp2_with fail
    go_fit (Hon.out _)
    rintro e w' ⟨rfl, hxs, hg⟩
    have Hxs := Lib.hid hxs
    have Hg := Lib.hid hg
    clear hxs hg
    go_wp2_with fail
    go_ret
    exact ⟨rfl, Hxs.out, ⟨Hg.out.os, Hg.out.tape, Hg.out.output, Hg.out.size, Hg.out.block⟩⟩

set_option maxRecDepth 100000 in
set_option maxHeartbeats 1600000 in
theorem XWithin_high (h : XS w xb p n c xs i 0) (lo hj : Int) (N S : Nat) (ht : numAt (xs.drop i) = (N, S, 0)) (h0 : ¬ (N : Int) < lo) (h1 : hj < (N : Int)) : Calls Try.prog 75 #[.pointer (some ⟨xb, 0, none⟩), .int .i64 lo, .int .i64 hj] w (XOut (.int .i64 0) w xb p n c xs i 5) := by
  have c0 := h.c0
  have c1 := h.c1
  have c2 := h.c2
  have hi := h.ile
  have hn := h.nb
  have hnc := h.ncap
  have hl := h.lies
  have hS := xs_ok h N S ht
  have Hn := Lib.hid (num_v h)
  rw [ht] at Hn
  have Hon : Hid (∀ q, Calls Try.prog 98 #[.pointer (some ⟨xb, 0, none⟩), .int .i64 S, .int .i64 5] (w.drewN q) (XOut (.bool false) (w.drewN q) xb p n c xs i 5)) := fun q => on_bad (h.drewN q) S 5 (by decide)
  clear h ht
  obtain ⟨hS1, hS2, hS3, hS4⟩ := hS
  obtain ⟨b, o, rfl, hc⟩ : ∃ b o, p = some ⟨b, o, none⟩ ∧ c ≠ i := by
    rcases hl with ⟨_, _, _, _⟩ | ⟨_, _, _, _⟩ | ⟨b, o, e, hc⟩ | ⟨_, _, _, _, _⟩
    · omega
    · omega
    · exact ⟨b, o, e, hc⟩
    · omega
  all_goals
    go_enter Try.func75, Try.ntmps75
    go_wp2_with fail
    go_quiet ((go_at_call 97; first | exact quiet_left (Hn.out _ _ (isV_zero _ _ _ _ _)) | exact quiet_left (Hn.out _ _ (isV_some _ _ _ _ _))))
    go_wp2_with fail
    go_fit (Hon.out _)
    rintro e w' ⟨rfl, hxs, hg⟩
    have Hxs := Lib.hid hxs
    have Hg := Lib.hid hg
    clear hxs hg
    go_wp2_with fail
    go_ret
    exact ⟨rfl, Hxs.out, ⟨Hg.out.os, Hg.out.tape, Hg.out.output, Hg.out.size, Hg.out.block⟩⟩

set_option maxRecDepth 100000 in
set_option maxHeartbeats 1600000 in
theorem XWithin_ok (h : XS w xb p n c xs i 0) (lo hj : Int) (N S : Nat) (ht : numAt (xs.drop i) = (N, S, 0)) (h0 : ¬ (N : Int) < lo) (h1 : ¬ hj < (N : Int)) : Calls Try.prog 75 #[.pointer (some ⟨xb, 0, none⟩), .int .i64 lo, .int .i64 hj] w (XOut (.int .i64 (N : Int)) w xb p n c xs (i + S) 0) := by
  have c0 := h.c0
  have c1 := h.c1
  have c2 := h.c2
  have hi := h.ile
  have hn := h.nb
  have hnc := h.ncap
  have hl := h.lies
  have hS := xs_ok h N S ht
  have Hn := Lib.hid (num_v h)
  rw [ht] at Hn
  have Hon : Hid (∀ q, Calls Try.prog 98 #[.pointer (some ⟨xb, 0, none⟩), .int .i64 S, .int .i64 0] (w.drewN q) (XOut (.bool true) (w.drewN q) xb p n c xs (i + S) 0)) := fun q => on_ok (h.drewN q) S hS.1
  clear h ht
  obtain ⟨hS1, hS2, hS3, hS4⟩ := hS
  obtain ⟨b, o, rfl, hc⟩ : ∃ b o, p = some ⟨b, o, none⟩ ∧ c ≠ i := by
    rcases hl with ⟨_, _, _, _⟩ | ⟨_, _, _, _⟩ | ⟨b, o, e, hc⟩ | ⟨_, _, _, _, _⟩
    · omega
    · omega
    · exact ⟨b, o, e, hc⟩
    · omega
  all_goals
    go_enter Try.func75, Try.ntmps75
    go_wp2_with fail
    go_quiet ((go_at_call 97; first | exact quiet_left (Hn.out _ _ (isV_zero _ _ _ _ _)) | exact quiet_left (Hn.out _ _ (isV_some _ _ _ _ _))))
    go_wp2_with fail
    go_fit (Hon.out _)
    rintro e w' ⟨rfl, hxs, hg⟩
    have Hxs := Lib.hid hxs
    have Hg := Lib.hid hg
    clear hxs hg
    go_wp2_with fail
    go_ret
    exact ⟨rfl, Hxs.out, ⟨Hg.out.os, Hg.out.tape, Hg.out.output, Hg.out.size, Hg.out.block⟩⟩

end Go.Proofs.Ytdfjnpnkfjcpcaa.Wi

/- WRS3 -/
namespace Go.Proofs.Ytdfjnpnkfjcpcaa.Wi
set_option linter.unusedVariables false
set_option linter.unusedSimpArgs false
open Go.Proofs.Ytdfjnpnkfjcpcaa
open Go.RowKit
variable {w : World} {xb n c : Nat} {p : Option Addr} {xs : List Int} {i : Nat} {err : Int}

end Go.Proofs.Ytdfjnpnkfjcpcaa.Wi

/- WRS4 -/
namespace Go.Proofs.Ytdfjnpnkfjcpcaa.Wi
set_option linter.unusedVariables false
set_option linter.unusedSimpArgs false
open Go.Proofs.Ytdfjnpnkfjcpcaa
open Go.RowKit
variable {w : World} {xb n c : Nat} {p : Option Addr} {xs : List Int} {i : Nat} {err : Int}

set_option maxRecDepth 100000 in
set_option maxHeartbeats 1600000 in
theorem XText_bad (h : XS w xb p n c xs i 0) (most : Int) (N S : Nat) (E : Int) (ht : numAt (xs.drop i) = (N, S, E)) (hE : E ≠ 0) : Calls Try.prog 76 #[.pointer (some ⟨xb, 0, none⟩), .int .i64 most] w (XOut (.string ⟨#[]⟩) w xb p n c xs i E) := by
  have c0 := h.c0
  have c1 := h.c1
  have c2 := h.c2
  have hi := h.ile
  have hn := h.nb
  have hnc := h.ncap
  have hl := h.lies
  have t1 : (E == 0) = false := by simpa using hE
  have t2 : (E != 0) = true := by simpa using hE
  obtain ⟨K, hK⟩ : ∃ K, IntKind.i64.wrap ((S : Int) + (N : Int)) = K := ⟨_, rfl⟩
  have Hn := Lib.hid (num_v h)
  rw [ht] at Hn
  have Hon : Hid (∀ q, Calls Try.prog 98 #[.pointer (some ⟨xb, 0, none⟩), .int .i64 K, .int .i64 E] (w.drewN q) (XOut (.bool false) (w.drewN q) xb p n c xs i E)) := fun q => on_bad (h.drewN q) K E hE
  clear h ht
  rcases hl with ⟨rfl, rfl, rfl, rfl⟩ | ⟨ad, rfl, rfl, rfl⟩ | ⟨b, o, rfl, hc⟩ | ⟨ad, rfl, rfl, rfl, hc⟩
  all_goals
    go_enter Try.func76, Try.ntmps76
    go_wp2_with fail
    go_quiet ((go_at_call 97; first | exact quiet_left (Hn.out _ _ (isV_zero _ _ _ _ _)) | exact quiet_left (Hn.out _ _ (isV_some _ _ _ _ _))))
    go_wp2_with fail
    go_quiet (fail)
    go_wp2_with fail
    go_fit (Hon.out _)
    rintro e w' ⟨rfl, hxs, hg⟩
    have Hxs := Lib.hid hxs
    have Hg := Lib.hid hg
    clear hxs hg
    go_wp2_with fail
    go_ret
    exact ⟨rfl, Hxs.out, ⟨Hg.out.os, Hg.out.tape, Hg.out.output, Hg.out.size, Hg.out.block⟩⟩

set_option maxRecDepth 100000 in
set_option maxHeartbeats 1600000 in
theorem XText_long (h : XS w xb p n c xs i 0) (most : Int) (N S : Nat) (ht : numAt (xs.drop i) = (N, S, 0)) (h0 : 0 < (N : Int)) (h1 : most < (N : Int)) : Calls Try.prog 76 #[.pointer (some ⟨xb, 0, none⟩), .int .i64 most] w (XOut (.string ⟨#[]⟩) w xb p n c xs i 4) := by
  have c0 := h.c0
  have c1 := h.c1
  have c2 := h.c2
  have hi := h.ile
  have hn := h.nb
  have hnc := h.ncap
  have hl := h.lies
  have hS := xs_ok h N S ht
  obtain ⟨K, hK⟩ : ∃ K, IntKind.i64.wrap ((S : Int) + (N : Int)) = K := ⟨_, rfl⟩
  have Hn := Lib.hid (num_v h)
  rw [ht] at Hn
  have Hon : Hid (∀ q, Calls Try.prog 98 #[.pointer (some ⟨xb, 0, none⟩), .int .i64 K, .int .i64 4] (w.drewN q) (XOut (.bool false) (w.drewN q) xb p n c xs i 4)) := fun q => on_bad (h.drewN q) K 4 (by decide)
  clear h ht
  obtain ⟨hS1, hS2, hS3, hS4⟩ := hS
  obtain ⟨b, o, rfl, hc⟩ : ∃ b o, p = some ⟨b, o, none⟩ ∧ c ≠ i := by
    rcases hl with ⟨_, _, _, _⟩ | ⟨_, _, _, _⟩ | ⟨b, o, e, hc⟩ | ⟨_, _, _, _, _⟩
    · omega
    · omega
    · exact ⟨b, o, e, hc⟩
    · omega
  all_goals
    go_enter Try.func76, Try.ntmps76
    go_wp2_with fail
    go_quiet ((go_at_call 97; first | exact quiet_left (Hn.out _ _ (isV_zero _ _ _ _ _)) | exact quiet_left (Hn.out _ _ (isV_some _ _ _ _ _))))
    go_wp2_with fail
    go_quiet (fail)
    go_wp2_with fail
    go_fit (Hon.out _)
    rintro e w' ⟨rfl, hxs, hg⟩
    have Hxs := Lib.hid hxs
    have Hg := Lib.hid hg
    clear hxs hg
    go_wp2_with fail
    go_ret
    exact ⟨rfl, Hxs.out, ⟨Hg.out.os, Hg.out.tape, Hg.out.output, Hg.out.size, Hg.out.block⟩⟩

set_option maxRecDepth 100000 in
set_option maxHeartbeats 1600000 in
theorem XText_short (h : XS w xb p n c xs i 0) (most : Int) (N S : Nat) (ht : numAt (xs.drop i) = (N, S, 0)) (h0 : 0 < (N : Int)) (h1 : ¬ most < (N : Int)) (h2 : (n : Int) - (i : Int) - (S : Int) < (N : Int)) : Calls Try.prog 76 #[.pointer (some ⟨xb, 0, none⟩), .int .i64 most] w (XOut (.string ⟨#[]⟩) w xb p n c xs i 2) := by
  have c0 := h.c0
  have c1 := h.c1
  have c2 := h.c2
  have hi := h.ile
  have hn := h.nb
  have hnc := h.ncap
  have hl := h.lies
  have hS := xs_ok h N S ht
  obtain ⟨K, hK⟩ : ∃ K, IntKind.i64.wrap ((S : Int) + (N : Int)) = K := ⟨_, rfl⟩
  have u1 : IntKind.i64.wrap ((n : Int) - (i : Int)) = (n : Int) - (i : Int) := wrap_i64 _ (by omega) (by omega)
  have u2 : IntKind.i64.wrap ((n : Int) - (i : Int) - (S : Int)) = (n : Int) - (i : Int) - (S : Int) := wrap_i64 _ (by omega) (by omega)
  have Hn := Lib.hid (num_v h)
  rw [ht] at Hn
  have Hon : Hid (∀ q, Calls Try.prog 98 #[.pointer (some ⟨xb, 0, none⟩), .int .i64 K, .int .i64 2] (w.drewN q) (XOut (.bool false) (w.drewN q) xb p n c xs i 2)) := fun q => on_bad (h.drewN q) K 2 (by decide)
  clear h ht
  obtain ⟨hS1, hS2, hS3, hS4⟩ := hS
  obtain ⟨b, o, rfl, hc⟩ : ∃ b o, p = some ⟨b, o, none⟩ ∧ c ≠ i := by
    rcases hl with ⟨_, _, _, _⟩ | ⟨_, _, _, _⟩ | ⟨b, o, e, hc⟩ | ⟨_, _, _, _, _⟩
    · omega
    · omega
    · exact ⟨b, o, e, hc⟩
    · omega
  all_goals
    go_enter Try.func76, Try.ntmps76
    go_wp2_with fail
    go_quiet ((go_at_call 97; first | exact quiet_left (Hn.out _ _ (isV_zero _ _ _ _ _)) | exact quiet_left (Hn.out _ _ (isV_some _ _ _ _ _))))
    go_wp2_with fail
    go_quiet (fail)
    go_wp2_with fail
    go_fit (Hon.out _)
    rintro e w' ⟨rfl, hxs, hg⟩
    have Hxs := Lib.hid hxs
    have Hg := Lib.hid hg
    clear hxs hg
    go_wp2_with fail
    go_ret
    exact ⟨rfl, Hxs.out, ⟨Hg.out.os, Hg.out.tape, Hg.out.output, Hg.out.size, Hg.out.block⟩⟩

end Go.Proofs.Ytdfjnpnkfjcpcaa.Wi

/- WRS5 -/
namespace Go.Proofs.Ytdfjnpnkfjcpcaa.Wi
set_option linter.unusedVariables false
set_option linter.unusedSimpArgs false
open Go.Proofs.Ytdfjnpnkfjcpcaa
open Go.RowKit
variable {w : World} {xb n c : Nat} {p : Option Addr} {xs : List Int} {i : Nat} {err : Int}

set_option maxRecDepth 100000 in
set_option maxHeartbeats 1600000 in
theorem XText_full0 (h : XS w xb p n c xs i 0) (most : Int) (S : Nat) (ht : numAt (xs.drop i) = (0, S, 0)) (hic : c = i + S) : Calls Try.prog 76 #[.pointer (some ⟨xb, 0, none⟩), .int .i64 most] w (XOut (.string (strOfNums [])) w xb p n c xs (i + S) 0) := by
  have c0 := h.c0
  have c1 := h.c1
  have c2 := h.c2
  have hi := h.ile
  have hn := h.nb
  have hnc := h.ncap
  have hl := h.lies
  obtain ⟨hS1, hS2, hS3, hS4⟩ := xs_ok h 0 S ht
  have Hn := Lib.hid (num_v h)
  rw [ht] at Hn
  have Hon : Hid (∀ q, Calls Try.prog 98 #[.pointer (some ⟨xb, 0, none⟩), .int .i64 (S : Int), .int .i64 0] (w.drewN q) (XOut (.bool true) (w.drewN q) xb p n c xs (i + S) 0)) := fun q => on_ok (h.drewN q) S (by omega)
  obtain ⟨b, o, rfl, hc⟩ : ∃ b o, p = some ⟨b, o, none⟩ ∧ c ≠ i := by
    rcases hl with ⟨_, _, _, _⟩ | ⟨_, _, _, _⟩ | ⟨b, o, e, hc⟩ | ⟨_, _, _, _, _⟩
    · omega
    · omega
    · exact ⟨b, o, e, hc⟩
    · omega
  obtain rfl : n = c := by omega
  have hT : Hid (i + S = n) := hic.symm
  rw [hT.out] at Hon ⊢
  have k1 : IntKind.i64.wrap (S : Int) = (S : Int) := wrap_i64 _ (by omega) (by omega)
  have u1 : IntKind.i64.wrap ((n : Int) - (i : Int)) = (n : Int) - (i : Int) := wrap_i64 _ (by omega) (by omega)
  have u2 : IntKind.i64.wrap ((n : Int) - (i : Int) - (S : Int)) = (n : Int) - (i : Int) - (S : Int) := wrap_i64 _ (by omega) (by omega)
  have h3 : ¬ (n : Int) - (i : Int) - (S : Int) < 0 := by omega
  have k3 : IntKind.i64.wrap (n : Int) = (n : Int) := wrap_i64 _ (by omega) (by omega)
  clear h ht hl hic
  go_enter Try.func76, Try.ntmps76
  go_wp2_with fail
  go_quiet ((go_at_call 97; first | exact quiet_left (Hn.out _ _ (isV_zero _ _ _ _ _)) | exact quiet_left (Hn.out _ _ (isV_some _ _ _ _ _))))
  go_wp2_with fail
  go_quiet (fail)
  go_wp2_with fail
  go_fit (Hon.out _)
  rintro e w' ⟨rfl, hxs, hg⟩
  have d0 := hxs.c0
  have d1 := hxs.c1
  have Hxs := Lib.hid hxs
  have Hg := Lib.hid hg
  clear hxs hg c0 c1 c2 u1 u2
  have hcv : ∀ q, (convert 61 9 (.slice (some ⟨b, o, none⟩) 0 0)).run Try.prog (w'.drewN q) = .ok (.string (strOfNums [])) (w'.drewN q) := fun q =>
    Lib.BytesIn.convert (w := w'.drewN q) (Lib.BytesIn.nil _ _ _) rfl 0 _ _ _ Try.underlying61 Try.underlying5 Try.underlying9
  generalize strOfNums [] = str at *
  go_wp2_with fail
  go_quiet (fail)
  go_wp2_with fail
  go_ret
  exact ⟨rfl, Hxs.out.drewN _, ⟨Hg.out.os, Hg.out.tape, Hg.out.output, Hg.out.size, Hg.out.block⟩⟩

set_option maxRecDepth 100000 in
set_option maxHeartbeats 1600000 in
theorem XText_ok0 (h : XS w xb p n c xs i 0) (most : Int) (N S : Nat) (ht : numAt (xs.drop i) = (N, S, 0)) (h0 : ¬ 0 < (N : Int)) (h2 : i + S + N ≤ n) (hic : c ≠ i + S) : Calls Try.prog 76 #[.pointer (some ⟨xb, 0, none⟩), .int .i64 most] w (XOut (.string (strOfNums ((xs.drop (i + S)).take N))) w xb p n c xs (i + S + N) 0) := by
  have c0 := h.c0
  have c1 := h.c1
  have c2 := h.c2
  have hi := h.ile
  have hn := h.nb
  have hnc := h.ncap
  have hl := h.lies
  have hS := xs_ok h N S ht
  have hpne := h.pne
  have k1 : IntKind.i64.wrap ((S : Int) + (N : Int)) = (S : Int) + (N : Int) := wrap_i64 _ (by omega) (by omega)
  have u1 : IntKind.i64.wrap ((n : Int) - (i : Int)) = (n : Int) - (i : Int) := wrap_i64 _ (by omega) (by omega)
  have u2 : IntKind.i64.wrap ((n : Int) - (i : Int) - (S : Int)) = (n : Int) - (i : Int) - (S : Int) := wrap_i64 _ (by omega) (by omega)
  have h3 : ¬ (n : Int) - (i : Int) - (S : Int) < (N : Int) := by omega
  have Hn := Lib.hid (num_v h)
  rw [ht] at Hn
  have Hon : Hid (∀ q, Calls Try.prog 98 #[.pointer (some ⟨xb, 0, none⟩), .int .i64 ((S : Int) + (N : Int)), .int .i64 0] (w.drewN q) (XOut (.bool true) (w.drewN q) xb p n c xs (i + (S + N)) 0)) := fun q => by rw [show (S : Int) + (N : Int) = ((S + N : Nat) : Int) from by omega]; exact on_ok (h.drewN q) (S + N) (by omega)
  obtain ⟨hS1, hS2, hS3, hS4⟩ := hS
  obtain ⟨b, o, rfl, hc⟩ : ∃ b o, p = some ⟨b, o, none⟩ ∧ c ≠ i := by
    rcases hl with ⟨_, _, _, _⟩ | ⟨_, _, _, _⟩ | ⟨b, o, e, hc⟩ | ⟨_, _, _, _, _⟩
    · omega
    · omega
    · exact ⟨b, o, e, hc⟩
    · omega
  have hlx := h.len
  clear h ht
  obtain ⟨T, hT⟩ : ∃ T : Nat, T = i + (S + N) := ⟨_, rfl⟩
  obtain ⟨A, hA⟩ : ∃ A : Nat, A = i + S := ⟨_, rfl⟩
  rw [← hT] at Hon
  rw [show i + S + N = T from by omega, ← hA]
  have k2 : IntKind.i64.wrap ((T : Int) - (N : Int)) = (A : Int) := by rw [wrap_i64 _ (by omega) (by omega)]; omega
  have hTA : T - A = N := by omega
  have k3 : (T : Int) - (N : Int) = (A : Int) := by omega
  have k4 : ((A : Int)).toNat = A := by omega
  have i0 : (0 : Int) ≤ (A : Int) := by omega
  have i4 : A ≤ T := by omega
  have i5 : T ≤ c := by omega
  have hne : ¬ c = A := by omega
  have hne2 : ¬ (c : Int) = (A : Int) := by omega
  have i1 : (A : Int) ≤ (T : Int) := by omega
  have i2 : (T : Int) ≤ (c : Int) := by omega
  have i3 : T ≤ n := by omega
  clear hT hA k3
  go_enter Try.func76, Try.ntmps76
  go_wp2_with fail
  go_quiet ((go_at_call 97; first | exact quiet_left (Hn.out _ _ (isV_zero _ _ _ _ _)) | exact quiet_left (Hn.out _ _ (isV_some _ _ _ _ _))))
  go_wp2_with fail
  go_quiet (fail)
  go_wp2_with fail
  go_fit (Hon.out _)
  rintro e w' ⟨rfl, hxs, hg⟩
  have d0 := hxs.c0
  have d1 := hxs.c1
  have hin := drop_in hxs.inn A
  have Hxs := Lib.hid hxs
  have Hg := Lib.hid hg
  clear hxs hg c0 c1 c2 u1 u2
  have hlen : ((xs.drop A).take N).length = N := by simp only [List.length_take, List.length_drop]; omega
  have hin2 := in_take hin N (by omega)
  have hcv : ∀ q d, (convert 61 9 (.slice (some ⟨b, o + A, none⟩) (T - A) d)).run Try.prog (w'.drewN q) = .ok (.string (strOfNums ((xs.drop A).take N))) (w'.drewN q) := fun q d =>
    by rw [hTA]; exact Lib.BytesIn.convert (w := w'.drewN q) hin2 hlen d _ _ _ Try.underlying61 Try.underlying5 Try.underlying9
  generalize strOfNums ((xs.drop A).take N) = str at *
  clear hin hin2 hlen hTA
  go_wp2_with fail
  go_quiet (fail)
  go_wp2_with fail
  go_ret
  exact ⟨rfl, Hxs.out.drewN _, ⟨Hg.out.os, Hg.out.tape, Hg.out.output, Hg.out.size, Hg.out.block⟩⟩

set_option maxRecDepth 100000 in
set_option maxHeartbeats 1600000 in
theorem XText_ok (h : XS w xb p n c xs i 0) (most : Int) (N S : Nat) (ht : numAt (xs.drop i) = (N, S, 0)) (h0 : 0 < (N : Int)) (h1 : ¬ most < (N : Int)) (h2 : i + S + N ≤ n)  : Calls Try.prog 76 #[.pointer (some ⟨xb, 0, none⟩), .int .i64 most] w (XOut (.string (strOfNums ((xs.drop (i + S)).take N))) w xb p n c xs (i + S + N) 0) := by
  have c0 := h.c0
  have c1 := h.c1
  have c2 := h.c2
  have hi := h.ile
  have hn := h.nb
  have hnc := h.ncap
  have hl := h.lies
  have hS := xs_ok h N S ht
  have hpne := h.pne
  have k1 : IntKind.i64.wrap ((S : Int) + (N : Int)) = (S : Int) + (N : Int) := wrap_i64 _ (by omega) (by omega)
  have u1 : IntKind.i64.wrap ((n : Int) - (i : Int)) = (n : Int) - (i : Int) := wrap_i64 _ (by omega) (by omega)
  have u2 : IntKind.i64.wrap ((n : Int) - (i : Int) - (S : Int)) = (n : Int) - (i : Int) - (S : Int) := wrap_i64 _ (by omega) (by omega)
  have h3 : ¬ (n : Int) - (i : Int) - (S : Int) < (N : Int) := by omega
  have Hn := Lib.hid (num_v h)
  rw [ht] at Hn
  have Hon : Hid (∀ q, Calls Try.prog 98 #[.pointer (some ⟨xb, 0, none⟩), .int .i64 ((S : Int) + (N : Int)), .int .i64 0] (w.drewN q) (XOut (.bool true) (w.drewN q) xb p n c xs (i + (S + N)) 0)) := fun q => by rw [show (S : Int) + (N : Int) = ((S + N : Nat) : Int) from by omega]; exact on_ok (h.drewN q) (S + N) (by omega)
  obtain ⟨hS1, hS2, hS3, hS4⟩ := hS
  obtain ⟨b, o, rfl, hc⟩ : ∃ b o, p = some ⟨b, o, none⟩ ∧ c ≠ i := by
    rcases hl with ⟨_, _, _, _⟩ | ⟨_, _, _, _⟩ | ⟨b, o, e, hc⟩ | ⟨_, _, _, _, _⟩
    · omega
    · omega
    · exact ⟨b, o, e, hc⟩
    · omega
  have hlx := h.len
  clear h ht
  obtain ⟨T, hT⟩ : ∃ T : Nat, T = i + (S + N) := ⟨_, rfl⟩
  obtain ⟨A, hA⟩ : ∃ A : Nat, A = i + S := ⟨_, rfl⟩
  rw [← hT] at Hon
  rw [show i + S + N = T from by omega, ← hA]
  have k2 : IntKind.i64.wrap ((T : Int) - (N : Int)) = (A : Int) := by rw [wrap_i64 _ (by omega) (by omega)]; omega
  have hTA : T - A = N := by omega
  have k3 : (T : Int) - (N : Int) = (A : Int) := by omega
  have k4 : ((A : Int)).toNat = A := by omega
  have i0 : (0 : Int) ≤ (A : Int) := by omega
  have i4 : A ≤ T := by omega
  have i5 : T ≤ c := by omega
  have hne : ¬ c = A := by omega
  have hne2 : ¬ (c : Int) = (A : Int) := by omega
  have i1 : (A : Int) ≤ (T : Int) := by omega
  have i2 : (T : Int) ≤ (c : Int) := by omega
  have i3 : T ≤ n := by omega
  clear hT hA k3
  go_enter Try.func76, Try.ntmps76
  go_wp2_with fail
  go_quiet ((go_at_call 97; first | exact quiet_left (Hn.out _ _ (isV_zero _ _ _ _ _)) | exact quiet_left (Hn.out _ _ (isV_some _ _ _ _ _))))
  go_wp2_with fail
  go_quiet (fail)
  go_wp2_with fail
  go_fit (Hon.out _)
  rintro e w' ⟨rfl, hxs, hg⟩
  have d0 := hxs.c0
  have d1 := hxs.c1
  have hin := drop_in hxs.inn A
  have Hxs := Lib.hid hxs
  have Hg := Lib.hid hg
  clear hxs hg c0 c1 c2 u1 u2
  have hlen : ((xs.drop A).take N).length = N := by simp only [List.length_take, List.length_drop]; omega
  have hin2 := in_take hin N (by omega)
  have hcv : ∀ q d, (convert 61 9 (.slice (some ⟨b, o + A, none⟩) (T - A) d)).run Try.prog (w'.drewN q) = .ok (.string (strOfNums ((xs.drop A).take N))) (w'.drewN q) := fun q d =>
    by rw [hTA]; exact Lib.BytesIn.convert (w := w'.drewN q) hin2 hlen d _ _ _ Try.underlying61 Try.underlying5 Try.underlying9
  generalize strOfNums ((xs.drop A).take N) = str at *
  clear hin hin2 hlen hTA
  go_wp2_with fail
  go_quiet (fail)
  go_wp2_with fail
  go_ret
  exact ⟨rfl, Hxs.out.drewN _, ⟨Hg.out.os, Hg.out.tape, Hg.out.output, Hg.out.size, Hg.out.block⟩⟩

end Go.Proofs.Ytdfjnpnkfjcpcaa.Wi

/- WStep -/
namespace Go.Proofs.Ytdfjnpnkfjcpcaa.Wi
set_option linter.unusedVariables false
set_option linter.unusedSimpArgs false
open Go.Proofs.Ytdfjnpnkfjcpcaa
open Go.RowKit

theorem numAt_err (xs : List Int) : (numAt xs).2.1 ≤ 9 ∨ (numAt xs).2.2 = 0 := by
  unfold numAt
  by_cases h : xs.length = 0
  · rw [if_pos h]; exact .inl (by simp)
  rw [if_neg h]
  simp only []
  split
  · exact .inl (by simp)
  split
  · exact .inl (by simp)
  split
  · exact .inl (by simp)
  split
  · exact .inl (by simp)
  · exact .inr rfl

/-- Text, where there is one. -/
theorem Text_good {w : World} {rb g n cap : Nat} {xs : List Int} {i : Nat} (h : RS w rb g n cap xs i 0) (most : Int) (N S : Nat) (ht : numAt (xs.drop i) = (N, S, 0)) (hNM : (N : Int) ≤ max most 0) (hend : i + S + N ≤ n) :
    Calls Try.prog 73 #[.pointer (some ⟨rb, 0, none⟩), .int .i64 most] w (Out (.string (strOfNums ((xs.drop (i + S)).take N))) w rb g n cap xs (i + S + N) 0) := by
  have hok := numAt_ok (xs.drop i) (fun x hx => h.rng x (List.mem_of_mem_drop hx)) (by rw [ht])
  rw [ht] at hok
  have hnc := h.ncap
  by_cases hic : cap = i + S
  · obtain rfl : N = 0 := by omega
    have := Text_ok0 h most S (max most 0).toNat ht (by omega) (by omega) hok.2.1 hic
    simpa [strOfNums] using this
  · exact Text_ok h most N S (max most 0).toNat ht (by omega) (by omega) hend hok.2.1 hic

def RC (f : FuncId) (args : Value → Array Value) (v : Value) (n : Nat) (xs : List Int) (i : Nat) (err : Int) (i' : Nat) (err' : Int) : Prop :=
  ∀ (w : World) (rb g cap : Nat), RS w rb g n cap xs i err → Calls Try.prog f (args (.pointer (some ⟨rb, 0, none⟩))) w (Out v w rb g n cap xs i' err')

def XC (f : FuncId) (args : Value → Array Value) (v : Value) (n : Nat) (xs : List Int) (i : Nat) (err : Int) (i' : Nat) (err' : Int) : Prop :=
  ∀ (w : World) (xb : Nat) (p : Option Addr) (c : Nat), XS w xb p n c xs i err → Calls Try.prog f (args (.pointer (some ⟨xb, 0, none⟩))) w (XOut v w xb p n c xs i' err')

theorem step_within (xs : List Int) (n i : Nat) (err : Int) (lo hi : Int) : ∃ (z : Int) (i' : Nat) (err' : Int),
    RC 72 (fun q => #[q, .int .i64 lo, .int .i64 hi]) (.int .i64 z) n xs i err i' err' ∧
    XC 75 (fun q => #[q, .int .i64 lo, .int .i64 hi]) (.int .i64 z) n xs i err i' err' := by
  by_cases he : err = 0
  · subst he
    obtain ⟨N, S, E, ht⟩ : ∃ N S E, numAt (xs.drop i) = (N, S, E) := ⟨_, _, _, rfl⟩
    by_cases hE : E = 0
    · subst hE
      by_cases h1 : (N : Int) < lo
      · exact ⟨0, i, 5, fun w rb g cap h => Within_range h lo hi N S ht (.inl h1), fun w xb p c h => XWithin_low h lo hi N S ht h1⟩
      by_cases h2 : hi < (N : Int)
      · exact ⟨0, i, 5, fun w rb g cap h => Within_range h lo hi N S ht (.inr h2), fun w xb p c h => XWithin_high h lo hi N S ht h1 h2⟩
      · exact ⟨N, i + S, 0, fun w rb g cap h => Within_ok h lo hi N S ht h1 h2 (numAt_size h N S ht).1, fun w xb p c h => XWithin_ok h lo hi N S ht h1 h2⟩
    · exact ⟨0, i, E, fun w rb g cap h => Within_bad h lo hi (N, S, E) ht hE, fun w xb p c h => XWithin_bad h lo hi N S E ht hE⟩
  · exact ⟨0, i, err, fun w rb g cap h => Within_err h lo hi he, fun w xb p c h => XWithin_err h lo hi he⟩

theorem step_text (xs : List Int) (n i : Nat) (err : Int) (most : Int) (hm0 : -9223372036854775808 ≤ most) (hm1 : most ≤ 9223372036854775807) (hi : i ≤ n) : ∃ (s : ByteArray) (i' : Nat) (err' : Int),
    RC 73 (fun q => #[q, .int .i64 most]) (.string s) n xs i err i' err' ∧
    XC 76 (fun q => #[q, .int .i64 most]) (.string s) n xs i err i' err' := by
  by_cases he : err = 0
  · subst he
    obtain ⟨N, S, E, ht⟩ : ∃ N S E, numAt (xs.drop i) = (N, S, E) := ⟨_, _, _, rfl⟩
    obtain ⟨M, hM⟩ : ∃ M : Nat, max most 0 = (M : Int) := ⟨(max most 0).toNat, by omega⟩
    by_cases hE : E = 0
    · subst hE
      by_cases h1 : 0 < (N : Int) ∧ most < (N : Int)
      · exact ⟨_, i, 4, fun w rb g cap h => Text_bad h most N S M 0 4 ht hM (.inl (by have := (numAt_size h N S ht).1; omega)) (by have := numAt_ok (xs.drop i) (fun x hx => h.rng x (List.mem_of_mem_drop hx)) (by rw [ht]); rw [ht] at this; exact this.2.1) (.inr (.inl ⟨rfl, by omega, rfl⟩)), fun w xb p c h => XText_long h most N S ht h1.1 h1.2⟩
      by_cases h2 : i + S + N ≤ n
      · refine ⟨_, i + S + N, 0, fun w rb g cap h => Text_good h most N S ht (by omega) h2, fun w xb p c h => ?_⟩
        by_cases h0 : 0 < (N : Int)
        · exact XText_ok h most N S ht h0 (fun hh => h1 ⟨h0, hh⟩) h2
        · obtain rfl : N = 0 := by omega
          by_cases hic : c = i + S
          · exact XText_full0 h most S ht hic
          · exact XText_ok0 h most 0 S ht (by omega) h2 hic
      · refine ⟨_, i, 2, fun w rb g cap h => Text_bad h most N S M 0 2 ht hM (.inl (by have := (numAt_size h N S ht).1; omega)) (by have := numAt_ok (xs.drop i) (fun x hx => h.rng x (List.mem_of_mem_drop hx)) (by rw [ht]); rw [ht] at this; exact this.2.1) (.inr (.inr ⟨rfl, by omega, by have := (numAt_size h N S ht).1; omega, rfl⟩)), fun w xb p c h => ?_⟩
        have hs := xs_ok h N S ht
        exact XText_short h most N S ht (by omega) (fun hh => h1 ⟨by omega, hh⟩) (by omega)
    · exact ⟨_, i, E, fun w rb g cap h => Text_bad h most N S M E E ht hM (.inr hE) (by have := numAt_err (xs.drop i); rw [ht] at this; rcases this with h | h; exact h; exact absurd h hE) (.inl ⟨hE, rfl⟩), fun w xb p c h => XText_bad h most N S E ht hE⟩
  · exact ⟨_, i, err, fun w rb g cap h => Text_err h most he, fun w xb p c h => XText_err h most he⟩

end Go.Proofs.Ytdfjnpnkfjcpcaa.Wi
