/-
  Walks of package wire's reader, of one that Read made.
-/
import Derived.Test.YtnfpobbdcjfcoaaWb5
namespace Go.Proofs.Ytnfpobbdcjfcoaa
set_option linter.unusedVariables false
set_option linter.unusedSimpArgs false
open Go.RowKit

/-- A reader that Read made: it stands at i of the bytes xs, its error is err. -/
structure RS (w : World) (rb g n cap : Nat) (xs : List Int) (i : Nat) (err : Int) : Prop where
  c0 : w.cell? ⟨rb, 0, none⟩ = some (.slice (some ⟨g, 0, none⟩) n cap)
  c1 : w.cell? ⟨rb, 1, none⟩ = some (.int .i64 i)
  c2 : w.cell? ⟨rb, 2, none⟩ = some (.int .i64 err)
  c3 : w.cell? ⟨rb, 3, none⟩ = some (.bool true)
  f1 : w.frozen? ⟨rb, 1, none⟩ = false
  f2 : w.frozen? ⟨rb, 2, none⟩ = false
  inn : Lib.BytesIn w (some ⟨g, 0, none⟩) n xs
  len : xs.length = n
  ncap : n ≤ cap
  ile : i ≤ n
  gne : g ≠ rb
  rng : ∀ x ∈ xs, 0 ≤ x ∧ x < 256
  nb : n ≤ 140737488355328

theorem RS.drewN {w : World} {rb g n cap : Nat} {xs : List Int} {i : Nat} {err : Int} (h : RS w rb g n cap xs i err) (q : Nat) : RS (w.drewN q) rb g n cap xs i err := ⟨h.c0, h.c1, h.c2, h.c3, h.f1, h.f2, h.inn, h.len, h.ncap, h.ile, h.gne, h.rng, h.nb⟩

/-- What an ask of a reader leaves: this answer, the reader there, all else as it was. -/
def Out (r : Value) (w : World) (rb g n cap : Nat) (xs : List Int) (i : Nat) (err : Int) (e : Ending) (w' : World) : Prop :=
  e = .returned r ∧ RS w' rb g n cap xs i err ∧ w.grownBy w' (some rb)

theorem grownBy_drewN (w : World) (q : Nat) (row : Option Nat) : w.grownBy (w.drewN q) row := ⟨rfl, rfl, rfl, Nat.le_refl _, fun _ _ _ => rfl⟩

theorem cell_kept {w w' : World} {row : Option Nat} (hg : w.grownBy w' row) {b o : Nat} {v : Value} (hne : some b ≠ row) (h : w.cell? ⟨b, o, none⟩ = some v) : w'.cell? ⟨b, o, none⟩ = some v := hg.cell h hne

theorem in_kept {w w' : World} {row : Option Nat} (hg : w.grownBy w' row) {b o n : Nat} {xs : List Int} (hne : some b ≠ row) (h : Lib.BytesIn w (some ⟨b, o, none⟩) n xs) : Lib.BytesIn w' (some ⟨b, o, none⟩) n xs := by
  intro hn
  obtain ⟨b', o', hbo, hc⟩ := h hn
  simp only [Option.some.injEq, Addr.mk.injEq] at hbo
  obtain ⟨rfl, rfl, _⟩ := hbo
  exact ⟨b, o, rfl, fun i hi => hg.cell (hc i hi) hne⟩

theorem grown_setCell (w : World) (b o : Nat) (v : Value) : w.grownBy (w.setCell ⟨b, o, none⟩ v) (some b) :=
  ⟨rfl, rfl, rfl, by simp [World.setCell], fun k _ hk => Below.heap_setCell _ _ _ _ (fun e => hk (by rw [e]))⟩

theorem grown_dset (w : World) (q b o : Nat) (v : Value) : w.grownBy ((w.drewN q).setCell ⟨b, o, none⟩ v) (some b) :=
  ⟨rfl, rfl, rfl, by simp [World.setCell, World.drewN], fun k _ hk => Below.heap_setCell (w.drewN q) _ _ _ (fun e => hk (by rw [e]))⟩

theorem RS.setAt {w : World} {rb g n cap : Nat} {xs : List Int} {i : Nat} {err : Int} (h : RS w rb g n cap xs i err) (j : Nat) (hj : j ≤ n) : RS (w.setCell ⟨rb, 1, none⟩ (.int .i64 j)) rb g n cap xs j err where
  c0 := (World.cell?_setCell_other _ _ _ _ (by simp)).trans h.c0
  c1 := World.cell?_setCell_same _ _ _ h.c1
  c2 := (World.cell?_setCell_other _ _ _ _ (by simp)).trans h.c2
  c3 := (World.cell?_setCell_other _ _ _ _ (by simp)).trans h.c3
  f1 := (World.frozen?_setCell _ _ _ _).trans h.f1
  f2 := (World.frozen?_setCell _ _ _ _).trans h.f2
  inn := in_kept (grown_setCell w rb 1 _) (by simpa using h.gne) h.inn
  len := h.len
  ncap := h.ncap
  ile := hj
  gne := h.gne
  rng := h.rng
  nb := h.nb

theorem RS.setErr {w : World} {rb g n cap : Nat} {xs : List Int} {i : Nat} {err : Int} (h : RS w rb g n cap xs i err) (e : Int) : RS (w.setCell ⟨rb, 2, none⟩ (.int .i64 e)) rb g n cap xs i e where
  c0 := (World.cell?_setCell_other _ _ _ _ (by simp)).trans h.c0
  c1 := (World.cell?_setCell_other _ _ _ _ (by simp)).trans h.c1
  c2 := World.cell?_setCell_same _ _ _ h.c2
  c3 := (World.cell?_setCell_other _ _ _ _ (by simp)).trans h.c3
  f1 := (World.frozen?_setCell _ _ _ _).trans h.f1
  f2 := (World.frozen?_setCell _ _ _ _).trans h.f2
  inn := in_kept (grown_setCell w rb 2 _) (by simpa using h.gne) h.inn
  len := h.len
  ncap := h.ncap
  ile := h.ile
  gne := h.gne
  rng := h.rng
  nb := h.nb

section
variable {w : World} {rb g n cap : Nat} {xs : List Int} {i : Nat} {err : Int}

set_option maxHeartbeats 400000 in
theorem Err_rs (h : RS w rb g n cap xs i err) : Calls Try.prog 45 #[.pointer (some ⟨rb, 0, none⟩)] w fun e w' => e = .returned (.int .i64 err) ∧ w = w' := by
  have c2 := h.c2
  have c3 := h.c3
  clear h
  go_enter Try.func45, Try.ntmps45
  go_wp2_with fail
  go_ret
  exact ⟨rfl, rfl⟩

set_option maxHeartbeats 400000 in
theorem ready_rs (h : RS w rb g n cap xs i err) (r : Bool) (hr : (err == 0) = r) : Calls Try.prog 51 #[.pointer (some ⟨rb, 0, none⟩)] w fun e w' => e = .returned (.bool r) ∧ w = w' := by
  have Hc := Lib.hid (Err_rs h)
  clear h
  cases r
  all_goals
    go_enter Try.func51, Try.ntmps51
    go_wp2_with fail
    go_fit Hc.out
    rintro e w' ⟨rfl, rfl⟩
    go_wp2_with fail
    go_ret
    exact ⟨rfl, rfl⟩

set_option maxHeartbeats 400000 in
theorem Left_rs (h : RS w rb g n cap xs i err) : Calls Try.prog 32 #[.pointer (some ⟨rb, 0, none⟩)] w (fun e w' => e = .returned (.int .i64 ((n - i : Nat) : Int)) ∧ ∃ q, w' = w.drewN q) := by
  have c0 := h.c0
  have c1 := h.c1
  have hi := h.ile
  have hn := h.nb
  have He : Hid (((n - i : Nat) : Int) = (n : Int) - (i : Int)) := by show _ = _; omega
  have e1 : IntKind.i64.wrap ((n : Int) - (i : Int)) = (n : Int) - (i : Int) := wrap_i64 _ (by omega) (by omega)
  clear h
  rw [He.out]
  go_enter Try.func32, Try.ntmps32
  go_wp2_with fail
  go_quiet (fail)
  go_wp2_with fail
  go_ret
  exact ⟨rfl, _, rfl⟩

/-- Three ints; no more than draws. -/
def ThreeQ (t : Nat × Nat × Int) (w : World) (e : Ending) (w' : World) : Prop := e = .returned (.tuple #[.int .i64 t.1, .int .i64 t.2.1, .int .i64 t.2.2]) ∧ ∃ q, w' = w.drewN q

set_option maxHeartbeats 800000 in
theorem peek_rs (h : RS w rb g n cap xs i err) : Calls Try.prog 52 #[.pointer (some ⟨rb, 0, none⟩)] w (ThreeQ (numAt (xs.drop i)) w) := by
  have c0 := h.c0
  have c1 := h.c1
  have hi := h.ile
  have hn := h.nb
  have hnc := h.ncap
  have i1 : (0 : Int) ≤ (i : Int) := by omega
  have i2 : (i : Int) ≤ (n : Int) := by omega
  have i3 : (i : Int) ≤ (cap : Int) := by omega
  by_cases hic : cap = i
  · have hd : xs.drop i = [] := List.drop_eq_nil_of_le (by rw [h.len]; omega)
    have hni : n - i = 0 := by omega
    have Hc : Hid (∀ q, Calls Try.prog 57 #[.slice (some ⟨g, 0, none⟩) 0 0] (w.drewN q) fun e w' => e = .returned (.tuple #[.int .i64 0, .int .i64 0, .int .i64 2]) ∧ w.drewN q = w') := fun q => number_none _ 0 _
    rw [hd]
    have ht : numAt [] = (0, 0, 2) := rfl
    rw [ht]
    have hnn : n = i := by omega
    subst hic
    subst hnn
    clear h hd hni ht
    go_enter Try.func52, Try.ntmps52
    go_wp2_with fail
    go_quiet ((go_at_call 57; exact quiet_left (Hc.out _)))
    go_wp2_with fail
    go_ret3
    exact ⟨rfl, _, rfl⟩
  · have hin : Lib.BytesIn w (some ⟨g, i, none⟩) (n - i) (xs.drop i) := by
      refine Lib.BytesIn.of_cells fun j hj => ?_
      obtain ⟨b', o', hh, hc⟩ := h.inn.at (by omega)
      simp only [Option.some.injEq, Addr.mk.injEq] at hh
      obtain ⟨rfl, rfl, _⟩ := hh
      rw [addLit, List.getD_eq_getElem?_getD, List.getElem?_drop, ← List.getD_eq_getElem?_getD]
      have := hc (i + j) (by omega)
      rw [Nat.zero_add] at this; exact this
    have Hc : Hid (∀ q, Calls Try.prog 57 #[.slice (some ⟨g, i, none⟩) (n - i) (cap - i)] (w.drewN q) fun e w' => e = .returned (.tuple #[.int .i64 (numAt (xs.drop i)).1, .int .i64 (numAt (xs.drop i)).2.1, .int .i64 (numAt (xs.drop i)).2.2]) ∧ w.drewN q = w') := fun q =>
      number_any _ (n - i) (cap - i) (xs.drop i) (w.drewN q) (by rw [List.length_drop, h.len]) hin (by omega) (by omega) (fun x hx => h.rng x (List.mem_of_mem_drop hx))
    generalize numAt (xs.drop i) = t at *
    clear h hin
    go_enter Try.func52, Try.ntmps52
    go_wp2_with fail
    go_quiet ((go_at_call 57; exact quiet_left (Hc.out _)))
    go_wp2_with fail
    go_ret3
    exact ⟨rfl, _, rfl⟩

end

end Go.Proofs.Ytnfpobbdcjfcoaa
