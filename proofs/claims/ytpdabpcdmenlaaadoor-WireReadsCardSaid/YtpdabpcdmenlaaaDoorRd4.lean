/-
  Walks of package wire's reader: texts.
-/
import Derived.Test.YtpdabpcdmenlaaaDoorRd3
namespace Go.Proofs.YtpdabpcdmenlaaaDoor
set_option linter.unusedVariables false
set_option linter.unusedSimpArgs false
open Go.RowKit

section
variable {w : World} {rb g n cap : Nat} {xs : List Int} {i : Nat} {err : Int}

set_option maxHeartbeats 400000 in
theorem Text_err (h : RS w rb g n cap xs i err) (most : Int) (he : err ≠ 0) : Calls Tryd.prog 37 #[.pointer (some ⟨rb, 0, none⟩), .int .i64 most] w (Out (.string ⟨#[]⟩) w rb g n cap xs i err) := by
  have Hc := Lib.hid (ready_rs h false (by simpa using he))
  have H := Lib.hid h
  clear h
  go_enter Tryd.func37, Tryd.ntmps37
  go_wp2_with fail
  go_fit Hc.out
  rintro e w' ⟨rfl, rfl⟩
  go_wp2_with fail
  go_ret
  exact ⟨rfl, H.out, World.grownBy.refl _ _⟩

set_option maxHeartbeats 800000 in
theorem Text_bad (h : RS w rb g n cap xs i 0) (most : Int) (N S M : Nat) (E err : Int) (ht : numAt (xs.drop i) = (N, S, E)) (hM : max most 0 = (M : Int)) (hS : S ≤ n - i ∨ E ≠ 0) (hS9 : S ≤ 9)
    (h0 : (E ≠ 0 ∧ err = E) ∨ (E = 0 ∧ M < N ∧ err = 4) ∨ (E = 0 ∧ N ≤ M ∧ n - i - S < N ∧ err = 2)) :
    Calls Tryd.prog 37 #[.pointer (some ⟨rb, 0, none⟩), .int .i64 most] w (Out (.string ⟨#[]⟩) w rb g n cap xs i err) := by
  have Hc := Lib.hid (ready_rs h true rfl)
  have Hp := Lib.hid (peek_rs h)
  have Hl : Hid (∀ q, Calls Tryd.prog 41 #[.pointer (some ⟨rb, 0, none⟩)] (w.drewN q) (fun e w' => e = .returned (.int .i64 ((n - i : Nat) : Int)) ∧ ∃ k, w' = (w.drewN q).drewN k)) := fun q => Left_rs (h.drewN q)
  rw [ht] at Hp
  have H := Lib.hid h
  have c2 := h.c2
  have f2 := h.f2
  have hn := h.nb
  generalize hm : n - i = m at *
  have hmn : m ≤ 140737488355328 := by omega
  clear h ht hm
  rcases h0 with ⟨h0, rfl⟩ | ⟨rfl, h1, rfl⟩ | ⟨rfl, h1, h2, rfl⟩
  · have t1 : (err == 0) = false := by simpa using h0
    have t2 : (err != 0) = true := by simpa using h0
    go_enter Tryd.func37, Tryd.ntmps37
    go_wp2_with fail
    go_fit Hc.out
    rintro e w' ⟨rfl, rfl⟩
    go_wp2_with fail
    go_fit Hp.out
    rintro e w' ⟨rfl, q, rfl⟩
    go_wp2_with fail
    go_ret
    exact ⟨rfl, ((H.out).setErr err).drewN q, grown_dset w q rb 2 _⟩
  · go_enter Tryd.func37, Tryd.ntmps37
    go_wp2_with fail
    go_fit Hc.out
    rintro e w' ⟨rfl, rfl⟩
    go_wp2_with fail
    go_fit Hp.out
    rintro e w' ⟨rfl, q, rfl⟩
    go_wp2_with fail
    go_ret
    exact ⟨rfl, ((H.out).setErr 4).drewN q, grown_dset w q rb 2 _⟩
  · have hSm : S ≤ m := by rcases hS with h | h; exact h; exact absurd rfl h
    have h3 : (m : Int) - (S : Int) < (N : Int) := by omega
    have e1 : IntKind.i64.wrap ((m : Int) - (S : Int)) = (m : Int) - (S : Int) := wrap_i64 _ (by omega) (by omega)
    go_enter Tryd.func37, Tryd.ntmps37
    go_wp2_with fail
    go_fit Hc.out
    rintro e w' ⟨rfl, rfl⟩
    go_wp2_with fail
    go_fit Hp.out
    rintro e w' ⟨rfl, q, rfl⟩
    go_wp2_with fail
    go_fit (Hl.out q)
    rintro e w' ⟨rfl, k, rfl⟩
    go_wp2_with fail
    go_ret
    exact ⟨rfl, ((H.out).setErr 2).drewN (q + k), grown_dset w (q + k) rb 2 _⟩

theorem grown_drew {w w' : World} {row : Option Nat} {q : Nat} (h : w.grownBy w' row) : w.grownBy (w'.drewN q) row := ⟨h.os, h.tape, h.output, h.size, h.block⟩

set_option maxRecDepth 100000 in
set_option maxHeartbeats 1600000 in
theorem Text_ok (h : RS w rb g n cap xs i 0) (most : Int) (N S M : Nat) (ht : numAt (xs.drop i) = (N, S, 0)) (hM : max most 0 = (M : Int)) (hNM : N ≤ M) (hend : i + S + N ≤ n) (hS9 : S ≤ 9) (hic : ¬ cap = i + S) :
    Calls Tryd.prog 37 #[.pointer (some ⟨rb, 0, none⟩), .int .i64 most] w (Out (.string (strOfNums ((xs.drop (i + S)).take N))) w rb g n cap xs (i + S + N) 0) := by
  have Hc := Lib.hid (ready_rs h true rfl)
  have Hp := Lib.hid (peek_rs h)
  have Hl : Hid (∀ q, Calls Tryd.prog 41 #[.pointer (some ⟨rb, 0, none⟩)] (w.drewN q) (fun e w' => e = .returned (.int .i64 ((n - i : Nat) : Int)) ∧ ∃ k, w' = (w.drewN q).drewN k)) := fun q => Left_rs (h.drewN q)
  rw [ht] at Hp
  have hs := h.setAt (i + S + N) hend
  rw [show ((i + S + N : Nat) : Int) = (i : Int) + (S : Int) + (N : Int) from by omega] at hs
  have Hs := Lib.hid hs
  have c1 := h.c1
  have f1 := h.f1
  have d0 := hs.c0
  have d1 := hs.c1
  rw [show ((i + S + N : Nat) : Int) = (i : Int) + (S : Int) + (N : Int) from by omega] at d1
  have hn := h.nb
  have hnc := h.ncap
  have hcut : Lib.BytesIn (w.setCell ⟨rb, 1, none⟩ (.int .i64 ((i : Int) + (S : Int) + (N : Int)))) (some ⟨g, i + S, none⟩) N ((xs.drop (i + S)).take N) := by
    refine Lib.BytesIn.of_cells fun j hj => ?_
    obtain ⟨b', o', hh, hc⟩ := hs.inn.at (by omega)
    simp only [Option.some.injEq, Addr.mk.injEq] at hh
    obtain ⟨rfl, rfl, _⟩ := hh
    have := hc (i + S + j) (by omega)
    rw [Nat.zero_add] at this
    rw [addLit, this, List.getD_eq_getElem?_getD, List.getD_eq_getElem?_getD, List.getElem?_take, if_pos hj, List.getElem?_drop]
  have hlen : ((xs.drop (i + S)).take N).length = N := by simp only [List.length_take, List.length_drop, h.len]; omega
  have hconv : Hid (∀ W : World, Lib.BytesIn W (some ⟨g, i + S, none⟩) N ((xs.drop (i + S)).take N) → ∀ q c, (convert 22 9 (.slice (some ⟨g, i + S, none⟩) N c)).run Tryd.prog (W.drewN q) = .ok (.string (strOfNums ((xs.drop (i + S)).take N))) (W.drewN q)) := fun W hW q c =>
    Lib.BytesIn.convert (w := W.drewN q) hW hlen c _ _ _ Tryd.underlying22 Tryd.underlying5 Tryd.underlying9
  have Hcut := Lib.hid hcut
  generalize (xs.drop (i + S)).take N = cutl at *
  generalize strOfNums cutl = str at *
  have hm : (n - i : Nat) = n - i := rfl
  have h3 : ¬ ((n - i : Nat) : Int) - (S : Int) < (N : Int) := by omega
  have e1 : IntKind.i64.wrap (((n - i : Nat) : Int) - (S : Int)) = ((n - i : Nat) : Int) - (S : Int) := wrap_i64 _ (by omega) (by omega)
  have hmn : n - i ≤ 140737488355328 := by omega
  generalize hm2 : n - i = m at *
  have i1 : (0 : Int) ≤ (i : Int) + (S : Int) := by omega
  have i2 : (i : Int) + (S : Int) ≤ (i : Int) + (S : Int) + (N : Int) := by omega
  have i3 : (i : Int) + (S : Int) + (N : Int) ≤ (cap : Int) := by omega
  clear h ht hs hcut hlen hm hm2
  · go_enter Tryd.func37, Tryd.ntmps37
    go_wp2_with fail
    go_fit Hc.out
    rintro e w' ⟨rfl, rfl⟩
    go_wp2_with fail
    go_fit Hp.out
    rintro e w' ⟨rfl, q, rfl⟩
    go_wp2_with fail
    go_fit (Hl.out q)
    rintro e w' ⟨rfl, k, rfl⟩
    go_wp2_with fail
    obtain ⟨W, hW⟩ : ∃ W : World, W = (w.drewN (q + k)).setCell ⟨rb, 1, none⟩ (.int .i64 ((i : Int) + (S : Int) + (N : Int))) := ⟨_, rfl⟩
    rw [← hW]
    have b0 : W.cell? ⟨rb, 0, none⟩ = some (.slice (some ⟨g, 0, none⟩) n cap) := by rw [hW]; exact d0
    have b1 : W.cell? ⟨rb, 1, none⟩ = some (.int .i64 ((i : Int) + (S : Int) + (N : Int))) := by rw [hW]; exact d1
    have hcv := hconv.out W (by rw [hW]; exact Hcut.out)
    have HW := Lib.hid hW
    clear hW d0 d1
    go_quiet (fail)
    go_wp2_with fail
    go_ret
    refine ⟨rfl, ?_, ?_⟩
    · rw [HW.out]; exact ((Hs.out).drewN (q + k)).drewN _
    · rw [HW.out]; exact grown_drew (grown_dset w (q + k) rb 1 _)

set_option maxRecDepth 100000 in
set_option maxHeartbeats 1600000 in
theorem Text_ok0 (h : RS w rb g n cap xs i 0) (most : Int) (S M : Nat) (ht : numAt (xs.drop i) = (0, S, 0)) (hM : max most 0 = (M : Int)) (hend : i + S ≤ n) (hS9 : S ≤ 9) (hic : cap = i + S) :
    Calls Tryd.prog 37 #[.pointer (some ⟨rb, 0, none⟩), .int .i64 most] w (Out (.string ⟨#[]⟩) w rb g n cap xs (i + S) 0) := by
  have Hc := Lib.hid (ready_rs h true rfl)
  have Hp := Lib.hid (peek_rs h)
  have Hl : Hid (∀ q, Calls Tryd.prog 41 #[.pointer (some ⟨rb, 0, none⟩)] (w.drewN q) (fun e w' => e = .returned (.int .i64 ((n - i : Nat) : Int)) ∧ ∃ k, w' = (w.drewN q).drewN k)) := fun q => Left_rs (h.drewN q)
  rw [ht] at Hp
  have hs := h.setAt (i + S) hend
  rw [show ((i + S : Nat) : Int) = (i : Int) + (S : Int) from by omega] at hs
  have Hs := Lib.hid hs
  have c1 := h.c1
  have f1 := h.f1
  have d0 := hs.c0
  have d1 := hs.c1
  rw [show ((i + S : Nat) : Int) = (i : Int) + (S : Int) from by omega] at d1
  have hn := h.nb
  have hnc := h.ncap
  have hconv : ∀ W : World, ∀ p q c, (convert 22 9 (.slice p 0 c)).run Tryd.prog (W.drewN q) = .ok (.string ⟨#[]⟩) (W.drewN q) := fun W p q c =>
    Lib.BytesIn.convert (w := W.drewN q) (p := p) (n := 0) (xs := []) (Lib.BytesIn.nil _ _ _) rfl c _ _ _ Tryd.underlying22 Tryd.underlying5 Tryd.underlying9
  have h3 : ¬ ((n - i : Nat) : Int) - (S : Int) < 0 := by omega
  have e1 : IntKind.i64.wrap (((n - i : Nat) : Int) - (S : Int)) = ((n - i : Nat) : Int) - (S : Int) := wrap_i64 _ (by omega) (by omega)
  have hmn : n - i ≤ 140737488355328 := by omega
  have hnn : n = i + S := by omega
  generalize hm2 : n - i = m at *
  have i1 : (0 : Int) ≤ (i : Int) + (S : Int) := by omega
  have i3 : (i : Int) + (S : Int) ≤ (cap : Int) := by omega
  subst hic
  clear h ht hs hm2 hnn
  go_enter Tryd.func37, Tryd.ntmps37
  go_wp2_with fail
  go_fit Hc.out
  rintro e w' ⟨rfl, rfl⟩
  go_wp2_with fail
  go_fit Hp.out
  rintro e w' ⟨rfl, q, rfl⟩
  go_wp2_with fail
  go_fit (Hl.out q)
  rintro e w' ⟨rfl, k, rfl⟩
  go_wp2_with fail
  obtain ⟨W, hW⟩ : ∃ W : World, W = (w.drewN (q + k)).setCell ⟨rb, 1, none⟩ (.int .i64 ((i : Int) + (S : Int))) := ⟨_, rfl⟩
  rw [← hW]
  have b0 : W.cell? ⟨rb, 0, none⟩ = some (.slice (some ⟨g, 0, none⟩) n (i + S)) := by rw [hW]; exact d0
  have b1 : W.cell? ⟨rb, 1, none⟩ = some (.int .i64 ((i : Int) + (S : Int))) := by rw [hW]; exact d1
  have HW := Lib.hid hW
  clear hW d0 d1
  have hcv := hconv W
  go_quiet (fail)
  go_wp2_with fail
  go_ret
  refine ⟨rfl, ?_, ?_⟩
  · rw [HW.out]; exact ((Hs.out).drewN (q + k)).drewN _
  · rw [HW.out]; exact grown_drew (grown_dset w (q + k) rb 1 _)

end

end Go.Proofs.YtpdabpcdmenlaaaDoor
