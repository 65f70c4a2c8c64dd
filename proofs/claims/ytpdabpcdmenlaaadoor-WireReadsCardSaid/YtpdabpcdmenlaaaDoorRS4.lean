/-
  Walks of the document's own reader: Text.
-/
import Derived.Test.YtpdabpcdmenlaaaDoorRS3
namespace Go.Proofs.YtpdabpcdmenlaaaDoor
set_option linter.unusedVariables false
set_option linter.unusedSimpArgs false
open Go.RowKit
variable {w : World} {xb n c : Nat} {p : Option Addr} {xs : List Int} {i : Nat} {err : Int}

set_option maxRecDepth 100000 in
set_option maxHeartbeats 1600000 in
theorem XText_bad (h : XS w xb p n c xs i 0) (most : Int) (N S : Nat) (E : Int) (ht : numAt (xs.drop i) = (N, S, E)) (hE : E ≠ 0) : Calls Tryd.prog 38 #[.pointer (some ⟨xb, 0, none⟩), .int .i64 most] w (XOut (.string ⟨#[]⟩) w xb p n c xs i E) := by
  have c0 := h.c0
  have c1 := h.c1
  have c2 := h.c2
  have hi := h.ile
  have hn := h.nb
  have hnc := h.ncap
  have hl := h.lies
  have t1 : (E == 0) = false := by simpa using hE
  have t2 : (E != 0) = true := by simpa using hE
  obtain ⟨K, hK⟩ : ∃ K, IntKind.i64.wrap ((S : Int) + (N : Int)) = K := ⟨_, rfl⟩
  have Hn := Lib.hid (num_v h)
  rw [ht] at Hn
  have Hon : Hid (∀ q, Calls Tryd.prog 57 #[.pointer (some ⟨xb, 0, none⟩), .int .i64 K, .int .i64 E] (w.drewN q) (XOut (.bool false) (w.drewN q) xb p n c xs i E)) := fun q => on_bad (h.drewN q) K E hE
  clear h ht
  rcases hl with ⟨rfl, rfl, rfl, rfl⟩ | ⟨ad, rfl, rfl, rfl⟩ | ⟨b, o, rfl, hc⟩ | ⟨ad, rfl, rfl, rfl, hc⟩
  all_goals
    go_enter Tryd.func38, Tryd.ntmps38
    go_wp2_with fail
    go_quiet ((go_at_call 56; first | exact quiet_left (Hn.out _ _ (isV_zero _ _ _ _ _)) | exact quiet_left (Hn.out _ _ (isV_some _ _ _ _ _))))
    go_wp2_with fail
    go_quiet (fail)
    go_wp2_with fail
    go_fit (Hon.out _)
    rintro e w' ⟨rfl, hxs, hg⟩
    have Hxs := Lib.hid hxs
    have Hg := Lib.hid hg
    clear hxs hg
    go_wp2_with fail
    go_ret
    exact ⟨rfl, Hxs.out, ⟨Hg.out.os, Hg.out.tape, Hg.out.output, Hg.out.size, Hg.out.block⟩⟩

set_option maxRecDepth 100000 in
set_option maxHeartbeats 1600000 in
theorem XText_long (h : XS w xb p n c xs i 0) (most : Int) (N S : Nat) (ht : numAt (xs.drop i) = (N, S, 0)) (h0 : 0 < (N : Int)) (h1 : most < (N : Int)) : Calls Tryd.prog 38 #[.pointer (some ⟨xb, 0, none⟩), .int .i64 most] w (XOut (.string ⟨#[]⟩) w xb p n c xs i 4) := by
  have c0 := h.c0
  have c1 := h.c1
  have c2 := h.c2
  have hi := h.ile
  have hn := h.nb
  have hnc := h.ncap
  have hl := h.lies
  have hS := xs_ok h N S ht
  obtain ⟨K, hK⟩ : ∃ K, IntKind.i64.wrap ((S : Int) + (N : Int)) = K := ⟨_, rfl⟩
  have Hn := Lib.hid (num_v h)
  rw [ht] at Hn
  have Hon : Hid (∀ q, Calls Tryd.prog 57 #[.pointer (some ⟨xb, 0, none⟩), .int .i64 K, .int .i64 4] (w.drewN q) (XOut (.bool false) (w.drewN q) xb p n c xs i 4)) := fun q => on_bad (h.drewN q) K 4 (by decide)
  clear h ht
  obtain ⟨hS1, hS2, hS3, hS4⟩ := hS
  obtain ⟨b, o, rfl, hc⟩ : ∃ b o, p = some ⟨b, o, none⟩ ∧ c ≠ i := by
    rcases hl with ⟨_, _, _, _⟩ | ⟨_, _, _, _⟩ | ⟨b, o, e, hc⟩ | ⟨_, _, _, _, _⟩
    · omega
    · omega
    · exact ⟨b, o, e, hc⟩
    · omega
  all_goals
    go_enter Tryd.func38, Tryd.ntmps38
    go_wp2_with fail
    go_quiet ((go_at_call 56; first | exact quiet_left (Hn.out _ _ (isV_zero _ _ _ _ _)) | exact quiet_left (Hn.out _ _ (isV_some _ _ _ _ _))))
    go_wp2_with fail
    go_quiet (fail)
    go_wp2_with fail
    go_fit (Hon.out _)
    rintro e w' ⟨rfl, hxs, hg⟩
    have Hxs := Lib.hid hxs
    have Hg := Lib.hid hg
    clear hxs hg
    go_wp2_with fail
    go_ret
    exact ⟨rfl, Hxs.out, ⟨Hg.out.os, Hg.out.tape, Hg.out.output, Hg.out.size, Hg.out.block⟩⟩

set_option maxRecDepth 100000 in
set_option maxHeartbeats 1600000 in
theorem XText_short (h : XS w xb p n c xs i 0) (most : Int) (N S : Nat) (ht : numAt (xs.drop i) = (N, S, 0)) (h0 : 0 < (N : Int)) (h1 : ¬ most < (N : Int)) (h2 : (n : Int) - (i : Int) - (S : Int) < (N : Int)) : Calls Tryd.prog 38 #[.pointer (some ⟨xb, 0, none⟩), .int .i64 most] w (XOut (.string ⟨#[]⟩) w xb p n c xs i 2) := by
  have c0 := h.c0
  have c1 := h.c1
  have c2 := h.c2
  have hi := h.ile
  have hn := h.nb
  have hnc := h.ncap
  have hl := h.lies
  have hS := xs_ok h N S ht
  obtain ⟨K, hK⟩ : ∃ K, IntKind.i64.wrap ((S : Int) + (N : Int)) = K := ⟨_, rfl⟩
  have u1 : IntKind.i64.wrap ((n : Int) - (i : Int)) = (n : Int) - (i : Int) := wrap_i64 _ (by omega) (by omega)
  have u2 : IntKind.i64.wrap ((n : Int) - (i : Int) - (S : Int)) = (n : Int) - (i : Int) - (S : Int) := wrap_i64 _ (by omega) (by omega)
  have Hn := Lib.hid (num_v h)
  rw [ht] at Hn
  have Hon : Hid (∀ q, Calls Tryd.prog 57 #[.pointer (some ⟨xb, 0, none⟩), .int .i64 K, .int .i64 2] (w.drewN q) (XOut (.bool false) (w.drewN q) xb p n c xs i 2)) := fun q => on_bad (h.drewN q) K 2 (by decide)
  clear h ht
  obtain ⟨hS1, hS2, hS3, hS4⟩ := hS
  obtain ⟨b, o, rfl, hc⟩ : ∃ b o, p = some ⟨b, o, none⟩ ∧ c ≠ i := by
    rcases hl with ⟨_, _, _, _⟩ | ⟨_, _, _, _⟩ | ⟨b, o, e, hc⟩ | ⟨_, _, _, _, _⟩
    · omega
    · omega
    · exact ⟨b, o, e, hc⟩
    · omega
  all_goals
    go_enter Tryd.func38, Tryd.ntmps38
    go_wp2_with fail
    go_quiet ((go_at_call 56; first | exact quiet_left (Hn.out _ _ (isV_zero _ _ _ _ _)) | exact quiet_left (Hn.out _ _ (isV_some _ _ _ _ _))))
    go_wp2_with fail
    go_quiet (fail)
    go_wp2_with fail
    go_fit (Hon.out _)
    rintro e w' ⟨rfl, hxs, hg⟩
    have Hxs := Lib.hid hxs
    have Hg := Lib.hid hg
    clear hxs hg
    go_wp2_with fail
    go_ret
    exact ⟨rfl, Hxs.out, ⟨Hg.out.os, Hg.out.tape, Hg.out.output, Hg.out.size, Hg.out.block⟩⟩

end Go.Proofs.YtpdabpcdmenlaaaDoor
