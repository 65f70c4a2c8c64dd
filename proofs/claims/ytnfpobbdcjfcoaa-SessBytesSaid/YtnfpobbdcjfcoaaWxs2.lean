/-
  Walks of the document's own reader: Number, Within, Flag.
-/
import Derived.Test.YtnfpobbdcjfcoaaWxs
namespace Go.Proofs.Ytnfpobbdcjfcoaa
set_option linter.unusedVariables false
set_option linter.unusedSimpArgs false
open Go.RowKit
variable {w : World} {xb n c : Nat} {p : Option Addr} {xs : List Int} {i : Nat} {err : Int}

set_option maxRecDepth 100000 in
set_option maxHeartbeats 1600000 in
theorem XNumber_ok (h : XS w xb p n c xs i 0) (N S : Nat) (ht : numAt (xs.drop i) = (N, S, 0)) : Calls Try.prog 47 #[.pointer (some ⟨xb, 0, none⟩)] w (XOut (.int .i64 (N : Int)) w xb p n c xs (i + S) 0) := by
  have c0 := h.c0
  have c1 := h.c1
  have c2 := h.c2
  have hi := h.ile
  have hn := h.nb
  have hnc := h.ncap
  have hl := h.lies
  have hS := xs_ok h N S ht
  have Hn := Lib.hid (num_v h)
  rw [ht] at Hn
  have Hon : Hid (∀ q, Calls Try.prog 54 #[.pointer (some ⟨xb, 0, none⟩), .int .i64 S, .int .i64 0] (w.drewN q) (XOut (.bool true) (w.drewN q) xb p n c xs (i + S) 0)) := fun q => on_ok (h.drewN q) S hS.1
  clear h ht
  obtain ⟨hS1, hS2, hS3, hS4⟩ := hS
  obtain ⟨b, o, rfl, hc⟩ : ∃ b o, p = some ⟨b, o, none⟩ ∧ c ≠ i := by
    rcases hl with ⟨_, _, _, _⟩ | ⟨_, _, _, _⟩ | ⟨b, o, e, hc⟩ | ⟨_, _, _, _, _⟩
    · omega
    · omega
    · exact ⟨b, o, e, hc⟩
    · omega
  all_goals
    go_enter Try.func47, Try.ntmps47
    go_wp2_with fail
    go_quiet ((go_at_call 53; first | exact quiet_left (Hn.out _ _ (isV_zero _ _ _ _ _)) | exact quiet_left (Hn.out _ _ (isV_some _ _ _ _ _))))
    go_wp2_with fail
    go_fit (Hon.out _)
    rintro e w' ⟨rfl, hxs, hg⟩
    have Hxs := Lib.hid hxs
    have Hg := Lib.hid hg
    clear hxs hg
    go_wp2_with fail
    go_ret
    exact ⟨rfl, Hxs.out, ⟨Hg.out.os, Hg.out.tape, Hg.out.output, Hg.out.size, Hg.out.block⟩⟩

set_option maxHeartbeats 400000 in
theorem XWithin_err (h : XS w xb p n c xs i err) (lo hi : Int) (he : err ≠ 0) : Calls Try.prog 46 #[.pointer (some ⟨xb, 0, none⟩), .int .i64 lo, .int .i64 hi] w (XOut (.int .i64 0) w xb p n c xs i err) := by
  have c2 := h.c2
  have t1 : (err == 0) = false := by simpa using he
  have t2 : (err != 0) = true := by simpa using he
  have H := Lib.hid h
  clear h
  go_enter Try.func46, Try.ntmps46
  go_wp2_with fail
  go_ret
  exact ⟨rfl, H.out, World.grownBy.refl _ _⟩

set_option maxRecDepth 100000 in
set_option maxHeartbeats 1600000 in
theorem XWithin_bad (h : XS w xb p n c xs i 0) (lo hj : Int) (N S : Nat) (E : Int) (ht : numAt (xs.drop i) = (N, S, E)) (hE : E ≠ 0) : Calls Try.prog 46 #[.pointer (some ⟨xb, 0, none⟩), .int .i64 lo, .int .i64 hj] w (XOut (.int .i64 0) w xb p n c xs i E) := by
  have c0 := h.c0
  have c1 := h.c1
  have c2 := h.c2
  have hi := h.ile
  have hn := h.nb
  have hnc := h.ncap
  have hl := h.lies
  have t1 : (E == 0) = false := by simpa using hE
  have t2 : (E != 0) = true := by simpa using hE
  have Hn := Lib.hid (num_v h)
  rw [ht] at Hn
  have Hon : Hid (∀ q, Calls Try.prog 54 #[.pointer (some ⟨xb, 0, none⟩), .int .i64 S, .int .i64 E] (w.drewN q) (XOut (.bool false) (w.drewN q) xb p n c xs i E)) := fun q => on_bad (h.drewN q) S E hE
  clear h ht
  rcases hl with ⟨rfl, rfl, rfl, rfl⟩ | ⟨ad, rfl, rfl, rfl⟩ | ⟨b, o, rfl, hc⟩ | ⟨ad, rfl, rfl, rfl, hc⟩
  all_goals
    go_enter Try.func46, Try.ntmps46
    go_wp2_with fail
    go_quiet ((go_at_call 53; first | exact quiet_left (Hn.out _ _ (isV_zero _ _ _ _ _)) | exact quiet_left (Hn.out _ _ (isV_some _ _ _ _ _))))
    go_wp2_with fail
    go_fit (Hon.out _)
    rintro e w' ⟨rfl, hxs, hg⟩
    have Hxs := Lib.hid hxs
    have Hg := Lib.hid hg
    clear hxs hg
    go_wp2_with fail
    go_ret
    exact ⟨rfl, Hxs.out, ⟨Hg.out.os, Hg.out.tape, Hg.out.output, Hg.out.size, Hg.out.block⟩⟩

set_option maxRecDepth 100000 in
set_option maxHeartbeats 1600000 in
theorem XWithin_low (h : XS w xb p n c xs i 0) (lo hj : Int) (N S : Nat) (ht : numAt (xs.drop i) = (N, S, 0)) (h0 : (N : Int) < lo) : Calls Try.prog 46 #[.pointer (some ⟨xb, 0, none⟩), .int .i64 lo, .int .i64 hj] w (XOut (.int .i64 0) w xb p n c xs i 5) := by
  have c0 := h.c0
  have c1 := h.c1
  have c2 := h.c2
  have hi := h.ile
  have hn := h.nb
  have hnc := h.ncap
  have hl := h.lies
  have hS := xs_ok h N S ht
  have Hn := Lib.hid (num_v h)
  rw [ht] at Hn
  have Hon : Hid (∀ q, Calls Try.prog 54 #[.pointer (some ⟨xb, 0, none⟩), .int .i64 S, .int .i64 5] (w.drewN q) (XOut (.bool false) (w.drewN q) xb p n c xs i 5)) := fun q => on_bad (h.drewN q) S 5 (by decide)
  clear h ht
  obtain ⟨hS1, hS2, hS3, hS4⟩ := hS
  obtain ⟨b, o, rfl, hc⟩ : ∃ b o, p = some ⟨b, o, none⟩ ∧ c ≠ i := by
    rcases hl with ⟨_, _, _, _⟩ | ⟨_, _, _, _⟩ | ⟨b, o, e, hc⟩ | ⟨_, _, _, _, _⟩
    · omega
    · omega
    · exact ⟨b, o, e, hc⟩
    · omega
  all_goals
    go_enter Try.func46, Try.ntmps46
    go_wp2_with fail
    go_quiet ((go_at_call 53; first | exact quiet_left (Hn.out _ _ (isV_zero _ _ _ _ _)) | exact quiet_left (Hn.out _ _ (isV_some _ _ _ _ _))))
    go_wp2_with fail
    go_fit (Hon.out _)
    rintro e w' ⟨rfl, hxs, hg⟩
    have Hxs := Lib.hid hxs
    have Hg := Lib.hid hg
    clear hxs hg
    go_wp2_with fail
    go_ret
    exact ⟨rfl, Hxs.out, ⟨Hg.out.os, Hg.out.tape, Hg.out.output, Hg.out.size, Hg.out.block⟩⟩

set_option maxRecDepth 100000 in
set_option maxHeartbeats 1600000 in
theorem XWithin_high (h : XS w xb p n c xs i 0) (lo hj : Int) (N S : Nat) (ht : numAt (xs.drop i) = (N, S, 0)) (h0 : ¬ (N : Int) < lo) (h1 : hj < (N : Int)) : Calls Try.prog 46 #[.pointer (some ⟨xb, 0, none⟩), .int .i64 lo, .int .i64 hj] w (XOut (.int .i64 0) w xb p n c xs i 5) := by
  have c0 := h.c0
  have c1 := h.c1
  have c2 := h.c2
  have hi := h.ile
  have hn := h.nb
  have hnc := h.ncap
  have hl := h.lies
  have hS := xs_ok h N S ht
  have Hn := Lib.hid (num_v h)
  rw [ht] at Hn
  have Hon : Hid (∀ q, Calls Try.prog 54 #[.pointer (some ⟨xb, 0, none⟩), .int .i64 S, .int .i64 5] (w.drewN q) (XOut (.bool false) (w.drewN q) xb p n c xs i 5)) := fun q => on_bad (h.drewN q) S 5 (by decide)
  clear h ht
  obtain ⟨hS1, hS2, hS3, hS4⟩ := hS
  obtain ⟨b, o, rfl, hc⟩ : ∃ b o, p = some ⟨b, o, none⟩ ∧ c ≠ i := by
    rcases hl with ⟨_, _, _, _⟩ | ⟨_, _, _, _⟩ | ⟨b, o, e, hc⟩ | ⟨_, _, _, _, _⟩
    · omega
    · omega
    · exact ⟨b, o, e, hc⟩
    · omega
  all_goals
    go_enter Try.func46, Try.ntmps46
    go_wp2_with fail
    go_quiet ((go_at_call 53; first | exact quiet_left (Hn.out _ _ (isV_zero _ _ _ _ _)) | exact quiet_left (Hn.out _ _ (isV_some _ _ _ _ _))))
    go_wp2_with fail
    go_fit (Hon.out _)
    rintro e w' ⟨rfl, hxs, hg⟩
    have Hxs := Lib.hid hxs
    have Hg := Lib.hid hg
    clear hxs hg
    go_wp2_with fail
    go_ret
    exact ⟨rfl, Hxs.out, ⟨Hg.out.os, Hg.out.tape, Hg.out.output, Hg.out.size, Hg.out.block⟩⟩

set_option maxRecDepth 100000 in
set_option maxHeartbeats 1600000 in
theorem XWithin_ok (h : XS w xb p n c xs i 0) (lo hj : Int) (N S : Nat) (ht : numAt (xs.drop i) = (N, S, 0)) (h0 : ¬ (N : Int) < lo) (h1 : ¬ hj < (N : Int)) : Calls Try.prog 46 #[.pointer (some ⟨xb, 0, none⟩), .int .i64 lo, .int .i64 hj] w (XOut (.int .i64 (N : Int)) w xb p n c xs (i + S) 0) := by
  have c0 := h.c0
  have c1 := h.c1
  have c2 := h.c2
  have hi := h.ile
  have hn := h.nb
  have hnc := h.ncap
  have hl := h.lies
  have hS := xs_ok h N S ht
  have Hn := Lib.hid (num_v h)
  rw [ht] at Hn
  have Hon : Hid (∀ q, Calls Try.prog 54 #[.pointer (some ⟨xb, 0, none⟩), .int .i64 S, .int .i64 0] (w.drewN q) (XOut (.bool true) (w.drewN q) xb p n c xs (i + S) 0)) := fun q => on_ok (h.drewN q) S hS.1
  clear h ht
  obtain ⟨hS1, hS2, hS3, hS4⟩ := hS
  obtain ⟨b, o, rfl, hc⟩ : ∃ b o, p = some ⟨b, o, none⟩ ∧ c ≠ i := by
    rcases hl with ⟨_, _, _, _⟩ | ⟨_, _, _, _⟩ | ⟨b, o, e, hc⟩ | ⟨_, _, _, _, _⟩
    · omega
    · omega
    · exact ⟨b, o, e, hc⟩
    · omega
  all_goals
    go_enter Try.func46, Try.ntmps46
    go_wp2_with fail
    go_quiet ((go_at_call 53; first | exact quiet_left (Hn.out _ _ (isV_zero _ _ _ _ _)) | exact quiet_left (Hn.out _ _ (isV_some _ _ _ _ _))))
    go_wp2_with fail
    go_fit (Hon.out _)
    rintro e w' ⟨rfl, hxs, hg⟩
    have Hxs := Lib.hid hxs
    have Hg := Lib.hid hg
    clear hxs hg
    go_wp2_with fail
    go_ret
    exact ⟨rfl, Hxs.out, ⟨Hg.out.os, Hg.out.tape, Hg.out.output, Hg.out.size, Hg.out.block⟩⟩

end Go.Proofs.Ytnfpobbdcjfcoaa
