/-
  Wire's flags, written and read, the program's and the document's. (Written by genwc.py out of wire's texts.)
-/
import Derived.Test.YtdfjnpnkfjcpcaaWB
namespace Go.Proofs.Ytdfjnpnkfjcpcaa.Wi
open Go.Proofs.Ytdfjnpnkfjcpcaa
set_option linter.unusedVariables false
set_option linter.unusedSimpArgs false
open Go.RowKit

theorem Flag_any (p : Option Addr) (n c : Nat) (xs : List Int) (yes : Bool) (w : World) (hx : xs.length = n) (hb : Lib.BytesIn w p n xs) (hp : p = none → n = 0 ∧ c = 0) (h1 : n + 9 ≤ 140737488355328) :
    Calls Try.prog 65 #[.slice p n c, .bool yes] w (Made w.heap.size w (xs ++ num (if yes then 1 else 0))) := by
  have Hc1 := Lib.hid (Number_any p n c xs 1 w hx hb hp (by omega) (by omega))
  have Hc0 := Lib.hid (Number_any p n c xs 0 w hx hb hp (by omega) (by omega))
  cases yes
  · go_enter Try.func65, Try.ntmps65
    go_wp2_with fail
    go_fit Hc0.out
    rintro e w1 ⟨g1, n1, c1, rfl, hown1, hb1⟩
    go_wp2_with fail
    go_ret
    exact ⟨g1, n1, c1, rfl, hown1, hb1⟩
  · go_enter Try.func65, Try.ntmps65
    go_wp2_with fail
    go_fit Hc1.out
    rintro e w1 ⟨g1, n1, c1, rfl, hown1, hb1⟩
    go_wp2_with fail
    go_ret
    exact ⟨g1, n1, c1, rfl, hown1, hb1⟩
set_option maxHeartbeats 400000 in
theorem RFlag_any (p : Option Addr) (n c : Nat) (xs : List Int) (yes : Bool) (w : World) (hx : xs.length = n) (hb : Lib.BytesIn w p n xs) (hp : p = none → n = 0 ∧ c = 0) (h1 : n + 9 ≤ 140737488355328) :
    Calls Try.prog 68 #[.slice p n c, .bool yes] w (Made w.heap.size w (xs ++ num (if yes then 1 else 0))) := by
  have Hc1 := Lib.hid (RNumber_any p n c xs 1 w hx hb hp (by omega) (by omega))
  have Hc0 := Lib.hid (RNumber_any p n c xs 0 w hx hb hp (by omega) (by omega))
  cases yes
  · go_enter Try.func68, Try.ntmps68
    go_wp2_with fail
    go_fit Hc0.out
    rintro e w1 ⟨g1, n1, c1, rfl, hown1, hb1⟩
    go_wp2_with fail
    go_ret
    exact ⟨g1, n1, c1, rfl, hown1, hb1⟩
  · go_enter Try.func68, Try.ntmps68
    go_wp2_with fail
    go_fit Hc1.out
    rintro e w1 ⟨g1, n1, c1, rfl, hown1, hb1⟩
    go_wp2_with fail
    go_ret
    exact ⟨g1, n1, c1, rfl, hown1, hb1⟩
section
variable {w : World} {rb g n cap : Nat} {xs : List Int} {i : Nat} {err : Int}
set_option maxHeartbeats 400000 in
theorem Flag_err (h : RS w rb g n cap xs i err) (he : err ≠ 0) : Calls Try.prog 74 #[.pointer (some ⟨rb, 0, none⟩)] w (Out (.bool false) w rb g n cap xs i err) := by
  have Hc := Lib.hid (ready_rs h false (by simpa using he))
  have H := Lib.hid h
  clear h
  go_enter Try.func74, Try.ntmps74
  go_wp2_with fail
  go_fit Hc.out
  rintro e w' ⟨rfl, rfl⟩
  go_wp2_with fail
  go_ret
  exact ⟨rfl, H.out, World.grownBy.refl _ _⟩
set_option maxHeartbeats 800000 in
theorem Flag_bad (h : RS w rb g n cap xs i 0) (N S : Nat) (E err : Int) (ht : numAt (xs.drop i) = (N, S, E)) (h0 : (E ≠ 0 ∧ err = E) ∨ (E = 0 ∧ 1 < N ∧ err = 11)) :
    Calls Try.prog 74 #[.pointer (some ⟨rb, 0, none⟩)] w (Out (.bool false) w rb g n cap xs i err) := by
  have Hc := Lib.hid (ready_rs h true rfl)
  have Hp := Lib.hid (peek_rs h)
  rw [ht] at Hp
  have H := Lib.hid h
  have c2 := h.c2
  have f2 := h.f2
  clear h ht
  rcases h0 with ⟨h0, rfl⟩ | ⟨rfl, h1, rfl⟩
  · have t1 : (err == 0) = false := by simpa using h0
    have t2 : (err != 0) = true := by simpa using h0
    go_enter Try.func74, Try.ntmps74
    go_wp2_with fail
    go_fit Hc.out
    rintro e w' ⟨rfl, rfl⟩
    go_wp2_with fail
    go_fit Hp.out
    rintro e w' ⟨rfl, q, rfl⟩
    go_wp2_with fail
    go_ret
    exact ⟨rfl, ((H.out).setErr err).drewN q, grown_dset w q rb 2 _⟩
  · go_enter Try.func74, Try.ntmps74
    go_wp2_with fail
    go_fit Hc.out
    rintro e w' ⟨rfl, rfl⟩
    go_wp2_with fail
    go_fit Hp.out
    rintro e w' ⟨rfl, q, rfl⟩
    go_wp2_with fail
    go_ret
    exact ⟨rfl, ((H.out).setErr 11).drewN q, grown_dset w q rb 2 _⟩
set_option maxHeartbeats 800000 in
theorem Flag_ok (h : RS w rb g n cap xs i 0) (N S : Nat) (ht : numAt (xs.drop i) = (N, S, 0)) (h0 : N ≤ 1) (r : Bool) (hr : ((N : Int) == 1) = r) :
    Calls Try.prog 74 #[.pointer (some ⟨rb, 0, none⟩)] w (Out (.bool r) w rb g n cap xs (i + S) 0) := by
  have Hc := Lib.hid (ready_rs h true rfl)
  have Hp := Lib.hid (peek_rs h)
  have hS := (numAt_size h N S ht).1
  rw [ht] at Hp
  have c1 := h.c1
  have f1 := h.f1
  have hn := h.nb
  have hi' := h.ile
  have Hs := Lib.hid (h.setAt (i + S) hS)
  rw [show ((i + S : Nat) : Int) = (i : Int) + (S : Int) from by omega] at Hs
  clear h ht
  go_enter Try.func74, Try.ntmps74
  go_wp2_with fail
  go_fit Hc.out
  rintro e w' ⟨rfl, rfl⟩
  go_wp2_with fail
  go_fit Hp.out
  rintro e w' ⟨rfl, q, rfl⟩
  go_wp2_with fail
  go_ret
  exact ⟨rfl, (Hs.out).drewN q, grown_dset w q rb 1 _⟩
end
section
variable {w : World} {xb : Nat} {p : Option Addr} {n c : Nat} {xs : List Int} {i : Nat} {err : Int}
set_option maxHeartbeats 400000 in
theorem XFlag_err (h : XS w xb p n c xs i err) (he : err ≠ 0) : Calls Try.prog 77 #[.pointer (some ⟨xb, 0, none⟩)] w (XOut (.bool false) w xb p n c xs i err) := by
  have c2 := h.c2
  have t1 : (err == 0) = false := by simpa using he
  have t2 : (err != 0) = true := by simpa using he
  have H := Lib.hid h
  clear h
  go_enter Try.func77, Try.ntmps77
  go_wp2_with fail
  go_ret
  exact ⟨rfl, H.out, World.grownBy.refl _ _⟩
set_option maxRecDepth 100000 in
set_option maxHeartbeats 1600000 in
theorem XFlag_bad (h : XS w xb p n c xs i 0) (N S : Nat) (E : Int) (ht : numAt (xs.drop i) = (N, S, E)) (hE : E ≠ 0) : Calls Try.prog 77 #[.pointer (some ⟨xb, 0, none⟩)] w (XOut (.bool false) w xb p n c xs i E) := by
  have c0 := h.c0
  have c1 := h.c1
  have c2 := h.c2
  have hi := h.ile
  have hn := h.nb
  have hnc := h.ncap
  have hl := h.lies
  have t1 : (E == 0) = false := by simpa using hE
  have t2 : (E != 0) = true := by simpa using hE
  have Hn := Lib.hid (num_v h)
  rw [ht] at Hn
  have Hon : Hid (∀ q, Calls Try.prog 98 #[.pointer (some ⟨xb, 0, none⟩), .int .i64 S, .int .i64 E] (w.drewN q) (XOut (.bool false) (w.drewN q) xb p n c xs i E)) := fun q => on_bad (h.drewN q) S E hE
  clear h ht
  rcases hl with ⟨rfl, rfl, rfl, rfl⟩ | ⟨ad, rfl, rfl, rfl⟩ | ⟨b, o, rfl, hc⟩ | ⟨ad, rfl, rfl, rfl, hc⟩
  all_goals
    go_enter Try.func77, Try.ntmps77
    go_wp2_with fail
    go_quiet ((go_at_call 97; first | exact quiet_left (Hn.out _ _ (isV_zero _ _ _ _ _)) | exact quiet_left (Hn.out _ _ (isV_some _ _ _ _ _))))
    go_wp2_with fail
    go_fit (Hon.out _)
    rintro e w' ⟨rfl, hxs, hg⟩
    have Hxs := Lib.hid hxs
    have Hg := Lib.hid hg
    clear hxs hg
    go_wp2_with fail
    go_ret
    exact ⟨rfl, Hxs.out, ⟨Hg.out.os, Hg.out.tape, Hg.out.output, Hg.out.size, Hg.out.block⟩⟩
set_option maxRecDepth 100000 in
set_option maxHeartbeats 1600000 in
theorem XFlag_more (h : XS w xb p n c xs i 0) (N S : Nat) (ht : numAt (xs.drop i) = (N, S, 0)) (h0 : 1 < (N : Int)) : Calls Try.prog 77 #[.pointer (some ⟨xb, 0, none⟩)] w (XOut (.bool false) w xb p n c xs i 11) := by
  have c0 := h.c0
  have c1 := h.c1
  have c2 := h.c2
  have hi := h.ile
  have hn := h.nb
  have hnc := h.ncap
  have hl := h.lies
  have hS := xs_ok h N S ht
  have Hn := Lib.hid (num_v h)
  rw [ht] at Hn
  have Hon : Hid (∀ q, Calls Try.prog 98 #[.pointer (some ⟨xb, 0, none⟩), .int .i64 S, .int .i64 11] (w.drewN q) (XOut (.bool false) (w.drewN q) xb p n c xs i 11)) := fun q => on_bad (h.drewN q) S 11 (by decide)
  clear h ht
  obtain ⟨hS1, hS2, hS3, hS4⟩ := hS
  obtain ⟨b, o, rfl, hc⟩ : ∃ b o, p = some ⟨b, o, none⟩ ∧ c ≠ i := by
    rcases hl with ⟨_, _, _, _⟩ | ⟨_, _, _, _⟩ | ⟨b, o, e, hc⟩ | ⟨_, _, _, _, _⟩
    · omega
    · omega
    · exact ⟨b, o, e, hc⟩
    · omega
  all_goals
    go_enter Try.func77, Try.ntmps77
    go_wp2_with fail
    go_quiet ((go_at_call 97; first | exact quiet_left (Hn.out _ _ (isV_zero _ _ _ _ _)) | exact quiet_left (Hn.out _ _ (isV_some _ _ _ _ _))))
    go_wp2_with fail
    go_fit (Hon.out _)
    rintro e w' ⟨rfl, hxs, hg⟩
    have Hxs := Lib.hid hxs
    have Hg := Lib.hid hg
    clear hxs hg
    go_wp2_with fail
    go_ret
    exact ⟨rfl, Hxs.out, ⟨Hg.out.os, Hg.out.tape, Hg.out.output, Hg.out.size, Hg.out.block⟩⟩
set_option maxRecDepth 100000 in
set_option maxHeartbeats 1600000 in
theorem XFlag_ok (h : XS w xb p n c xs i 0) (N S : Nat) (ht : numAt (xs.drop i) = (N, S, 0)) (h0 : ¬ 1 < (N : Int)) (r : Bool) (hr : ((N : Int) == 1) = r) : Calls Try.prog 77 #[.pointer (some ⟨xb, 0, none⟩)] w (XOut (.bool r) w xb p n c xs (i + S) 0) := by
  have c0 := h.c0
  have c1 := h.c1
  have c2 := h.c2
  have hi := h.ile
  have hn := h.nb
  have hnc := h.ncap
  have hl := h.lies
  have hS := xs_ok h N S ht
  have Hn := Lib.hid (num_v h)
  rw [ht] at Hn
  have Hon : Hid (∀ q, Calls Try.prog 98 #[.pointer (some ⟨xb, 0, none⟩), .int .i64 S, .int .i64 0] (w.drewN q) (XOut (.bool true) (w.drewN q) xb p n c xs (i + S) 0)) := fun q => on_ok (h.drewN q) S hS.1
  clear h ht
  obtain ⟨hS1, hS2, hS3, hS4⟩ := hS
  obtain ⟨b, o, rfl, hc⟩ : ∃ b o, p = some ⟨b, o, none⟩ ∧ c ≠ i := by
    rcases hl with ⟨_, _, _, _⟩ | ⟨_, _, _, _⟩ | ⟨b, o, e, hc⟩ | ⟨_, _, _, _, _⟩
    · omega
    · omega
    · exact ⟨b, o, e, hc⟩
    · omega
  all_goals
    go_enter Try.func77, Try.ntmps77
    go_wp2_with fail
    go_quiet ((go_at_call 97; first | exact quiet_left (Hn.out _ _ (isV_zero _ _ _ _ _)) | exact quiet_left (Hn.out _ _ (isV_some _ _ _ _ _))))
    go_wp2_with fail
    go_fit (Hon.out _)
    rintro e w' ⟨rfl, hxs, hg⟩
    have Hxs := Lib.hid hxs
    have Hg := Lib.hid hg
    clear hxs hg
    go_wp2_with fail
    go_ret
    exact ⟨rfl, Hxs.out, ⟨Hg.out.os, Hg.out.tape, Hg.out.output, Hg.out.size, Hg.out.block⟩⟩
end
theorem step_flag (xs : List Int) (n i : Nat) (err : Int) : ∃ (r : Bool) (i' : Nat) (err' : Int),
    RC 74 (fun q => #[q]) (.bool r) n xs i err i' err' ∧
    XC 77 (fun q => #[q]) (.bool r) n xs i err i' err' := by
  by_cases he : err = 0
  · subst he
    obtain ⟨N, S, E, ht⟩ : ∃ N S E, numAt (xs.drop i) = (N, S, E) := ⟨_, _, _, rfl⟩
    by_cases hE : E = 0
    · subst hE
      by_cases h1 : 1 < N
      · exact ⟨false, i, 11, fun w rb g cap h => Flag_bad h N S 0 11 ht (.inr ⟨rfl, h1, rfl⟩), fun w xb p c h => XFlag_more h N S ht (by omega)⟩
      · exact ⟨_, i + S, 0, fun w rb g cap h => Flag_ok h N S ht (by omega) _ rfl, fun w xb p c h => XFlag_ok h N S ht (by omega) _ rfl⟩
    · exact ⟨false, i, E, fun w rb g cap h => Flag_bad h N S E E ht (.inl ⟨hE, rfl⟩), fun w xb p c h => XFlag_bad h N S E ht hE⟩
  · exact ⟨false, i, err, fun w rb g cap h => Flag_err h he, fun w xb p c h => XFlag_err h he⟩
end Go.Proofs.Ytdfjnpnkfjcpcaa.Wi
