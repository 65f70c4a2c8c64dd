/-
  Walks of the document's own reader: Text, where there is one.
-/
import Derived.Test.YtpdabpcdmenlaaaDoorRS4
namespace Go.Proofs.YtpdabpcdmenlaaaDoor
set_option linter.unusedVariables false
set_option linter.unusedSimpArgs false
open Go.RowKit
variable {w : World} {xb n c : Nat} {p : Option Addr} {xs : List Int} {i : Nat} {err : Int}

set_option maxRecDepth 100000 in
set_option maxHeartbeats 1600000 in
theorem XText_full0 (h : XS w xb p n c xs i 0) (most : Int) (S : Nat) (ht : numAt (xs.drop i) = (0, S, 0)) (hic : c = i + S) : Calls Tryd.prog 38 #[.pointer (some ⟨xb, 0, none⟩), .int .i64 most] w (XOut (.string (strOfNums [])) w xb p n c xs (i + S) 0) := by
  have c0 := h.c0
  have c1 := h.c1
  have c2 := h.c2
  have hi := h.ile
  have hn := h.nb
  have hnc := h.ncap
  have hl := h.lies
  obtain ⟨hS1, hS2, hS3, hS4⟩ := xs_ok h 0 S ht
  have Hn := Lib.hid (num_v h)
  rw [ht] at Hn
  have Hon : Hid (∀ q, Calls Tryd.prog 57 #[.pointer (some ⟨xb, 0, none⟩), .int .i64 (S : Int), .int .i64 0] (w.drewN q) (XOut (.bool true) (w.drewN q) xb p n c xs (i + S) 0)) := fun q => on_ok (h.drewN q) S (by omega)
  obtain ⟨b, o, rfl, hc⟩ : ∃ b o, p = some ⟨b, o, none⟩ ∧ c ≠ i := by
    rcases hl with ⟨_, _, _, _⟩ | ⟨_, _, _, _⟩ | ⟨b, o, e, hc⟩ | ⟨_, _, _, _, _⟩
    · omega
    · omega
    · exact ⟨b, o, e, hc⟩
    · omega
  obtain rfl : n = c := by omega
  have hT : Hid (i + S = n) := hic.symm
  rw [hT.out] at Hon ⊢
  have k1 : IntKind.i64.wrap (S : Int) = (S : Int) := wrap_i64 _ (by omega) (by omega)
  have u1 : IntKind.i64.wrap ((n : Int) - (i : Int)) = (n : Int) - (i : Int) := wrap_i64 _ (by omega) (by omega)
  have u2 : IntKind.i64.wrap ((n : Int) - (i : Int) - (S : Int)) = (n : Int) - (i : Int) - (S : Int) := wrap_i64 _ (by omega) (by omega)
  have h3 : ¬ (n : Int) - (i : Int) - (S : Int) < 0 := by omega
  have k3 : IntKind.i64.wrap (n : Int) = (n : Int) := wrap_i64 _ (by omega) (by omega)
  clear h ht hl hic
  go_enter Tryd.func38, Tryd.ntmps38
  go_wp2_with fail
  go_quiet ((go_at_call 56; first | exact quiet_left (Hn.out _ _ (isV_zero _ _ _ _ _)) | exact quiet_left (Hn.out _ _ (isV_some _ _ _ _ _))))
  go_wp2_with fail
  go_quiet (fail)
  go_wp2_with fail
  go_fit (Hon.out _)
  rintro e w' ⟨rfl, hxs, hg⟩
  have d0 := hxs.c0
  have d1 := hxs.c1
  have Hxs := Lib.hid hxs
  have Hg := Lib.hid hg
  clear hxs hg c0 c1 c2 u1 u2
  have hcv : ∀ q, (convert 22 9 (.slice (some ⟨b, o, none⟩) 0 0)).run Tryd.prog (w'.drewN q) = .ok (.string (strOfNums [])) (w'.drewN q) := fun q =>
    Lib.BytesIn.convert (w := w'.drewN q) (Lib.BytesIn.nil _ _ _) rfl 0 _ _ _ Tryd.underlying22 Tryd.underlying5 Tryd.underlying9
  generalize strOfNums [] = str at *
  go_wp2_with fail
  go_quiet (fail)
  go_wp2_with fail
  go_ret
  exact ⟨rfl, Hxs.out.drewN _, ⟨Hg.out.os, Hg.out.tape, Hg.out.output, Hg.out.size, Hg.out.block⟩⟩

set_option maxRecDepth 100000 in
set_option maxHeartbeats 1600000 in
theorem XText_ok0 (h : XS w xb p n c xs i 0) (most : Int) (N S : Nat) (ht : numAt (xs.drop i) = (N, S, 0)) (h0 : ¬ 0 < (N : Int)) (h2 : i + S + N ≤ n) (hic : c ≠ i + S) : Calls Tryd.prog 38 #[.pointer (some ⟨xb, 0, none⟩), .int .i64 most] w (XOut (.string (strOfNums ((xs.drop (i + S)).take N))) w xb p n c xs (i + S + N) 0) := by
  have c0 := h.c0
  have c1 := h.c1
  have c2 := h.c2
  have hi := h.ile
  have hn := h.nb
  have hnc := h.ncap
  have hl := h.lies
  have hS := xs_ok h N S ht
  have hpne := h.pne
  have k1 : IntKind.i64.wrap ((S : Int) + (N : Int)) = (S : Int) + (N : Int) := wrap_i64 _ (by omega) (by omega)
  have u1 : IntKind.i64.wrap ((n : Int) - (i : Int)) = (n : Int) - (i : Int) := wrap_i64 _ (by omega) (by omega)
  have u2 : IntKind.i64.wrap ((n : Int) - (i : Int) - (S : Int)) = (n : Int) - (i : Int) - (S : Int) := wrap_i64 _ (by omega) (by omega)
  have h3 : ¬ (n : Int) - (i : Int) - (S : Int) < (N : Int) := by omega
  have Hn := Lib.hid (num_v h)
  rw [ht] at Hn
  have Hon : Hid (∀ q, Calls Tryd.prog 57 #[.pointer (some ⟨xb, 0, none⟩), .int .i64 ((S : Int) + (N : Int)), .int .i64 0] (w.drewN q) (XOut (.bool true) (w.drewN q) xb p n c xs (i + (S + N)) 0)) := fun q => by rw [show (S : Int) + (N : Int) = ((S + N : Nat) : Int) from by omega]; exact on_ok (h.drewN q) (S + N) (by omega)
  obtain ⟨hS1, hS2, hS3, hS4⟩ := hS
  obtain ⟨b, o, rfl, hc⟩ : ∃ b o, p = some ⟨b, o, none⟩ ∧ c ≠ i := by
    rcases hl with ⟨_, _, _, _⟩ | ⟨_, _, _, _⟩ | ⟨b, o, e, hc⟩ | ⟨_, _, _, _, _⟩
    · omega
    · omega
    · exact ⟨b, o, e, hc⟩
    · omega
  have hlx := h.len
  clear h ht
  obtain ⟨T, hT⟩ : ∃ T : Nat, T = i + (S + N) := ⟨_, rfl⟩
  obtain ⟨A, hA⟩ : ∃ A : Nat, A = i + S := ⟨_, rfl⟩
  rw [← hT] at Hon
  rw [show i + S + N = T from by omega, ← hA]
  have k2 : IntKind.i64.wrap ((T : Int) - (N : Int)) = (A : Int) := by rw [wrap_i64 _ (by omega) (by omega)]; omega
  have hTA : T - A = N := by omega
  have k3 : (T : Int) - (N : Int) = (A : Int) := by omega
  have k4 : ((A : Int)).toNat = A := by omega
  have i0 : (0 : Int) ≤ (A : Int) := by omega
  have i4 : A ≤ T := by omega
  have i5 : T ≤ c := by omega
  have hne : ¬ c = A := by omega
  have hne2 : ¬ (c : Int) = (A : Int) := by omega
  have i1 : (A : Int) ≤ (T : Int) := by omega
  have i2 : (T : Int) ≤ (c : Int) := by omega
  have i3 : T ≤ n := by omega
  clear hT hA k3
  go_enter Tryd.func38, Tryd.ntmps38
  go_wp2_with fail
  go_quiet ((go_at_call 56; first | exact quiet_left (Hn.out _ _ (isV_zero _ _ _ _ _)) | exact quiet_left (Hn.out _ _ (isV_some _ _ _ _ _))))
  go_wp2_with fail
  go_quiet (fail)
  go_wp2_with fail
  go_fit (Hon.out _)
  rintro e w' ⟨rfl, hxs, hg⟩
  have d0 := hxs.c0
  have d1 := hxs.c1
  have hin := drop_in hxs.inn A
  have Hxs := Lib.hid hxs
  have Hg := Lib.hid hg
  clear hxs hg c0 c1 c2 u1 u2
  have hlen : ((xs.drop A).take N).length = N := by simp only [List.length_take, List.length_drop]; omega
  have hin2 := in_take hin N (by omega)
  have hcv : ∀ q d, (convert 22 9 (.slice (some ⟨b, o + A, none⟩) (T - A) d)).run Tryd.prog (w'.drewN q) = .ok (.string (strOfNums ((xs.drop A).take N))) (w'.drewN q) := fun q d =>
    by rw [hTA]; exact Lib.BytesIn.convert (w := w'.drewN q) hin2 hlen d _ _ _ Tryd.underlying22 Tryd.underlying5 Tryd.underlying9
  generalize strOfNums ((xs.drop A).take N) = str at *
  clear hin hin2 hlen hTA
  go_wp2_with fail
  go_quiet (fail)
  go_wp2_with fail
  go_ret
  exact ⟨rfl, Hxs.out.drewN _, ⟨Hg.out.os, Hg.out.tape, Hg.out.output, Hg.out.size, Hg.out.block⟩⟩

set_option maxRecDepth 100000 in
set_option maxHeartbeats 1600000 in
theorem XText_ok (h : XS w xb p n c xs i 0) (most : Int) (N S : Nat) (ht : numAt (xs.drop i) = (N, S, 0)) (h0 : 0 < (N : Int)) (h1 : ¬ most < (N : Int)) (h2 : i + S + N ≤ n)  : Calls Tryd.prog 38 #[.pointer (some ⟨xb, 0, none⟩), .int .i64 most] w (XOut (.string (strOfNums ((xs.drop (i + S)).take N))) w xb p n c xs (i + S + N) 0) := by
  have c0 := h.c0
  have c1 := h.c1
  have c2 := h.c2
  have hi := h.ile
  have hn := h.nb
  have hnc := h.ncap
  have hl := h.lies
  have hS := xs_ok h N S ht
  have hpne := h.pne
  have k1 : IntKind.i64.wrap ((S : Int) + (N : Int)) = (S : Int) + (N : Int) := wrap_i64 _ (by omega) (by omega)
  have u1 : IntKind.i64.wrap ((n : Int) - (i : Int)) = (n : Int) - (i : Int) := wrap_i64 _ (by omega) (by omega)
  have u2 : IntKind.i64.wrap ((n : Int) - (i : Int) - (S : Int)) = (n : Int) - (i : Int) - (S : Int) := wrap_i64 _ (by omega) (by omega)
  have h3 : ¬ (n : Int) - (i : Int) - (S : Int) < (N : Int) := by omega
  have Hn := Lib.hid (num_v h)
  rw [ht] at Hn
  have Hon : Hid (∀ q, Calls Tryd.prog 57 #[.pointer (some ⟨xb, 0, none⟩), .int .i64 ((S : Int) + (N : Int)), .int .i64 0] (w.drewN q) (XOut (.bool true) (w.drewN q) xb p n c xs (i + (S + N)) 0)) := fun q => by rw [show (S : Int) + (N : Int) = ((S + N : Nat) : Int) from by omega]; exact on_ok (h.drewN q) (S + N) (by omega)
  obtain ⟨hS1, hS2, hS3, hS4⟩ := hS
  obtain ⟨b, o, rfl, hc⟩ : ∃ b o, p = some ⟨b, o, none⟩ ∧ c ≠ i := by
    rcases hl with ⟨_, _, _, _⟩ | ⟨_, _, _, _⟩ | ⟨b, o, e, hc⟩ | ⟨_, _, _, _, _⟩
    · omega
    · omega
    · exact ⟨b, o, e, hc⟩
    · omega
  have hlx := h.len
  clear h ht
  obtain ⟨T, hT⟩ : ∃ T : Nat, T = i + (S + N) := ⟨_, rfl⟩
  obtain ⟨A, hA⟩ : ∃ A : Nat, A = i + S := ⟨_, rfl⟩
  rw [← hT] at Hon
  rw [show i + S + N = T from by omega, ← hA]
  have k2 : IntKind.i64.wrap ((T : Int) - (N : Int)) = (A : Int) := by rw [wrap_i64 _ (by omega) (by omega)]; omega
  have hTA : T - A = N := by omega
  have k3 : (T : Int) - (N : Int) = (A : Int) := by omega
  have k4 : ((A : Int)).toNat = A := by omega
  have i0 : (0 : Int) ≤ (A : Int) := by omega
  have i4 : A ≤ T := by omega
  have i5 : T ≤ c := by omega
  have hne : ¬ c = A := by omega
  have hne2 : ¬ (c : Int) = (A : Int) := by omega
  have i1 : (A : Int) ≤ (T : Int) := by omega
  have i2 : (T : Int) ≤ (c : Int) := by omega
  have i3 : T ≤ n := by omega
  clear hT hA k3
  go_enter Tryd.func38, Tryd.ntmps38
  go_wp2_with fail
  go_quiet ((go_at_call 56; first | exact quiet_left (Hn.out _ _ (isV_zero _ _ _ _ _)) | exact quiet_left (Hn.out _ _ (isV_some _ _ _ _ _))))
  go_wp2_with fail
  go_quiet (fail)
  go_wp2_with fail
  go_fit (Hon.out _)
  rintro e w' ⟨rfl, hxs, hg⟩
  have d0 := hxs.c0
  have d1 := hxs.c1
  have hin := drop_in hxs.inn A
  have Hxs := Lib.hid hxs
  have Hg := Lib.hid hg
  clear hxs hg c0 c1 c2 u1 u2
  have hlen : ((xs.drop A).take N).length = N := by simp only [List.length_take, List.length_drop]; omega
  have hin2 := in_take hin N (by omega)
  have hcv : ∀ q d, (convert 22 9 (.slice (some ⟨b, o + A, none⟩) (T - A) d)).run Tryd.prog (w'.drewN q) = .ok (.string (strOfNums ((xs.drop A).take N))) (w'.drewN q) := fun q d =>
    by rw [hTA]; exact Lib.BytesIn.convert (w := w'.drewN q) hin2 hlen d _ _ _ Tryd.underlying22 Tryd.underlying5 Tryd.underlying9
  generalize strOfNums ((xs.drop A).take N) = str at *
  clear hin hin2 hlen hTA
  go_wp2_with fail
  go_quiet (fail)
  go_wp2_with fail
  go_ret
  exact ⟨rfl, Hxs.out.drewN _, ⟨Hg.out.os, Hg.out.tape, Hg.out.output, Hg.out.size, Hg.out.block⟩⟩

end Go.Proofs.YtpdabpcdmenlaaaDoor
