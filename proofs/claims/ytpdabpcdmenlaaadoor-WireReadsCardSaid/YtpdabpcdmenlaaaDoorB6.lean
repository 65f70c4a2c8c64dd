/-
  Walks of package wire's Next.
-/
import Derived.Test.YtpdabpcdmenlaaaDoorB5
namespace Go.Proofs.YtpdabpcdmenlaaaDoor
set_option linter.unusedVariables false
set_option linter.unusedSimpArgs false
open Go.RowKit

def le4 (ys : List Int) : Nat := (ys.getD 0 0).toNat + (ys.getD 1 0).toNat * 256 + (ys.getD 2 0).toNat * 65536 + (ys.getD 3 0).toNat * 16777216

/-- The frame with which bytes begin: its payload, how many bytes it has, why there is none. -/
def nextAt (xs : List Int) : List Int × Nat × Int :=
  if (numAt xs).2.2 ≠ 0 then ([], 0, (numAt xs).2.2) else
  if 32768 < (numAt xs).1 then ([], 0, 4) else
  if xs.length < (numAt xs).2.1 + (numAt xs).1 + 4 then ([], 0, 2) else
  if sumOf (xs.take ((numAt xs).2.1 + (numAt xs).1)) ≠ le4 (xs.drop ((numAt xs).2.1 + (numAt xs).1)) then ([], 0, 10) else
  ((xs.drop (numAt xs).2.1).take (numAt xs).1, (numAt xs).2.1 + (numAt xs).1 + 4, 0)

theorem numAt_ok (xs : List Int) (hr : ∀ x ∈ xs, 0 ≤ x ∧ x < 256) (h : (numAt xs).2.2 = 0) : 1 ≤ (numAt xs).2.1 ∧ (numAt xs).2.1 ≤ 9 ∧ (numAt xs).2.1 ≤ xs.length := by
  revert h
  unfold numAt
  by_cases h0 : xs.length = 0
  · rw [if_pos h0]; intro h; cases h
  rw [if_neg h0]
  have hk := hr (xs.getD 0 0) (by rw [List.getD_eq_getElem?_getD, List.getElem?_eq_getElem (by omega)]; simp)
  simp only []
  split
  · intro h; cases h
  split
  · intro h; cases h
  split
  · intro h; cases h
  split
  · intro h; cases h
  intro _
  simp only []
  omega

/-- Nothing, and why. -/
def NoneE (err : Int) (w : World) (e : Ending) (w' : World) : Prop := e = .returned (.tuple #[.slice none 0 0, .int .i64 0, .int .i64 err]) ∧ ∃ q, w' = w.drewN q

/-- A new slice of bytes, how many bytes were read, OK. -/
def MadeN (B : Nat) (w : World) (xs : List Int) (size : Nat) (e : Ending) (w' : World) : Prop :=
  ∃ g n cap, e = .returned (.tuple #[.slice (some ⟨g, 0, none⟩) n cap, .int .i64 size, .int .i64 0]) ∧ w'.ownsRow B 5 1 (.slice (some ⟨g, 0, none⟩) n cap) n (xs.map (Value.int .u8)) ∧ Below B w w'

theorem quiet_left {P : Program} {f : FuncId} {args : Array Value} {w : World} {n : Nat} {v : Value}
    (h : Calls P f args (w.drewN n) fun e w' => e = .returned v ∧ w.drewN n = w') : Calls P f args (w.drewN n) fun e w'' => e = .returned v ∧ ∃ m, w'' = w.drewN m :=
  h.mono fun _ _ ⟨he, hm⟩ => ⟨he, n, hm.symm⟩

theorem drewN_zero (w : World) : ∃ q, w = w.drewN q := ⟨0, rfl⟩

set_option maxHeartbeats 400000 in
theorem Next_early (p : Option Addr) (n c : Nat) (N H : Nat) (E err : Int) (xs : List Int) (w : World) (hc : Calls Tryd.prog 60 #[.slice p n c] w (Three (numAt xs) w)) (ht : numAt xs = (N, H, E)) (hn2 : n ≤ 140737488355328) (hH : H ≤ 9)
    (h : (E ≠ 0 ∧ err = E) ∨ (E = 0 ∧ 32768 < N ∧ err = 4) ∨ (E = 0 ∧ N ≤ 32768 ∧ n < H + N + 4 ∧ err = 2)) :
    Calls Tryd.prog 46 #[.slice p n c] w (NoneE err w) := by
  have Hc := Lib.hid hc
  have Ht := Lib.hid ht
  clear hc ht
  rcases h with ⟨h1, rfl⟩ | ⟨rfl, h2, rfl⟩ | ⟨rfl, h2, h3, rfl⟩
  · have t1 : (err == 0) = false := by simpa using h1
    have t2 : (err != 0) = true := by simpa using h1
    go_enter Tryd.func46, Tryd.ntmps46
    go_wp2_with fail
    go_fit Hc.out
    rintro e w' ⟨rfl, rfl⟩
    rw [Ht.out]
    go_wp2_with fail
    go_ret3
    exact ⟨rfl, drewN_zero _⟩
  · go_enter Tryd.func46, Tryd.ntmps46
    go_wp2_with fail
    go_fit Hc.out
    rintro e w' ⟨rfl, rfl⟩
    rw [Ht.out]
    go_wp2_with fail
    go_ret3
    exact ⟨rfl, drewN_zero _⟩
  · go_enter Tryd.func46, Tryd.ntmps46
    go_wp2_with fail
    go_fit Hc.out
    rintro e w' ⟨rfl, rfl⟩
    rw [Ht.out]
    go_wp2_with fail
    go_ret3
    exact ⟨rfl, drewN_zero _⟩

theorem three_ret' {v : Value} {b b' c : Int} (h2 : b = b') : Ending.returned (.tuple #[v, .int .i64 b, .int .i64 c]) = .returned (.tuple #[v, .int .i64 b', .int .i64 c]) := by rw [h2]

def NextPost (bad : Bool) (w : World) (xs : List Int) (size : Nat) (e : Ending) (w' : World) : Prop := if bad then NoneE 10 w e w' else MadeN w.heap.size w xs size e w'

set_option maxHeartbeats 800000 in
theorem Next_late (b o n c N H : Nat) (xs : List Int) (w : World) (hcn : Calls Tryd.prog 60 #[.slice (some ⟨b, o, none⟩) n c] w (Three (numAt xs) w)) (ht : numAt xs = (N, H, 0)) (hn2 : n ≤ 140737488355328) (h1H : 1 ≤ H) (hH : H ≤ 9) (hN : N ≤ 32768) (hlen : H + N + 4 ≤ n)
    (hx : xs.length = n) (hc : ∀ i, i < n → w.cell? ⟨b, o + i, none⟩ = some (.int .u8 (xs.getD i 0))) (hT : TabIn w) (hr : ∀ x ∈ xs, 0 ≤ x ∧ x < 256) (hnc : n ≤ c) (bad : Bool) (hbad : bad = decide (sumOf (xs.take (H + N)) ≠ le4 (xs.drop (H + N)))) :
    Calls Tryd.prog 46 #[.slice (some ⟨b, o, none⟩) n c] w (NextPost bad w ((xs.drop H).take N) (H + N + 4)) := by
  have Hc := Lib.hid hcn
  have Ht := Lib.hid ht
  have hlt : H + N < n := by omega
  have hne : ¬ c = H + N := by omega
  have hne2 : ¬ (c : Int) = (H : Int) + (N : Int) := by omega
  clear hcn ht
  obtain ⟨S, hS⟩ : ∃ S : Nat, S = sumOf (xs.take (H + N)) := ⟨_, rfl⟩
  have csum : ∀ q, Calls Tryd.prog 28 #[.slice (some ⟨b, o, none⟩) (H + N) c] (w.drewN q) fun e w' => e = .returned (.int .u32 (S : Int)) ∧ w.drewN q = w' := by
    intro q
    rw [hS]
    exact Sum_any _ (H + N) c (xs.take (H + N)) _ (by simp; omega) (Lib.BytesIn.of_cells fun i hi => by
      rw [addLit, List.getD_eq_getElem?_getD, List.getElem?_take, if_pos hi, ← List.getD_eq_getElem?_getD]; exact hc i (by omega)) hT (by omega) (fun x h => hr x (List.mem_of_mem_take h))
  obtain ⟨T, hTT⟩ : ∃ T : Nat, T = le4 (xs.drop (H + N)) := ⟨_, rfl⟩
  have eg : ∀ i, (xs.drop (H + N)).getD i 0 = xs.getD (H + N + i) 0 := fun i => by simp only [List.getD_eq_getElem?_getD, List.getElem?_drop]
  have cget : ∀ q, Calls Tryd.prog 61 #[.slice (some ⟨b, o + (H + N), none⟩) (n - (H + N)) (c - (H + N))] (w.drewN q) fun e w' => e = .returned (.int .u32 (T : Int)) ∧ ∃ m, w' = (w.drewN q).drewN m := by
    intro q
    obtain ⟨y0, e0, l0, c0⟩ := byte_at hc hx hr (H + N) (by omega)
    obtain ⟨y1, e1, l1, c1⟩ := byte_at hc hx hr (H + N + 1) (by omega)
    obtain ⟨y2, e2, l2, c2⟩ := byte_at hc hx hr (H + N + 2) (by omega)
    obtain ⟨y3, e3, l3, c3⟩ := byte_at hc hx hr (H + N + 3) (by omega)
    have eT : T = y0 + y1 * 256 + y2 * 65536 + y3 * 16777216 := by
      rw [hTT]; unfold le4; simp only [eg, Nat.add_zero, e0, e1, e2, e3, Int.toNat_natCast]
    rw [eT]
    exact getSum_any b (o + (H + N)) (n - (H + N)) (c - (H + N)) y0 y1 y2 y3 (w.drewN q) (by omega) (by omega) c0 c1 c2 c3 l0 l1 l2 l3
  have cown : ∀ q, Calls Tryd.prog 52 #[.slice (some ⟨b, o + H, none⟩) N (c - H), .int .i64 0] (w.drewN q) (Made (w.drewN q).heap.size (w.drewN q) ((xs.drop H).take N)) := fun q =>
    own_any _ N (c - H) ((xs.drop H).take N) 0 _ (by simp; omega) (Lib.BytesIn.of_cells fun i hi => by
      rw [addLit, List.getD_eq_getElem?_getD, List.getElem?_take, if_pos hi, List.getElem?_drop, ← List.getD_eq_getElem?_getD, Nat.add_assoc]; exact hc (H + i) (by omega)) (by intro h; cases h) (by omega) (by omega)
  rw [← hS, ← hTT] at hbad
  have Cs := Lib.hid csum
  have Cg := Lib.hid cget
  have Co := Lib.hid cown
  clear hS hTT eg csum cget cown hc hr hT
  have i1 : (0 : Int) ≤ (H : Int) + (N : Int) := by omega
  have i2 : (H : Int) + (N : Int) ≤ (n : Int) := by omega
  have i3 : (H : Int) + (N : Int) ≤ (c : Int) := by omega
  have hsub : H + N - H = N := by omega
  by_cases hST : S = T
  · have hb : Hid (bad = false) := by rw [hbad]; show _ = false; simp [hST]
    have t1 : ((S : Int) == (T : Int)) = true := by simp [hST]
    have t2 : ((S : Int) != (T : Int)) = false := by simp [hST]
    clear hbad
    have Hst := Lib.hid hST
    clear hST
    go_enter Tryd.func46, Tryd.ntmps46
    go_wp2_with fail
    go_fit Hc.out
    rintro e w' ⟨rfl, rfl⟩
    rw [Ht.out]
    go_wp2_with fail
    go_quiet (first | (go_at_call 28; exact quiet_left (Cs.out _)) | (go_at_call 61; exact Calls.quiet_of (Cg.out _)))
    go_wp2_with fail
    go_fit (Co.out _)
    rintro e w2 ⟨g2, n2, c2, rfl, hown2, hb2⟩
    go_wp2_with fail
    go_ret3
    show NextPost _ _ _ _ _ _
    unfold NextPost
    rw [hb.out, if_neg (by simp)]
    exact ⟨g2, n2, c2, three_ret' (by omega), hown2, ⟨hb2.os, hb2.tape, hb2.output, hb2.size, hb2.block⟩⟩
  · have hb : Hid (bad = true) := by rw [hbad]; show _ = true; simp [hST]
    have hST' : ¬ (S : Int) = (T : Int) := by omega
    have t1 : ((S : Int) == (T : Int)) = false := by simp [hST']
    have t2 : ((S : Int) != (T : Int)) = true := by simp [hST']
    clear hbad
    go_enter Tryd.func46, Tryd.ntmps46
    go_wp2_with fail
    go_fit Hc.out
    rintro e w' ⟨rfl, rfl⟩
    rw [Ht.out]
    go_wp2_with fail
    go_quiet (first | (go_at_call 28; exact quiet_left (Cs.out _)) | (go_at_call 61; exact Calls.quiet_of (Cg.out _)))
    go_wp2_with fail
    go_ret3
    show NextPost _ _ _ _ _ _
    unfold NextPost
    rw [hb.out, if_pos rfl]
    exact ⟨rfl, _, rfl⟩

end Go.Proofs.YtpdabpcdmenlaaaDoor
