/-
  Walks: the document's number.
-/
import Derived.Test.YtnfpobbdcjfcoaaBq
namespace Go.Proofs.Ytnfpobbdcjfcoaa
set_option linter.unusedVariables false
set_option linter.unusedSimpArgs false
open Go.RowKit

theorem own_lit {w : World} (B : Nat) (C : Array Value) (l : List Int) (hC : C = (l.map (Value.int .u8)).toArray) (hB : B ≤ w.heap.size) (hl : l.length ≤ 1000) :
    (w.alloc (.cells C 5)).ownsRow B 5 1 (.slice (some ⟨w.heap.size, 0, none⟩) l.length l.length) l.length (l.map (Value.int .u8)) := by
  subst hC
  refine ⟨by simp, .inr ⟨w.heap.size, l.length, _, rfl, hB, heap_alloc_new w _, Nat.le_refl _, by unfold maxLen; omega, by simp, ?_⟩⟩
  simp [List.take_of_length_le]

theorem owns_weaken {w : World} {B B' n : Nat} {v : Value} {xs : List Value} (h : w.ownsRow B' 5 1 v n xs) (hB : B ≤ B') : w.ownsRow B 5 1 v n xs := by
  refine ⟨h.1, ?_⟩
  rcases h.2 with h2 | ⟨g, cap, cur, h1, hb, r⟩
  · exact .inl h2
  · exact .inr ⟨g, cap, cur, h1, Nat.le_trans hB hb, r⟩

theorem be_snoc (u : Nat) : ∀ k, be u (k + 1) = be (u / 256) k ++ [(u : Int) % 256]
  | 0 => by simp [be]
  | k + 1 => by
    have e : (u : Int) / 2 ^ (8 * (k + 1)) % 256 = ((u / 256 : Nat) : Int) / 2 ^ (8 * k) % 256 := by
      have h1 : ((2 : Int) ^ (8 * (k + 1))) = 256 * 2 ^ (8 * k) := by rw [Nat.mul_add, Int.pow_add]; simp; rw [Int.mul_comm]
      rw [h1, ← Int.ediv_ediv_of_nonneg (by omega)]; simp
    rw [be, be_snoc u k, be, e, List.cons_append]

/-- A number's digits by 256: the last one apart. -/
theorem digits_step (u : Nat) (h0 : 0 < u) (h : u < 18446744073709551616) : be u (wide u) = be (u / 256) (wide (u / 256)) ++ [(u : Int) % 256] := by
  rw [wide_step u h0 h, be_snoc]

set_option maxHeartbeats 1600000 in
theorem RNumber_nat (p : Option Addr) (n c : Nat) (xs : List Int) (u : Nat) (a : Int) (w : World) (hx : xs.length = n) (hb : Lib.BytesIn w p n xs) (hp : p = none → n = 0 ∧ c = 0) (ha : max a 0 = (u : Int)) (hu : u ≤ 9223372036854775807) (h1 : n + 9 ≤ 140737488355328) :
    Calls Try.prog 42 #[.slice p n c, .int .i64 a] w (Made w.heap.size w (xs ++ num u)) := by
  have Hx := Lib.hid hx
  have Hb := Lib.hid hb
  have hw8 : wide u ≤ 8 := by have hb := Lib.bitLen_le u 64 (by omega) (by omega); unfold wide; omega
  clear hx hb
  go_enter Try.func42, Try.ntmps42
  go_wp2_with fail
  go_loopw [1, 5] (fun i v wr => ∃ (m q d : Nat) (ys : List Int) (r : Option Addr), m ≤ u ∧ i = .int .i64 m ∧ v = .slice r q d ∧ Lib.BytesIn wr r q ys ∧ ys.length = q ∧ (r = none → q = 0 ∧ d = 0) ∧ Below w.heap.size w wr ∧ Hid (be m (wide m) ++ ys = be u (wide u)))
    (fun i _ _ => (intOf i).toNat)
  case atStart => exact ⟨u, 0, 0, [], none, Nat.le_refl _, rfl, rfl, Lib.BytesIn.nil _ _ _, rfl, fun _ => ⟨rfl, rfl⟩, Below.refl _ _, by show _ ++ [] = _; rw [List.append_nil]⟩
  case round =>
    obtain ⟨m, q, d, ys, r, hm, rfl, rfl, hys, hq, hr, hbel, He⟩ := hrel
    have Hq := Lib.hid hq
    have hq8 : q ≤ 8 := by
      have := congrArg List.length He.out
      simp only [List.length_append, be_length] at this
      omega
    clear hq
    rcases Nat.eq_zero_or_pos m with h0 | h0
    · subst h0
      have He2 : Hid (ys = be u (wide u)) := He.out
      have hqw : Hid ((q : Int) = (wide u : Int)) := by show (q : Int) = (wide u : Int); rw [← Hq.out, He2.out, be_length]
      have hBw : w.heap.size ≤ wr.heap.size := hbel.size
      have hb0 := (Below.refl wr.heap.size wr).alloc (Nat.le_refl _) (.cells #[] 5)
      have hin0 := later Hb.out (hbel.trans (hb0.mono hBw))
      have Hys := Lib.hid hys
      have Hfin : Hid (xs ++ [(q : Int)] ++ ys = xs ++ num u) := by
        show _ = _
        rw [hqw.out, He2.out, num]; simp
      clear hys He
      go_wp2_with (first
        | (at_builtin; (refine wpList_push rfl (.tmp 18) (.tmp 19) rfl wr.heap.size wr.heap.size 0 0 [] rfl (own_lit wr.heap.size _ [] rfl (Nat.le_refl _) (by simp)) p n c xs rfl hin0 Hx.out hp (by omega) (by simp) ?_; intro g1 c1 w1 hown1 hgrow1; have hbel1 := made_grown hb0 hgrow1 (by simp) (Nat.le_refl _); have hat1 := owns_at hown1; simp only [Nat.zero_add, List.nil_append] at hown1))
        | (at_builtin; (refine wpList_push rfl (.tmp 20) (.tmp 24) rfl wr.heap.size g1 n c1 xs rfl (hown1.alloc _) (some ⟨w1.heap.size, 0, none⟩) 1 1 [(q : Int)] rfl (in_one _ _) rfl (by intro h; cases h) (by omega) (by have := hbel1.size; simp; omega) ?_; intro g2 c2 w2 hown2 hgrow2; have hat2 := owns_at hown2; have hbel2 := hbel1.trans (below_push (Below.refl _ w1) hgrow2 hbel1.size hat1.1); have hys2 := later Hys.out hbel2))
        | (at_builtin; (refine wpList_push rfl (.tmp 25) (.tmp 26) rfl wr.heap.size g2 (n + 1) c2 _ rfl hown2 r q d ys rfl hys2 Hq.out hr (by omega) hbel2.size ?_; intro g3 c3 w3 hown3 hgrow3)))
      go_ret
      rw [Hfin.out] at hown3
      exact ⟨g3, _, c3, rfl, owns_weaken hown3 hBw, hbel.trans ((made_grown hbel2 hgrow3 hbel2.size hat2.1).mono hBw)⟩
    · have hst := digits_step m h0 (by omega)
      have He2 : Hid (be (m / 256) (wide (m / 256)) ++ (((m : Int) % 256) :: ys) = be u (wide u)) := by
        show _ = _
        rw [← He.out, hst]; simp
      have hBw : w.heap.size ≤ wr.heap.size := hbel.size
      have hin1 := later hys ((Below.refl wr.heap.size wr).alloc (Nat.le_refl _) (.cells #[.int .u8 ((m : Int) % 256)] 5))
      clear hst He hys
      go_wp2_with (at_builtin; go_loud (refine wpList_push rfl _ _ rfl w.heap.size wr.heap.size 1 1 [(m : Int) % 256] rfl (own_lit w.heap.size _ [(m : Int) % 256] rfl hBw (by simp)) r q d ys rfl hin1 Hq.out hr (by omega) (by simp; omega) ?_; intro g2 c2 w2 hown2 hgrow2))
      go_roundw
      case rel => exact ⟨m / 256, 1 + q, c2, _, some ⟨g2, 0, none⟩, by omega, by go_num, rfl, owns_in hown2, owns_len hown2, (by intro h; cases h), made_grown (hbel.alloc hBw _) hgrow2 (by simp; omega) hBw, He2.out⟩
      case measure => simp [intOf]; omega

theorem RNumber_any (p : Option Addr) (n c : Nat) (xs : List Int) (a : Int) (w : World) (hx : xs.length = n) (hb : Lib.BytesIn w p n xs) (hp : p = none → n = 0 ∧ c = 0) (hu : a ≤ 9223372036854775807) (h1 : n + 9 ≤ 140737488355328) :
    Calls Try.prog 42 #[.slice p n c, .int .i64 a] w (Made w.heap.size w (xs ++ num a.toNat)) :=
  RNumber_nat p n c xs a.toNat a w hx hb hp (by omega) (by omega) h1

end Go.Proofs.Ytnfpobbdcjfcoaa
