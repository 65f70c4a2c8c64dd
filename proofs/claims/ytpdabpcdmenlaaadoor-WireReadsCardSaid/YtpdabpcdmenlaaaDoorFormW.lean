/-
  The walk of WireForm.
-/
import Derived.Test.YtpdabpcdmenlaaaDoorAw
import Derived.Test.YtpdabpcdmenlaaaDoorR3
import Derived.Test.YtpdabpcdmenlaaaDoorRd4
import Derived.Test.YtpdabpcdmenlaaaDoorTurnedW
import Derived.Test.YtpdabpcdmenlaaaDoorM8
import Derived.Test.YtpdabpcdmenlaaaDoorNobodyW
namespace Go.Proofs.YtpdabpcdmenlaaaDoor
set_option linter.unusedVariables false
set_option linter.unusedSimpArgs false
open Go.RowKit

theorem RS.below {w w' : World} {rb g n cap : Nat} {xs : List Int} {i : Nat} {err : Int} (h : RS w rb g n cap xs i err) (hb : Below w.heap.size w w') : RS w' rb g n cap xs i err := by
  have hlt := World.block_lt_of_cell? w _ h.c0
  have hc : ∀ {o : Nat} {v : Value}, w.cell? ⟨rb, o, none⟩ = some v → w'.cell? ⟨rb, o, none⟩ = some v := fun {o} {v} hh => (hb.cell (p := ⟨rb, o, none⟩) hlt).trans hh
  exact ⟨hc h.c0, hc h.c1, hc h.c2, hc h.c3, (hb.frozen (p := ⟨rb, 1, none⟩) hlt).trans h.f1, (hb.frozen (p := ⟨rb, 2, none⟩) hlt).trans h.f2, later h.inn hb, h.len, h.ncap, h.ile, h.gne, h.rng, h.nb⟩

theorem in_take {w : World} {p : Option Addr} {n : Nat} {xs : List Int} (h : Lib.BytesIn w p n xs) (k : Nat) (hk : k ≤ n) : Lib.BytesIn w p k (xs.take k) := by
  intro hk0
  obtain ⟨b, o, hp, hc⟩ := h.at (by omega)
  refine ⟨b, o, hp, fun i hi => ?_⟩
  rw [hc i (by omega), List.getD_eq_getElem?_getD, List.getD_eq_getElem?_getD, List.getElem?_take, if_pos hi]

/-- Next, whatever there is. -/
def NextFull (xs : List Int) (w : World) (e : Ending) (w' : World) : Prop :=
  ((nextAt xs).2.2 ≠ 0 ∧ NoneE (nextAt xs).2.2 w e w') ∨
  (∃ N H, numAt xs = (N, H, 0) ∧ N ≤ 32768 ∧ 1 ≤ H ∧ H ≤ 9 ∧ H + N + 4 ≤ xs.length ∧ sumOf (xs.take (H + N)) = le4 (xs.drop (H + N)) ∧ nextAt xs = ((xs.drop H).take N, H + N + 4, 0) ∧ MadeN w.heap.size w ((xs.drop H).take N) (H + N + 4) e w')

theorem Next_full (p : Option Addr) (n c : Nat) (xs : List Int) (w : World) (hx : xs.length = n) (hb : Lib.BytesIn w p n xs) (hT : TabIn w) (hr : ∀ x ∈ xs, 0 ≤ x ∧ x < 256) (hnc : n ≤ c) (hn : n ≤ 140737488355328) :
    Calls Tryd.prog 46 #[.slice p n c] w (NextFull xs w) := by
  have hcn := number_any p n c xs w hx hb hnc hn hr
  have hok := numAt_ok xs hr
  have herr := numAt_err xs
  obtain ⟨N, H, E, ht⟩ : ∃ N H E, numAt xs = (N, H, E) := ⟨_, _, _, rfl⟩
  rw [ht] at hok herr
  simp only at hok herr
  by_cases hE : E = 0
  · subst hE
    obtain ⟨h1, h9, hl⟩ := hok rfl
    by_cases hN : 32768 < N
    · have hna : nextAt xs = ([], 0, 4) := by unfold nextAt; rw [ht]; simp [hN]
      exact (Next_early _ n c N H 0 4 xs w hcn ht hn h9 (.inr (.inl ⟨rfl, hN, rfl⟩))).mono fun e w' h => .inl ⟨by rw [hna]; simp, by rw [hna]; exact h⟩
    by_cases hs : n < H + N + 4
    · have hna : nextAt xs = ([], 0, 2) := by unfold nextAt; rw [ht]; simp only []; rw [if_neg (by simp), if_neg hN, if_pos (by omega)]
      exact (Next_early _ n c N H 0 2 xs w hcn ht hn h9 (.inr (.inr ⟨rfl, by omega, hs, rfl⟩))).mono fun e w' h => .inl ⟨by rw [hna]; simp, by rw [hna]; exact h⟩
    obtain ⟨b, o, rfl, hc⟩ := hb.at (by omega)
    refine (Next_late b o n c N H xs w hcn ht hn h1 h9 (by omega) (by omega) hx hc hT hr hnc _ rfl).mono fun e w' h => ?_
    unfold NextPost at h
    by_cases hbad : sumOf (xs.take (H + N)) ≠ le4 (xs.drop (H + N))
    · rw [decide_eq_true hbad, if_pos rfl] at h
      have hna : nextAt xs = ([], 0, 10) := by unfold nextAt; rw [ht]; simp only []; rw [if_neg (by simp), if_neg hN, if_neg (by omega), if_pos hbad]
      exact .inl ⟨by rw [hna]; simp, by rw [hna]; exact h⟩
    · rw [decide_eq_false hbad, if_neg (by simp)] at h
      refine .inr ⟨N, H, ht, by omega, h1, h9, by omega, Decidable.not_not.1 hbad, ?_, h⟩
      unfold nextAt; rw [ht]; simp only []; rw [if_neg (by simp), if_neg hN, if_neg (by omega), if_neg hbad]
  · have h9 : H ≤ 9 := by rcases herr with h | h; exact h; exact absurd h hE
    have hna : nextAt xs = ([], 0, E) := by unfold nextAt; rw [ht]; simp [hE]
    exact (Next_early _ n c N H E E xs w hcn ht hn h9 (.inl ⟨hE, rfl⟩)).mono fun e w' h => .inl ⟨by rw [hna]; exact hE, by rw [hna]; exact h⟩

set_option maxHeartbeats 800000 in
theorem Form_far (p : Option Addr) (n c : Nat) (w : World) (hT : TabIn w) (hn : 65536 < n) :
    Calls Tryd.prog 9 #[.slice p n c] w (Yes w) := by
  have HT := Lib.hid hT
  clear hT
  go_enter Tryd.func9, Tryd.ntmps9
  go_wp2_with fail
  go_fit (awake_any w HT.out)
  rintro e w1 ⟨rfl, hb1⟩
  go_wp2_with fail
  go_ret
  exact ⟨rfl, hb1⟩

/-- Number of a reader at its beginning. -/
theorem Number_first {w : World} {rb g n cap : Nat} {xs : List Int} (h : RS w rb g n cap xs 0 0) (N S : Nat) (E : Int) (ht : numAt xs = (N, S, E)) :
    Calls Tryd.prog 31 #[.pointer (some ⟨rb, 0, none⟩)] w (Out (.int .i64 ((if E = 0 then N else 0 : Nat) : Int)) w rb g n cap xs (if E = 0 then S else 0) E) := by
  have hc := Number_rs h
  rw [if_neg (by simp), List.drop_zero, ht] at hc
  unfold withinOf at hc
  by_cases hE : E = 0
  · subst hE
    have hmax := (numAt_size h N S (by rw [List.drop_zero]; exact ht)).2
    simp only [ne_eq, not_true_eq_false, if_false] at hc
    rw [if_neg (by omega)] at hc
    simpa using hc
  · rw [if_pos hE] at hc
    simpa [hE] using hc

set_option maxRecDepth 100000 in
set_option maxHeartbeats 1600000 in
theorem Form_near (p : Option Addr) (n c : Nat) (xs : List Int) (w : World) (hT : TabIn w) (hx : xs.length = n) (hb : Lib.BytesIn w p n xs) (hp : p = none → n = 0 ∧ c = 0) (hr : ∀ x ∈ xs, 0 ≤ x ∧ x < 256) (hnc : n ≤ c) (hn : n ≤ 65536) :
    Calls Tryd.prog 9 #[.slice p n c] w (Yes w) := by
  have HT := Lib.hid hT
  have Hx := Lib.hid hx
  have Hb := Lib.hid hb
  have Hr := Lib.hid hr
  have HF : Hid (∀ W : World, Below w.heap.size w W → Calls Tryd.prog 46 #[.slice p n c] W (NextFull xs W)) := fun W h => Next_full p n c xs W hx (later hb h) (hT.later h) hr hnc (by omega)
  obtain ⟨N, S, E, ht⟩ : ∃ N S E, numAt xs = (N, S, E) := ⟨_, _, _, rfl⟩
  have HN : Hid (∀ (W : World) (rb g cap : Nat), RS W rb g n cap xs 0 0 → Calls Tryd.prog 31 #[.pointer (some ⟨rb, 0, none⟩)] W (Out (.int .i64 ((if E = 0 then N else 0 : Nat) : Int)) W rb g n cap xs (if E = 0 then S else 0) E)) := fun W rb g cap h => Number_first h N S E ht
  by_cases hE : E = 0
  · subst hE
    have hok := numAt_ok xs hr (by rw [ht])
    have hback := numAt_back xs hr N S ht
    rw [ht] at hok
    simp only at hok
    obtain ⟨hS1, hS9, hSl⟩ := hok
    obtain ⟨hnum, hNmax⟩ := hback
    have hSn : S ≤ n := by omega
    have hmS : ((n - S : Nat) : Int) ≤ 65536 := by omega
    have hsub : (n : Int) - ((n - S : Nat) : Int) = (S : Int) := by omega
    simp only [if_true] at HN
    obtain ⟨pb, po, rfl, _⟩ := hb.at (by omega)
    have HL : Hid (∀ (W : World) (rb g cap : Nat), RS W rb g n cap xs S 0 → Calls Tryd.prog 41 #[.pointer (some ⟨rb, 0, none⟩)] W (fun e w' => e = .returned (.int .i64 ((n - S : Nat) : Int)) ∧ ∃ q, w' = W.drewN q)) := fun W rb g cap h => Left_rs h
    generalize n - S = m at *
    have Hnum := Lib.hid hnum
    clear hT hx hb hr hnum hSl
    go_enter Tryd.func9, Tryd.ntmps9
    go_wp2_with fail
    go_fit (Read_any (some ⟨pb, po, none⟩) n c xs w Hx.out Hb.out hp Hr.out (by omega))
    rintro e w1 ⟨rb, g, cap, rfl, hrs1, hb1, hrb⟩
    have Hrs1 := Lib.hid hrs1
    have Hb1 := Lib.hid hb1
    clear hrs1 hb1
    go_wp2_with fail
    go_fit (HN.out w1 rb g cap Hrs1.out)
    rintro e w2 ⟨rfl, hrs2, hg2⟩
    have Hb2 := Lib.hid (made_grown Hb1.out hg2 Hb1.out.size hrb)
    have Hrs2 := Lib.hid hrs2
    clear hrs2 hg2
    go_wp2_with fail
    go_fit (Err_rs Hrs2.out)
    rintro e w' ⟨rfl, rfl⟩
    go_wp2_with fail
    go_fit (Number_any none 0 0 [] N w2 rfl (Lib.BytesIn.nil _ _ _) (fun _ => ⟨rfl, rfl⟩) (by omega) (by omega))
    rintro e w3 ⟨g3, n3, c3, rfl, hown3, hb3⟩
    rw [List.nil_append, Int.toNat_natCast] at hown3
    have Hb3 := Lib.hid (Hb2.out.trans (hb3.mono Hb2.out.size))
    have Hrs3 := Lib.hid (Hrs2.out.below hb3)
    have hin3 := in_take (later Hb.out Hb3.out) S hSn
    rw [← Hnum.out] at hin3
    have Heq : Hid (∀ q, Calls Tryd.prog 18 #[.slice (some ⟨g3, 0, none⟩) n3 c3, .slice (some ⟨pb, po, none⟩) S c] (w3.drewN q) fun e w' => e = .returned (.bool true) ∧ w3.drewN q = w') := fun q =>
      Equal_same _ _ n3 c3 S c (num N) (w3.drewN q) (owns_len hown3) (by rw [Hnum.out, List.length_take, Hx.out]; omega) (owns_in hown3) hin3
    clear hown3 hb3 hin3
    go_wp2_with fail
    go_fit (HL.out w3 rb g cap Hrs3.out)
    rintro e w' ⟨rfl, q, rfl⟩
    have Hbq := Lib.hid (show Below w.heap.size w (w3.drewN q) from ⟨Hb3.out.os, Hb3.out.tape, Hb3.out.output, Hb3.out.size, Hb3.out.block⟩)
    go_wp2_with fail
    go_fit (Heq.out q)
    rintro e w' ⟨rfl, rfl⟩
    go_wp2_with fail
    go_fit (Err_rs (Hrs3.out.drewN q))
    rintro e w' ⟨rfl, rfl⟩
    go_wp2_with fail
    go_fit (HF.out (w3.drewN q) Hbq.out)
    rintro e w4 (⟨herr, rfl, q2, rfl⟩ | ⟨N2, H2, ht2, hN2, hH1, hH9, hlen2, hsum, hna, g4, n4, c4, rfl, hown4, hb4⟩)
    · generalize (nextAt xs).2.2 = ER at *
      have t1 : (ER == 0) = false := by simpa using herr
      have t2 : (ER != 0) = true := by simpa using herr
      have Hbz := Lib.hid (bdrew (q := q + q2) Hb3.out)
      go_wp2_with fail
      go_fit (awake_any _ (HT.out.later Hbz.out))
      rintro e w5 ⟨rfl, hb5⟩
      go_wp2_with fail
      go_ret
      exact ⟨rfl, Hbz.out.trans (hb5.mono Hbz.out.size)⟩
    · have hfb := nextAt_back xs Hr.out N2 H2 ht2 hlen2 hsum
      have hpl : ((xs.drop H2).take N2).length = N2 := by simp only [List.length_take, List.length_drop]; omega
      have hn4 : n4 = N2 := by rw [← owns_len hown4, hpl]
      have hrp : ∀ x ∈ (xs.drop H2).take N2, 0 ≤ x ∧ x < 256 := fun x hx => Hr.out x (List.mem_of_mem_drop (List.mem_of_mem_take hx))
      have hK : H2 + N2 + 4 ≤ n := by rw [← Hx.out]; exact hlen2
      generalize H2 + N2 + 4 = K at *
      have Hb4 := Lib.hid (Hbq.out.trans (hb4.mono Hbq.out.size))
      have Hf := Lib.hid (Frame_any (some ⟨g4, 0, none⟩) n4 c4 _ w4 (owns_len hown4) (owns_in hown4) (by intro h; cases h) (HT.out.later Hb4.out) hrp (by omega))
      rw [hfb] at Hf
      clear hown4 hb4 hna ht2 hsum hlen2 hpl hrp hfb hn4
      go_wp2_with fail
      go_fit Hf.out
      rintro e w5 ⟨g5, n5, c5, rfl, hown5, hb5⟩
      have Hb5 := Lib.hid (Hb4.out.trans (hb5.mono Hb4.out.size))
      have Heq5 := Lib.hid (Equal_same (some ⟨g5, 0, none⟩) (some ⟨pb, po, none⟩) n5 c5 K c (xs.take K) w5 (owns_len hown5) (by rw [List.length_take, Hx.out]; omega) (owns_in hown5) (in_take (later Hb.out Hb5.out) K hK))
      clear hown5 hb5
      go_wp2_with fail
      go_fit Heq5.out
      rintro e w' ⟨rfl, rfl⟩
      go_wp2_with fail
      go_fit (awake_any w5 (HT.out.later Hb5.out))
      rintro e w6 ⟨rfl, hb6⟩
      go_wp2_with fail
      go_ret
      exact ⟨rfl, Hb5.out.trans (hb6.mono Hb5.out.size)⟩
  · have t1 : (E == 0) = false := by simpa using hE
    have t2 : (E != 0) = true := by simpa using hE
    simp only [hE, if_false] at HN
    have HL : Hid (∀ (W : World) (rb g cap : Nat), RS W rb g n cap xs 0 E → Calls Tryd.prog 41 #[.pointer (some ⟨rb, 0, none⟩)] W (fun e w' => e = .returned (.int .i64 (n : Int)) ∧ ∃ q, w' = W.drewN q)) := fun W rb g cap h => by
      have := Left_rs h
      rw [Nat.sub_zero] at this; exact this
    have hnx : ∀ e w', NextFull xs w e w' → nextAt xs = ([], 0, E) := fun _ _ _ => by unfold nextAt; rw [ht]; simp [hE]
    have hna : nextAt xs = ([], 0, E) := by unfold nextAt; rw [ht]; simp [hE]
    clear hT hx hb hr hnx
    go_enter Tryd.func9, Tryd.ntmps9
    go_wp2_with fail
    go_fit (Read_any p n c xs w Hx.out Hb.out hp Hr.out (by omega))
    rintro e w1 ⟨rb, g, cap, rfl, hrs1, hb1, hrb⟩
    have Hrs1 := Lib.hid hrs1
    have Hb1 := Lib.hid hb1
    clear hrs1 hb1
    go_wp2_with fail
    go_fit (HN.out w1 rb g cap Hrs1.out)
    rintro e w2 ⟨rfl, hrs2, hg2⟩
    have Hb2 := Lib.hid (made_grown Hb1.out hg2 Hb1.out.size hrb)
    have Hrs2 := Lib.hid hrs2
    clear hrs2 hg2
    go_wp2_with fail
    go_fit (Err_rs Hrs2.out)
    rintro e w' ⟨rfl, rfl⟩
    go_wp2_with fail
    go_fit (Err_rs Hrs2.out)
    rintro e w' ⟨rfl, rfl⟩
    go_wp2_with fail
    go_fit (HL.out w2 rb g cap Hrs2.out)
    rintro e w' ⟨rfl, q, rfl⟩
    have Hbq := Lib.hid (bdrew (q := q) Hb2.out)
    go_wp2_with fail
    go_fit (HF.out (w2.drewN q) Hbq.out)
    rintro e w4 (⟨herr, rfl, q2, rfl⟩ | ⟨N2, H2, ht2, hN2, hH1, hH9, hlen2, hsum, hna2, g4, n4, c4, rfl, hown4, hb4⟩)
    · rw [hna]
      have Hbz := Lib.hid (bdrew (q := q + q2) Hb2.out)
      clear hna herr
      go_wp2_with fail
      go_fit (awake_any _ (HT.out.later Hbz.out))
      rintro e w5 ⟨rfl, hb5⟩
      go_wp2_with fail
      go_ret
      exact ⟨rfl, Hbz.out.trans (hb5.mono Hbz.out.size)⟩
    · exfalso
      rw [hna2] at hna
      simp only [Prod.mk.injEq] at hna
      exact hE hna.2.2.symm

end Go.Proofs.YtpdabpcdmenlaaaDoor
