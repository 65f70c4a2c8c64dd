/-
  Two majorities share a voter: plain facts; a list asked for one that both have.
-/
import Derived.Test.YticcmjiekopnbaaAllW
namespace Go.Proofs.Yticcmjiekopnbaa
set_option linter.unusedVariables false
set_option linter.unusedSimpArgs false
open Go.RowKit Go.Shelf

def sumN (f : Nat → Nat) : Nat → Nat
  | 0 => 0
  | n + 1 => sumN f n + f n
theorem sumN_le {f g : Nat → Nat} (h : ∀ k, f k ≤ g k) : ∀ n, sumN f n ≤ sumN g n
  | 0 => Nat.le_refl _
  | n + 1 => Nat.add_le_add (sumN_le h n) (h n)
theorem sumN_add (f g : Nat → Nat) : ∀ n, sumN (fun k => f k + g k) n = sumN f n + sumN g n
  | 0 => rfl
  | n + 1 => by simp only [sumN]; rw [sumN_add f g n]; omega
theorem sumN_eq {f g : Nat → Nat} (h : ∀ k, f k = g k) (n : Nat) : sumN f n = sumN g n := by
  have : f = g := funext h
  rw [this]
theorem sumN_one (x : Int) (q : Bool) : ∀ n : Nat, sumN (fun (k : Nat) => if (k : Int) = x ∧ q = true then 1 else 0) n = if (0 ≤ x ∧ x < n) ∧ q = true then 1 else 0
  | 0 => by
    have : ¬ ((0 ≤ x ∧ x < ((0 : Nat) : Int)) ∧ q = true) := by omega
    rw [if_neg this]; rfl
  | n + 1 => by
    simp only [sumN]
    rw [sumN_one x q n]
    cases q with
    | false => simp
    | true =>
      by_cases h1 : 0 ≤ x ∧ x < (n : Int)
      · have h2 : ¬ ((n : Int) = x) := by omega
        have h3 : 0 ≤ x ∧ x < ((n + 1 : Nat) : Int) := by omega
        simp [h1, h2]; omega
      · by_cases h2 : (n : Int) = x
        · have h3 : 0 ≤ x ∧ x < ((n + 1 : Nat) : Int) := by omega
          rw [if_neg (fun h => h1 h.1), if_pos ⟨h2, rfl⟩, if_pos ⟨h3, rfl⟩]
        · have h3 : ¬ (0 ≤ x ∧ x < ((n + 1 : Nat) : Int)) := by omega
          rw [if_neg (fun h => h1 h.1), if_neg (fun h => h2 h.1), if_neg (fun h => h3 h.1)]
def ind (L : List Int) (q : Int → Bool) (k : Nat) : Nat := if hasI L (k : Nat) = true ∧ q (k : Nat) = true then 1 else 0
theorem count_five (q : Int → Bool) : ∀ L : List Int, okAll L = true → L.countP q = sumN (ind L q) 5
  | [], _ => by
    have : ∀ k, ind [] q k = 0 := fun k => by simp [ind, hasI]
    rw [sumN_eq this]; rfl
  | x :: l, h => by
    obtain ⟨hn, hr⟩ := (okAll_iff _).1 h
    have hl : okAll l = true := (okAll_iff _).2 ⟨(List.nodup_cons.1 hn).2, fun y hy => hr y (List.mem_cons_of_mem _ hy)⟩
    have hx := (inR_iff x).1 (hr x (by simp))
    have hxl := (List.nodup_cons.1 hn).1
    have e : ∀ k, ind (x :: l) q k = ind l q k + (if ((k : Nat) : Int) = x ∧ q x = true then 1 else 0) := fun k => by
      unfold ind
      by_cases hk : ((k : Nat) : Int) = x
      · have h1 : hasI (x :: l) ((k : Nat) : Int) = true := (hasI_iff _ _).2 (by rw [hk]; simp)
        have h2 : ¬ hasI l ((k : Nat) : Int) = true := fun hh => hxl (by rw [← hk]; exact (hasI_iff _ _).1 hh)
        rw [hk] at h1 h2 ⊢
        by_cases hq : q x = true
        · rw [if_pos ⟨h1, hq⟩, if_neg (fun hh => h2 hh.1), if_pos ⟨rfl, hq⟩]
        · rw [if_neg (fun hh => hq hh.2), if_neg (fun hh => hq hh.2), if_neg (fun hh => hq hh.2)]
      · have h1 : hasI (x :: l) ((k : Nat) : Int) = true ↔ hasI l ((k : Nat) : Int) = true := by
          rw [hasI_iff, hasI_iff, List.mem_cons]
          exact ⟨fun hh => hh.resolve_left hk, .inr⟩
        have h3 : ¬ (((k : Nat) : Int) = x ∧ q x = true) := fun hh => hk hh.1
        rw [if_neg h3]
        by_cases hc : hasI l ((k : Nat) : Int) = true ∧ q ((k : Nat) : Int) = true
        · rw [if_pos hc, if_pos (show _ ∧ _ from ⟨h1.2 hc.1, hc.2⟩)]
        · have hc2 : ¬ (hasI (x :: l) ((k : Nat) : Int) = true ∧ q ((k : Nat) : Int) = true) := fun hh => hc ⟨h1.1 hh.1, hh.2⟩
          rw [if_neg hc, if_neg hc2]
    rw [sumN_eq e, sumN_add, ← count_five q l hl, sumN_one, List.countP_cons]
    by_cases hq : q x = true
    · rw [if_pos hq, if_pos ⟨⟨hx.1, by omega⟩, hq⟩]
    · rw [if_neg hq, if_neg (fun hh => hq hh.2)]
theorem pigeon (p q : Int → Bool) : ∀ L : List Int, L.countP p + L.countP q ≤ L.length + L.countP fun x => p x && q x
  | [] => by simp
  | x :: l => by
    have ih := pigeon p q l
    simp only [List.countP_cons, List.length_cons]
    cases p x <;> cases q x <;> simp <;> omega
def bothB (a b vs : List Int) : Bool := a.any fun n => hasI b n && hasI vs n
theorem both_of {a b vs : List Int} (h : vs.length < cntI a vs + cntI b vs) : bothB a b vs = true := by
  have := pigeon (fun v => hasI a v) (fun v => hasI b v) vs
  have hpos : 0 < vs.countP fun x => hasI a x && hasI b x := by unfold cntI at h; omega
  obtain ⟨x, hx, hp⟩ := List.countP_pos_iff.1 hpos
  rw [Bool.and_eq_true] at hp
  exact List.any_eq_true.2 ⟨x, (hasI_iff _ _).1 hp.1, by rw [hp.2, (hasI_iff _ _).2 hx]; rfl⟩
theorem maj_lt {vs a : List Int} (h : majB vs a = true) : vs.length < 2 * cntI a vs := by
  rw [majB_cnt] at h; exact of_decide_eq_true h
theorem overlap_same {vs a b : List Int} (ha : majB vs a = true) (hb : majB vs b = true) : bothB a b vs = true := by
  have := maj_lt ha; have := maj_lt hb
  exact both_of (by omega)
theorem ok_vs {vs ls : List Int} (h : okR vs ls = true) : okAll vs = true := by
  have h1 := (okAll_iff _).1 ((okR_iff _ _).1 h).1
  exact (okAll_iff _).2 ⟨(List.nodup_append.1 h1.1).2.1, fun x hx => h1.2 x (List.mem_append_right _ hx)⟩
theorem vd_sum (vs us : List Int) : ∀ n, vdN vs us n = sumN (fun (k : Nat) => if hasI vs (k : Nat) = hasI us (k : Nat) then 0 else 1) n
  | 0 => rfl
  | n + 1 => by simp only [vdN, sumN]; rw [vd_sum vs us n]
theorem key1 : ∀ p q r : Bool, 2 * (if q = true ∧ r = true then 1 else 0) + (if p = true ∧ true = true then 1 else 0) ≤ 2 * (if p = true ∧ r = true then 1 else 0) + (if q = true ∧ true = true then 1 else 0) + (if p = q then 0 else 1) := by decide
theorem overlap_next {vs ls us ms a b : List Int} (hm : mayE vs ls us ms = 0) (ha : majB vs a = true) (hb : majB us b = true) : bothB a b vs = true := by
  obtain ⟨h1, h2, _, h4⟩ := may_zero hm
  have hv := ok_vs h1
  have hu := ok_vs h2
  have hd : vdN vs us 5 ≤ 1 := by have := vdN_le vs ls us ms 5; omega
  rw [vd_sum] at hd
  have hA := maj_lt ha
  have hB := maj_lt hb
  apply both_of
  have c1 : vs.length = sumN (ind vs fun _ => true) 5 := by rw [← count_five _ _ hv]; simp
  have c2 : us.length = sumN (ind us fun _ => true) 5 := by rw [← count_five _ _ hu]; simp
  have c3 : cntI b vs = sumN (ind vs fun v => hasI b v) 5 := count_five _ _ hv
  have c4 : cntI b us = sumN (ind us fun v => hasI b v) 5 := count_five _ _ hu
  have key : sumN (fun k => 2 * ind us (fun v => hasI b v) k + ind vs (fun _ => true) k) 5 ≤ sumN (fun k => 2 * ind vs (fun v => hasI b v) k + ind us (fun _ => true) k + (if hasI vs (k : Nat) = hasI us (k : Nat) then 0 else 1)) 5 := by
    apply sumN_le
    intro k
    exact key1 _ _ _
  have two : ∀ f : Nat → Nat, sumN (fun k => 2 * f k) 5 = 2 * sumN f 5 := fun f => by simp only [sumN]; omega
  rw [sumN_add, sumN_add, sumN_add, two, two] at key
  omega

theorem Equal_any {w : World} {u v : Value} {xs ys : List Int} (h : intL.In w u xs) (h' : intL.In w v ys) : Calls Try.prog 21 #[u, v] w fun e w' => e = .returned (.bool (xs == ys)) ∧ Drawn w w' := by
  obtain ⟨a, c, rfl, _, m1⟩ := h.slice
  obtain ⟨a', c', rfl, _, m2⟩ := h'.slice
  by_cases hx : xs = []
  · subst hx
    refine (Try.slices_Equal_int_empty a a' c ys.length c' w (by omega)).mono fun e w' hh => ?_
    obtain ⟨he, hw⟩ := hh
    refine ⟨he.trans ?_, ?_⟩
    · congr 2
      cases ys <;> rfl
    · rw [hw]; exact Drawn.refl _
  · by_cases hy : ys = []
    · subst hy
      refine (Try.slices_Equal_int_lens a a' xs.length c 0 c' w (fun e => hx (List.eq_nil_of_length_eq_zero e))).mono fun e w' ⟨he, hw⟩ => ⟨he.trans ?_, ?_⟩
      · congr 2
        cases xs with
        | nil => exact absurd rfl hx
        | cons => rfl
      · rw [hw]; exact Drawn.refl _
    · obtain ⟨g, off, rfl, _, _, hc⟩ := intL_cells h hx
      obtain ⟨g', off', rfl, _, _, hc'⟩ := intL_cells h' hy
      refine (Try.slices_Equal_int g off xs.length c g' off' ys.length c' xs ys w (Nat.le_refl _) (Nat.le_refl _) (by omega) (by omega) hc hc').mono fun e w' ⟨he, hw⟩ => ⟨?_, hw⟩
      rw [he, List.take_length, List.take_length]
end Go.Proofs.Yticcmjiekopnbaa
