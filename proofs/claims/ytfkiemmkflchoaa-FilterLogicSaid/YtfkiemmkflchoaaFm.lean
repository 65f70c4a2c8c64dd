/-
  Filters, plainly: more levels, fewer parts ahead; what kids are.
-/
import Derived.Test.YtfkiemmkflchoaaF15
namespace Go.Proofs.Ytfkiemmkflchoaa
set_option linter.unusedVariables false
set_option linter.unusedSimpArgs false
open Go.RowKit

theorem ecs_cons {m : Nat} {k : Fl} {ks : List Fl} {b : Nat} (h : (ecs m (k :: ks) b).2 = 0) : (ec m k b).2 = 0 ∧ ecs m (k :: ks) b = ecs m ks (ec m k b).1 := by
  have e : ecs m (k :: ks) b = ks.foldl (fun a k => if a.2 = 0 then ec m k a.1 else a) (ec m k b) := rfl
  by_cases h0 : (ec m k b).2 = 0
  · refine ⟨h0, ?_⟩
    rw [e]; unfold ecs
    congr 1
    exact Prod.ext rfl h0
  · rw [e, fold_bad m ks _ h0] at h
    exact absurd h h0
theorem ecs_cons' {m : Nat} {k : Fl} {ks : List Fl} {b : Nat} (h0 : (ec m k b).2 = 0) : ecs m (k :: ks) b = ecs m ks (ec m k b).1 := by
  have e : ecs m (k :: ks) b = ks.foldl (fun a k => if a.2 = 0 then ec m k a.1 else a) (ec m k b) := rfl
  rw [e]; unfold ecs
  congr 1
  exact Prod.ext rfl h0
theorem ec_up {m : Nat} (f : Fl) (a : Nat) (h1 : a < 24) (h2 : mayF f.kind f.name f.text f.kids.length = true) : ec (m + 1) f a = ecs m f.kids (a + 1) := by
  rw [ec_succ, if_neg (by omega), if_neg (by rw [h2]; simp)]
theorem ec_mono : ∀ (m m' : Nat) (f : Fl) (a a' : Nat), m ≤ m' → a' ≤ a → (ec m f a).2 = 0 → (ec m' f a').2 = 0 ∧ (ec m' f a').1 + a = (ec m f a).1 + a'
  | 0, _, f, a, a', _, _, h => by simp [ec] at h
  | m + 1, 0, f, a, a', h1, _, _ => by omega
  | m + 1, m' + 1, f, a, a', h1, h2, h => by
    have hm := ok_may h
    obtain ⟨ha, he⟩ := ok_ecs h
    rw [he] at h ⊢
    rw [ec_up f a' (by omega) hm]
    have key : ∀ (ks : List Fl) (b b' : Nat), b' ≤ b → (ecs m ks b).2 = 0 → (ecs m' ks b').2 = 0 ∧ (ecs m' ks b').1 + b = (ecs m ks b).1 + b' := by
      intro ks
      induction ks with
      | nil => intro b b' hb hs; exact ⟨rfl, by simp [ecs]; omega⟩
      | cons k ks ih =>
        intro b b' hb hs
        obtain ⟨e1, e2⟩ := ecs_cons hs
        rw [e2] at hs ⊢
        have h3 := ec_mono m m' k b b' (by omega) hb e1
        rw [ecs_cons' h3.1]
        have h4 := ih (ec m k b).1 (ec m' k b').1 (by omega) hs
        exact ⟨h4.1, by omega⟩
    have := key f.kids (a + 1) (a' + 1) (by omega) h
    exact ⟨this.1, by omega⟩
theorem hold_mono (e : Kev) : ∀ (m m' : Nat) (f : Fl) (a : Nat), m ≤ m' → (ec m f a).2 = 0 → hold m' f e = hold m f e
  | 0, _, f, a, _, h => by simp [ec] at h
  | m + 1, 0, f, a, h1, _ => by omega
  | m + 1, m' + 1, f, a, h1, h => by
    have key : ∀ k ∈ f.kids, hold m' k e = hold m k e := fun k hk => by
      obtain ⟨b, hb⟩ := ok_kid h hk
      exact hold_mono e m m' k b (by omega) hb
    have k1 : f.kids.any (hold m' · e) = f.kids.any (hold m · e) := by
      rw [Bool.eq_iff_iff, List.any_eq_true, List.any_eq_true]
      constructor
      · rintro ⟨x, h1, h2⟩; exact ⟨x, h1, by rw [← key x h1]; exact h2⟩
      · rintro ⟨x, h1, h2⟩; exact ⟨x, h1, by rw [key x h1]; exact h2⟩
    have k2 : f.kids.all (hold m' · e) = f.kids.all (hold m · e) := by
      rw [Bool.eq_iff_iff, List.all_eq_true, List.all_eq_true]
      constructor
      · intro hh x h1; rw [← key x h1]; exact hh x h1
      · intro hh x h1; rw [key x h1]; exact hh x h1
    simp only [hold]
    rw [k1, k2]
/-- The kids of a filter that may be may be. -/
theorem kid_ok {f k : Fl} (h : ckF f = 0) (hk : k ∈ f.kids) : ckF k = 0 := by
  obtain ⟨a, ha⟩ := ok_kid (m := 5) (ah := 0) h hk
  exact (ec_mono 5 6 k a 0 (by omega) (Nat.zero_le _) ha).1
end Go.Proofs.Ytfkiemmkflchoaa
