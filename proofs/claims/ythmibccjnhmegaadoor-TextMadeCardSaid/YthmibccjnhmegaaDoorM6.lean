/-
  Plain facts: how many stretches a text has, and that no stretch has a rune of the kind.
-/
import Derived.Test.YthmibccjnhmegaaDoorM4
namespace Go.Proofs.YthmibccjnhmegaaDoor
set_option linter.unusedVariables false
set_option linter.unusedSimpArgs false

def hits (s : ByteArray) (r : Int) (l : List (Nat × Nat)) : Nat := (l.filter fun x => decide ((x.2 : Int) = r)).length
theorem hits_snoc (s : ByteArray) (r : Int) (l : List (Nat × Nat)) (x : Nat × Nat) : hits s r (l ++ [x]) = hits s r l + if (x.2 : Int) = r then 1 else 0 := by
  unfold hits
  rw [List.filter_append, List.length_append]
  by_cases h : (x.2 : Int) = r <;> simp [h]
theorem hits_le (s : ByteArray) (r : Int) (l : List (Nat × Nat)) : hits s r l ≤ l.length := List.length_filter_le _ _

theorem parts_count (s : ByteArray) (r : Int) : ∀ f a p, (partsFrom s r f a p).length = 1 + hits s r (steps s f p)
  | 0, a, p => by simp [partsFrom, steps, hits]
  | f + 1, a, p => by
    by_cases h : p < s.size
    · rw [steps_cons s f p h]
      by_cases hr : ((Utf8.decode s p).1 : Int) = r
      · rw [partsFrom_hit s r f a p h hr, List.length_cons, parts_count s r f]
        unfold hits
        rw [List.filter_cons_of_pos (by simpa using hr), List.length_cons]
        omega
      · rw [partsFrom_miss s r f a p h hr, parts_count s r f]
        unfold hits
        rw [List.filter_cons_of_neg (by simpa using hr)]
    · rw [steps_end s _ p h, partsFrom_end s r _ a p h]; rfl

/-- Fewer bytes behind a rune that is whole: the same rune. -/
theorem decodeN_less (n m b0 b1 b2 b3 c1 c2 c3 : Nat) (hm : m ≤ n) (hw : (Lib.decodeN n b0 b1 b2 b3).2 ≤ m) (h1 : 1 < m → c1 = b1) (h2 : 2 < m → c2 = b2) (h3 : 3 < m → c3 = b3) :
    Lib.decodeN m b0 c1 c2 c3 = Lib.decodeN n b0 b1 b2 b3 := by
  have fin : ∀ x y : Nat × Nat, Lib.decodeN n b0 b1 b2 b3 = x → Lib.decodeN m b0 c1 c2 c3 = y → x.2 ≤ m → y = x := by
    intro x y hx hy hxm
    by_cases k1 : 1 < m
    · have e1 : (1 < n) = True := eq_true (by omega)
      have f1 : (1 < m) = True := eq_true k1
      obtain rfl := h1 k1
      by_cases k2 : 2 < m
      · have e2 : (2 < n) = True := eq_true (by omega)
        have f2 : (2 < m) = True := eq_true k2
        obtain rfl := h2 k2
        by_cases k3 : 3 < m
        · have e3 : (3 < n) = True := eq_true (by omega)
          have f3 : (3 < m) = True := eq_true k3
          obtain rfl := h3 k3
          unfold Lib.decodeN at hx hy
          simp only [e1, e2, e3] at hx
          simp only [f1, f2, f3] at hy
          exact hy.symm.trans hx
        · have f3 : (3 < m) = False := eq_false k3
          unfold Lib.decodeN at hx hy
          simp only [e1, e2, true_and] at hx
          simp only [f1, f2, f3, true_and, false_and, and_false, if_false] at hy
          repeat' split at hx
          all_goals subst hx
          all_goals first | (exfalso; simp only at hxm; omega) | skip
          all_goals repeat' split at hy
          all_goals first | (subst hy; rfl) | (exfalso; omega)
      · have f2 : (2 < m) = False := eq_false k2
        unfold Lib.decodeN at hx hy
        simp only [e1, true_and] at hx
        simp only [f1, f2, true_and, false_and, and_false, if_false] at hy
        repeat' split at hx
        all_goals subst hx
        all_goals first | (exfalso; simp only at hxm; omega) | skip
        all_goals repeat' split at hy
        all_goals first | (subst hy; rfl) | (exfalso; omega)
    · have f1 : (1 < m) = False := eq_false k1
      unfold Lib.decodeN at hx hy
      simp only [f1, false_and, and_false, if_false] at hy
      repeat' split at hx
      all_goals subst hx
      all_goals first | (exfalso; simp only at hxm; omega) | skip
      all_goals repeat' split at hy
      all_goals first | (subst hy; rfl) | (exfalso; omega)
  exact fin _ _ rfl rfl hw

theorem ext_get (s : ByteArray) (a p k : Nat) (hp : p ≤ s.size) (hk : a + k < p) : (s.extract a p).get! k = s.get! (a + k) := by
  rw [← Lib.getD_get!', ← Lib.getD_get!', extract_list]
  simp only [List.getD_eq_getElem?_getD]
  rw [List.getElem?_take, if_pos (by omega), List.getElem?_drop]

theorem ext_size (s : ByteArray) (a p : Nat) (hp : p ≤ s.size) : (s.extract a p).size = p - a := by
  rw [ByteArray.size_extract]; omega

theorem ext_decode (s : ByteArray) (a p q : Nat) (hp : p ≤ s.size) (ha : a ≤ q) (hq : q < p) (hw : q + (Utf8.decode s q).2 ≤ p) : Utf8.decode (s.extract a p) (q - a) = Utf8.decode s q := by
  rw [Lib.decode_at, Lib.decode_at] at *
  rw [ext_size s a p hp, ext_get s a p (q - a) hp (by omega), show a + (q - a) = q by omega]
  apply decodeN_less
  · omega
  · omega
  · intro h; rw [ext_get s a p _ hp (by omega), show a + (q - a + 1) = q + 1 by omega]
  · intro h; rw [ext_get s a p _ hp (by omega), show a + (q - a + 2) = q + 2 by omega]
  · intro h; rw [ext_get s a p _ hp (by omega), show a + (q - a + 3) = q + 3 by omega]

/-- Whole runes from one place to another, none of the kind. -/
inductive Free (s : ByteArray) (r : Int) (p : Nat) : Nat → Prop
  | here : Free s r p p
  | step {q : Nat} : q < p → ((Utf8.decode s q).1 : Int) ≠ r → Free s r p (q + (Utf8.decode s q).2) → Free s r p q

theorem Free.le {s : ByteArray} {r : Int} {p q : Nat} (h : Free s r p q) : q ≤ p := by
  cases h with
  | here => exact Nat.le_refl _
  | step h1 _ _ => omega

theorem Free.more {s : ByteArray} {r : Int} {p q : Nat} (h : Free s r p q) (hp : p < s.size) (hr : ((Utf8.decode s p).1 : Int) ≠ r) : Free s r (p + (Utf8.decode s p).2) q := by
  have hw := dec_pos s p hp
  induction h with
  | here => exact .step (by omega) hr .here
  | step h1 h2 _ ih => exact .step (by omega) h2 ih

theorem Free.steps {s : ByteArray} {r : Int} {p q : Nat} (h : Free s r p q) (hp : p ≤ s.size) (a : Nat) (ha : a ≤ q) : ∀ f, ∀ x ∈ steps (s.extract a p) f (q - a), (x.2 : Int) ≠ r := by
  induction h with
  | here =>
    intro f x hx
    rw [steps_end _ _ _ (by rw [ext_size s a p hp]; omega)] at hx
    cases hx
  | step h1 h2 h3 ih =>
    rename_i q
    intro f x hx
    have hle := h3.le
    cases f with
    | zero => simp [Go.Proofs.YthmibccjnhmegaaDoor.steps] at hx
    | succ f =>
      rw [steps_cons _ _ _ (by rw [ext_size s a p hp]; omega)] at hx
      have e := ext_decode s a p q hp ha h1 hle
      rw [e] at hx
      rcases List.mem_cons.1 hx with rfl | hx
      · exact h2
      · rw [show q - a + (Utf8.decode s q).2 = (q + (Utf8.decode s q).2) - a by omega] at hx
        exact ih (by omega) f x hx

theorem parts_free (s : ByteArray) (r : Int) : ∀ f a p, a ≤ p → p ≤ s.size → s.size ≤ p + f → Free s r p a → ∀ y ∈ partsFrom s r f a p, ∀ x ∈ steps y y.size 0, (x.2 : Int) ≠ r
  | 0, a, p, ha, hp, hf, hfr, y, hy, x, hx => by
    have e : p = s.size := by omega
    subst e
    simp only [partsFrom, List.mem_singleton] at hy
    subst hy
    have := hfr.steps hp a (Nat.le_refl _) (s.extract a s.size).size x
    rw [Nat.sub_self] at this
    exact this hx
  | f + 1, a, p, ha, hp, hf, hfr, y, hy, x, hx => by
    by_cases h : p < s.size
    · have hi := dec_in s p h
      have hw := dec_pos s p h
      by_cases hr : ((Utf8.decode s p).1 : Int) = r
      · rw [partsFrom_hit s r f a p h hr] at hy
        rcases List.mem_cons.1 hy with rfl | hy
        · have := hfr.steps hp a (Nat.le_refl _) (s.extract a p).size x
          rw [Nat.sub_self] at this
          exact this hx
        · exact parts_free s r f _ _ (Nat.le_refl _) hi (by omega) .here y hy x hx
      · rw [partsFrom_miss s r f a p h hr] at hy
        exact parts_free s r f a _ (by omega) hi (by omega) (hfr.more h hr) y hy x hx
    · have e : p = s.size := by omega
      subst e
      rw [partsFrom_end s r _ a _ h, List.mem_singleton] at hy
      subst hy
      have := hfr.steps hp a (Nat.le_refl _) (s.extract a s.size).size x
      rw [Nat.sub_self] at this
      exact this hx

theorem partsOf_free (s : ByteArray) (r : Int) (k : Nat) (h : k < (partsOf s r).length) : ∀ x ∈ steps ((partsOf s r).getD k ByteArray.empty) ((partsOf s r).getD k ByteArray.empty).size 0, (x.2 : Int) ≠ r := by
  rw [List.getD_eq_getElem?_getD, List.getElem?_eq_getElem h]
  exact parts_free s r s.size 0 0 (Nat.le_refl _) (Nat.zero_le _) (by omega) .here _ (List.getElem_mem h)

end Go.Proofs.YthmibccjnhmegaaDoor
