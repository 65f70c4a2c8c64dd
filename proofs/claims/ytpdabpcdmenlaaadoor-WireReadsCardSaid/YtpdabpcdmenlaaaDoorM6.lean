/-
  Plain facts: of a frame of which one byte is another one the sum is not the one that stands there.
-/
import Derived.Test.YtpdabpcdmenlaaaDoorM5
namespace Go.Proofs.YtpdabpcdmenlaaaDoor
set_option linter.unusedVariables false
set_option linter.unusedSimpArgs false

/-- The sum stands behind all but the last four of n bytes. -/
def okAt (n : Nat) (g : List Int) : Prop := sumOf (g.take (n - 4)) = le4 (g.drop (n - 4))

theorem ok_frame (p : List Int) : okAt (frame p).length (frame p) := by
  have hl : (frame p).length - 4 = (num p.length ++ p).length := by rw [frame_length, List.length_append, num_length]; omega
  unfold okAt
  rw [hl]
  unfold frame
  rw [List.take_left, List.drop_left]
  have := le4_sum4 (sumOf (num p.length ++ p)) (sumOf_lt _) []
  rw [List.append_nil] at this
  exact this.symm

theorem le4_of (a b c d : Int) : le4 [a, b, c, d] = a.toNat + b.toNat * 256 + c.toNat * 65536 + d.toNat * 16777216 := rfl

theorem turned_not_ok (f : List Int) (n i : Nat) (y : Int) (hf : f.length = n) (h4 : 4 ≤ n) (hr : ∀ x ∈ f, 0 ≤ x ∧ x < 256) (hi : i < n) (hy : 0 ≤ y ∧ y < 256) (hne : y ≠ f.getD i 0) (hok : okAt n f) : ¬ okAt n (f.set i y) := by
  intro h
  unfold okAt at h hok
  by_cases hc : i < n - 4
  · have hd : (f.set i y).drop (n - 4) = f.drop (n - 4) := by rw [List.drop_set]; rw [if_pos hc]
    have ht : (f.set i y).take (n - 4) = (f.take (n - 4)).set i y := by rw [List.take_set]
    rw [hd, ← hok, ht] at h
    have hlen : (f.take (n - 4)).length = n - 4 := by simp; omega
    have hx : f.getD i 0 = (f.take (n - 4)).getD i 0 := by
      simp only [List.getD_eq_getElem?_getD, List.getElem?_take, hc, if_true]
    have hrt : ∀ x ∈ f.take (n - 4), 0 ≤ x ∧ x < 256 := fun x hx => hr x (List.mem_of_mem_take hx)
    generalize f.take (n - 4) = t at *
    have hit : i < t.length := by omega
    have hx2 : t.getD i 0 = t[i] := by rw [List.getD_eq_getElem?_getD, List.getElem?_eq_getElem hit]; rfl
    have hs : t.set i y = t.take i ++ y :: t.drop (i + 1) := List.set_eq_take_append_cons_drop .. |>.trans (if_pos (by omega))
    have ho : t = t.take i ++ t[i] :: t.drop (i + 1) := by
      rw [List.getElem_cons_drop, List.take_append_drop]
    have hcr : crc (t.take i ++ y :: t.drop (i + 1)) = crc (t.take i ++ t[i] :: t.drop (i + 1)) := by
      rw [← hs, ← ho]
      have h1 := crc_lt t (fun x hx => (hrt x hx).2)
      have h2 : crc (t.set i y) < 4294967296 := crc_lt _ (fun x hx => by
        rcases List.mem_or_eq_of_mem_set hx with h | h
        · exact (hrt x h).2
        · rw [h]; exact hy.2)
      unfold sumOf at h
      omega
    have := crc_turned (t.take i) (t.drop (i + 1)) y t[i] (fun z hz => hrt z (List.mem_of_mem_take hz)) (fun z hz => hrt z (List.mem_of_mem_drop hz)) hy (hrt _ (List.getElem_mem _)) hcr
    exact hne (this.trans (hx2.symm.trans hx.symm))
  · have ht : (f.set i y).take (n - 4) = f.take (n - 4) := by rw [List.take_set_of_le (by omega)]
    have hd : (f.set i y).drop (n - 4) = (f.drop (n - 4)).set (i - (n - 4)) y := by rw [List.drop_set, if_neg hc]
    rw [ht, hd, hok] at h
    have hlen : (f.drop (n - 4)).length = 4 := by simp; omega
    have hx : f.getD i 0 = (f.drop (n - 4)).getD (i - (n - 4)) 0 := by
      simp only [List.getD_eq_getElem?_getD, List.getElem?_drop]
      congr 2; omega
    have hrt : ∀ x ∈ f.drop (n - 4), 0 ≤ x ∧ x < 256 := fun x hx => hr x (List.mem_of_mem_drop hx)
    rw [hx] at hne
    have hj : i - (n - 4) < 4 := by omega
    generalize i - (n - 4) = j at *
    generalize f.drop (n - 4) = t at *
    match t, hlen with
    | [a, b, c, d], _ =>
      have ha := hrt a (by simp)
      have hb := hrt b (by simp)
      have hc' := hrt c (by simp)
      have hd' := hrt d (by simp)
      match j, hj with
      | 0, _ => simp only [List.set_cons_zero, le4_of, List.getD_cons_zero] at h hne; omega
      | 1, _ => simp only [List.set_cons_succ, List.set_cons_zero, le4_of, List.getD_cons_zero, List.getD_cons_succ] at h hne; omega
      | 2, _ => simp only [List.set_cons_succ, List.set_cons_zero, le4_of, List.getD_cons_zero, List.getD_cons_succ] at h hne; omega
      | 3, _ => simp only [List.set_cons_succ, List.set_cons_zero, le4_of, List.getD_cons_zero, List.getD_cons_succ] at h hne; omega

theorem xor_ne_u8 (a b : Nat) (ha : a < 256) (hb : b < 256) : bits .xor .u8 (a : Int) (b : Int) = ((a ^^^ b : Nat) : Int) ∧ a ^^^ b < 256 ∧ (b ≠ 0 → a ^^^ b ≠ a) := by
  have hx : a ^^^ b < 2 ^ 8 := Nat.xor_lt_two_pow (by omega) (by omega)
  refine ⟨?_, hx, fun h e => h ?_⟩
  · have h1 : (BitVec.ofInt 8 (a : Int)).toNat = a := by
      rw [BitVec.ofInt_natCast, BitVec.toNat_ofNat]; exact Nat.mod_eq_of_lt (by omega)
    have h2 : (BitVec.ofInt 8 (b : Int)).toNat = b := by
      rw [BitVec.ofInt_natCast, BitVec.toNat_ofNat]; exact Nat.mod_eq_of_lt (by omega)
    show IntKind.u8.wrap ((BitVec.ofInt 8 (a : Int) ^^^ BitVec.ofInt 8 (b : Int)).toNat : Int) = _
    rw [BitVec.toNat_xor, h1, h2]
    simp only [IntKind.wrap, IntKind.bits, IntKind.signed, Bool.false_and]
    simp only [Bool.false_eq_true, if_false]
    omega
  · have := congrArg (a ^^^ ·) e
    simp only [← Nat.xor_assoc, Nat.xor_self, Nat.zero_xor] at this
    exact this

end Go.Proofs.YtpdabpcdmenlaaaDoor
