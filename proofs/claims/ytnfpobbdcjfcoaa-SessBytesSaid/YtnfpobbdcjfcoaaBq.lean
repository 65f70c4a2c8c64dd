/-
  Plain facts: what a table is put as is read as it, whatever stands behind.
-/
import Derived.Test.YtnfpobbdcjfcoaaGq
namespace Go.Proofs.Ytnfpobbdcjfcoaa
set_option linter.unusedVariables false
set_option linter.unusedSimpArgs false

theorem ofBe_be (u : Nat) : ∀ k, ofBe (be u k) = u % 256 ^ k
  | 0 => by simp [be, ofBe, Nat.mod_one]
  | k + 1 => by
    rw [be, ofBe_cons, be_length, ofBe_be u k, be_at, Int.toNat_natCast, Nat.pow_succ, Nat.mod_mul]
    rw [Nat.mul_comm, Nat.add_comm]

theorem wide_le (u : Nat) (hu : u ≤ 9223372036854775807) : wide u ≤ 8 := by
  have hb := Lib.bitLen_le u 64 (by omega) (by omega)
  unfold wide; omega

/-- The first byte of a number's bytes. -/
theorem be_first (u : Nat) (h : 0 < wide u) : (be u (wide u)).getD 0 0 = ((u / 256 ^ (wide u - 1) % 256 : Nat) : Int) := by
  obtain ⟨k, hk⟩ : ∃ k, wide u = k + 1 := ⟨wide u - 1, by omega⟩
  rw [hk, be, List.getD_cons_zero, be_at, Nat.add_sub_cancel]

theorem first_pos (u : Nat) (hu : u ≤ 9223372036854775807) (h : 0 < wide u) : 0 < u / 256 ^ (wide u - 1) ∧ u / 256 ^ (wide u - 1) < 256 := by
  have hb := wide_bound u u (by omega) (by omega)
  have h1 := hb.2 (wide_pos u h)
  refine ⟨Nat.div_pos h1 (Nat.pow_pos (by omega)), ?_⟩
  rw [Nat.div_lt_iff_lt_mul (Nat.pow_pos (by omega))]
  have : 256 ^ wide u = 256 * 256 ^ (wide u - 1) := by
    rw [Nat.mul_comm, ← Nat.pow_succ]; congr 1; omega
  omega

theorem numAt_num (u : Nat) (r : List Int) (hu : u ≤ 9223372036854775807) : numAt (num u ++ r) = (u, 1 + wide u, 0) := by
  have hw := wide_le u hu
  unfold numAt
  have hl : (num u ++ r).length = 1 + wide u + r.length := by simp [num, be_length]; omega
  have h0 : (num u ++ r).getD 0 0 = (wide u : Int) := by simp [num]
  have hd : ((num u ++ r).drop 1).take (wide u) = be u (wide u) := by
    simp [num, be_length]
  rw [if_neg (by omega)]
  simp only [h0]
  rw [if_neg (by omega), if_neg (by omega)]
  have h1 : 0 < wide u → (num u ++ r).getD 1 0 = ((u / 256 ^ (wide u - 1) % 256 : Nat) : Int) := by
    intro h
    rw [← be_first u h]
    have hlen := be_length u (wide u)
    simp only [num, List.cons_append, List.getD_eq_getElem?_getD]
    show (be u (wide u) ++ r)[0]?.getD 0 = _
    rw [List.getElem?_append_left (by omega)]
  rw [if_neg (fun ⟨ha, hb⟩ => by
    have hp := first_pos u hu (by omega)
    rw [h1 (by omega)] at hb
    have := Nat.mod_eq_of_lt hp.2
    omega)]
  rw [if_neg (fun ⟨ha, hb⟩ => by
    have h8 : wide u = 8 := by omega
    rw [h1 (by omega), h8] at hb
    have : u / 256 ^ 7 ≤ 127 := by omega
    have h2 : u / 256 ^ (8 - 1) % 256 ≤ u / 256 ^ (8 - 1) := Nat.mod_le _ _
    omega)]
  rw [Int.toNat_natCast, hd, ofBe_be, Nat.mod_eq_of_lt (wide_bound u u (by omega) (by omega)).1]


theorem num_length (u : Nat) : (num u).length = 1 + wide u := by simp [num, be_length]; omega
theorem wn_put {xs rest : List Int} {i u : Nat} {lo hi : Int} (h : xs.drop i = num u ++ rest) (hu : u ≤ 9223372036854775807) (h1 : lo ≤ u) (h2 : (u : Int) ≤ hi) :
    wn xs lo hi (i, 0) = ((u : Int), i + (num u).length, 0) ∧ xs.drop (i + (num u).length) = rest := by
  refine ⟨?_, ?_⟩
  · rw [num_length]
    exact wn_of (by rw [h]; exact numAt_num u rest hu) h1 h2
  · rw [← List.drop_drop, h, List.drop_left]
theorem wn_putI {xs rest : List Int} {i : Nat} {u lo hi : Int} (h : xs.drop i = num u.toNat ++ rest) (h0 : 0 ≤ u) (hu : u ≤ 9223372036854775807) (h1 : lo ≤ u) (h2 : u ≤ hi) :
    wn xs lo hi (i, 0) = (u, i + (num u.toNat).length, 0) ∧ xs.drop (i + (num u.toNat).length) = rest := by
  have a := wn_put (lo := lo) (hi := hi) h (by omega) (by omega) (by omega)
  rw [Int.toNat_of_nonneg h0] at a
  exact a
theorem gRow_put {xs rest : List Int} {i : Nat} {lo hi : Int} {s : Se} (h : xs.drop i = sput s ++ rest) (h1 : lo ≤ s.id) (h2 : s.id ≤ hi) (hid : 0 ≤ s.id ∧ s.id ≤ top40) (hseq : 0 ≤ s.seq ∧ s.seq ≤ top40) (herr : 0 ≤ s.err ∧ s.err ≤ 1000) (hn : 0 ≤ s.n ∧ s.n ≤ top40) :
    gRow xs lo hi (i, 0) = (s, i + (sput s).length, 0) ∧ xs.drop (i + (sput s).length) = rest := by
  have ht : top40 = 1099511627776 := rfl
  simp only [sput, nums, List.map_cons, List.map_nil, List.flatten_cons, List.flatten_nil, List.append_nil, List.append_assoc] at h
  have a1 := wn_putI (lo := lo) (hi := hi) h hid.1 (by omega) h1 h2
  have a2 := wn_putI (lo := 0) (hi := top40) a1.2 hseq.1 (by omega) hseq.1 hseq.2
  have a3 := wn_putI (lo := 0) (hi := 1000) a2.2 herr.1 (by omega) herr.1 herr.2
  have a4 := wn_putI (lo := 0) (hi := top40) a3.2 hn.1 (by omega) hn.1 hn.2
  have hl : i + (sput s).length = i + (num s.id.toNat).length + (num s.seq.toNat).length + (num s.err.toNat).length + (num s.n.toNat).length := by
    simp only [sput, nums, List.map_cons, List.map_nil, List.flatten_cons, List.flatten_nil, List.append_nil, List.length_append]; omega
  refine ⟨?_, by rw [hl]; exact a4.2⟩
  unfold gRow
  rw [a1.1]
  simp only
  rw [a2.1]
  simp only
  rw [a3.1]
  simp only
  rw [a4.1, hl]

/-- What may be read again. -/
structure Tb.Put (t : Tb) : Prop where
  len : t.seats.length ≤ 8
  begun : 0 ≤ t.begun ∧ t.begun ≤ top40
  id : ∀ s ∈ t.seats, 1 ≤ s.id ∧ s.id ≤ t.begun
  seq : ∀ s ∈ t.seats, 0 ≤ s.seq ∧ s.seq ≤ top40
  err : ∀ s ∈ t.seats, 0 ≤ s.err ∧ s.err ≤ 1000
  n : ∀ s ∈ t.seats, 0 ≤ s.n ∧ s.n ≤ top40
  up : t.seats.Pairwise fun a b => a.id < b.id
theorem lid_take {l : List Se} {k : Nat} {s : Se} (hk : l[k]? = some s) (h1 : ∀ s ∈ l, 1 ≤ s.id) (hu : l.Pairwise fun a b => a.id < b.id) : lid (l.take k) + 1 ≤ s.id := by
  have hs := h1 s (List.mem_of_getElem? hk)
  unfold lid
  cases hl : (l.take k).getLast? with
  | none => simp only; omega
  | some x =>
    simp only
    have hkl : k < l.length := (List.getElem?_eq_some_iff.1 hk).1
    rw [List.getLast?_eq_getElem?, List.length_take, List.getElem?_take] at hl
    split at hl
    · rename_i h
      obtain ⟨hi, rfl⟩ := List.getElem?_eq_some_iff.1 hl
      obtain ⟨hj, rfl⟩ := List.getElem?_eq_some_iff.1 hk
      have := List.pairwise_iff_getElem.1 hu (min k l.length - 1) k hi hj (by omega)
      omega
    · cases hl
theorem gRows_put {xs rest : List Int} {i : Nat} {t : Tb} (hp : t.Put) (h : xs.drop i = tputs t.seats ++ rest) : ∀ k, k ≤ t.seats.length →
    gRows xs t.begun (i, 0) k = (t.seats.take k, i + (tputs (t.seats.take k)).length, 0) ∧ xs.drop (i + (tputs (t.seats.take k)).length) = tputs (t.seats.drop k) ++ rest
  | 0, _ => ⟨by simp [gRows, tputs], by simpa [tputs] using h⟩
  | k + 1, hk => by
    obtain ⟨a1, a2⟩ := gRows_put hp h k (by omega)
    obtain ⟨s, hs⟩ : ∃ s, t.seats[k]? = some s := ⟨t.seats[k], List.getElem?_eq_getElem (by omega)⟩
    have hm := List.mem_of_getElem? hs
    have hd : t.seats.drop k = s :: t.seats.drop (k + 1) := by
      obtain ⟨hj, rfl⟩ := List.getElem?_eq_some_iff.1 hs
      exact List.drop_eq_getElem_cons hj
    have ht : t.seats.take (k + 1) = t.seats.take k ++ [s] := by
      obtain ⟨hj, rfl⟩ := List.getElem?_eq_some_iff.1 hs
      exact List.take_succ_eq_append_getElem hj
    have hc : tputs (t.seats.drop k) = sput s ++ tputs (t.seats.drop (k + 1)) := by rw [hd]; simp [tputs]
    rw [hc, List.append_assoc] at a2
    have hidm := hp.id s hm
    have hbg := hp.begun
    have b := gRow_put (lo := lid (t.seats.take k) + 1) (hi := t.begun) a2 (lid_take hs (fun x hx => (hp.id x hx).1) hp.up) hidm.2 ⟨by omega, by omega⟩ (hp.seq s hm) (hp.err s hm) (hp.n s hm)
    have hl : tputs (t.seats.take (k + 1)) = tputs (t.seats.take k) ++ sput s := by rw [ht]; simp [tputs]
    refine ⟨?_, ?_⟩
    · show ((gRows xs t.begun (i, 0) k).1 ++ [(gRow xs (lid (gRows xs t.begun (i, 0) k).1 + 1) t.begun (gRows xs t.begun (i, 0) k).2).1], (gRow xs (lid (gRows xs t.begun (i, 0) k).1 + 1) t.begun (gRows xs t.begun (i, 0) k).2).2) = _
      rw [a1]
      simp only
      rw [b.1, hl, ht, List.length_append]
      simp only [Nat.add_assoc]
    · rw [hl, List.length_append, ← Nat.add_assoc]; exact b.2
/-- A table's bytes, and what stands behind: read, it is the table. -/
theorem gAll_put {t : Tb} (hp : t.Put) (rest : List Int) : gBg (tput t ++ rest) 0 0 = t.begun ∧ gAll (tput t ++ rest) 0 0 = (t.seats, (tput t).length, 0) := by
  have ht : top40 = 1099511627776 := rfl
  have hbg := hp.begun
  have hlen := hp.len
  have h0 : (tput t ++ rest).drop 0 = num t.begun.toNat ++ (num ((t.seats.length : Int)).toNat ++ (tputs t.seats ++ rest)) := by
    simp only [List.drop_zero, tput, nums, List.map_cons, List.map_nil, List.flatten_cons, List.flatten_nil, List.append_nil, List.append_assoc]
  have a1 := wn_putI (lo := 0) (hi := top40) h0 hbg.1 (by omega) hbg.1 hbg.2
  have a2 := wn_putI (lo := 0) (hi := 8) a1.2 (by omega) (by omega) (by omega) (by omega)
  have a3 := gRows_put hp a2.2 t.seats.length (Nat.le_refl _)
  have e1 : gBg (tput t ++ rest) 0 0 = t.begun := by unfold gBg; rw [a1.1]
  have e2 : wn (tput t ++ rest) 0 8 (wn (tput t ++ rest) 0 top40 (0, 0)).2 = ((t.seats.length : Int), 0 + (num t.begun.toNat).length + (num ((t.seats.length : Int)).toNat).length, 0) := by rw [a1.1]; exact a2.1
  refine ⟨e1, ?_⟩
  unfold gAll gP gCn
  rw [e1, e2]
  have a4 := a3.1
  simp only [Int.toNat_natCast, List.take_length] at a4 ⊢
  rw [a4]
  simp only [tput, nums, List.map_cons, List.map_nil, List.flatten_cons, List.flatten_nil, List.append_nil, List.length_append, Int.toNat_natCast, Nat.zero_add, Nat.add_assoc]
end Go.Proofs.Ytnfpobbdcjfcoaa
