/-
  Plain facts: a number's digits are read as it, and what is read has just these digits.
-/
import Derived.Test.YthmibccjnhmegaaDoorB11
import Derived.Lib.ItoaNum
namespace Go.Proofs.YthmibccjnhmegaaDoor
set_option linter.unusedVariables false
set_option linter.unusedSimpArgs false

def valL (l : List UInt8) : Nat := l.foldl (fun n b => n * 10 + (b.toNat - 48)) 0
theorem valL_snoc (l : List UInt8) (b : UInt8) : valL (l ++ [b]) = valL l * 10 + (b.toNat - 48) := by simp [valL, List.foldl_append]
theorem valN_list (s : ByteArray) : ∀ k, k ≤ s.size → valN s k = valL (s.data.toList.take k)
  | 0, _ => by simp [valN, valL]
  | k + 1, h => by
    have hl : k < s.data.toList.length := by rw [← Lib.size_eq]; omega
    rw [List.take_succ_eq_append_getElem hl, valL_snoc, ← valN_list s k (by omega)]
    have := get_list s k (by omega)
    rw [List.getElem?_eq_getElem hl] at this
    rw [Option.some.inj this]; rfl
theorem valB_list (s : ByteArray) : valB s = valL s.data.toList := by
  unfold valB
  rw [valN_list s _ (Nat.le_refl _), List.take_of_length_le (by rw [← Lib.size_eq]; exact Nat.le_refl _)]

def digL (l : List UInt8) : Prop := ∀ b ∈ l, 48 ≤ b.toNat ∧ b.toNat ≤ 57
theorem allDig_list (s : ByteArray) : allDig s = true ↔ digL s.data.toList := by
  rw [allDig_iff]
  unfold digL
  constructor
  · intro h b hb
    obtain ⟨k, hk⟩ := List.mem_iff_getElem?.1 hb
    have hks : k < s.size := by
      rcases Nat.lt_or_ge k s.size with h1 | h1
      · exact h1
      · rw [List.getElem?_eq_none (by rw [← Lib.size_eq]; exact h1)] at hk; cases hk
    rw [get_list s k hks] at hk
    have := h k hks
    unfold isDigit byteAt at this
    rw [Option.some.inj hk] at this
    simpa using this
  · intro h i hi
    have := h (s.get! i) (List.mem_iff_getElem?.2 ⟨i, get_list s i hi⟩)
    unfold isDigit byteAt
    simpa using this

theorem digit_of (u : Nat) (h : u < 10) : (UInt8.ofNat (48 + u)).toNat = 48 + u := by
  rw [UInt8.toNat_ofNat']; omega

theorem dec_facts : ∀ k u, u < 10 ^ (k + 1) → digL (Lib.decDigits u) ∧ valL (Lib.decDigits u) = u ∧ 1 ≤ (Lib.decDigits u).length ∧ (Lib.decDigits u).length ≤ k + 1 ∧ (0 < u → ∃ b l, Lib.decDigits u = b :: l ∧ b.toNat ≠ 48)
  | 0, u, h => by
    have hu : u < 10 := by simpa using h
    rw [Lib.decDigits, dif_pos hu]
    have hd := digit_of u hu
    refine ⟨?_, ?_, by simp, by simp, fun h0 => ⟨_, _, rfl, by omega⟩⟩
    · intro b hb
      rw [List.mem_singleton] at hb
      subst hb; omega
    · simp [valL]; omega
  | k + 1, u, h => by
    by_cases hu : u < 10
    · rw [Lib.decDigits, dif_pos hu]
      have hd := digit_of u hu
      refine ⟨?_, ?_, by simp, by simp, fun h0 => ⟨_, _, rfl, by omega⟩⟩
      · intro b hb
        rw [List.mem_singleton] at hb
        subst hb; omega
      · simp [valL]; omega
    · rw [Lib.decDigits, dif_neg hu]
      have hq : u / 10 < 10 ^ (k + 1) := by
        rw [Nat.pow_succ] at h; omega
      obtain ⟨a, b, c, d, e⟩ := dec_facts k (u / 10) hq
      have hd := digit_of (u % 10) (by omega)
      refine ⟨?_, ?_, by simp, by simp; omega, fun _ => ?_⟩
      · intro x hx
        rcases List.mem_append.1 hx with hx | hx
        · exact a x hx
        · rw [List.mem_singleton] at hx
          subst hx; omega
      · rw [valL_snoc, b, hd]; omega
      · obtain ⟨x, l, h1, h2⟩ := e (by omega)
        rw [h1]
        exact ⟨x, l ++ [_], rfl, h2⟩

theorem rev_ind {α : Type} {P : List α → Prop} (h0 : P []) (h1 : ∀ l a, P l → P (l ++ [a])) (l : List α) : P l := by
  rw [← List.reverse_reverse l]
  induction l.reverse with
  | nil => exact h0
  | cons a l ih => rw [List.reverse_cons]; exact h1 _ _ ih

theorem val_pos : ∀ (r : List UInt8) (b : UInt8), 48 ≤ b.toNat → b.toNat ≠ 48 → 1 ≤ valL (b :: r) := by
  refine rev_ind ?_ ?_
  · intro b h1 h2; simp [valL]; omega
  · intro r x ih b h1 h2
    rw [← List.cons_append, valL_snoc]
    have := ih b h1 h2
    omega

theorem dec_back : ∀ (r : List UInt8) (b : UInt8), digL (b :: r) → b.toNat ≠ 48 → Lib.decDigits (valL (b :: r)) = b :: r := by
  refine rev_ind ?_ ?_
  · intro b hd h0
    have := hd b (List.mem_cons_self ..)
    have e : valL [b] = b.toNat - 48 := by simp [valL]
    rw [e, Lib.decDigits, dif_pos (by omega)]
    congr 1
    apply UInt8.toNat_inj.1
    rw [digit_of _ (by omega)]; omega
  · intro r x ih b hd h0
    have hb := hd b (List.mem_cons_self ..)
    have hx := hd x (by simp)
    have hd' : digL (b :: r) := fun y hy => hd y (by
      rcases List.mem_cons.1 hy with h | h
      · rw [h]; exact List.mem_cons_self ..
      · exact List.mem_cons_of_mem _ (List.mem_append.2 (.inl h)))
    rw [← List.cons_append, valL_snoc]
    have h1 := val_pos r b hb.1 h0
    rw [Lib.decDigits, dif_neg (by omega)]
    rw [show (valL (b :: r) * 10 + (x.toNat - 48)) / 10 = valL (b :: r) by omega, ih b hd' h0]
    congr 2
    apply UInt8.toNat_inj.1
    rw [digit_of _ (by omega)]; omega

theorem lead0_list (s : ByteArray) : lead0 s = true ↔ ∃ l, s.data.toList = 48 :: l ∧ l ≠ [] := by
  unfold lead0 byteAt
  rw [Bool.and_eq_true, decide_eq_true_eq, decide_eq_true_eq]
  constructor
  · rintro ⟨h1, h2⟩
    have hb := bytes_head s (by omega)
    have h48 : s.get! 0 = 48 := UInt8.toNat_inj.1 h2
    rw [h48] at hb
    refine ⟨_, hb, ?_⟩
    intro e
    have := congrArg List.length e
    rw [List.length_drop, ← Lib.size_eq] at this
    simp only [List.length_nil] at this
    omega
  · rintro ⟨l, h1, h2⟩
    have hs : s.size = l.length + 1 := by rw [Lib.size_eq, h1]; rfl
    have hl : 0 < l.length := List.length_pos_iff.2 h2
    refine ⟨by omega, ?_⟩
    have := get_list s 0 (by omega)
    rw [h1] at this
    simp at this
    rw [← this]; rfl

theorem lt10 (u : Nat) (hu : u ≤ 9223372036854775808) : u < 10 ^ (18 + 1) := by
  have : (10 : Nat) ^ (18 + 1) = 10000000000000000000 := by decide
  omega

/-- A number without a sign: its digits are read as it. -/
theorem dig_dec (d : ByteArray) (u : Nat) (hu : u ≤ 9223372036854775808) (h : d.data.toList = Lib.decDigits u) : digB d = true ∧ valB d = u := by
  obtain ⟨a, b, c, e, f⟩ := dec_facts 18 u (lt10 u hu)
  rw [valB_list, h]
  refine ⟨?_, b⟩
  have hz : d.size = (Lib.decDigits u).length := by rw [Lib.size_eq, h]
  have hl : lead0 d = false := by
    cases hl : lead0 d with
    | false => rfl
    | true =>
      obtain ⟨l, h1, h2⟩ := (lead0_list d).1 hl
      rw [h] at h1
      rcases Nat.eq_zero_or_pos u with h0 | h0
      · subst h0
        have : Lib.decDigits 0 = [48] := by rw [Lib.decDigits, dif_pos (by decide)]; rfl
        rw [this] at h1
        simp at h1
        exact absurd h1 h2
      · obtain ⟨x, l', g1, g2⟩ := f h0
        rw [g1] at h1
        simp only [List.cons.injEq] at h1
        rw [h1.1] at g2
        exact absurd rfl g2
  rw [digB_of d (by omega) (by omega) hl]
  rw [allDig_list, h]; exact a

theorem dec_zero (u : Nat) (h : Lib.decDigits u = [48]) : u = 0 := by
  rcases Nat.eq_zero_or_pos u with h0 | h0
  · exact h0
  · exfalso
    by_cases hu : u < 10
    · rw [Lib.decDigits, dif_pos hu] at h
      have := congrArg (fun l => (l.headD 0).toNat) h
      simp only [List.headD_cons] at this
      rw [digit_of u hu] at this
      have e : (48 : UInt8).toNat = 48 := rfl
      omega
    · rw [Lib.decDigits, dif_neg hu] at h
      have := congrArg List.length h
      have hp : 1 ≤ (Lib.decDigits (u / 10)).length := by
        rw [Lib.decDigits]; split <;> simp
      rw [List.length_append] at this
      simp only [List.length_singleton] at this
      omega

theorem told_there (n : Int) (h0 : -9223372036854775808 ≤ n) (h1 : n ≤ 9223372036854775807) : numV ⟨(Lib.itoa n).toArray⟩ = n ∧ numE ⟨(Lib.itoa n).toArray⟩ = 0 := by
  generalize ht : (⟨(Lib.itoa n).toArray⟩ : ByteArray) = t
  have hl : t.data.toList = Lib.itoa n := by rw [← ht]
  unfold Lib.itoa at hl
  by_cases hn : n < 0
  · rw [if_pos hn] at hl
    have hz : 0 < t.size := by rw [Lib.size_eq, hl]; simp
    have hb := bytes_head t hz
    rw [hl] at hb
    simp only [List.cons.injEq] at hb
    have hm : minusB t = true := by
      unfold minusB byteAt; rw [decide_eq_true hz, ← hb.1]; rfl
    have hd : (bodyB t).data.toList = Lib.decDigits n.natAbs := by
      unfold bodyB
      rw [if_pos hm, extract_list, List.take_of_length_le (by rw [List.length_drop, ← Lib.size_eq]; exact Nat.le_refl _), hl]
      rfl
    obtain ⟨g1, g2⟩ := dig_dec (bodyB t) n.natAbs (by omega) hd
    have hzb : zeroB (bodyB t) = false := by
      unfold zeroB
      rw [decide_eq_false_iff_not]
      intro e
      rw [e] at hd
      have := dec_zero _ hd.symm
      omega
    have hbad : badNum t = false := by unfold badNum; rw [g1, hzb]; simp
    have hbig : tooBig t = false := by unfold tooBig; rw [hm, g2]; simp; omega
    obtain ⟨r1, r2⟩ := num_neg t hbad hbig hm
    rw [r1, r2, g2]
    exact ⟨by omega, rfl⟩
  · rw [if_neg hn] at hl
    have hh := dec_facts 18 n.toNat (lt10 _ (by omega))
    have a := hh.1
    have c := hh.2.2.1
    clear hh
    have hz : 0 < t.size := by rw [Lib.size_eq, hl]; omega
    have hm : minusB t = false := by
      unfold minusB byteAt
      rw [decide_eq_true hz, Bool.true_and, decide_eq_false_iff_not]
      have := a (t.get! 0) (by rw [← hl]; exact List.mem_iff_getElem?.2 ⟨0, get_list t 0 hz⟩)
      omega
    have hd : (bodyB t).data.toList = Lib.decDigits n.toNat := by
      unfold bodyB; rw [if_neg (by rw [hm]; decide)]; exact hl
    obtain ⟨g1, g2⟩ := dig_dec (bodyB t) n.toNat (by omega) hd
    have hbad : badNum t = false := by unfold badNum; rw [g1, hm]; rfl
    have hbig : tooBig t = false := by unfold tooBig; rw [hm, g2]; simp; omega
    obtain ⟨r1, r2⟩ := num_pos t hbad hbig hm
    rw [r1, r2, g2]
    exact ⟨by omega, rfl⟩

theorem dig_back (d : ByteArray) (h : digB d = true) : Lib.decDigits (valB d) = d.data.toList ∧ (zeroB d = false → 1 ≤ valB d) := by
  obtain ⟨h1, h2, h3, h4⟩ := dig_parts d h
  have hd := (allDig_list d).1 h4
  rw [valB_list]
  have hb := bytes_head d (by omega)
  rw [hb] at hd
  by_cases h48 : (d.get! 0).toNat = 48
  · have h48' : d.get! 0 = 48 := UInt8.toNat_inj.1 h48
    have hnil : d.data.toList.drop 1 = [] := by
      cases hn : d.data.toList.drop 1 with
      | nil => rfl
      | cons a l =>
        exfalso
        have : lead0 d = true := (lead0_list d).2 ⟨_, by rw [hb, h48'], by rw [hn]; simp⟩
        rw [h3] at this; cases this
    rw [hb, h48', hnil]
    refine ⟨by rw [show valL [48] = 0 from rfl, Lib.decDigits, dif_pos (by decide)]; rfl, fun hz => ?_⟩
    exfalso
    unfold zeroB at hz
    rw [decide_eq_false_iff_not] at hz
    apply hz
    apply toList_inj
    rw [hb, h48', hnil]
  · rw [hb]
    exact ⟨dec_back _ _ hd h48, fun _ => val_pos _ _ (hd _ (List.mem_cons_self ..)).1 h48⟩

theorem told_back (s : ByteArray) (h : numE s = 0) : (⟨(Lib.itoa (numV s)).toArray⟩ : ByteArray) = s := by
  have hbad : badNum s = false := by
    cases hb : badNum s with
    | false => rfl
    | true => rw [(num_bad s hb).2] at h; cases h
  have hbig : tooBig s = false := by
    cases hb : tooBig s with
    | false => rfl
    | true => rw [(num_big s hbad hb).2] at h; cases h
  have hdig : digB (bodyB s) = true := by
    cases hd : digB (bodyB s) with
    | true => rfl
    | false => unfold badNum at hbad; rw [hd] at hbad; simp at hbad
  obtain ⟨g1, g2⟩ := dig_back (bodyB s) hdig
  apply toList_inj
  show Lib.itoa (numV s) = s.data.toList
  unfold Lib.itoa
  cases hm : minusB s with
  | true =>
    rw [(num_neg s hbad hbig hm).1]
    have hz : zeroB (bodyB s) = false := by
      cases hz : zeroB (bodyB s) with
      | false => rfl
      | true => unfold badNum at hbad; rw [hdig, hm, hz] at hbad; simp at hbad
    have := g2 hz
    rw [if_pos (by omega), show (-(valB (bodyB s) : Int)).natAbs = valB (bodyB s) by omega, g1]
    unfold bodyB
    rw [if_pos hm, extract_list, List.take_of_length_le (by rw [List.length_drop, ← Lib.size_eq]; exact Nat.le_refl _)]
    unfold minusB byteAt at hm
    simp only [Bool.and_eq_true, decide_eq_true_eq] at hm
    have h45 : s.get! 0 = 45 := UInt8.toNat_inj.1 hm.2
    rw [← h45]
    exact (bytes_head s hm.1).symm
  | false =>
    rw [(num_pos s hbad hbig hm).1, if_neg (by omega), Int.toNat_natCast, g1]
    unfold bodyB
    rw [if_neg (by rw [hm]; decide)]

theorem told_none (s : ByteArray) (h : numE s ≠ 0) : numV s = 0 := by
  cases hb : badNum s with
  | true => exact (num_bad s hb).1
  | false =>
    cases hb2 : tooBig s with
    | true => exact (num_big s hb hb2).1
    | false =>
      cases hm : minusB s with
      | true => exact absurd (num_neg s hb hb2 hm).2 h
      | false => exact absurd (num_pos s hb hb2 hm).2 h

theorem itoa_size (n : Int) (h0 : -9223372036854775808 ≤ n) (h1 : n ≤ 9223372036854775807) : (⟨(Lib.itoa n).toArray⟩ : ByteArray).size ≤ 20 := by
  rw [Lib.size_eq]
  show (Lib.itoa n).length ≤ 20
  unfold Lib.itoa
  have hp : (10 : Nat) ^ (18 + 1) = 10000000000000000000 := by decide
  split
  · have := (dec_facts 18 n.natAbs (by omega)).2.2.2.1
    simp only [List.length_cons]; omega
  · have := (dec_facts 18 n.toNat (by omega)).2.2.2.1
    omega

end Go.Proofs.YthmibccjnhmegaaDoor
