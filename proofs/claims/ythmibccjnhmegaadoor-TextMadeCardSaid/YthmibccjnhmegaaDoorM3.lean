/-
  Plain facts: a text's stretches between runes of one byte are its stretches between such bytes.
-/
import Derived.Test.YthmibccjnhmegaaDoorM1
import Derived.Lib.IndexMore
namespace Go.Proofs.YthmibccjnhmegaaDoor
set_option linter.unusedVariables false
set_option linter.unusedSimpArgs false

theorem toList_inj {a b : ByteArray} (h : a.data.toList = b.data.toList) : a = b := by
  cases a; cases b; simp at h; rw [h]
theorem extract_list (s : ByteArray) (a b : Nat) : (s.extract a b).data.toList = (s.data.toList.drop a).take (b - a) := by
  rw [Lib.extract_data]

/-- A list's stretches between bytes of a kind. -/
def splitL (c : UInt8) : List UInt8 → List (List UInt8)
  | [] => [[]]
  | b :: l => if b = c then [] :: splitL c l else ((b :: (splitL c l).headD []) :: (splitL c l).tail)

theorem splitL_ne (c : UInt8) : ∀ l, splitL c l ≠ []
  | [] => by simp [splitL]
  | b :: l => by unfold splitL; split <;> simp

def ontoHead (x : List UInt8) (l : List (List UInt8)) : List (List UInt8) := (x ++ l.headD []) :: l.tail
theorem ontoHead_nil (l : List (List UInt8)) (h : l ≠ []) : ontoHead [] l = l := by
  cases l with
  | nil => exact absurd rfl h
  | cons a l => rfl
theorem ontoHead_append (x y : List UInt8) (l : List (List UInt8)) : ontoHead (x ++ y) l = ontoHead x (ontoHead y l) := by simp [ontoHead]

theorem splitL_clean (c : UInt8) : ∀ x l, (∀ b ∈ x, b ≠ c) → splitL c (x ++ l) = ontoHead x (splitL c l)
  | [], l, _ => (ontoHead_nil _ (splitL_ne c l)).symm
  | b :: x, l, h => by
    rw [List.cons_append]
    show (if b = c then _ else _) = _
    rw [if_neg (h b (List.mem_cons_self ..)), splitL_clean c x l (fun y hy => h y (List.mem_cons_of_mem _ hy))]
    rfl
theorem splitL_hit (c : UInt8) (l : List UInt8) : splitL c (c :: l) = [] :: splitL c l := by
  show (if c = c then _ else _) = _
  rw [if_pos rfl]

/-- The bytes behind a rune's first one are none of ASCII's. -/
theorem dec_tail (s : ByteArray) (p k : Nat) (h1 : 1 ≤ k) (h2 : k < (Utf8.decode s p).2) : 128 ≤ (s.get! (p + k)).toNat := by
  simp only [Utf8.decode] at h2
  repeat' split at h2
  all_goals simp only [] at h2
  all_goals first | omega | skip
  all_goals
    rename_i hc _
    simp only [Bool.and_eq_true, decide_eq_true_eq, beq_iff_eq] at hc
  all_goals
    have : k = 1 ∨ k = 2 ∨ k = 3 := by omega
    rcases this with rfl | rfl | rfl <;> omega

theorem get_list (s : ByteArray) (p : Nat) (h : p < s.size) : s.data.toList[p]? = some (s.get! p) := by
  have := Lib.getD_get!' s p
  have hl : p < s.data.toList.length := by rw [← Lib.size_eq]; exact h
  rw [List.getElem?_eq_getElem hl, ← this, List.getD_eq_getElem?_getD, List.getElem?_eq_getElem hl]; rfl

theorem take_step (l : List UInt8) (a p q : Nat) (h1 : a ≤ p) (h2 : p ≤ q) : (l.drop a).take (q - a) = (l.drop a).take (p - a) ++ (l.drop p).take (q - p) := by
  have e : q - a = (p - a) + (q - p) := by omega
  rw [e, List.take_add, List.drop_drop]
  congr 3
  omega

theorem parts_split (s : ByteArray) (c : UInt8) (hc : c.toNat < 128) : ∀ f a p, a ≤ p → p ≤ s.size → s.size ≤ p + f →
    (partsFrom s c.toNat f a p).map (fun x => x.data.toList) = ontoHead ((s.data.toList.drop a).take (p - a)) (splitL c (s.data.toList.drop p))
  | 0, a, p, h1, h2, h3 => by
    have e : p = s.size := by omega
    subst e
    have e2 : s.data.toList.drop s.size = [] := by rw [Lib.size_eq]; simp
    rw [e2]
    simp [partsFrom, splitL, ontoHead]
  | f + 1, a, p, h1, h2, h3 => by
    by_cases h : p < s.size
    · have hw := dec_pos s p h
      have hi := dec_in s p h
      by_cases hr : ((Utf8.decode s p).1 : Int) = (c.toNat : Int)
      · have hr' : (Utf8.decode s p).1 = c.toNat := by omega
        obtain ⟨e1, e2⟩ := dec_ascii s p h (by omega)
        have hb : s[p]'h = c := by
          apply UInt8.toNat_inj.1
          rw [e1] at hr'; exact hr'
        rw [partsFrom_hit s _ f a p h hr]
        have hw1 : (Utf8.decode s p).2 = 1 := by rw [e1]
        rw [hw1, List.map_cons, parts_split s c hc f (p + 1) (p + 1) (Nat.le_refl _) (by omega) (by omega)]
        have hd : s.data.toList.drop p = c :: s.data.toList.drop (p + 1) := by
          have hl : p < s.data.toList.length := by rw [← Lib.size_eq]; exact h
          rw [List.drop_eq_getElem_cons hl]
          congr 1
        rw [hd, splitL_hit, extract_list]
        rw [Nat.sub_self, List.take_zero, ontoHead_nil _ (splitL_ne _ _)]
        simp [ontoHead]
      · rw [partsFrom_miss s _ f a p h hr, parts_split s c hc f a _ (by omega) hi (by omega)]
        rw [take_step s.data.toList a p _ h1 (by omega), ontoHead_append]
        congr 1
        have hclean : ∀ b ∈ (s.data.toList.drop p).take (p + (Utf8.decode s p).2 - p), b ≠ c := by
          intro b hb
          obtain ⟨k, hk⟩ := List.mem_iff_getElem?.1 hb
          rw [List.getElem?_take] at hk
          split at hk
          · rename_i hlt
            rw [List.getElem?_drop] at hk
            have hpk : p + k < s.size := by
              rcases Nat.lt_or_ge (p + k) s.size with h1 | h1
              · exact h1
              · rw [List.getElem?_eq_none (by rw [← Lib.size_eq]; exact h1)] at hk; cases hk
            rw [get_list s _ hpk] at hk
            obtain rfl := Option.some.inj hk
            intro e
            by_cases hk0 : k = 0
            · subst hk0
              have e' : s[p]'h = c := (get_at s p h).symm.trans e
              apply hr
              rw [decode_ascii s p h (by rw [e']; exact hc), e']
            · have := dec_tail s p k (by omega) (by omega)
              rw [e] at this; omega
          · cases hk
        have hd : s.data.toList.drop p = (s.data.toList.drop p).take (p + (Utf8.decode s p).2 - p) ++ s.data.toList.drop (p + (Utf8.decode s p).2) := by
          have := List.take_append_drop (p + (Utf8.decode s p).2 - p) (s.data.toList.drop p)
          rw [List.drop_drop] at this
          rw [show p + (p + (Utf8.decode s p).2 - p) = p + (Utf8.decode s p).2 by omega] at this
          exact this.symm
        rw [hd, splitL_clean c _ _ hclean, ← hd]
    · have e : p = s.size := by omega
      subst e
      rw [partsFrom_end s _ _ a _ h]
      have e2 : s.data.toList.drop s.size = [] := by rw [Lib.size_eq]; simp
      rw [e2]
      simp [splitL, ontoHead]

theorem partsOf_split (s : ByteArray) (c : UInt8) (hc : c.toNat < 128) : (partsOf s c.toNat).map (fun x => x.data.toList) = splitL c s.data.toList := by
  have := parts_split s c hc s.size 0 0 (Nat.le_refl _) (Nat.zero_le _) (by omega)
  unfold partsOf
  rw [this]
  simp only [List.drop_zero, Nat.sub_self, List.take_zero]
  exact ontoHead_nil _ (splitL_ne _ _)

theorem index_one (c : UInt8) : ∀ l, Lib.index l [c] = if c ∈ l then (((splitL c l).headD []).length : Int) else -1
  | [] => by simp [Lib.index]
  | b :: l => by
    unfold Lib.index
    by_cases h : b = c
    · subst h
      rw [splitL_hit]
      simp [List.isPrefixOf]
    · have hne : ([c].isPrefixOf (b :: l)) = false := by simp [List.isPrefixOf]; exact fun e => h e.symm
      rw [hne, index_one c l]
      have hs : splitL c (b :: l) = (b :: (splitL c l).headD []) :: (splitL c l).tail := by
        show (if b = c then _ else _) = _
        rw [if_neg h]
      rw [hs]
      by_cases hm : c ∈ l
      · simp [hm]
      · have h2 : ¬ c ∈ b :: l := by
          intro e
          rcases List.mem_cons.1 e with e | e
          · exact h e.symm
          · exact hm e
        simp [hm, h2]

theorem split_more (c : UInt8) : ∀ l, 1 < (splitL c l).length ↔ c ∈ l
  | [] => by simp [splitL]
  | b :: l => by
    by_cases h : b = c
    · subst h
      rw [splitL_hit]
      have := splitL_ne b l
      have h1 : 0 < (splitL b l).length := List.length_pos_iff.2 this
      simp; omega
    · have hs : splitL c (b :: l) = (b :: (splitL c l).headD []) :: (splitL c l).tail := by
        show (if b = c then _ else _) = _
        rw [if_neg h]
      rw [hs, List.length_cons, List.length_tail]
      have := split_more c l
      have h1 : 0 < (splitL c l).length := List.length_pos_iff.2 (splitL_ne c l)
      constructor
      · intro h2; exact List.mem_cons_of_mem _ (this.1 (by omega))
      · intro h2
        rcases List.mem_cons.1 h2 with h2 | h2
        · exact absurd h2.symm h
        · have := this.2 h2; omega

theorem head_take (c : UInt8) : ∀ l, ((splitL c l).headD []) = l.take ((splitL c l).headD []).length
  | [] => by simp [splitL]
  | b :: l => by
    by_cases h : b = c
    · subst h
      rw [splitL_hit]; rfl
    · have hs : splitL c (b :: l) = (b :: (splitL c l).headD []) :: (splitL c l).tail := by
        show (if b = c then _ else _) = _
        rw [if_neg h]
      rw [hs]
      have := head_take c l
      simp only [List.headD_cons, List.length_cons, List.take_succ_cons]
      rw [← this]

end Go.Proofs.YthmibccjnhmegaaDoor
