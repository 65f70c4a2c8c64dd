/-
  QM1 QM3 QM4 QB1 QOw QB2 QB3 QM2 QB4 QB5 QOw2 QB6 QB7 QB8 in one text.
-/
import Derived.Lib.RuneCountTail
import Derived.Laws.RangeAny
import Derived.Lib.IndexMore
import Derived.Test.YtdgnjalbpiciiaaRows
import Derived.WalkKit
import Derived.WalkSpells
import Derived.WalkLawsBesides
import Derived.Laws.AppendOwnNone
import Derived.Lib.Hide
import Derived.Deep.DeepFit
import Derived.Lib.OthersKept
import Derived.WalkSmall
import Derived.Handy
import Derived.Outline
import Derived.Laws.OwnMore
import Derived.Test.YtdgnjalbpiciiaaShelf
import Derived.Deep.QuietTactic
import Derived.BigQuiet

/- QM1 -/
namespace Go.Proofs.Ytdgnjalbpiciiaa.Tx
open Go.Proofs.Ytdgnjalbpiciiaa
set_option linter.unusedVariables false
set_option linter.unusedSimpArgs false

/-- Where each rune of a text begins, and which it is. -/
def steps (s : ByteArray) : Nat → Nat → List (Nat × Nat)
  | 0, _ => []
  | f + 1, p => if p < s.size then (p, (Utf8.decode s p).1) :: steps s f (p + (Utf8.decode s p).2) else []
def runesOf (s : ByteArray) : List Nat := (steps s s.size 0).map (·.2)
def placesOf (s : ByteArray) : List Nat := (steps s s.size 0).map (·.1)

theorem dec_pos (s : ByteArray) (p : Nat) (h : p < s.size) : 1 ≤ (Utf8.decode s p).2 := Lib.decode_width_pos s p h

theorem dec_in (s : ByteArray) (p : Nat) (h : p < s.size) : p + (Utf8.decode s p).2 ≤ s.size := by
  simp only [Utf8.decode]
  repeat' split
  all_goals simp_all
  all_goals omega

theorem dec_ascii (s : ByteArray) (p : Nat) (h : p < s.size) (ha : (Utf8.decode s p).1 < 128) : Utf8.decode s p = ((s[p]'h).toNat, 1) ∧ (s[p]'h).toNat < 128 := by
  by_cases hl : (s[p]'h).toNat < 128
  · exact ⟨decode_ascii s p h hl, hl⟩
  · have := (decode_high s p h (by omega)).1; omega

theorem steps_end (s : ByteArray) (f p : Nat) (h : ¬ p < s.size) : steps s f p = [] := by
  cases f <;> simp [steps, h]

theorem steps_cons (s : ByteArray) (f p : Nat) (h : p < s.size) : steps s (f + 1) p = (p, (Utf8.decode s p).1) :: steps s f (p + (Utf8.decode s p).2) := by
  simp [steps, h]

theorem steps_fuel (s : ByteArray) : ∀ f g p, s.size - p ≤ f → s.size - p ≤ g → steps s f p = steps s g p
  | 0, g, p, hf, _ => by rw [steps_end s g p (by omega)]; rfl
  | f + 1, 0, p, _, hg => by rw [steps_end s (f + 1) p (by omega)]; rfl
  | f + 1, g + 1, p, hf, hg => by
    unfold steps
    by_cases h : p < s.size
    · have hw := dec_pos s p h
      rw [if_pos h, if_pos h, steps_fuel s f g _ (by omega) (by omega)]
    · rw [if_neg h, if_neg h]

theorem steps_length (s : ByteArray) : ∀ f p, (steps s f p).length ≤ f
  | 0, _ => Nat.le_refl _
  | f + 1, p => by
    unfold steps
    by_cases h : p < s.size
    · rw [if_pos h]; have := steps_length s f (p + (Utf8.decode s p).2); simp only [List.length_cons]; omega
    · rw [if_neg h]; simp

theorem steps_rune_le (s : ByteArray) : ∀ f p, ∀ x ∈ steps s f p, x.2 ≤ 2147483647
  | 0, _ => by intro x hx; cases hx
  | f + 1, p => by
    intro x hx
    unfold steps at hx
    by_cases h : p < s.size
    · rw [if_pos h] at hx
      rcases List.mem_cons.1 hx with rfl | hx
      · exact decode_le s p
      · exact steps_rune_le s f _ x hx
    · rw [if_neg h] at hx; cases hx

/-- A text's stretches between runes of a kind, from a stretch's begin and a place on. -/
def partsFrom (s : ByteArray) (r : Int) : Nat → Nat → Nat → List ByteArray
  | 0, a, _ => [s.extract a s.size]
  | f + 1, a, p => if p < s.size then (if ((Utf8.decode s p).1 : Int) = r then s.extract a p :: partsFrom s r f (p + (Utf8.decode s p).2) (p + (Utf8.decode s p).2) else partsFrom s r f a (p + (Utf8.decode s p).2)) else [s.extract a s.size]
def partsOf (s : ByteArray) (r : Int) : List ByteArray := partsFrom s r s.size 0 0

theorem partsFrom_end (s : ByteArray) (r : Int) (f a p : Nat) (h : ¬ p < s.size) : partsFrom s r f a p = [s.extract a s.size] := by
  cases f <;> simp [partsFrom, h]
theorem partsFrom_hit (s : ByteArray) (r : Int) (f a p : Nat) (h : p < s.size) (hr : ((Utf8.decode s p).1 : Int) = r) : partsFrom s r (f + 1) a p = s.extract a p :: partsFrom s r f (p + (Utf8.decode s p).2) (p + (Utf8.decode s p).2) := by
  simp [partsFrom, h, hr]
theorem partsFrom_miss (s : ByteArray) (r : Int) (f a p : Nat) (h : p < s.size) (hr : ((Utf8.decode s p).1 : Int) ≠ r) : partsFrom s r (f + 1) a p = partsFrom s r f a (p + (Utf8.decode s p).2) := by
  simp [partsFrom, h, hr]
theorem partsFrom_length (s : ByteArray) (r : Int) : ∀ f a p, 1 ≤ (partsFrom s r f a p).length ∧ (partsFrom s r f a p).length ≤ f + 1
  | 0, a, p => by simp [partsFrom]
  | f + 1, a, p => by
    by_cases h : p < s.size
    · by_cases hr : ((Utf8.decode s p).1 : Int) = r
      · rw [partsFrom_hit s r f a p h hr]
        have := partsFrom_length s r f (p + (Utf8.decode s p).2) (p + (Utf8.decode s p).2)
        simp only [List.length_cons]; omega
      · rw [partsFrom_miss s r f a p h hr]
        have := partsFrom_length s r f a (p + (Utf8.decode s p).2)
        omega
    · rw [partsFrom_end s r _ a p h]; simp

theorem partsFrom_fuel (s : ByteArray) (r : Int) : ∀ f g a p, s.size - p ≤ f → s.size - p ≤ g → partsFrom s r f a p = partsFrom s r g a p
  | 0, g, a, p, hf, _ => by rw [partsFrom_end s r g a p (by omega)]; rfl
  | f + 1, 0, a, p, _, hg => by rw [partsFrom_end s r (f + 1) a p (by omega)]; rfl
  | f + 1, g + 1, a, p, hf, hg => by
    by_cases h : p < s.size
    · have hw := dec_pos s p h
      by_cases hr : ((Utf8.decode s p).1 : Int) = r
      · rw [partsFrom_hit s r f a p h hr, partsFrom_hit s r g a p h hr, partsFrom_fuel s r f g _ _ (by omega) (by omega)]
      · rw [partsFrom_miss s r f a p h hr, partsFrom_miss s r g a p h hr, partsFrom_fuel s r f g _ _ (by omega) (by omega)]
    · rw [partsFrom_end s r _ a p h, partsFrom_end s r _ a p h]

/-- At a place in the midst: what went ahead, and how many. -/
theorem places_at (s : ByteArray) {pre : List (Nat × Nat)} {b p : Nat} (h : steps s s.size 0 = pre ++ steps s b p) (hb : s.size ≤ p + b) (hp : p < s.size) :
    (placesOf s ++ [s.size])[pre.length]? = some p ∧ (placesOf s ++ [s.size])[pre.length + 1]? = some (p + (Utf8.decode s p).2) ∧ pre.length < (placesOf s).length := by
  have hw := dec_pos s p hp
  have hi := dec_in s p hp
  obtain ⟨b, rfl⟩ : ∃ c, b = c + 1 := ⟨b - 1, by omega⟩
  rw [steps_cons s b p hp] at h
  unfold placesOf
  rw [h]
  refine ⟨by simp, ?_, by simp⟩
  by_cases hq : p + (Utf8.decode s p).2 < s.size
  · obtain ⟨b, rfl⟩ : ∃ c, b = c + 1 := ⟨b - 1, by omega⟩
    rw [steps_cons s b _ hq]
    simp
  · rw [steps_end s b _ hq]
    simp only [List.map_append, List.map_cons, List.map_nil, List.append_assoc, List.cons_append, List.nil_append]
    rw [List.getElem?_append_right (by simp)]
    simp
    omega

theorem all_at_end (s : ByteArray) {pre : List (Nat × Nat)} {b p : Nat} (h : steps s s.size 0 = pre ++ steps s b p) (hp : ¬ p < s.size) : steps s s.size 0 = pre := by
  rw [steps_end s b p hp, List.append_nil] at h; exact h

theorem step_on (s : ByteArray) {pre : List (Nat × Nat)} {b p : Nat} (h : steps s s.size 0 = pre ++ steps s (b + 1) p) (hp : p < s.size) :
    steps s s.size 0 = (pre ++ [(p, (Utf8.decode s p).1)]) ++ steps s b (p + (Utf8.decode s p).2) := by
  rw [steps_cons s b p hp] at h; rw [h]; simp

end Go.Proofs.Ytdgnjalbpiciiaa.Tx

/- QM3 -/
namespace Go.Proofs.Ytdgnjalbpiciiaa.Tx
open Go.Proofs.Ytdgnjalbpiciiaa
set_option linter.unusedVariables false
set_option linter.unusedSimpArgs false

theorem toList_inj {a b : ByteArray} (h : a.data.toList = b.data.toList) : a = b := by
  cases a; cases b; simp at h; rw [h]
theorem extract_list (s : ByteArray) (a b : Nat) : (s.extract a b).data.toList = (s.data.toList.drop a).take (b - a) := by
  rw [Lib.extract_data]

/-- A list's stretches between bytes of a kind. -/
def splitL (c : UInt8) : List UInt8 → List (List UInt8)
  | [] => [[]]
  | b :: l => if b = c then [] :: splitL c l else ((b :: (splitL c l).headD []) :: (splitL c l).tail)

theorem splitL_ne (c : UInt8) : ∀ l, splitL c l ≠ []
  | [] => by simp [splitL]
  | b :: l => by unfold splitL; split <;> simp

def ontoHead (x : List UInt8) (l : List (List UInt8)) : List (List UInt8) := (x ++ l.headD []) :: l.tail
theorem ontoHead_nil (l : List (List UInt8)) (h : l ≠ []) : ontoHead [] l = l := by
  cases l with
  | nil => exact absurd rfl h
  | cons a l => rfl
theorem ontoHead_append (x y : List UInt8) (l : List (List UInt8)) : ontoHead (x ++ y) l = ontoHead x (ontoHead y l) := by simp [ontoHead]

theorem splitL_clean (c : UInt8) : ∀ x l, (∀ b ∈ x, b ≠ c) → splitL c (x ++ l) = ontoHead x (splitL c l)
  | [], l, _ => (ontoHead_nil _ (splitL_ne c l)).symm
  | b :: x, l, h => by
    rw [List.cons_append]
    show (if b = c then _ else _) = _
    rw [if_neg (h b (List.mem_cons_self ..)), splitL_clean c x l (fun y hy => h y (List.mem_cons_of_mem _ hy))]
    rfl
theorem splitL_hit (c : UInt8) (l : List UInt8) : splitL c (c :: l) = [] :: splitL c l := by
  show (if c = c then _ else _) = _
  rw [if_pos rfl]

/-- The bytes behind a rune's first one are none of ASCII's. -/
theorem dec_tail (s : ByteArray) (p k : Nat) (h1 : 1 ≤ k) (h2 : k < (Utf8.decode s p).2) : 128 ≤ (s.get! (p + k)).toNat := by
  simp only [Utf8.decode] at h2
  repeat' split at h2
  all_goals simp only [] at h2
  all_goals first | omega | skip
  all_goals
    rename_i hc _
    simp only [Bool.and_eq_true, decide_eq_true_eq, beq_iff_eq] at hc
  all_goals
    have : k = 1 ∨ k = 2 ∨ k = 3 := by omega
    rcases this with rfl | rfl | rfl <;> omega

theorem get_list (s : ByteArray) (p : Nat) (h : p < s.size) : s.data.toList[p]? = some (s.get! p) := by
  have := Lib.getD_get!' s p
  have hl : p < s.data.toList.length := by rw [← Lib.size_eq]; exact h
  rw [List.getElem?_eq_getElem hl, ← this, List.getD_eq_getElem?_getD, List.getElem?_eq_getElem hl]; rfl

theorem take_step (l : List UInt8) (a p q : Nat) (h1 : a ≤ p) (h2 : p ≤ q) : (l.drop a).take (q - a) = (l.drop a).take (p - a) ++ (l.drop p).take (q - p) := by
  have e : q - a = (p - a) + (q - p) := by omega
  rw [e, List.take_add, List.drop_drop]
  congr 3
  omega

theorem parts_split (s : ByteArray) (c : UInt8) (hc : c.toNat < 128) : ∀ f a p, a ≤ p → p ≤ s.size → s.size ≤ p + f →
    (partsFrom s c.toNat f a p).map (fun x => x.data.toList) = ontoHead ((s.data.toList.drop a).take (p - a)) (splitL c (s.data.toList.drop p))
  | 0, a, p, h1, h2, h3 => by
    have e : p = s.size := by omega
    subst e
    have e2 : s.data.toList.drop s.size = [] := by rw [Lib.size_eq]; simp
    rw [e2]
    simp [partsFrom, splitL, ontoHead]
  | f + 1, a, p, h1, h2, h3 => by
    by_cases h : p < s.size
    · have hw := dec_pos s p h
      have hi := dec_in s p h
      by_cases hr : ((Utf8.decode s p).1 : Int) = (c.toNat : Int)
      · have hr' : (Utf8.decode s p).1 = c.toNat := by omega
        obtain ⟨e1, e2⟩ := dec_ascii s p h (by omega)
        have hb : s[p]'h = c := by
          apply UInt8.toNat_inj.1
          rw [e1] at hr'; exact hr'
        rw [partsFrom_hit s _ f a p h hr]
        have hw1 : (Utf8.decode s p).2 = 1 := by rw [e1]
        rw [hw1, List.map_cons, parts_split s c hc f (p + 1) (p + 1) (Nat.le_refl _) (by omega) (by omega)]
        have hd : s.data.toList.drop p = c :: s.data.toList.drop (p + 1) := by
          have hl : p < s.data.toList.length := by rw [← Lib.size_eq]; exact h
          rw [List.drop_eq_getElem_cons hl]
          congr 1
        rw [hd, splitL_hit, extract_list]
        rw [Nat.sub_self, List.take_zero, ontoHead_nil _ (splitL_ne _ _)]
        simp [ontoHead]
      · rw [partsFrom_miss s _ f a p h hr, parts_split s c hc f a _ (by omega) hi (by omega)]
        rw [take_step s.data.toList a p _ h1 (by omega), ontoHead_append]
        congr 1
        have hclean : ∀ b ∈ (s.data.toList.drop p).take (p + (Utf8.decode s p).2 - p), b ≠ c := by
          intro b hb
          obtain ⟨k, hk⟩ := List.mem_iff_getElem?.1 hb
          rw [List.getElem?_take] at hk
          split at hk
          · rename_i hlt
            rw [List.getElem?_drop] at hk
            have hpk : p + k < s.size := by
              rcases Nat.lt_or_ge (p + k) s.size with h1 | h1
              · exact h1
              · rw [List.getElem?_eq_none (by rw [← Lib.size_eq]; exact h1)] at hk; cases hk
            rw [get_list s _ hpk] at hk
            obtain rfl := Option.some.inj hk
            intro e
            by_cases hk0 : k = 0
            · subst hk0
              have e' : s[p]'h = c := (get_at s p h).symm.trans e
              apply hr
              rw [decode_ascii s p h (by rw [e']; exact hc), e']
            · have := dec_tail s p k (by omega) (by omega)
              rw [e] at this; omega
          · cases hk
        have hd : s.data.toList.drop p = (s.data.toList.drop p).take (p + (Utf8.decode s p).2 - p) ++ s.data.toList.drop (p + (Utf8.decode s p).2) := by
          have := List.take_append_drop (p + (Utf8.decode s p).2 - p) (s.data.toList.drop p)
          rw [List.drop_drop] at this
          rw [show p + (p + (Utf8.decode s p).2 - p) = p + (Utf8.decode s p).2 by omega] at this
          exact this.symm
        rw [hd, splitL_clean c _ _ hclean, ← hd]
    · have e : p = s.size := by omega
      subst e
      rw [partsFrom_end s _ _ a _ h]
      have e2 : s.data.toList.drop s.size = [] := by rw [Lib.size_eq]; simp
      rw [e2]
      simp [splitL, ontoHead]

theorem partsOf_split (s : ByteArray) (c : UInt8) (hc : c.toNat < 128) : (partsOf s c.toNat).map (fun x => x.data.toList) = splitL c s.data.toList := by
  have := parts_split s c hc s.size 0 0 (Nat.le_refl _) (Nat.zero_le _) (by omega)
  unfold partsOf
  rw [this]
  simp only [List.drop_zero, Nat.sub_self, List.take_zero]
  exact ontoHead_nil _ (splitL_ne _ _)

theorem index_one (c : UInt8) : ∀ l, Lib.index l [c] = if c ∈ l then (((splitL c l).headD []).length : Int) else -1
  | [] => by simp [Lib.index]
  | b :: l => by
    unfold Lib.index
    by_cases h : b = c
    · subst h
      rw [splitL_hit]
      simp [List.isPrefixOf]
    · have hne : ([c].isPrefixOf (b :: l)) = false := by simp [List.isPrefixOf]; exact fun e => h e.symm
      rw [hne, index_one c l]
      have hs : splitL c (b :: l) = (b :: (splitL c l).headD []) :: (splitL c l).tail := by
        show (if b = c then _ else _) = _
        rw [if_neg h]
      rw [hs]
      by_cases hm : c ∈ l
      · simp [hm]
      · have h2 : ¬ c ∈ b :: l := by
          intro e
          rcases List.mem_cons.1 e with e | e
          · exact h e.symm
          · exact hm e
        simp [hm, h2]

theorem split_more (c : UInt8) : ∀ l, 1 < (splitL c l).length ↔ c ∈ l
  | [] => by simp [splitL]
  | b :: l => by
    by_cases h : b = c
    · subst h
      rw [splitL_hit]
      have := splitL_ne b l
      have h1 : 0 < (splitL b l).length := List.length_pos_iff.2 this
      simp; omega
    · have hs : splitL c (b :: l) = (b :: (splitL c l).headD []) :: (splitL c l).tail := by
        show (if b = c then _ else _) = _
        rw [if_neg h]
      rw [hs, List.length_cons, List.length_tail]
      have := split_more c l
      have h1 : 0 < (splitL c l).length := List.length_pos_iff.2 (splitL_ne c l)
      constructor
      · intro h2; exact List.mem_cons_of_mem _ (this.1 (by omega))
      · intro h2
        rcases List.mem_cons.1 h2 with h2 | h2
        · exact absurd h2.symm h
        · have := this.2 h2; omega

theorem head_take (c : UInt8) : ∀ l, ((splitL c l).headD []) = l.take ((splitL c l).headD []).length
  | [] => by simp [splitL]
  | b :: l => by
    by_cases h : b = c
    · subst h
      rw [splitL_hit]; rfl
    · have hs : splitL c (b :: l) = (b :: (splitL c l).headD []) :: (splitL c l).tail := by
        show (if b = c then _ else _) = _
        rw [if_neg h]
      rw [hs]
      have := head_take c l
      simp only [List.headD_cons, List.length_cons, List.take_succ_cons]
      rw [← this]

end Go.Proofs.Ytdgnjalbpiciiaa.Tx

/- QM4 -/
namespace Go.Proofs.Ytdgnjalbpiciiaa.Tx
open Go.Proofs.Ytdgnjalbpiciiaa
set_option linter.unusedVariables false
set_option linter.unusedSimpArgs false

def colonB (p : ByteArray) : Bool := decide (1 < (partsOf p 58).length)
def frontB (p : ByteArray) : ByteArray := (partsOf p 58).headD ByteArray.empty
def restB (p : ByteArray) : ByteArray := p.extract ((frontB p).size + 1) p.size

theorem parts58 (p : ByteArray) : (partsOf p 58).map (fun x => x.data.toList) = splitL 58 p.data.toList := partsOf_split p 58 (by decide)
theorem colonB_iff (p : ByteArray) : colonB p = true ↔ (58 : UInt8) ∈ p.data.toList := by
  unfold colonB
  rw [decide_eq_true_eq, ← split_more, ← parts58, List.length_map]
theorem frontB_list (p : ByteArray) : (frontB p).data.toList = (splitL 58 p.data.toList).headD [] := by
  unfold frontB
  rw [← parts58]
  cases partsOf p 58 <;> rfl
theorem bytes_back (x : ByteArray) : (⟨x.data.toList.toArray⟩ : ByteArray) = x := by cases x; simp
theorem restB_list (p : ByteArray) : (restB p).data.toList = p.data.toList.drop ((frontB p).size + 1) := by
  unfold restB
  rw [extract_list]
  apply List.take_of_length_le
  rw [List.length_drop, ← Lib.size_eq]
  exact Nat.le_refl _

theorem head_lt (c : UInt8) : ∀ l : List UInt8, c ∈ l → ((splitL c l).headD []).length < l.length
  | [], h => by cases h
  | b :: l, h => by
    by_cases hb : b = c
    · subst hb
      rw [splitL_hit]
      simp
    · have hs : splitL c (b :: l) = (b :: (splitL c l).headD []) :: (splitL c l).tail := by
        show (if b = c then _ else _) = _
        rw [if_neg hb]
      rw [hs]
      rcases List.mem_cons.1 h with h | h
      · exact absurd h.symm hb
      · have := head_lt c l h
        simp only [List.headD_cons, List.length_cons]
        omega
theorem front_fits (p : ByteArray) (h : colonB p = true) : (frontB p).size + 1 ≤ p.size := by
  have := head_lt 58 p.data.toList ((colonB_iff p).1 h)
  rw [← frontB_list, ← Lib.size_eq, ← Lib.size_eq] at this
  exact this

theorem indexByte_one (c : UInt8) : ∀ l, Lib.indexByte l c = if c ∈ l then (((splitL c l).headD []).length : Int) else -1
  | [] => by simp [Lib.indexByte]
  | b :: l => by
    unfold Lib.indexByte
    by_cases h : b = c
    · subst h
      rw [splitL_hit]
      simp
    · have hne : (b == c) = false := by simp [h]
      rw [hne, indexByte_one c l]
      have hs : splitL c (b :: l) = (b :: (splitL c l).headD []) :: (splitL c l).tail := by
        show (if b = c then _ else _) = _
        rw [if_neg h]
      rw [hs]
      by_cases hm : c ∈ l
      · simp [hm]
      · have h2 : ¬ c ∈ b :: l := by
          intro e
          rcases List.mem_cons.1 e with e | e
          · exact h e.symm
          · exact hm e
        simp [hm, h2]

theorem beq_bytes (a b : ByteArray) : (a == b) = decide (a = b) := by
  by_cases h : a = b
  · subst h
    rw [decide_eq_true rfl]
    cases a
    exact beq_self_eq_true (α := Array UInt8) _
  · rw [decide_eq_false h]
    cases ha : (a == b) with
    | false => rfl
    | true =>
      exfalso; apply h
      cases a; cases b
      have := eq_of_beq (α := Array UInt8) ha
      exact congrArg ByteArray.mk this

def hitB (p name : ByteArray) : Bool := colonB p && decide (frontB p = name)
def fieldOf (name : ByteArray) : List ByteArray → ByteArray × Bool
  | [] => (ByteArray.empty, false)
  | p :: l => if hitB p name = true then (p.extract (name.size + 1) p.size, true) else fieldOf name l

theorem field_hit (name : ByteArray) (l : List ByteArray) (k : Nat) (h : k < l.length) (h1 : colonB (l.getD k ByteArray.empty) = true) (h2 : frontB (l.getD k ByteArray.empty) = name) :
    fieldOf name (l.drop k) = (restB (l.getD k ByteArray.empty), true) := by
  have e : l.getD k ByteArray.empty = l[k]'h := by rw [List.getD_eq_getElem?_getD, List.getElem?_eq_getElem h]; rfl
  rw [e] at h1 h2 ⊢
  rw [List.drop_eq_getElem_cons h]
  unfold fieldOf
  rw [if_pos (by unfold hitB; rw [h1, decide_eq_true h2]; rfl)]
  unfold restB
  rw [h2]
theorem field_miss (name : ByteArray) (l : List ByteArray) (k : Nat) (h : k < l.length) (h1 : hitB (l.getD k ByteArray.empty) name = false) :
    fieldOf name (l.drop k) = fieldOf name (l.drop (k + 1)) := by
  have e : l.getD k ByteArray.empty = l[k]'h := by rw [List.getD_eq_getElem?_getD, List.getElem?_eq_getElem h]; rfl
  rw [e] at h1
  rw [List.drop_eq_getElem_cons h]
  show (if hitB l[k] name = true then _ else _) = _
  rw [if_neg (by rw [h1]; decide)]
theorem field_end (name : ByteArray) (l : List ByteArray) (k : Nat) (h : l.length ≤ k) : fieldOf name (l.drop k) = (ByteArray.empty, false) := by
  rw [List.drop_of_length_le h]; rfl

theorem partsFrom_size (s : ByteArray) (r : Int) : ∀ f a p, a ≤ s.size → p ≤ s.size → ∀ x ∈ partsFrom s r f a p, x.size ≤ s.size
  | 0, a, p, ha, hp, x, hx => by
    simp only [partsFrom, List.mem_singleton] at hx
    subst hx; rw [ByteArray.size_extract]; omega
  | f + 1, a, p, ha, hp, x, hx => by
    by_cases h : p < s.size
    · have hi := dec_in s p h
      by_cases hr : ((Utf8.decode s p).1 : Int) = r
      · rw [partsFrom_hit s r f a p h hr] at hx
        rcases List.mem_cons.1 hx with rfl | hx
        · rw [ByteArray.size_extract]; omega
        · exact partsFrom_size s r f _ _ hi hi x hx
      · rw [partsFrom_miss s r f a p h hr] at hx
        exact partsFrom_size s r f _ _ ha hi x hx
    · rw [partsFrom_end s r _ a p h, List.mem_singleton] at hx
      subst hx; rw [ByteArray.size_extract]; omega
theorem parts_size (s : ByteArray) (r : Int) (k : Nat) (h : k < (partsOf s r).length) : ((partsOf s r).getD k ByteArray.empty).size ≤ s.size := by
  rw [List.getD_eq_getElem?_getD, List.getElem?_eq_getElem h]
  exact partsFrom_size s r s.size 0 0 (Nat.zero_le _) (Nat.zero_le _) _ (List.getElem_mem h)

end Go.Proofs.Ytdgnjalbpiciiaa.Tx

/- QB1 -/
namespace Go.Proofs.Ytdgnjalbpiciiaa.Tx
open Go.Proofs.Ytdgnjalbpiciiaa
set_option linter.unusedVariables false
set_option linter.unusedSimpArgs false
open Go.RowKit

def plainB (r : Nat) : Bool := decide (32 ≤ r) && decide (r ≠ 127) && decide (r ≠ 65533)
def letterB (r : Nat) : Bool := decide (97 ≤ r) && decide (r ≤ 122)

theorem letter_any (r : Nat) (w : World) (hr : r ≤ 2147483647) : Calls Try.prog 91 #[.int .i32 r] w fun e w' => e = .returned (.bool (letterB r)) ∧ w = w' := by
  by_cases h1 : 97 ≤ r
  · go_enter Try.func91, Try.ntmps91
    go_wp2
    go_ret
    refine ⟨?_, rfl⟩
    simp [letterB, h1]; omega
  · have e : letterB r = false := by simp [letterB, h1]
    rw [e]; clear e
    go_enter Try.func91, Try.ntmps91
    go_wp2
    go_ret
    exact ⟨rfl, rfl⟩

/-- Has a text least to most runes, each of which may stand there? -/
def madeB (s : ByteArray) (least most : Nat) (p : Nat → Bool) : Bool := decide (least ≤ (runesOf s).length) && decide ((runesOf s).length ≤ most) && (runesOf s).all p

theorem madeB_end (s : ByteArray) (least most : Nat) (p : Nat → Bool) {pre : List (Nat × Nat)} (h : steps s s.size 0 = pre) (h1 : pre.length ≤ most) (h2 : pre.all (fun x => p x.2) = true) :
    madeB s least most p = decide (least ≤ pre.length) := by
  unfold madeB runesOf
  rw [h]
  simp only [List.length_map, List.all_map]
  rw [show (pre.all (p ∘ fun x => x.2)) = true from h2]
  simp [h1]

theorem madeB_long (s : ByteArray) (least most : Nat) (p : Nat → Bool) {pre more : List (Nat × Nat)} (h : steps s s.size 0 = pre ++ more) (h1 : most < pre.length) : madeB s least most p = false := by
  unfold madeB runesOf
  rw [h]
  have : ¬ (pre ++ more).length ≤ most := by simp; omega
  simp only [List.length_map]
  rw [decide_eq_false this]
  simp

theorem madeB_bad (s : ByteArray) (least most : Nat) (p : Nat → Bool) {pre more : List (Nat × Nat)} (h : steps s s.size 0 = pre ++ more) (h1 : pre.all (fun x => p x.2) = false) : madeB s least most p = false := by
  unfold madeB runesOf
  rw [h]
  simp only [List.all_map, List.all_append]
  rw [show (pre.all (p ∘ fun x => x.2)) = false from h1]
  simp

set_option maxHeartbeats 800000 in
theorem madeOf_letter (s : ByteArray) (least most : Nat) (w : World) (hs : s.size ≤ 9223372036854775807) (hl : least ≤ 1000) (hm : most ≤ 1000) :
    Calls Try.prog 90 #[.string s, .int .i64 least, .int .i64 most, .func (.func 91) #[] #[]] w fun e w' => e = .returned (.bool (madeB s least most letterB)) ∧ Below w.heap.size w w' := by
  go_enter Try.func90, Try.ntmps90
  go_wp2
  go_loopw [9] (fun n wr => ∃ (pos b k : Nat) (pre : List (Nat × Nat)), wr = w.iter s pos ∧ n = .int .i64 k ∧ Hid (steps s s.size 0 = pre ++ steps s b pos) ∧ Hid (pre.length = k) ∧ k ≤ most ∧ k ≤ pos ∧ Hid (pre.all (fun x => letterB x.2) = true) ∧ s.size ≤ pos + b ∧ pos ≤ s.size)
    (fun _ wr => s.size - wr.iterPos w.heap.size)
  case atStart => exact ⟨0, s.size, 0, [], rfl, rfl, rfl, rfl, Nat.zero_le _, Nat.zero_le _, rfl, by omega, Nat.zero_le _⟩
  case round =>
    obtain ⟨pos, b, k, pre, rfl, rfl, hst, hk, hkm, hkp, hall, hb, hps⟩ := hrel
    by_cases hlt : pos < s.size
    · have hnx : ∀ ty, (Instr.next (.pointer (some ⟨w.heap.size, 0, none⟩)) true ty).run Try.prog (w.iter s pos) = _ := fun ty => run_next_any w s pos ty hlt
      have hd := decode_le s pos
      have hw := dec_pos s pos hlt
      have hi := dec_in s pos hlt
      obtain ⟨b, rfl⟩ : ∃ c, b = c + 1 := ⟨b - 1, by omega⟩
      have Hst := Lib.hid (step_on s hst.out hlt)
      generalize (Utf8.decode s pos).1 = r at *
      generalize (Utf8.decode s pos).2 = wd at *
      have hcall := Lib.hid (letter_any r (w.iter s (pos + wd)) hd)
      by_cases hmost : k + 1 ≤ most
      · cases hr : letterB r with
        | true =>
          rw [hr] at hcall
          have Hr := Lib.hid hr
          clear hr
          go_wp2_with fail
          go_fit hcall.out
          rintro e w' ⟨rfl, rfl⟩
          go_wp2_with fail
          go_roundw
          case rel =>
            have := hk.out
            exact ⟨pos + wd, b, k + 1, _, rfl, by go_num, Hst, by simp [Hid, this], by omega, by omega, by simp only [Hid, List.all_append, hall.out, List.all_cons, Hr.out]; rfl, by omega, by omega⟩
          case measure => simp; omega
        | false =>
          rw [hr] at hcall
          have Hr := Lib.hid hr
          clear hr
          go_wp2_with fail
          go_fit hcall.out
          rintro e w' ⟨rfl, rfl⟩
          go_wp2_with fail
          go_ret
          rw [madeB_bad s least most letterB Hst.out (by simp only [List.all_append, hall.out, List.all_cons, Hr.out]; rfl)]
          exact ⟨rfl, (Below.refl _ _).alloc (Nat.le_refl _) _⟩
      · go_wp2_with fail
        go_ret
        rw [madeB_long s least most letterB Hst.out (by have := hk.out; simp; omega)]
        exact ⟨rfl, (Below.refl _ _).alloc (Nat.le_refl _) _⟩
    · have hnx : ∀ ty, (Instr.next (.pointer (some ⟨w.heap.size, 0, none⟩)) true ty).run Try.prog (w.iter s pos) = _ := fun ty => run_next_end w s pos ty hlt
      have E := Lib.hid (madeB_end s least most letterB (all_at_end s hst.out hlt) (by rw [hk.out]; exact hkm) hall.out)
      go_wp2_with fail
      go_ret
      rw [E.out, hk.out]
      refine ⟨?_, (Below.refl _ _).alloc (Nat.le_refl _) _⟩
      simp

end Go.Proofs.Ytdgnjalbpiciiaa.Tx

/- QOw -/
namespace Go.Proofs.Ytdgnjalbpiciiaa.Tx
open Go.Proofs.Ytdgnjalbpiciiaa
set_option linter.unusedVariables false
set_option linter.unusedSimpArgs false
open Go.RowKit

theorem addLit (b o j : Nat) : (⟨b, o, none⟩ : Addr).add j = ⟨b, o + j, none⟩ := by unfold Addr.add; split <;> simp_all

/-- 'append(l, x)': x in a new block of its own. -/
theorem wpList_push1 {P : Program} {w0 : World} {ops : Array Oper} {rest : List Oper} {o : Oper} {a : Act} {Q : Exit → Act → World → Prop} (hgd : o.guard = none) (s x : Operand) (T E : TypeId) (zero : Value) (bytes : Nat)
    (ho : o.op = .call { callee := .builtin .append, args := #[s, x], argTypes := #[T, T] })
    (hT : P.underlying T = some (.slice E)) (hinfo : (P.info? E).map (fun i => (i.zero, i.size, i.bytes)) = some (some zero, 1, bytes)) (hz : zero.cells.size = 1)
    (B n : Nat) (v : Value) (xs : List Value) (hs : a.eval s = v) (hown : w0.ownsRow B E 1 v n xs)
    (u : Value) (hu : u.oneCell' = true) (hx : a.eval x = .slice (some ⟨w0.heap.size, 0, none⟩) 1 1) (h63 : n + 1 ≤ 2147483648) (hb : bytes ≤ 65536) (hB : B ≤ w0.heap.size)
    (h : ∀ g c w', w'.ownsRow B E 1 (.slice (some ⟨g, 0, none⟩) (n + 1) c) (n + 1) (xs ++ [u]) → Below B w0 w' → w0.heap.size < w'.heap.size → wpList P ops Q rest (a.put o.dst (.slice (some ⟨g, 0, none⟩) (n + 1) c)) w') :
    wpList P ops Q (o :: rest) a (w0.alloc (.cells #[u] E)) := by
  obtain ⟨i0, hi, hz0, hz1, hz2⟩ := info_parts hinfo
  have hsz : (w0.alloc (.cells #[u] E)).heap.size = w0.heap.size + 1 := by simp
  refine wpList_append_own _ hgd s x T ho B E i0 zero 1 bytes hT hi hz0 hz1 hz2 hz (by decide) v n xs hs (hown.alloc _) ⟨w0.heap.size, 0, none⟩ 1 1 [u] hx rfl ?_ ?_ (by unfold maxLen; omega) (Nat.le_trans (Nat.mul_le_mul h63 hb) (by decide)) (by omega) ?_
  · intro j y hy
    match j, hy with
    | 0, hy => rw [addLit, World.cell?_alloc_at _ _ _ _ rfl, ← hy]; rfl
  · intro y hy
    obtain rfl := List.mem_singleton.1 hy
    exact hu
  · intro v' w' hown' hgrow hnil
    have hbel : Below B w0 w' := ((Below.refl B w0).alloc hB (.cells #[u] E)).grown hgrow (by omega) (fun k hk => (hown.lt k hk).1)
    rcases hown'.2 with ⟨h0, _⟩ | ⟨g, cap, cur, hv, _⟩
    · exact absurd (hnil.1 h0).2 (by decide)
    · subst hv
      exact h g cap w' hown' hbel (by have := hgrow.size; omega)

/-- A value of a row that is not empty lies at an address. -/
theorem owns_open {w : World} {B n : Nat} {E : TypeId} {v : Value} {xs : List Value} (h : w.ownsRow B E 1 v n xs) (hn : 0 < n) : ∃ g cap, v = .slice (some ⟨g, 0, none⟩) n cap := by
  rcases h.2 with ⟨_, h0⟩ | ⟨g, cap, cur, rfl, _⟩
  · omega
  · exact ⟨g, cap, rfl⟩

theorem owns_len {w : World} {B n : Nat} {E : TypeId} {v : Value} {xs : List Value} (h : w.ownsRow B E 1 v n xs) : xs.length = n := by simpa using h.1

theorem owns_at {w : World} {B g n cap : Nat} {E : TypeId} {xs : List Value} (h : w.ownsRow B E 1 (.slice (some ⟨g, 0, none⟩) n cap) n xs) : B ≤ g ∧ g < w.heap.size := h.lt g rfl

/-- What a row's cells hold. -/
theorem owns_cell {w : World} {B g n cap : Nat} {E : TypeId} {xs : List Value} (h : w.ownsRow B E 1 (.slice (some ⟨g, 0, none⟩) n cap) n xs) (i : Nat) (hi : i < n) : w.cell? ⟨g, i, none⟩ = some (xs.getD i undef) := by
  have hl := owns_len h
  rw [h.cellAt i (by omega), List.getD_eq_getElem?_getD, List.getElem?_eq_getElem (by omega)]; rfl

theorem owns_later {w w' : World} {B n : Nat} {E : TypeId} {v : Value} {xs : List Value} (h : w.ownsRow B E 1 v n xs) (hb : Below w.heap.size w w') : w'.ownsRow B E 1 v n xs :=
  h.kept (row := Option.none) ⟨hb.os, hb.tape, hb.output, hb.size, fun k hk _ => hb.block k hk⟩ (by cases v.ownBlock <;> simp)

theorem iter_later {w w' : World} {B k : Nat} {s : ByteArray} {pos : Nat} (hk : w.heap[k]? = some (.stringIter s pos)) (hb : Below B w w') (hB : k < B) : w'.heap[k]? = some (.stringIter s pos) := by rw [hb.block k hB]; exact hk

end Go.Proofs.Ytdgnjalbpiciiaa.Tx

/- QB2 -/
namespace Go.Proofs.Ytdgnjalbpiciiaa.Tx
open Go.Proofs.Ytdgnjalbpiciiaa
set_option linter.unusedVariables false
set_option linter.unusedSimpArgs false
open Go.RowKit

theorem Try.infoI32 : (Try.prog.info? 21).map (fun i => (i.zero, i.size, i.bytes)) = some (some (.int .i32 0), 1, 4) := by kernel_rfl

def runeVals (l : List (Nat × Nat)) : List Value := l.map fun x => Value.int .i32 (x.2 : Int)
theorem runeVals_snoc (l : List (Nat × Nat)) (p r : Nat) : runeVals l ++ [Value.int .i32 (r : Int)] = runeVals (l ++ [(p, r)]) := by simp [runeVals]

/-- A slice of a text's runes. -/
def RunesMade (s : ByteArray) (w : World) (e : Ending) (w' : World) : Prop :=
  ∃ v n, e = .returned v ∧ n = (steps s s.size 0).length ∧ w'.ownsRow w.heap.size 21 1 v n (runeVals (steps s s.size 0)) ∧ Below w.heap.size w w'

end Go.Proofs.Ytdgnjalbpiciiaa.Tx

/- QB3 -/
namespace Go.Proofs.Ytdgnjalbpiciiaa.Tx
open Go.Proofs.Ytdgnjalbpiciiaa
set_option linter.unusedVariables false
set_option linter.unusedSimpArgs false
open Go.RowKit

theorem rune_cell (l : List (Nat × Nat)) (k : Nat) (h : k < l.length) : (runeVals l).getD k undef = .int .i32 ((l.getD k (0, 0)).2 : Int) := by
  unfold runeVals
  simp [List.getD_eq_getElem?_getD, List.getElem?_eq_getElem h]

theorem take_all (l : List (Nat × Nat)) (p : Nat → Bool) (k : Nat) (h : k < l.length) : (l.take (k + 1)).all (fun x => p x.2) = ((l.take k).all (fun x => p x.2) && p (l.getD k (0, 0)).2) := by
  rw [List.take_succ_eq_append_getElem h, List.all_append]
  simp [List.getD_eq_getElem?_getD, List.getElem?_eq_getElem h]

theorem rune_le (s : ByteArray) (k : Nat) (h : k < (steps s s.size 0).length) : ((steps s s.size 0).getD k (0, 0)).2 ≤ 2147483647 := by
  rw [List.getD_eq_getElem?_getD, List.getElem?_eq_getElem h]
  exact steps_rune_le s s.size 0 _ (List.getElem_mem h)

def acc (s : ByteArray) (lo hi k : Nat) : Bool := decide (lo ≤ (steps s s.size 0).length) && decide ((steps s s.size 0).length ≤ hi) && ((steps s s.size 0).take k).all (fun x => plainB x.2)
theorem acc_zero (s : ByteArray) (lo hi n : Nat) (hn : n = (steps s s.size 0).length) : acc s lo hi 0 = (decide (lo ≤ n) && decide (n ≤ hi)) := by simp [acc, hn]
theorem acc_succ (s : ByteArray) (lo hi k : Nat) (h : k < (steps s s.size 0).length) : acc s lo hi (k + 1) = (acc s lo hi k && plainB ((steps s s.size 0).getD k (0, 0)).2) := by
  unfold acc; rw [take_all _ _ _ h]; simp only [Bool.and_assoc]
theorem acc_all (s : ByteArray) (lo hi k : Nat) (h : k = (steps s s.size 0).length) : acc s lo hi k = madeB s lo hi plainB := by
  unfold acc madeB runesOf
  rw [h, List.take_length]
  simp only [List.length_map, List.all_map]
  rfl

def ManyP (s : ByteArray) (lo hi : Nat) (w : World) (e : Ending) (w' : World) : Prop := e = .returned (.bool (madeB s lo hi plainB)) ∧ Below w.heap.size w w'

end Go.Proofs.Ytdgnjalbpiciiaa.Tx

/- QM2 -/
namespace Go.Proofs.Ytdgnjalbpiciiaa.Tx
open Go.Proofs.Ytdgnjalbpiciiaa
set_option linter.unusedVariables false
set_option linter.unusedSimpArgs false

theorem dec_of_byte (s : ByteArray) (p : Nat) (h : p < s.size) : letterB (Utf8.decode s p).1 = letterB (s.get! p).toNat ∧ (letterB (s.get! p).toNat = true → (Utf8.decode s p).2 = 1) := by
  have e : s.get! p = s[p]'h := get_at s p h
  rw [e]
  by_cases hl : (s[p]'h).toNat < 128
  · rw [decode_ascii s p h hl]; exact ⟨rfl, fun _ => rfl⟩
  · have h1 := (decode_high s p h (by omega)).1
    have a1 : letterB (Utf8.decode s p).1 = false := by unfold letterB; simp; omega
    have a2 : letterB (s[p]'h).toNat = false := by unfold letterB; simp; omega
    rw [a1, a2]
    exact ⟨rfl, fun h => by cases h⟩

theorem letters_bytes (s : ByteArray) : ∀ f p, s.size ≤ p + f → p ≤ s.size →
    ((steps s f p).all (fun x => letterB x.2) = true ↔ ∀ i, p ≤ i → i < s.size → letterB (s.get! i).toNat = true) ∧ ((steps s f p).all (fun x => letterB x.2) = true → (steps s f p).length = s.size - p)
  | 0, p, hf, hp => by
    have : p = s.size := by omega
    subst this
    simp [steps]
    intro i h1 h2; omega
  | f + 1, p, hf, hp => by
    by_cases h : p < s.size
    · rw [steps_cons s f p h]
      obtain ⟨e1, e2⟩ := dec_of_byte s p h
      have hi := dec_in s p h
      have hw := dec_pos s p h
      obtain ⟨i1, i2⟩ := letters_bytes s f (p + (Utf8.decode s p).2) (by omega) hi
      simp only [List.all_cons, Bool.and_eq_true, List.length_cons]
      constructor
      · constructor
        · rintro ⟨a, b⟩ i h1 h2
          rw [e1] at a
          have w1 := e2 a
          rw [w1] at b i1
          by_cases hip : i = p
          · rw [hip]; exact a
          · exact i1.1 b i (by omega) h2
        · intro hall
          have a := hall p (Nat.le_refl _) h
          have w1 := e2 a
          refine ⟨by rw [e1]; exact a, ?_⟩
          rw [w1] at i1 ⊢
          exact i1.2 fun i h1 h2 => hall i (by omega) h2
      · rintro ⟨a, b⟩
        rw [e1] at a
        have w1 := e2 a
        rw [w1] at b i2 ⊢
        have := i2 b
        omega
    · have : p = s.size := by omega
      subst this
      rw [steps_end s _ _ h]
      simp
      intro i h1 h2; omega

def nacc (s : ByteArray) (k : Nat) : Bool := decide (1 ≤ s.size) && decide (s.size ≤ 8) && (List.range k).all (fun i => letterB (s.get! i).toNat)
theorem nacc_zero (s : ByteArray) : nacc s 0 = (decide (1 ≤ s.size) && decide (s.size ≤ 8)) := by simp [nacc]
theorem nacc_succ (s : ByteArray) (k : Nat) : nacc s (k + 1) = (nacc s k && letterB (s.get! k).toNat) := by
  unfold nacc
  rw [List.range_succ, List.all_append]
  simp [Bool.and_assoc]
theorem nacc_all (s : ByteArray) : nacc s s.size = madeB s 1 8 letterB := by
  obtain ⟨a, b⟩ := letters_bytes s s.size 0 (by omega) (by omega)
  unfold nacc madeB runesOf
  simp only [List.length_map, List.all_map]
  have ha : (steps s s.size 0).all (letterB ∘ fun x => x.2) = (List.range s.size).all (fun i => letterB (s.get! i).toNat) := by
    rw [Bool.eq_iff_iff]
    refine Iff.trans a ?_
    simp [List.all_eq_true]
  rw [ha]
  cases hc : (List.range s.size).all (fun i => letterB (s.get! i).toNat) with
  | false => simp
  | true =>
    rw [b (by rw [← hc]; exact ha)]
    simp

end Go.Proofs.Ytdgnjalbpiciiaa.Tx

/- QB4 -/
namespace Go.Proofs.Ytdgnjalbpiciiaa.Tx
open Go.Proofs.Ytdgnjalbpiciiaa
set_option linter.unusedVariables false
set_option linter.unusedSimpArgs false
open Go.RowKit

def errOf (b : Bool) (e : Int) : Int := if b = true then 0 else e
def ErrP (b : Bool) (n : Int) (w : World) (e : Ending) (w' : World) : Prop := e = .returned (.int .i64 (errOf b n)) ∧ Below w.heap.size w w'
theorem ErrP.yes {n : Int} {w w' : World} {e : Ending} (h : e = .returned (.int .i64 0)) (hb : Below w.heap.size w w') : ErrP true n w e w' := ⟨h, hb⟩
theorem ErrP.no {n : Int} {w w' : World} {e : Ending} (h : e = .returned (.int .i64 n)) (hb : Below w.heap.size w w') : ErrP false n w e w' := ⟨h, hb⟩

theorem Name_any (s : ByteArray) (w : World) (hs : s.size ≤ 1073741824) : Calls Try.prog 72 #[.string s] w (ErrP (madeB s 1 8 letterB) 22 w) := by
  have hc : Hid (Calls Try.prog 90 #[.string s, .int .i64 1, .int .i64 8, .func (.func 91) #[] #[]] w fun e w' => e = .returned (.bool (madeB s 1 8 letterB)) ∧ Below w.heap.size w w') := madeOf_letter s 1 8 w (by omega) (by omega) (by omega)
  cases hb : madeB s 1 8 letterB with
  | true =>
    rw [hb] at hc
    clear hb
    go_enter Try.func72, Try.ntmps72
    go_wp2_with fail
    go_fit hc.out
    rintro e w1 ⟨rfl, hb1⟩
    have Hb := Lib.hid hb1
    clear hb1
    go_wp2_with fail
    go_ret
    exact ErrP.yes rfl Hb.out
  | false =>
    rw [hb] at hc
    clear hb
    go_enter Try.func72, Try.ntmps72
    go_wp2_with fail
    go_fit hc.out
    rintro e w1 ⟨rfl, hb1⟩
    have Hb := Lib.hid hb1
    clear hb1
    go_wp2_with fail
    go_ret
    exact ErrP.no rfl Hb.out

theorem letter_hi (c : Nat) (h : (97 : Int) ≤ (c : Int)) : letterB c = decide ((c : Int) ≤ 122) := by
  unfold letterB
  rw [decide_eq_true (show 97 ≤ c by omega), Bool.true_and, decide_eq_decide]
  omega
theorem letter_lo (c : Nat) (h : ¬ (97 : Int) ≤ (c : Int)) : letterB c = false := by
  unfold letterB
  rw [decide_eq_false (show ¬ 97 ≤ c by omega), Bool.false_and]

set_option maxHeartbeats 800000 in
theorem rName_any (s : ByteArray) (w : World) (hs : s.size ≤ 1073741824) : Calls Try.prog 73 #[.string s] w (ErrP (madeB s 1 8 letterB) 22 w) := by
  have Hend := Lib.hid (nacc_all s)
  have H0 := Lib.hid (nacc_zero s)
  by_cases h1 : 1 ≤ s.size
  all_goals by_cases h2 : s.size ≤ 8
  all_goals try (exfalso; omega)
  all_goals
    go_enter Try.func73, Try.ntmps73
    go_wp2_with fail
    go_loopw [3, 15] (fun ok i wr => ∃ k, k ≤ s.size ∧ i = .int .i64 k ∧ ok = .bool (nacc s k) ∧ wr = w) (fun _ i _ => s.size - (intOf i).toNat)
    case atStart => exact ⟨0, Nat.zero_le _, rfl, by rw [H0.out]; first | (simp [h1, h2]; done) | (simp [h1, h2]; omega), rfl⟩
    case round =>
      obtain ⟨k, hk, rfl, rfl, rfl⟩ := hrel
      by_cases hlt : k < s.size
      · have Hs := Lib.hid (nacc_succ s k)
        have he : s.get! k = s[k]'hlt := get_at s k hlt
        rw [he] at Hs
        clear he
        cases hA : nacc s k with
        | true =>
          rw [hA] at Hs
          clear hA
          go_wp2_with fail
          all_goals
            go_roundw
            case rel => exact ⟨k + 1, by omega, by go_num, by rw [Hs.out]; first | (rw [letter_hi _ ‹_›]; rfl) | (rw [letter_lo _ (by omega)]; rfl), by first | rfl | trivial⟩
            case measure => simp [intOf]; omega
        | false =>
          rw [hA] at Hs
          clear hA
          go_wp2_with fail
          go_roundw
          case rel => exact ⟨k + 1, by omega, by go_num, by rw [Hs.out]; rfl, by first | rfl | trivial⟩
          case measure => simp [intOf]; omega
      · have e : k = s.size := by omega
        have E := Lib.hid (show nacc s k = madeB s 1 8 letterB by rw [e]; exact Hend.out)
        clear H0 Hend
        cases hA : nacc s k with
        | true =>
          have E' := Lib.hid (show madeB s 1 8 letterB = true by rw [← E.out, hA])
          clear e E
          go_wp2_with fail
          go_ret
          rw [E'.out]
          exact ErrP.yes rfl (Below.refl _ _)
        | false =>
          have E' := Lib.hid (show madeB s 1 8 letterB = false by rw [← E.out, hA])
          clear e E
          go_wp2_with fail
          go_ret
          rw [E'.out]
          exact ErrP.no rfl (Below.refl _ _)
end Go.Proofs.Ytdgnjalbpiciiaa.Tx

/- QB5 -/
namespace Go.Proofs.Ytdgnjalbpiciiaa.Tx
open Go.Proofs.Ytdgnjalbpiciiaa
set_option linter.unusedVariables false
set_option linter.unusedSimpArgs false
open Go.RowKit

theorem Try.infoStr : (Try.prog.info? 9).map (fun i => (i.zero, i.size, i.bytes)) = some (some (.string ByteArray.empty), 1, 16) := by kernel_rfl

theorem cell_keeps {w w' : World} {a : Addr} {v : Value} (h : w.cell? a = some v) (hb : Below w.heap.size w w') : w'.cell? a = some v := by
  rw [hb.cell (World.block_lt_of_cell? w _ h)]; exact h
theorem Below.narrow {B : Nat} {w w' : World} (h : Below B w w') (hB : w.heap.size ≤ B) : Below w.heap.size w w' := h.mono hB

def strVals (l : List ByteArray) : List Value := l.map Value.string
theorem strVals_snoc (l : List ByteArray) (s : ByteArray) : strVals l ++ [Value.string s] = strVals (l ++ [s]) := by simp [strVals]

/-- A new slice of just these texts, of which there is one at least. -/
def StrsMade (l : List ByteArray) (w : World) (e : Ending) (w' : World) : Prop :=
  ∃ g n c, e = .returned (.slice (some ⟨g, 0, none⟩) n c) ∧ n = l.length ∧ w'.ownsRow (w.heap.size + 1) 9 1 (.slice (some ⟨g, 0, none⟩) n c) n (strVals l) ∧ Below w.heap.size w w'

end Go.Proofs.Ytdgnjalbpiciiaa.Tx

/- QOw2 -/
namespace Go.Proofs.Ytdgnjalbpiciiaa.Tx
open Go.Proofs.Ytdgnjalbpiciiaa
set_option linter.unusedVariables false
set_option linter.unusedSimpArgs false
open Go.RowKit

/-- 'append(l, x)', x in a new block of its own: and what it leaves. -/
theorem wpList_push1g {P : Program} {w0 : World} {ops : Array Oper} {rest : List Oper} {o : Oper} {a : Act} {Q : Exit → Act → World → Prop} (hgd : o.guard = none) (s x : Operand) (T E : TypeId) (zero : Value) (bytes : Nat)
    (ho : o.op = .call { callee := .builtin .append, args := #[s, x], argTypes := #[T, T] })
    (hT : P.underlying T = some (.slice E)) (hinfo : (P.info? E).map (fun i => (i.zero, i.size, i.bytes)) = some (some zero, 1, bytes)) (hz : zero.cells.size = 1)
    (B n : Nat) (v : Value) (xs : List Value) (hs : a.eval s = v) (hown : w0.ownsRow B E 1 v n xs)
    (u : Value) (hu : u.oneCell' = true) (hx : a.eval x = .slice (some ⟨w0.heap.size, 0, none⟩) 1 1) (h63 : n + 1 ≤ 2147483648) (hb : bytes ≤ 65536) (hB : B ≤ w0.heap.size)
    (h : ∀ g c w', w'.ownsRow B E 1 (.slice (some ⟨g, 0, none⟩) (n + 1) c) (n + 1) (xs ++ [u]) → w0.grownBy w' v.ownBlock → w0.heap.size < w'.heap.size → wpList P ops Q rest (a.put o.dst (.slice (some ⟨g, 0, none⟩) (n + 1) c)) w') :
    wpList P ops Q (o :: rest) a (w0.alloc (.cells #[u] E)) := by
  obtain ⟨i0, hi, hz0, hz1, hz2⟩ := info_parts hinfo
  have hsz : (w0.alloc (.cells #[u] E)).heap.size = w0.heap.size + 1 := by simp
  refine wpList_append_own _ hgd s x T ho B E i0 zero 1 bytes hT hi hz0 hz1 hz2 hz (by decide) v n xs hs (hown.alloc _) ⟨w0.heap.size, 0, none⟩ 1 1 [u] hx rfl ?_ ?_ (by unfold maxLen; omega) (Nat.le_trans (Nat.mul_le_mul h63 hb) (by decide)) (by omega) ?_
  · intro j y hy
    match j, hy with
    | 0, hy => rw [addLit, World.cell?_alloc_at _ _ _ _ rfl, ← hy]; rfl
  · intro y hy
    obtain rfl := List.mem_singleton.1 hy
    exact hu
  · intro v' w' hown' hgrow hnil
    have hg0 : w0.grownBy w' v.ownBlock := ⟨hgrow.os, hgrow.tape, hgrow.output, by have := hgrow.size; omega, fun k hk hne => (hgrow.block k (by omega) hne).trans (Below.heap_alloc _ _ _ hk)⟩
    rcases hown'.2 with ⟨h0, _⟩ | ⟨g, cap, cur, hv, _⟩
    · exact absurd (hnil.1 h0).2 (by decide)
    · subst hv
      exact h g cap w' hown' hg0 (by have := hgrow.size; omega)

theorem own_kind {w : World} {B n g : Nat} {E : TypeId} {v : Value} {xs : List Value} (h : w.ownsRow B E 1 v n xs) (hg : v.ownBlock = some g) : ∃ cur, w.heap[g]? = some (.cells cur E (0, 0)) := by
  rcases h.2 with ⟨rfl, _⟩ | ⟨g', cap, cur, rfl, _, hh, _⟩
  · simp [Value.ownBlock] at hg
  · simp only [Value.ownBlock, Option.some.injEq] at hg; subst hg; exact ⟨cur, hh⟩

/-- An iterator is no row. -/
theorem iter_grown {w w' : World} {B n k : Nat} {E : TypeId} {v : Value} {xs : List Value} {s : ByteArray} {pos : Nat} (hk : w.heap[k]? = some (.stringIter s pos)) (h : w.ownsRow B E 1 v n xs) (hg : w.grownBy w' v.ownBlock) : w'.heap[k]? = some (.stringIter s pos) := by
  have hlt : k < w.heap.size := by
    rcases Nat.lt_or_ge k w.heap.size with h1 | h1
    · exact h1
    · rw [Array.getElem?_eq_none h1] at hk; cases hk
  rw [hg.block k hlt ?_]; exact hk
  intro e
  obtain ⟨cur, hc⟩ := own_kind h e.symm
  rw [hk] at hc; cases hc

/-- A row of one kind stands where a row of another kind grows. -/
theorem owns_grown {w w' : World} {B B' n n' : Nat} {E E' : TypeId} {v v' : Value} {xs xs' : List Value} (h : w.ownsRow B E 1 v n xs) (h' : w.ownsRow B' E' 1 v' n' xs') (hne : E ≠ E') (hg : w.grownBy w' v'.ownBlock) : w'.ownsRow B E 1 v n xs := by
  refine h.kept hg ?_
  cases hv : v.ownBlock with
  | none => exact .inl rfl
  | some g =>
    refine .inr fun e => ?_
    obtain ⟨c1, h1⟩ := own_kind h hv
    obtain ⟨c2, h2⟩ := own_kind h' e.symm
    rw [h1] at h2
    simp only [Option.some.injEq, Obj.cells.injEq] at h2
    exact hne h2.2.1

theorem below_grown {w0 w w' : World} {B C n : Nat} {E : TypeId} {v : Value} {xs : List Value} (hb : Below C w0 w) (h : w.ownsRow B E 1 v n xs) (hg : w.grownBy w' v.ownBlock) (hC : C ≤ B) (hs : C ≤ w.heap.size) : Below C w0 w' :=
  hb.grown hg hs (fun k hk => Nat.le_trans hC (h.lt k hk).1)

theorem owns_under {w w' : World} {B B' n : Nat} {E : TypeId} {v : Value} {xs : List Value} (h : w.ownsRow B E 1 v n xs) (hb : Below B' w w') (hv : ∀ k, v.ownBlock = some k → k < B') : w'.ownsRow B E 1 v n xs := by
  refine ⟨h.1, ?_⟩
  rcases h.2 with h2 | ⟨g, cap, cur, rfl, a, b, c⟩
  · exact .inl h2
  · exact .inr ⟨g, cap, cur, rfl, a, by rw [hb.block g (hv g rfl)]; exact b, c⟩

/-- A step of an iterator leaves every row. -/
theorem owns_iterAt {w : World} {B n k : Nat} {E : TypeId} {v : Value} {xs : List Value} {s : ByteArray} {pos : Nat} (h : w.ownsRow B E 1 v n xs) (hk : w.heap[k]? = some (.stringIter s pos)) (p : Nat) : (w.iterAt k s p).ownsRow B E 1 v n xs := by
  refine ⟨h.1, ?_⟩
  rcases h.2 with h2 | ⟨g, cap, cur, rfl, a, b, c⟩
  · exact .inl h2
  · refine .inr ⟨g, cap, cur, rfl, a, ?_, c⟩
    rw [Lib.iterAt_other]; exact b
    intro e; subst e; rw [hk] at b; cases b

end Go.Proofs.Ytdgnjalbpiciiaa.Tx

/- QB6 -/
namespace Go.Proofs.Ytdgnjalbpiciiaa.Tx
open Go.Proofs.Ytdgnjalbpiciiaa
set_option linter.unusedVariables false
set_option linter.unusedSimpArgs false
open Go.RowKit

theorem Try.infoInt : (Try.prog.info? 3).map (fun i => (i.zero, i.size, i.bytes)) = some (some (.int .i64 0), 1, 8) := by kernel_rfl

def placeVals (l : List (Nat × Nat)) : List Value := l.map fun x => Value.int .i64 (x.1 : Int)
theorem placeVals_snoc (l : List (Nat × Nat)) (p r : Nat) : placeVals l ++ [Value.int .i64 (p : Int)] = placeVals (l ++ [(p, r)]) := by simp [placeVals]
def endVals (s : ByteArray) : List Value := (placesOf s ++ [s.size]).map fun (x : Nat) => Value.int .i64 (x : Int)
theorem endVals_of (s : ByteArray) : placeVals (steps s s.size 0) ++ [Value.int .i64 (s.size : Int)] = endVals s := by simp [placeVals, endVals, placesOf]
theorem endVals_at (s : ByteArray) (k p : Nat) (h : (placesOf s ++ [s.size])[k]? = some p) : (endVals s).getD k undef = .int .i64 (p : Int) := by
  unfold endVals
  rw [List.getD_eq_getElem?_getD, List.getElem?_map, h]; rfl

/-- A new slice of just these texts, of which there is one at least. -/
def StrsMade' (l : List ByteArray) (w : World) (e : Ending) (w' : World) : Prop :=
  ∃ g n c, e = .returned (.slice (some ⟨g, 0, none⟩) n c) ∧ n = l.length ∧ w'.ownsRow w.heap.size 9 1 (.slice (some ⟨g, 0, none⟩) n c) n (strVals l) ∧ Below w.heap.size w w'

end Go.Proofs.Ytdgnjalbpiciiaa.Tx

/- QB7 -/
namespace Go.Proofs.Ytdgnjalbpiciiaa.Tx
open Go.Proofs.Ytdgnjalbpiciiaa
set_option linter.unusedVariables false
set_option linter.unusedSimpArgs false
open Go.RowKit

theorem str_cell (l : List ByteArray) (k : Nat) (h : k < l.length) : (strVals l).getD k undef = .string (l.getD k ByteArray.empty) := by
  unfold strVals
  simp [List.getD_eq_getElem?_getD, List.getElem?_eq_getElem h]

theorem below_drewN' {B : Nat} {w : World} (n : Nat) : Below B w (w.drewN n) := below_drewN (Below.refl _ _) n

def FieldP (l : List ByteArray) (name : ByteArray) (w : World) (e : Ending) (w' : World) : Prop :=
  e = .returned (.tuple #[.string (fieldOf name l).1, .bool (fieldOf name l).2]) ∧ Below w.heap.size w w'

end Go.Proofs.Ytdgnjalbpiciiaa.Tx

/- QB8 -/
namespace Go.Proofs.Ytdgnjalbpiciiaa.Tx
open Go.Proofs.Ytdgnjalbpiciiaa
set_option linter.unusedVariables false
set_option linter.unusedSimpArgs false
open Go.RowKit

end Go.Proofs.Ytdgnjalbpiciiaa.Tx
