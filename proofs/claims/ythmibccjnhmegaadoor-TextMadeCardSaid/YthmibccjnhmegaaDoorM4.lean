/-
  Plain facts: what stands in front of a text's first colon, and behind it; what a value has under a name.
-/
import Derived.Test.YthmibccjnhmegaaDoorM3
namespace Go.Proofs.YthmibccjnhmegaaDoor
set_option linter.unusedVariables false
set_option linter.unusedSimpArgs false

def colonB (p : ByteArray) : Bool := decide (1 < (partsOf p 58).length)
def frontB (p : ByteArray) : ByteArray := (partsOf p 58).headD ByteArray.empty
def restB (p : ByteArray) : ByteArray := p.extract ((frontB p).size + 1) p.size

theorem parts58 (p : ByteArray) : (partsOf p 58).map (fun x => x.data.toList) = splitL 58 p.data.toList := partsOf_split p 58 (by decide)
theorem colonB_iff (p : ByteArray) : colonB p = true ↔ (58 : UInt8) ∈ p.data.toList := by
  unfold colonB
  rw [decide_eq_true_eq, ← split_more, ← parts58, List.length_map]
theorem frontB_list (p : ByteArray) : (frontB p).data.toList = (splitL 58 p.data.toList).headD [] := by
  unfold frontB
  rw [← parts58]
  cases partsOf p 58 <;> rfl
theorem bytes_back (x : ByteArray) : (⟨x.data.toList.toArray⟩ : ByteArray) = x := by cases x; simp
theorem restB_list (p : ByteArray) : (restB p).data.toList = p.data.toList.drop ((frontB p).size + 1) := by
  unfold restB
  rw [extract_list]
  apply List.take_of_length_le
  rw [List.length_drop, ← Lib.size_eq]
  exact Nat.le_refl _

theorem head_lt (c : UInt8) : ∀ l : List UInt8, c ∈ l → ((splitL c l).headD []).length < l.length
  | [], h => by cases h
  | b :: l, h => by
    by_cases hb : b = c
    · subst hb
      rw [splitL_hit]
      simp
    · have hs : splitL c (b :: l) = (b :: (splitL c l).headD []) :: (splitL c l).tail := by
        show (if b = c then _ else _) = _
        rw [if_neg hb]
      rw [hs]
      rcases List.mem_cons.1 h with h | h
      · exact absurd h.symm hb
      · have := head_lt c l h
        simp only [List.headD_cons, List.length_cons]
        omega
theorem front_fits (p : ByteArray) (h : colonB p = true) : (frontB p).size + 1 ≤ p.size := by
  have := head_lt 58 p.data.toList ((colonB_iff p).1 h)
  rw [← frontB_list, ← Lib.size_eq, ← Lib.size_eq] at this
  exact this

theorem indexByte_one (c : UInt8) : ∀ l, Lib.indexByte l c = if c ∈ l then (((splitL c l).headD []).length : Int) else -1
  | [] => by simp [Lib.indexByte]
  | b :: l => by
    unfold Lib.indexByte
    by_cases h : b = c
    · subst h
      rw [splitL_hit]
      simp
    · have hne : (b == c) = false := by simp [h]
      rw [hne, indexByte_one c l]
      have hs : splitL c (b :: l) = (b :: (splitL c l).headD []) :: (splitL c l).tail := by
        show (if b = c then _ else _) = _
        rw [if_neg h]
      rw [hs]
      by_cases hm : c ∈ l
      · simp [hm]
      · have h2 : ¬ c ∈ b :: l := by
          intro e
          rcases List.mem_cons.1 e with e | e
          · exact h e.symm
          · exact hm e
        simp [hm, h2]

theorem beq_bytes (a b : ByteArray) : (a == b) = decide (a = b) := by
  by_cases h : a = b
  · subst h
    rw [decide_eq_true rfl]
    cases a
    exact beq_self_eq_true (α := Array UInt8) _
  · rw [decide_eq_false h]
    cases ha : (a == b) with
    | false => rfl
    | true =>
      exfalso; apply h
      cases a; cases b
      have := eq_of_beq (α := Array UInt8) ha
      exact congrArg ByteArray.mk this

def hitB (p name : ByteArray) : Bool := colonB p && decide (frontB p = name)
def fieldOf (name : ByteArray) : List ByteArray → ByteArray × Bool
  | [] => (ByteArray.empty, false)
  | p :: l => if hitB p name = true then (p.extract (name.size + 1) p.size, true) else fieldOf name l

theorem field_hit (name : ByteArray) (l : List ByteArray) (k : Nat) (h : k < l.length) (h1 : colonB (l.getD k ByteArray.empty) = true) (h2 : frontB (l.getD k ByteArray.empty) = name) :
    fieldOf name (l.drop k) = (restB (l.getD k ByteArray.empty), true) := by
  have e : l.getD k ByteArray.empty = l[k]'h := by rw [List.getD_eq_getElem?_getD, List.getElem?_eq_getElem h]; rfl
  rw [e] at h1 h2 ⊢
  rw [List.drop_eq_getElem_cons h]
  unfold fieldOf
  rw [if_pos (by unfold hitB; rw [h1, decide_eq_true h2]; rfl)]
  unfold restB
  rw [h2]
theorem field_miss (name : ByteArray) (l : List ByteArray) (k : Nat) (h : k < l.length) (h1 : hitB (l.getD k ByteArray.empty) name = false) :
    fieldOf name (l.drop k) = fieldOf name (l.drop (k + 1)) := by
  have e : l.getD k ByteArray.empty = l[k]'h := by rw [List.getD_eq_getElem?_getD, List.getElem?_eq_getElem h]; rfl
  rw [e] at h1
  rw [List.drop_eq_getElem_cons h]
  show (if hitB l[k] name = true then _ else _) = _
  rw [if_neg (by rw [h1]; decide)]
theorem field_end (name : ByteArray) (l : List ByteArray) (k : Nat) (h : l.length ≤ k) : fieldOf name (l.drop k) = (ByteArray.empty, false) := by
  rw [List.drop_of_length_le h]; rfl

theorem partsFrom_size (s : ByteArray) (r : Int) : ∀ f a p, a ≤ s.size → p ≤ s.size → ∀ x ∈ partsFrom s r f a p, x.size ≤ s.size
  | 0, a, p, ha, hp, x, hx => by
    simp only [partsFrom, List.mem_singleton] at hx
    subst hx; rw [ByteArray.size_extract]; omega
  | f + 1, a, p, ha, hp, x, hx => by
    by_cases h : p < s.size
    · have hi := dec_in s p h
      by_cases hr : ((Utf8.decode s p).1 : Int) = r
      · rw [partsFrom_hit s r f a p h hr] at hx
        rcases List.mem_cons.1 hx with rfl | hx
        · rw [ByteArray.size_extract]; omega
        · exact partsFrom_size s r f _ _ hi hi x hx
      · rw [partsFrom_miss s r f a p h hr] at hx
        exact partsFrom_size s r f _ _ ha hi x hx
    · rw [partsFrom_end s r _ a p h, List.mem_singleton] at hx
      subst hx; rw [ByteArray.size_extract]; omega
theorem parts_size (s : ByteArray) (r : Int) (k : Nat) (h : k < (partsOf s r).length) : ((partsOf s r).getD k ByteArray.empty).size ≤ s.size := by
  rw [List.getD_eq_getElem?_getD, List.getElem?_eq_getElem h]
  exact partsFrom_size s r s.size 0 0 (Nat.zero_le _) (Nat.zero_le _) _ (List.getElem_mem h)

end Go.Proofs.YthmibccjnhmegaaDoor
