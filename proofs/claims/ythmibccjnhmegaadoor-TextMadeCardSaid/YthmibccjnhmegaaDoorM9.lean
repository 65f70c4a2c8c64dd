/-
  Plain facts: a value that is made of fields of unlike names has each of them, and no other one.
-/
import Derived.Test.YthmibccjnhmegaaDoorM7
import Derived.Test.YthmibccjnhmegaaDoorM8
import Derived.Lib.Join
namespace Go.Proofs.YthmibccjnhmegaaDoor
set_option linter.unusedVariables false
set_option linter.unusedSimpArgs false

/-- A field's text. -/
def fieldText (x : ByteArray × ByteArray) : ByteArray := x.1 ++ ⟨#[58]⟩ ++ x.2
theorem fieldText_list (x : ByteArray × ByteArray) : (fieldText x).data.toList = x.1.data.toList ++ 58 :: x.2.data.toList := by
  unfold fieldText; simp

def NameOk (n : ByteArray) : Prop := madeB n 1 8 letterB = true
theorem name_letters {n : ByteArray} (h : NameOk n) : ∀ b ∈ n.data.toList, 97 ≤ b.toNat ∧ b.toNat ≤ 122 := by
  have := nacc_all n
  rw [h] at this
  unfold nacc at this
  simp only [Bool.and_eq_true, decide_eq_true_eq] at this
  intro b hb
  obtain ⟨k, hk⟩ := List.mem_iff_getElem?.1 hb
  have hks : k < n.size := by
    rcases Nat.lt_or_ge k n.size with h1 | h1
    · exact h1
    · rw [List.getElem?_eq_none (by rw [← Lib.size_eq]; exact h1)] at hk; cases hk
  rw [get_list n k hks] at hk
  have h2 := List.all_eq_true.1 this.2 k (List.mem_range.2 hks)
  rw [Option.some.inj hk] at h2
  unfold letterB at h2
  simpa using h2

theorem splitL_none (c : UInt8) (l : List UInt8) (h : ∀ b ∈ l, b ≠ c) : splitL c l = [l] := by
  have := splitL_clean c l [] h
  rw [List.append_nil] at this
  rw [this]; simp [splitL, ontoHead]
theorem splitL_join (c : UInt8) (x : List UInt8) (r : List UInt8) (h : ∀ b ∈ x, b ≠ c) : splitL c (x ++ c :: r) = x :: splitL c r := by
  rw [splitL_clean c x _ h, splitL_hit]; simp [ontoHead]

/-- What stands in front of a field's first colon is its name, and behind it its value. -/
theorem field_front (x : ByteArray × ByteArray) (h : NameOk x.1) : colonB (fieldText x) = true ∧ frontB (fieldText x) = x.1 ∧ restB (fieldText x) = x.2 := by
  have hs : splitL 58 (fieldText x).data.toList = x.1.data.toList :: splitL 58 x.2.data.toList := by
    rw [fieldText_list]
    exact splitL_join 58 _ _ fun b hb e => by
      have := (name_letters h b hb).1
      rw [e] at this
      revert this; decide
  have hf : frontB (fieldText x) = x.1 := by
    apply toList_inj
    rw [frontB_list, hs]; rfl
  refine ⟨?_, hf, ?_⟩
  · rw [colonB_iff, fieldText_list]; simp
  · apply toList_inj
    rw [restB_list, hf, fieldText_list, Lib.size_eq]
    rw [List.drop_append]
    simp

/-- The field of a name among such fields. -/
def among (name : ByteArray) : List (ByteArray × ByteArray) → ByteArray × Bool
  | [] => (ByteArray.empty, false)
  | x :: l => if x.1 = name then (x.2, true) else among name l

theorem field_among (name : ByteArray) : ∀ l : List (ByteArray × ByteArray), (∀ x ∈ l, NameOk x.1) → fieldOf name (l.map fieldText) = among name l
  | [], _ => rfl
  | x :: l, h => by
    obtain ⟨a, b, c⟩ := field_front x (h x (List.mem_cons_self ..))
    have hh : hitB (fieldText x) name = decide (x.1 = name) := by unfold hitB; rw [a, b]; rfl
    show (if hitB (fieldText x) name = true then _ else fieldOf name (l.map fieldText)) = _
    rw [hh]
    unfold among
    by_cases e : x.1 = name
    · rw [if_pos (by simpa using e), if_pos e]
      have : (fieldText x).extract (name.size + 1) (fieldText x).size = restB (fieldText x) := by unfold restB; rw [b, e]
      rw [this, c]
    · rw [if_neg (by simpa using e), if_neg e]
      exact field_among name l fun y hy => h y (List.mem_cons_of_mem _ hy)

instance memDec (y : ByteArray) : (l : List ByteArray) → Decidable (y ∈ l)
  | [] => isFalse (by simp)
  | x :: l => if h : y = x then isTrue (h ▸ List.mem_cons_self ..) else
    match memDec y l with
    | isTrue h2 => isTrue (List.mem_cons_of_mem _ h2)
    | isFalse h2 => isFalse fun h3 => (List.mem_cons.1 h3).elim h h2

theorem among_at : ∀ (l : List (ByteArray × ByteArray)) (i : Nat) (x : ByteArray × ByteArray), (l.map (·.1)).Nodup → l[i]? = some x → among x.1 l = (x.2, true)
  | [], i, x, _, h => by simp at h
  | y :: l, 0, x, _, h => by
    simp at h; subst h
    unfold among; rw [if_pos rfl]
  | y :: l, i + 1, x, hn, h => by
    simp at h
    rw [List.map_cons, List.nodup_cons] at hn
    unfold among
    rw [if_neg ?_, among_at l i x hn.2 h]
    intro e
    apply hn.1
    rw [e]
    exact List.mem_map.2 ⟨x, List.mem_iff_getElem?.2 ⟨i, h⟩, rfl⟩
theorem among_ok (name : ByteArray) : ∀ l : List (ByteArray × ByteArray), (among name l).2 = decide (name ∈ l.map (Prod.fst : ByteArray × ByteArray → ByteArray)) ∧ ((among name l).2 = false → (among name l).1 = ByteArray.empty)
  | [] => by simp [among]
  | x :: l => by
    unfold among
    by_cases e : x.1 = name
    · rw [if_pos e]
      simp [e]
    · rw [if_neg e]
      obtain ⟨a, b⟩ := among_ok name l
      refine ⟨?_, b⟩
      rw [a]
      rw [decide_eq_decide]
      simp only [List.map_cons, List.mem_cons]
      constructor
      · exact .inr
      · rintro (h | h)
        · exact absurd h.symm e
        · exact h

/-- All fields, with a blank between each two. -/
def allText (l : List (ByteArray × ByteArray)) : ByteArray := ⟨(Lib.join ((l.map fieldText).map (·.data.toList)) (⟨#[32]⟩ : ByteArray).data.toList).toArray⟩

def Clean (x : ByteArray × ByteArray) : Prop := NameOk x.1 ∧ ∀ b ∈ x.2.data.toList, b ≠ 32

theorem field_clean {x : ByteArray × ByteArray} (h : Clean x) : ∀ b ∈ (fieldText x).data.toList, b ≠ 32 := by
  rw [fieldText_list]
  intro b hb
  rcases List.mem_append.1 hb with hb | hb
  · intro e
    have := (name_letters h.1 b hb).1
    rw [e] at this
    revert this; decide
  · rcases List.mem_cons.1 hb with rfl | hb
    · decide
    · exact h.2 b hb

theorem split_all (c : UInt8) : ∀ (x : List UInt8) (r : List (List UInt8)), (∀ y ∈ x :: r, ∀ b ∈ y, b ≠ c) → splitL c (x ++ Lib.joinTail [c] r) = x :: r
  | x, [], h => by
    unfold Lib.joinTail
    simp only [List.map_nil, List.flatten_nil, List.append_nil]
    exact splitL_none c x (h x (List.mem_cons_self ..))
  | x, y :: r, h => by
    have : Lib.joinTail [c] (y :: r) = c :: (y ++ Lib.joinTail [c] r) := by unfold Lib.joinTail; simp
    rw [this, splitL_join c x _ (h x (List.mem_cons_self ..)), split_all c y r fun z hz => h z (List.mem_cons_of_mem _ hz)]

theorem parts_all (l : List (ByteArray × ByteArray)) (hl : l ≠ []) (h : ∀ x ∈ l, Clean x) : partsOf (allText l) 32 = l.map fieldText := by
  have hs := partsOf_split (allText l) 32 (by decide)
  have ha : (allText l).data.toList = Lib.join ((l.map fieldText).map (·.data.toList)) [32] := rfl
  have hj : splitL 32 (allText l).data.toList = (l.map fieldText).map (·.data.toList) := by
    rw [ha]
    cases l with
    | nil => exact absurd rfl hl
    | cons x l =>
      rw [List.map_cons, List.map_cons, Lib.join_cons]
      refine split_all 32 _ _ ?_
      intro y hy b hb
      rw [← List.map_cons (f := fun x : ByteArray => x.data.toList), ← List.map_cons (f := fieldText), List.map_map] at hy
      obtain ⟨z, hz, rfl⟩ := List.mem_map.1 hy
      exact field_clean (h z hz) b hb
  rw [hj] at hs
  have : ∀ a b : List ByteArray, a.map (fun x => x.data.toList) = b.map (fun x => x.data.toList) → a = b := by
    intro a
    induction a with
    | nil => intro b hb; cases b with
      | nil => rfl
      | cons y b => simp at hb
    | cons x a ih =>
      intro b hb
      cases b with
      | nil => simp at hb
      | cons y b =>
        simp only [List.map_cons, List.cons.injEq] at hb
        rw [toList_inj hb.1, ih b hb.2]
  exact this _ _ hs

/-- What all of it has under any name. -/
theorem field_all (l : List (ByteArray × ByteArray)) (h : ∀ x ∈ l, Clean x) (name : ByteArray) : fieldOf name (partsOf (allText l) 32) = among name l := by
  by_cases hl : l = []
  · subst hl
    have : partsOf (allText []) 32 = [ByteArray.empty] := by decide +kernel
    rw [this]
    have hc : hitB ByteArray.empty name = false := by
      unfold hitB
      have : colonB ByteArray.empty = false := by decide +kernel
      rw [this]; rfl
    unfold fieldOf
    rw [if_neg (by rw [hc]; decide)]
    rfl
  · rw [parts_all l hl h]
    exact field_among name l fun x hx => (h x hx).1

theorem join_len (sep : List UInt8) : ∀ (l : List (List UInt8)), (Lib.join l sep).length ≤ (l.map List.length).sum + l.length * sep.length
  | [] => by simp [Lib.join]
  | x :: r => by
    rw [Lib.join_cons]
    have : (Lib.joinTail sep r).length = (r.map List.length).sum + r.length * sep.length := by
      unfold Lib.joinTail
      induction r with
      | nil => simp
      | cons y r ih =>
        simp only [List.map_cons, List.flatten_cons, List.length_append, List.sum_cons, List.length_cons, ih]
        rw [Nat.add_mul]; omega
    simp only [List.length_append, List.map_cons, List.sum_cons, List.length_cons, this]
    rw [Nat.add_mul]; omega

/-- Indexing a byte that is not there. -/
theorem index_none (l : List UInt8) (c : UInt8) : (Lib.indexByte l c ≥ 0 ↔ c ∈ l) := by
  rw [indexByte_one]
  by_cases h : c ∈ l
  · rw [if_pos h]; simp [h]
  · rw [if_neg h]; simp [h]

end Go.Proofs.YthmibccjnhmegaaDoor
