/-
  Plain facts: whether two lists can be joined; how long the lists of two are; places and ranks.
-/
import Derived.Test.YtcncggndpnooeaaM5
namespace Go.Proofs.Ytcncggndpnooeaa
set_option linter.unusedVariables false
set_option linter.unusedSimpArgs false

theorem filter_two (f : Pr → Bool) : ∀ l : List Pr, (l.filter f).length + (l.filter (fun q => !f q)).length = l.length
  | [] => rfl
  | q :: l => by
    have ih := filter_two f l
    rw [List.filter_cons, List.filter_cons]
    cases h : f q <;> simp <;> omega
theorem mi_filter {a b : List Pr} (ha : Sorted a) (hb : Sorted b) : mi a b = a.filter fun p => !(look b p.1).isSome := by
  refine sorted_ext (mi_sorted b ha) (filter_sorted ha _) fun k => ?_
  rw [mi_look ha hb, look_filter ha]
  unfold T.fM
  cases h1 : look a k <;> cases h2 : look b k <;> simp [h2]
theorem bo_filter {a b : List Pr} (ha : Sorted a) (hb : Sorted b) : mi a (mi a b) = a.filter fun p => (look b p.1).isSome := by
  refine sorted_ext (mi_sorted _ ha) (filter_sorted ha _) fun k => ?_
  rw [bo_look ha hb, look_filter ha]
  unfold T.fB
  cases h1 : look a k <;> cases h2 : look b k <;> simp [h2]
theorem mi_bo_len {a b : List Pr} (ha : Sorted a) (hb : Sorted b) : (mi a b).length + (mi a (mi a b)).length = a.length := by
  rw [bo_filter ha hb, mi_filter ha hb]
  have := filter_two (fun p => (look b p.1).isSome) a
  omega
theorem un_mi_len {a b : List Pr} (ha : Sorted a) (hb : Sorted b) : (un a b).length = (mi a b).length + b.length := by
  have hU := un_sorted b ha
  have h1 : (un a b).filter (fun p => (look b p.1).isSome) = b := by
    refine sorted_ext (filter_sorted hU _) hb fun k => ?_
    rw [look_filter hU, un_look ha hb]
    unfold T.fU
    cases h1 : look a k <;> cases h2 : look b k <;> simp [h2]
  have h2 : (un a b).filter (fun p => !(look b p.1).isSome) = mi a b := by
    refine sorted_ext (filter_sorted hU _) (mi_sorted b ha) fun k => ?_
    rw [look_filter hU, un_look ha hb, mi_look ha hb]
    unfold T.fU T.fM
    cases h1 : look a k <;> cases h2 : look b k <;> simp [h2]
  have := filter_two (fun p => (look b p.1).isSome) (un a b)
  rw [h1, h2] at this
  omega
/-- Whether all keys of one list are less than all of another one. -/
def jn (xs zs : List Pr) : Bool := xs.all fun p => zs.all fun q => klt p.1 q.1
theorem jn_iff {xs zs : List Pr} : jn xs zs = true ↔ ∀ p ∈ xs, ∀ q ∈ zs, klt p.1 q.1 = true := by
  simp [jn, List.all_eq_true]
theorem sorted_last {xs : List Pr} (h : Sorted xs) {p : Pr} (hp : xs.getLast? = some p) : ∀ q ∈ xs, q = p ∨ klt q.1 p.1 = true := by
  intro q hq
  obtain ⟨ys, rfl⟩ : ∃ ys, xs = ys ++ [p] := by
    rw [List.getLast?_eq_some_iff] at hp; exact hp
  rw [sorted_app] at h
  rcases List.mem_append.1 hq with hq | hq
  · exact .inr (h.2.2 q hq p (by simp))
  · exact .inl (by simpa using hq)
theorem sorted_head {xs : List Pr} (h : Sorted xs) {p : Pr} (hp : xs.head? = some p) : ∀ q ∈ xs, q = p ∨ klt p.1 q.1 = true := by
  intro q hq
  cases xs with
  | nil => cases hp
  | cons r xs =>
    simp at hp; subst hp
    rcases List.mem_cons.1 hq with rfl | hq
    · exact .inl rfl
    · exact .inr (h.1 q hq)
theorem jn_ends {xs zs : List Pr} (hx : Sorted xs) (hz : Sorted zs) : (match xs.getLast?, zs.head? with | some p, some q => klt p.1 q.1 | _, _ => true) = jn xs zs := by
  cases h1 : xs.getLast? with
  | none =>
    have : xs = [] := by simpa using h1
    subst this; rfl
  | some p => cases h2 : zs.head? with
    | none =>
      have : zs = [] := by simpa using h2
      subst this
      symm; rw [jn_iff]
      intro r _ q hq; cases hq
    | some q =>
      show klt p.1 q.1 = _
      have hp : p ∈ xs := List.mem_of_getLast? h1
      have hq : q ∈ zs := List.mem_of_head? h2
      cases hk : klt p.1 q.1
      · symm
        cases hj : jn xs zs
        · rfl
        · rw [jn_iff.1 hj p hp q hq] at hk; cases hk
      · symm
        rw [jn_iff]
        intro r hr s hs
        have e1 : klt r.1 q.1 = true := by
          rcases sorted_last hx h1 r hr with rfl | h
          · exact hk
          · exact klt_trans h hk
        rcases sorted_head hz h2 s hs with rfl | h
        · exact e1
        · exact klt_trans e1 h
theorem jn_parts (xs : List Pr) (k : ByteArray) : jn (xs.filter fun q => klt q.1 k) (xs.filter fun q => klt k q.1) = true :=
  jn_iff.2 fun p hp q hq => klt_trans (List.mem_filter.1 hp).2 (List.mem_filter.1 hq).2

theorem sorted_at {l : List Pr} {i : Nat} {p : Pr} (h : l[i]? = some p) : l = l.take i ++ p :: l.drop (i + 1) := by
  obtain ⟨hi, e⟩ := List.getElem?_eq_some_iff.1 h
  conv => lhs; rw [← List.take_append_drop i l, List.drop_eq_getElem_cons hi, e]
theorem cnt_at {l : List Pr} (hs : Sorted l) {i : Nat} {p : Pr} (h : l[i]? = some p) : cnt l p.1 = i := by
  have e := sorted_at h
  have hi : i < l.length := (List.getElem?_eq_some_iff.1 h).1
  have hs' := hs
  rw [e, sorted_mid] at hs'
  obtain ⟨_, _, hu, ho⟩ := hs'
  unfold cnt
  rw [e, List.filter_append, filter_all (fun q hq => hu q hq), List.filter_cons, if_neg (by rw [klt_irr]; simp), filter_none (fun q hq => klt_asym (ho q hq))]
  simp; omega
/-- The key behind a key. -/
def nxt (k : ByteArray) : ByteArray := k ++ ⟨#[0]⟩
theorem bl_zero : ∀ a b : List UInt8, Go.Op.bytesLess a (b ++ [0]) = !Go.Op.bytesLess b a
  | [], [] => rfl
  | [], _ :: _ => rfl
  | x :: a, [] => by
    have : ¬ x < 0 := by
      intro h
      have := UInt8.lt_iff_toNat_lt.1 h
      simp at this
    cases a <;> simp [Go.Op.bytesLess, this]
  | x :: a, y :: b => by
    simp only [List.cons_append, Go.Op.bytesLess, bl_zero a b]
    rcases Nat.lt_trichotomy x.toNat y.toNat with h | h | h
    · have h1 := UInt8.lt_iff_toNat_lt.2 h
      have h2 : ¬ y < x := fun e => by have := UInt8.lt_iff_toNat_lt.1 e; omega
      have h3 : ¬ y = x := fun e => by subst e; omega
      simp [h1, h2, h3]
    · obtain rfl := UInt8.toNat_inj.1 h
      have h1 : ¬ x < x := UInt8.lt_irrefl x
      simp [h1]
    · have h1 := UInt8.lt_iff_toNat_lt.2 h
      have h2 : ¬ x < y := fun e => by have := UInt8.lt_iff_toNat_lt.1 e; omega
      have h3 : ¬ x = y := fun e => by subst e; omega
      simp [h1, h2, h3]
theorem nxt_list (k : ByteArray) : (nxt k).toList = k.toList ++ [0] := by
  unfold nxt
  rw [ba_list, ba_list]
  cases k
  simp [ByteArray.data_append]
theorem klt_nxt (q k : ByteArray) : klt q (nxt k) = !klt k q := by
  unfold klt
  rw [nxt_list]; exact bl_zero _ _
theorem cnt_nxt {l : List Pr} (hs : Sorted l) {i : Nat} {p : Pr} (h : l[i]? = some p) : cnt l (nxt p.1) = i + 1 := by
  have e := sorted_at h
  have hi : i < l.length := (List.getElem?_eq_some_iff.1 h).1
  have hs' := hs
  rw [e, sorted_mid] at hs'
  obtain ⟨_, _, hu, ho⟩ := hs'
  unfold cnt
  rw [e, List.filter_append, filter_all (fun q hq => by rw [klt_nxt, klt_asym (hu q hq)]; rfl), List.filter_cons, if_pos (by rw [klt_nxt, klt_irr]; rfl), filter_none (fun q hq => by rw [klt_nxt, ho q hq]; rfl)]
  simp; omega
end Go.Proofs.Ytcncggndpnooeaa
