/-
  Plain facts: what leads from one tree to another one; ranks, places, neighbours, scans.
-/
import Derived.Test.YtdfjnpnkfjcpcaaTM3
namespace Go.Proofs.Ytdfjnpnkfjcpcaa
set_option linter.unusedVariables false
set_option linter.unusedSimpArgs false

structure Ev where
  key : ByteArray
  had : Bool
  old : ByteArray
  has : Bool
  now : ByteArray

/-- What leads from what a key had to what it has. -/
def ev (k : ByteArray) (o n : Option ByteArray) : Option Ev :=
  if o = n then none else some ⟨k, o.isSome, o.getD ByteArray.empty, n.isSome, n.getD ByteArray.empty⟩

theorem filter_sorted {l : List Pr} (h : Sorted l) (f : Pr → Bool) : Sorted (l.filter f) := by
  induction l with
  | nil => trivial
  | cons p l ih =>
    rw [List.filter_cons]
    split
    · exact ⟨fun q hq => h.1 q (List.mem_filter.1 hq).1, ih h.2⟩
    · exact ih h.2

theorem look_filter {l : List Pr} (h : Sorted l) (f : Pr → Bool) (k : ByteArray) : look (l.filter f) k = (look l k).bind fun v => if f (k, v) = true then some v else none := by
  induction l with
  | nil => rfl
  | cons p l ih =>
    rw [List.filter_cons, look]
    by_cases e : p.1 = k
    · subst e
      rw [if_pos rfl]
      by_cases g : f p = true
      · rw [if_pos g, look, if_pos rfl]; simp [g]
      · rw [if_neg g, ih h.2, look_over h.1 (klt_irr _)]; simp [g]
    · rw [if_neg e, ← ih h.2]
      by_cases g : f p = true
      · rw [if_pos g, look, if_neg e]
      · rw [if_neg g]

/-- A sorted list, parted at a key. -/
theorem sorted_parted {l : List Pr} (h : Sorted l) (k : ByteArray) :
    l = l.filter (fun q => klt q.1 k) ++ (((look l k).map fun v => (k, v)).toList ++ l.filter (fun q => klt k q.1)) := by
  have s1 := filter_sorted h (fun q => klt q.1 k)
  have s2 := filter_sorted h (fun q => klt k q.1)
  have u1 : Under (l.filter (fun q => klt q.1 k)) k := fun q hq => (List.mem_filter.1 hq).2
  have u2 : Over (l.filter (fun q => klt k q.1)) k := fun q hq => (List.mem_filter.1 hq).2
  cases e : look l k with
  | none =>
    refine sorted_ext h ?_ fun x => ?_
    · simp only [Option.map, Option.toList, List.nil_append]
      rw [sorted_app]
      exact ⟨s1, s2, fun p hp q hq => klt_trans (u1 p hp) (u2 q hq)⟩
    · simp only [Option.map, Option.toList, List.nil_append]
      rw [look_app, look_filter h, look_filter h]
      rcases klt_tri x k with g | g | g
      · cases e2 : look l x <;> simp [g, klt_asym g]
      · subst g; simp [e]
      · cases e2 : look l x <;> simp [g, klt_asym g]
  | some v =>
    refine sorted_ext h ?_ fun x => ?_
    · simp only [Option.map, Option.toList, List.cons_append, List.nil_append]
      exact (sorted_mid _ (k, v) _).2 ⟨s1, s2, u1, u2⟩
    · simp only [Option.map, Option.toList, List.cons_append, List.nil_append]
      rw [look_mid (p := (k, v)) u1 u2, look_filter h, look_filter h]
      rcases klt_tri x k with g | g | g
      · cases e2 : look l x <;> simp [g]
      · subst g; simp [e, klt_irr]
      · cases e2 : look l x <;> simp [g, klt_asym g]

theorem fm_congr {α β : Type} {l : List α} {f g : α → Option β} (h : ∀ q ∈ l, f q = g q) : l.filterMap f = l.filterMap g := by
  induction l with
  | nil => rfl
  | cons p l ih => rw [List.filterMap_cons, List.filterMap_cons, h p (by simp), ih (fun q hq => h q (by simp [hq]))]

namespace T

/-- What leads from one tree to another one. -/
def Diffed (a b : T) (l : List Ev) : Prop :=
  ∀ U, Sorted U → (∀ k, look U k = fU (look a.list k) (look b.list k)) → l = U.filterMap fun p => ev p.1 (look a.list p.1) (look b.list p.1)

theorem diffed_same (a : T) : Diffed a a [] := fun U hU h => by
  symm
  rw [List.filterMap_eq_nil_iff]
  intro p _
  simp [ev]

theorem diffed_step {a b : T} (ha : Sorted a.list) (hb : Sorted b.list) {k : ByteArray} {a1 a2 b1 b2 : T} {x y : Option Pr} (A : Parted a k a1 x a2) (B : Parted b k b1 y b2) (hxy : x.isSome ∨ y.isSome) {l1 l2 : List Ev} (D1 : Diffed a1 b1 l1) (D2 : Diffed a2 b2 l2) :
    Diffed a b (l1 ++ ((ev k (x.map (·.2)) (y.map (·.2))).toList ++ l2)) := by
  intro U hU h
  have hk : look U k = fU (x.map (·.2)) (y.map (·.2)) := by
    rw [h, A.has, B.has, klt_irr]; simp
  have s1 := filter_sorted hU (fun q => klt q.1 k)
  have s2 := filter_sorted hU (fun q => klt k q.1)
  have sa := A.sorted ha
  have sb := B.sorted hb
  rw [sorted_parted hU k, List.filterMap_append, List.filterMap_append]
  congr 1
  · rw [D1 _ s1 fun z => ?_]
    · refine fm_congr fun q hq => ?_
      have hq' := (List.mem_filter.1 hq).2
      rw [A.has, B.has, if_pos hq', if_pos hq']
    · rw [look_filter hU, h, A.has, B.has]
      rcases klt_tri z k with g | g | g
      · rw [if_pos g, if_pos g]; cases fU (look a1.list z) (look b1.list z) <;> simp [g]
      · subst g
        rw [look_under A.under (klt_irr _), look_under B.under (klt_irr _)]
        simp [klt_irr, fU]
      · rw [look_under A.under (klt_asym g), look_under B.under (klt_asym g)]
        simp [klt_asym g, fU]
  congr 1
  · rw [hk]
    cases x with
    | none => cases y with
      | none => simp at hxy
      | some q =>
        simp only [Option.map, fU, Option.or, Option.toList, List.filterMap_cons, List.filterMap_nil]
        rw [A.has, B.has, klt_irr]
        simp [ev]
    | some p => cases y with
      | none =>
        simp only [Option.map, fU, Option.or, Option.toList, List.filterMap_cons, List.filterMap_nil]
        rw [A.has, B.has, klt_irr]
        simp [ev]
      | some q =>
        simp only [Option.map, fU, Option.or, Option.toList, List.filterMap_cons, List.filterMap_nil]
        rw [A.has, B.has, klt_irr]
        simp only [Bool.false_eq_true, if_false, Option.map]
        cases ev k (some p.2) (some q.2) <;> rfl
  · rw [D2 _ s2 fun z => ?_]
    · refine fm_congr fun q hq => ?_
      have hq' := (List.mem_filter.1 hq).2
      rw [A.has, B.has, klt_asym hq', if_neg Bool.false_ne_true, if_neg Bool.false_ne_true, if_pos hq', if_pos hq']
    · rw [look_filter hU, h, A.has, B.has]
      rcases klt_tri z k with g | g | g
      · rw [look_over A.over (klt_asym g), look_over B.over (klt_asym g)]
        simp [g, klt_asym g, fU]
      · subst g
        rw [look_over A.over (klt_irr _), look_over B.over (klt_irr _)]
        simp [klt_irr, fU]
      · rw [klt_asym g, if_neg Bool.false_ne_true, if_neg Bool.false_ne_true, if_pos g, if_pos g]
        cases fU (look a2.list z) (look b2.list z) <;> simp [g]

end T

/-- How many keys are less. -/
def cnt (l : List Pr) (k : ByteArray) : Nat := (l.filter fun q => klt q.1 k).length
/-- The last pair whose key is not more; the first one whose key is not less. -/
def flo (l : List Pr) (k : ByteArray) : Option Pr := (l.filter fun q => !klt k q.1).getLast?
def cei (l : List Pr) (k : ByteArray) : Option Pr := (l.filter fun q => !klt q.1 k).head?
/-- Whether a key is from one on, and ahead of another one. -/
def within (a b : ByteArray) (q : Pr) : Bool := !klt q.1 a && (decide (b = ByteArray.empty) || klt q.1 b)
def scn (l : List Pr) (a b : ByteArray) (m : Nat) : List Pr := (l.filter (within a b)).take m

theorem filter_all {l : List Pr} {f : Pr → Bool} (h : ∀ q ∈ l, f q = true) : l.filter f = l := List.filter_eq_self.2 h
theorem filter_none {l : List Pr} {f : Pr → Bool} (h : ∀ q ∈ l, f q = false) : l.filter f = [] := List.filter_eq_nil_iff.2 fun q hq => by simp [h q hq]

namespace T
variable {l : T} {p : Pr} {r : T}

theorem cnt_more (hs : Sorted (node l p r).list) {k : ByteArray} (h : klt p.1 k = true) : cnt (node l p r).list k = l.size + 1 + cnt r.list k := by
  obtain ⟨_, _, hu, ho⟩ := node_sorted hs
  simp only [cnt, list, List.filter_append, List.filter_cons]
  rw [if_pos h, filter_all (fun q hq => klt_trans (hu q hq) h)]
  simp [size_list]; omega
theorem cnt_less (hs : Sorted (node l p r).list) {k : ByteArray} (h : klt p.1 k = false) : cnt (node l p r).list k = cnt l.list k := by
  obtain ⟨_, _, hu, ho⟩ := node_sorted hs
  simp only [cnt, list, List.filter_append, List.filter_cons]
  rw [if_neg (by simp [h]), filter_none (l := r.list) (fun q hq => ?_)]
  · simp
  · cases e : klt q.1 k
    · rfl
    · have := klt_trans (ho q hq) e; rw [h] at this; cases this
theorem at_less {i : Nat} (h : i < l.size) : (node l p r).list[i]? = l.list[i]? := by
  simp only [list]; rw [List.getElem?_append_left (by rw [size_list]; exact h)]
theorem at_here : (node l p r).list[l.size]? = some p := by
  simp only [list]; rw [List.getElem?_append_right (by rw [size_list]; exact Nat.le_refl _)]; simp [size_list]
theorem at_more {i : Nat} (h : l.size < i) : (node l p r).list[i]? = r.list[i - l.size - 1]? := by
  simp only [list]; rw [List.getElem?_append_right (by rw [size_list]; omega), size_list]
  obtain ⟨j, hj⟩ : ∃ j, i - l.size = j + 1 := ⟨i - l.size - 1, by omega⟩
  rw [hj]; simp
theorem flo_less (hs : Sorted (node l p r).list) {k : ByteArray} (h : klt k p.1 = true) : flo (node l p r).list k = flo l.list k := by
  obtain ⟨_, _, hu, ho⟩ := node_sorted hs
  simp only [flo, list, List.filter_append, List.filter_cons]
  rw [if_neg (by simp [h]), filter_none (l := r.list) (fun q hq => by simp [klt_trans h (ho q hq)])]
  simp
theorem flo_more (hs : Sorted (node l p r).list) {k : ByteArray} (h : klt k p.1 = false) : flo (node l p r).list k = (flo r.list k).or (some p) := by
  simp only [flo, list, List.filter_append, List.filter_cons]
  rw [if_pos (by simp [h]), List.getLast?_append]
  cases e : (r.list.filter fun q => !klt k q.1) with
  | nil => simp
  | cons a b => simp [List.getLast?_cons]
theorem cei_more (hs : Sorted (node l p r).list) {k : ByteArray} (h : klt p.1 k = true) : cei (node l p r).list k = cei r.list k := by
  obtain ⟨_, _, hu, ho⟩ := node_sorted hs
  simp only [cei, list, List.filter_append, List.filter_cons]
  rw [if_neg (by simp [h]), filter_none (l := l.list) (fun q hq => by simp [klt_trans (hu q hq) h])]
  simp
theorem cei_less (hs : Sorted (node l p r).list) {k : ByteArray} (h : klt p.1 k = false) : cei (node l p r).list k = (cei l.list k).or (some p) := by
  simp only [cei, list, List.filter_append, List.filter_cons]
  rw [if_pos (by simp [h]), List.head?_append]
  simp
end T

theorem cei_look {l : List Pr} (hs : Sorted l) (k : ByteArray) : look l k = (cei l k).bind fun q => if q.1 = k then some q.2 else none := by
  induction l with
  | nil => rfl
  | cons p l ih =>
    simp only [cei, List.filter_cons]
    rw [look]
    rcases klt_tri p.1 k with h | h | h
    · rw [if_neg (klt_ne h), if_neg (by simp [h]), ih hs.2]; rfl
    · subst h
      rw [if_pos rfl, if_pos (by simp [klt_irr])]; simp
    · rw [if_neg (fun e => klt_ne h e.symm), if_pos (by simp [klt_asym h]), look_over hs.1 (klt_asym h)]
      have := (klt_ne h).symm
      simp [this]

theorem scn_mid (a b : List Pr) (p : Pr) (x y : ByteArray) (m : Nat) :
    scn (a ++ p :: b) x y m = scn a x y m ++ ((if within x y p = true then [p] else []).take (m - (scn a x y m).length) ++
      scn b x y (m - (scn a x y m).length - ((if within x y p = true then [p] else []).take (m - (scn a x y m).length)).length)) := by
  simp only [scn, List.filter_append, List.take_append, List.length_take]
  congr 1
  have e : m - min m (a.filter (within x y)).length = m - (a.filter (within x y)).length := by omega
  rw [e]
  generalize m - (a.filter (within x y)).length = n
  rw [List.filter_cons]
  split
  · cases n with
    | zero => simp
    | succ n => simp
  · simp
theorem scn_none {l : List Pr} {x y : ByteArray} (h : ∀ q ∈ l, within x y q = false) (m : Nat) : scn l x y m = [] := by
  rw [scn, filter_none h, List.take_nil]
end Go.Proofs.Ytdfjnpnkfjcpcaa
