/-
  All parts' events are all events.
-/
import Derived.Test.YtdgnjalbpiciiaaPartsW
namespace Go.Proofs.Ytdgnjalbpiciiaa
set_option linter.unusedVariables false
set_option linter.unusedSimpArgs false
open Go.RowKit Go.Shelf

/-- How many events the first so many parts have. -/
noncomputable def tot (N : Nat) : Nat → List Kev → Nat
  | 0, _ => 0
  | k + 1, l => tot N k l + (passP N k l).length
theorem passP_cons (N p : Int) (e : Kev) (l : List Kev) : passP N p (e :: l) = (if (decide (1 ≤ N) && decide (partE N e.key = p)) = true then [e] else []) ++ passP N p l := by
  unfold passP
  rw [List.filter_cons]
  split <;> rfl
theorem tot_cons (N : Nat) (h : 1 ≤ N) (e : Kev) (l : List Kev) : ∀ k : Nat, tot N k (e :: l) = tot N k l + (if partE N e.key < k then 1 else 0)
  | 0 => by
    have := (partE_in (parts := N) (by omega) e.key).1
    rw [if_neg (by omega)]; rfl
  | k + 1 => by
    have hN : (1 : Int) ≤ (N : Int) := by omega
    simp only [tot, tot_cons N h e l k, passP_cons, List.length_append, decide_eq_true hN, Bool.true_and]
    have := (partE_in (parts := N) (by omega) e.key).1
    have hk : ((k + 1 : Nat) : Int) = (k : Int) + 1 := by omega
    rw [hk]
    generalize partE N e.key = x at *
    have hkk : (k : Int) < (k : Int) + 1 := by omega
    by_cases e1 : x = k <;> by_cases e2 : x < k <;> by_cases e3 : x < (k : Int) + 1 <;> simp [e1, e2, e3, hkk] <;> omega
theorem tot_all (N : Nat) (h : 1 ≤ N) : ∀ l : List Kev, tot N N l = l.length
  | [] => by
    have : ∀ k, tot N k [] = 0 := fun k => by induction k with
      | zero => rfl
      | succ k ih => simp only [tot, ih, passP]; rfl
    exact this N
  | e :: l => by
    rw [tot_cons N h e l N, tot_all N h l, if_pos (partE_in (parts := N) (by omega) e.key).2, List.length_cons]
theorem tot_le (N k : Nat) (l : List Kev) : tot N k l ≤ k * l.length := by
  induction k with
  | zero => simp [tot]
  | succ k ih =>
    have : (passP N k l).length ≤ l.length := List.length_filter_le _ _
    simp only [tot, Nat.succ_mul]; omega
/-- The event that comes next of its part. -/
theorem pass_next {N : Nat} (h : 1 ≤ N) {l : List Kev} {i : Nat} {e : Kev} (he : l[i]? = some e) : (passP N (partE N e.key) l)[(passP N (partE N e.key) (l.take i)).length]? = some e := by
  have hN : (1 : Int) ≤ (N : Int) := by omega
  have hs : l = l.take i ++ e :: l.drop (i + 1) := by
    have hlt := (List.getElem?_eq_some_iff.1 he).1
    have hx := (List.getElem?_eq_some_iff.1 he).2
    rw [← hx, ← List.drop_eq_getElem_cons hlt, List.take_append_drop]
  have e1 : passP N (partE N e.key) l = passP N (partE N e.key) (l.take i) ++ e :: passP N (partE N e.key) (l.drop (i + 1)) := by
    conv => lhs; rw [hs]
    unfold passP
    rw [List.filter_append, List.filter_cons, if_pos (by simp [hN])]
  rw [e1, List.getElem?_append_right (Nat.le_refl _), Nat.sub_self]
  rfl
/-- How far each part is. -/
noncomputable def ats (N : Nat) (l : List Kev) : List Int := (List.range N).map fun p => ((passP N (p : Nat) l).length : Int)
theorem ats_at {N p : Nat} (h : p < N) (l : List Kev) : (ats N l)[p]? = some ((passP N p l).length : Int) := by
  unfold ats
  rw [List.getElem?_map, List.getElem?_range h]; rfl
theorem ats_nil (N : Nat) : ats N [] = List.replicate N 0 := by
  apply List.ext_getElem?
  intro p
  by_cases h : p < N
  · rw [ats_at h, List.getElem?_replicate, if_pos h]; rfl
  · rw [List.getElem?_eq_none (by unfold ats; simp; omega), List.getElem?_eq_none (by simp; omega)]
theorem ats_step {N : Nat} (h : 1 ≤ N) {l : List Kev} {i p : Nat} {e : Kev} (he : l[i]? = some e) (hp : partE N e.key = p) : ats N (l.take (i + 1)) = (ats N (l.take i)).set p (((passP N p (l.take i)).length : Int) + 1) := by
  have hN : (1 : Int) ≤ (N : Int) := by omega
  apply List.ext_getElem?
  intro q
  by_cases hq : q < N
  · rw [ats_at hq, pass_step he, List.getElem?_set, ats_at hq, hp, decide_eq_true hN, Bool.true_and]
    have hl : (ats N (l.take i)).length = N := by unfold ats; simp
    by_cases e1 : p = q
    · subst e1
      simp [hl, hq]
    · have e2 : ¬ (p : Int) = (q : Int) := by omega
      simp [e1, e2]
  · rw [List.getElem?_eq_none (by unfold ats; simp; omega), List.getElem?_eq_none (by unfold ats; simp; omega)]
def slL : Lay Sl := ⟨fun s => [s.v], 1, fun _ => rfl, by intro o u hu; simp at hu; subst hu; rfl⟩
end Go.Proofs.Ytdgnjalbpiciiaa
