/-
  Who may have one part more: a team sorted by its parts; the map of rooms, step by step.
-/
import Derived.Test.YtdgnjalbpiciiaaSA
import Derived.Test.YtdgnjalbpiciiaaM1
namespace Go.Proofs.Ytdgnjalbpiciiaa
set_option linter.unusedVariables false
set_option linter.unusedSimpArgs false

/-- A team with how many parts each has. -/
def keyed (o t : List Int) : List Pl := t.map fun m => (o.count m, m)
def ordered (o t : List Int) : List Int := (isort (keyed o t)).map (·.2)
theorem ordered_len (o t : List Int) : (ordered o t).length = t.length := by unfold ordered keyed; rw [List.length_map, isort_length, List.length_map]
theorem strict_of : ∀ {l : List Pl}, SortedW l → (∀ k, (kf k l).Pairwise fun p q => p.2 < q.2) → l.Pairwise fun p q => q.1 < p.1 ∨ (p.1 = q.1 ∧ p.2 < q.2)
  | [], _, _ => List.Pairwise.nil
  | p :: l, hs, hk => by
    obtain ⟨h1, h2⟩ := List.pairwise_cons.1 hs
    refine List.pairwise_cons.2 ⟨fun q hq => ?_, strict_of h2 fun k => ?_⟩
    · have h3 : ¬ p.1 < q.1 := by have := h1 q hq; unfold plt at this; simpa using this
      by_cases e : p.1 = q.1
      · have := hk p.1
        rw [kf_cons, if_pos rfl] at this
        refine .inr ⟨e, (List.pairwise_cons.1 this).1 q ?_⟩
        rw [e]; exact mem_kf hq
      · left; omega
    · have := hk k
      rw [kf_cons] at this
      split at this
      · exact (List.pairwise_cons.1 this).2
      · exact this
theorem keyed_mem {o t : List Int} {p : Pl} : p ∈ keyed o t ↔ p.2 ∈ t ∧ p.1 = o.count p.2 := by
  unfold keyed
  rw [List.mem_map]
  constructor
  · rintro ⟨m, hm, rfl⟩; exact ⟨hm, rfl⟩
  · rintro ⟨h1, h2⟩; exact ⟨p.2, h1, by rw [← h2]⟩
theorem isort_mem {l : List Pl} {p : Pl} : p ∈ isort l ↔ p ∈ l := by
  constructor
  · intro h
    have := mem_kf h
    rw [isort_kf] at this
    exact mem_of_kf this
  · intro h
    have := mem_kf h
    rw [← isort_kf] at this
    exact mem_of_kf this
theorem ordered_mem {o t : List Int} {x : Int} : x ∈ ordered o t ↔ x ∈ t := by
  unfold ordered
  rw [List.mem_map]
  constructor
  · rintro ⟨p, hp, rfl⟩; exact (keyed_mem.1 (isort_mem.1 hp)).1
  · intro h; exact ⟨(o.count x, x), isort_mem.2 (keyed_mem.2 ⟨h, rfl⟩), rfl⟩
theorem ordered_better {o t : List Int} (ht : t.Pairwise (· < ·)) : (ordered o t).Pairwise fun x y => better o x y = true := by
  have hs := strict_of (isort_sortedW (keyed o t)) (fun k => by
    rw [isort_kf]
    refine List.Pairwise.sublist List.filter_sublist ?_
    unfold keyed
    exact List.pairwise_map.2 (ht.imp fun h => h))
  unfold ordered
  refine List.pairwise_map.2 (hs.imp_of_mem fun {p q} hp hq h => ?_)
  have h1 := (keyed_mem.1 (isort_mem.1 hp)).2
  have h2 := (keyed_mem.1 (isort_mem.1 hq)).2
  unfold better
  rw [← h1, ← h2]
  simp only [decide_eq_true_eq]
  omega
theorem ordered_nodup {o t : List Int} (ht : t.Pairwise (· < ·)) : (ordered o t).Nodup := (ordered_better ht).imp fun {x y} h e => by subst e; rw [better_irr] at h; cases h
theorem countP_take {l : List Int} {R : Int → Int → Bool} (hp : l.Pairwise fun x y => R x y = true) (hi : ∀ x, R x x = false) (ha : ∀ x y, R x y = true → R y x = false) : ∀ i (h : i < l.length), l.countP (fun x => R x l[i]) = i := by
  induction l with
  | nil => intro i h; simp at h
  | cons x l ih =>
    obtain ⟨h1, h2⟩ := List.pairwise_cons.1 hp
    intro i h
    cases i with
    | zero =>
      rw [List.countP_eq_zero.2]
      intro y hy
      rcases List.mem_cons.1 hy with rfl | hy
      · rw [List.getElem_cons_zero, hi]; simp
      · rw [List.getElem_cons_zero, ha _ _ (h1 y hy)]; simp
    | succ i =>
      have hlt : i < l.length := by simpa using h
      rw [List.getElem_cons_succ, List.countP_cons, ih h2 i hlt]
      simp [h1 l[i] (List.getElem_mem hlt)]
theorem ordered_rank {o t : List Int} (ht : t.Pairwise (· < ·)) (i : Nat) (h : i < (ordered o t).length) : rank o t (ordered o t)[i] = i := by
  have hn := ordered_nodup (o := o) ht
  have hp : (ordered o t).Perm t := by
    have hnt : t.Nodup := ht.imp fun h => by omega
    rw [List.perm_iff_count]
    intro a
    have e1 := List.nodup_iff_count.1 hn a
    have e2 := List.nodup_iff_count.1 hnt a
    have e3 := List.count_pos_iff (a := a) (l := ordered o t)
    have e4 := List.count_pos_iff (a := a) (l := t)
    have e5 := ordered_mem (o := o) (t := t) (x := a)
    by_cases hm : a ∈ t
    · have := e4.2 hm; have := e3.2 (e5.2 hm); omega
    · rw [List.count_eq_zero.2 hm, List.count_eq_zero.2 (fun h => hm (e5.1 h))]
  unfold rank
  rw [← hp.countP_eq]
  exact countP_take (R := fun x y => better o x y) (ordered_better ht) (fun x => better_irr o x) (fun x y h => better_asym h) i h
theorem ordered_take {o t : List Int} (ht : t.Pairwise (· < ·)) (r : Nat) (x : Int) : x ∈ (ordered o t).take r ↔ x ∈ t ∧ rank o t x < r := by
  constructor
  · intro h
    obtain ⟨i, hi, rfl⟩ := List.getElem_of_mem h
    rw [List.length_take] at hi
    rw [List.getElem_take]
    refine ⟨ordered_mem.1 (List.getElem_mem (by omega)), ?_⟩
    rw [ordered_rank ht i (by omega)]; omega
  · rintro ⟨h1, h2⟩
    obtain ⟨i, hi, rfl⟩ := List.getElem_of_mem ((ordered_mem (o := o)).2 h1)
    rw [ordered_rank ht i hi] at h2
    exact List.mem_take_iff_getElem.2 ⟨i, by omega, rfl⟩

/-- What the map of rooms says once the first k of a team have been told. -/
def roF (ys : List Int) (q r k : Nat) (x : Int) : Int := if x ∈ ys.take k then (q : Int) + (if x ∈ ys.take (min k r) then 1 else 0) else 0
theorem roF_zero (ys : List Int) (q r : Nat) (x : Int) : roF ys q r 0 x = 0 := by simp [roF]
theorem mem_take_succ {ys : List Int} {k : Nat} {m x : Int} (h : ys[k]? = some m) : x ∈ ys.take (k + 1) ↔ x ∈ ys.take k ∨ x = m := by
  rw [List.take_add_one, h]; simp
theorem nodup_notin {ys : List Int} (hn : ys.Nodup) {k : Nat} {m : Int} (h : ys[k]? = some m) : ∀ j, j ≤ k → ¬ m ∈ ys.take j := by
  intro j hj hm
  obtain ⟨i, hi, he⟩ := List.mem_take_iff_getElem.1 hm
  have hk := List.getElem?_eq_some_iff.1 h
  obtain ⟨hk, hk2⟩ := hk
  exact (List.pairwise_iff_getElem.1 hn) i k (by omega) hk (by omega) (he.trans hk2.symm)
theorem roF_more {ys : List Int} (hn : ys.Nodup) {q r k : Nat} {m : Int} (h : ys[k]? = some m) (x : Int) : roF ys q r (k + 1) x = if x = m then (q : Int) + (if k < r then 1 else 0) else roF ys q r k x := by
  unfold roF
  have h1 := nodup_notin hn h k (Nat.le_refl _)
  by_cases hkr : k < r
  · have e1 : min (k + 1) r = k + 1 := by omega
    have e2 : min k r = k := by omega
    rw [e1, e2]
    by_cases e : x = m
    · subst e
      have : x ∈ ys.take (k + 1) := (mem_take_succ h).2 (.inr rfl)
      simp [this, hkr]
    · have : x ∈ ys.take (k + 1) ↔ x ∈ ys.take k := by rw [mem_take_succ h]; exact ⟨fun h => h.resolve_right e, .inl⟩
      simp [this, e]
  · have e1 : min (k + 1) r = r := by omega
    have e2 : min k r = r := by omega
    rw [e1, e2]
    by_cases e : x = m
    · subst e
      have h2 : x ∈ ys.take (k + 1) := (mem_take_succ h).2 (.inr rfl)
      have h3 := nodup_notin hn h r (by omega)
      simp [h2, h3, hkr]
    · have : x ∈ ys.take (k + 1) ↔ x ∈ ys.take k := by rw [mem_take_succ h]; exact ⟨fun h => h.resolve_right e, .inl⟩
      simp [this, e]
theorem roF_all {o t : List Int} (ht : t.Pairwise (· < ·)) (x : Int) : roF (ordered o t) (o.length / t.length) (o.length % t.length) t.length x = (room o t x : Nat) := by
  unfold roF room
  have h0 : (ordered o t).take t.length = ordered o t := by rw [← ordered_len o t, List.take_length]
  rw [h0]
  by_cases hx : x ∈ t
  · have h2 : min t.length (o.length % t.length) = o.length % t.length := by
      have : 0 < t.length := List.length_pos_of_mem hx
      have := Nat.mod_lt o.length this
      omega
    rw [h2, if_pos (ordered_mem.2 hx), if_pos hx]
    have := ordered_take (o := o) ht (o.length % t.length) x
    by_cases hr : rank o t x < o.length % t.length
    · rw [if_pos (this.2 ⟨hx, hr⟩), if_pos hr]; omega
    · rw [if_neg (fun h => hr (this.1 h).2), if_neg hr]; omega
  · rw [if_neg (fun h => hx (ordered_mem.1 h)), if_neg hx]; rfl
end Go.Proofs.Ytdgnjalbpiciiaa
