/-
  RB T1 in one text.
-/
import Derived.Test.YtcbgnmolfdhnfaaRQ
import Derived.Test.YtcbgnmolfdhnfaaH7

/- RB -/
namespace Go.Proofs.Ytcbgnmolfdhnfaa
set_option linter.unusedVariables false
set_option linter.unusedSimpArgs false
open Go.RowKit

/-- What the last pair of a key has. -/
def lv (l : List Pr) (k : ByteArray) : Option ByteArray := (l.filter fun p => decide (p.1 = k)).getLast?.map (·.2)
theorem lv_snoc (l : List Pr) (p : Pr) (k : ByteArray) : lv (l ++ [p]) k = if k = p.1 then some p.2 else lv l k := by
  unfold lv
  rw [List.filter_append]
  by_cases h : k = p.1
  · subst h; simp
  · have h' : ¬ p.1 = k := fun e => h e.symm
    simp [h, h']
theorem un_lv (l : List Pr) (k : ByteArray) : look (un [] l) k = lv l k := by
  have h : ∀ n, ∀ l : List Pr, l.length = n → look (un [] l) k = lv l k := by
    intro n
    induction n with
    | zero =>
      intro l hl
      obtain rfl := List.eq_nil_of_length_eq_zero hl
      rfl
    | succ n ih =>
      intro l hl
      obtain ⟨m, p, rfl⟩ : ∃ m p, l = m ++ [p] := ⟨l.dropLast, l.getLast (fun e => by rw [e] at hl; simp at hl), (List.dropLast_concat_getLast _).symm⟩
      have e : un [] (m ++ [p]) = wi (un [] m) p := by simp [un, List.foldl_append]
      rw [e, wi_look (un_sorted m (a := []) trivial), lv_snoc, ih m (by simpa using hl)]
  exact h _ l rfl
/-- Its digits are its key's. -/
def Sd.Own (s : Sd) (x : Pl) : Prop := x.1.1 = s.at x.1.2 / 281474976710656
theorem Sd.own_mk (s : Sd) (p : Pr) : s.Own (s.mk' p) := rfl
theorem Sd.mk_own {s : Sd} {x : Pl} (h : s.Own x) : x = s.mk' (x.1.2, x.2) := by
  obtain ⟨⟨d, k⟩, v⟩ := x
  unfold Sd.Own at h
  simp only at h
  subst h
  rfl
theorem kf_last {s : Sd} {l : List Pr} {x : Pl} : (kf x.1 (l.map s.mk')).getLast? = some x ↔ s.Own x ∧ lv l x.1.2 = some x.2 := by
  unfold kf lv
  rw [List.filter_map, List.getLast?_map]
  constructor
  · intro h
    obtain ⟨p, hp, rfl⟩ := Option.map_eq_some_iff.1 h
    refine ⟨s.own_mk p, ?_⟩
    have e : (l.filter fun q => decide (q.1 = (s.mk' p).1.2)) = l.filter ((fun q : Pl => decide (q.1 = (s.mk' p).1)) ∘ s.mk') := by
      apply List.filter_congr
      intro q _
      apply decide_eq_decide.2
      constructor
      · intro e; show (s.at q.1 / _, q.1) = (s.at p.1 / _, p.1); rw [show q.1 = p.1 from e]
      · intro e; exact congrArg Prod.snd e
    rw [e, hp]; rfl
  · rintro ⟨ho, h⟩
    obtain ⟨p, hp, hv⟩ := Option.map_eq_some_iff.1 h
    have hx := Sd.mk_own ho
    have hpk : p.1 = x.1.2 := by have := (List.mem_filter.1 (List.mem_of_getLast? hp)).2; simpa using this
    have e : (l.filter fun q => decide (q.1 = x.1.2)) = l.filter ((fun q : Pl => decide (q.1 = x.1)) ∘ s.mk') := by
      apply List.filter_congr
      intro q _
      apply decide_eq_decide.2
      constructor
      · intro e
        show (s.at q.1 / _, q.1) = x.1
        rw [e]
        exact Prod.ext ho.symm rfl
      · intro e; exact congrArg Prod.snd e
    rw [← e, hp, hx]
    show some (s.mk' p) = _
    congr 1
    rw [← hpk, ← hv]
theorem sorted_pair : ∀ {R : List Pr}, Sorted R → R.Pairwise fun p q => klt p.1 q.1 = true
  | [], _ => List.Pairwise.nil
  | p :: R, h => List.pairwise_cons.2 ⟨h.1, sorted_pair h.2⟩
theorem doc_mem {s : Sd} {l : List Pr} {x : Pl} : x ∈ (un [] l).map s.mk' ↔ s.Own x ∧ lv l x.1.2 = some x.2 := by
  have hs : Sorted (un [] l) := un_sorted l trivial
  rw [List.mem_map, ← un_lv]
  constructor
  · rintro ⟨p, hp, rfl⟩
    exact ⟨s.own_mk p, look_mem hs hp⟩
  · rintro ⟨ho, h⟩
    exact ⟨_, look_some h, (Sd.mk_own ho).symm⟩
theorem place_lst (s : Sd) (l : List Pr) (hl : (isort (l.map s.mk')).length = l.length) : s.place l = lst (isort (l.map s.mk')) := by
  unfold Sd.place
  rw [← hl, lasts_all]
theorem isort_one (s : Sd) (l : List Pr) : OneKey (isort (l.map s.mk')) := fun p hp q hq e => by
  obtain ⟨p', _, rfl⟩ := List.mem_map.1 (isort_mem hp)
  obtain ⟨q', _, rfl⟩ := List.mem_map.1 (isort_mem hq)
  have e : p'.1 = q'.1 := e
  show (s.at p'.1 / _, p'.1) = (s.at q'.1 / _, q'.1)
  rw [e]
theorem place_same {s : Sd} (hs : s.Ok) (l : List Pr) (hl : (isort (l.map s.mk')).length = l.length) : s.tr 4 (s.place l) = s.tr 4 ((un [] l).map s.mk') ∧ (s.place l).length = (un [] l).length := by
  rw [place_lst s l hl]
  obtain ⟨h1, h2⟩ := lst_facts _ (isort_sortedW (l.map s.mk')) (isort_one s l)
  have hm : ∀ x, x ∈ lst (isort (l.map s.mk')) ↔ x ∈ (un [] l).map s.mk' := fun x => by
    rw [h2 x, isort_kf, kf_last, doc_mem]
  have hsr := sorted_pair (un_sorted l (a := []) trivial)
  refine ⟨tr_same s (fun c => StrictP.filter h1 _) (fun c => ?_) hm, ?_⟩
  · unfold leafOf StrictP
    rw [List.filter_map, List.pairwise_map]
    refine List.Pairwise.imp_of_mem ?_ (hsr.sublist List.filter_sublist)
    intro p q hp hq hpq
    have e1 := (List.mem_filter.1 hp).2
    have e2 := (List.mem_filter.1 hq).2
    simp only [Function.comp_apply, decide_eq_true_eq] at e1 e2
    have l1 := Sd.at_lt hs p.1
    have l2 := Sd.at_lt hs q.1
    have e : (s.mk' p).1.1 = (s.mk' q).1.1 := by
      have a1 : (s.mk' p).1.1 = s.at p.1 / 281474976710656 := rfl
      have a2 : (s.mk' q).1.1 = s.at q.1 / 281474976710656 := rfl
      have p4 : (16 : Nat) ^ 4 = 65536 := by decide
      rw [p4] at e1 e2
      omega
    unfold plt
    rw [e]
    have hk : klt (s.mk' p).1.2 (s.mk' q).1.2 = true := hpq
    simp [hk]
  · have hd1 : (lst (isort (l.map s.mk'))).Nodup := List.Pairwise.imp (fun {a b} h e => by rw [e, plt_irr] at h; cases h) h1
    have hd2 : ((un [] l).map s.mk').Nodup := by
      unfold List.Nodup
      rw [List.pairwise_map]
      exact List.Pairwise.imp (fun {a b} h e => by
        have : a.1 = b.1 := congrArg (fun z : Pl => z.1.2) e
        rw [this, klt_irr] at h; cases h) hsr
    have := ((List.perm_ext_iff_of_nodup hd1 hd2).2 hm).length_eq
    rw [List.length_map] at this
    exact this
end Go.Proofs.Ytcbgnmolfdhnfaa

/- T1 -/
namespace Go.Proofs.Ytcbgnmolfdhnfaa
set_option linter.unusedVariables false
set_option linter.unusedSimpArgs false
open Go.RowKit

/-- Strings that fit a machine. -/
def PrSz (p : Pr) : Prop := p.1.size ≤ 140737488351232 ∧ p.2.size ≤ 140737488351232
theorem slim_of {l : List Pr} (hz : ∀ p ∈ l, PrSz p) (h : ∀ p ∈ l, min p.1.size 8192 + min p.2.size 8192 ≤ 8192) : Slim l := fun p hp => by
  have h1 := hz p hp
  have h2 := h p hp
  unfold PrSz at h1
  omega
def LeafEq (n : Nat) (S T : List Pl) : Prop := ∀ c, leafOf n c S = leafOf n c T
theorem LeafEq.sub {n i : Nat} {S T : List Pl} (h : LeafEq (n + 1) S T) (hi : i < 16) : LeafEq n (sub n i S) (sub n i T) := fun c => by
  by_cases hc : c < 16 ^ n
  · rw [leaf_sub n c i S hc hi, leaf_sub n c i T hc hi, h]
  · rw [leaf_big n c _ hc, leaf_big n c _ hc]
theorem LeafEq.tr {n : Nat} {S T : List Pl} (h : LeafEq n S T) (s : Sd) : s.tr n S = s.tr n T := tr_ext s n h
/-- The part by digits. -/
def subI : Nat → List Int → List Pl → List Pl
  | n + 1, d :: p, S => subI n p (sub n d.toNat S)
  | _, _, S => S
theorem subI_nil (n : Nat) (S : List Pl) : subI n [] S = S := by cases n <;> rfl
theorem subI_snoc (d : Int) : ∀ (p : List Int) (n : Nat) (S : List Pl) (m : Nat), p.length + (m + 1) = n → subI n (p ++ [d]) S = sub m d.toNat (subI n p S)
  | [], n, S, m, h => by
    obtain rfl : n = m + 1 := by simpa using h.symm
    rw [subI_nil]
    show subI m [] _ = _
    rw [subI_nil]
  | e :: p, 0, S, m, h => by simp at h
  | e :: p, n + 1, S, m, h => by
    show subI n (p ++ [d]) _ = sub m d.toNat (subI n p _)
    exact subI_snoc d p n _ m (by simp at h; omega)
def Dig16 (p : List Int) : Prop := ∀ d ∈ p, 0 ≤ d ∧ d < 16
theorem subI_mem : ∀ (p : List Int) (n : Nat) {S T : List Pl}, (∀ x, x ∈ S ↔ x ∈ T) → ∀ x, x ∈ subI n p S ↔ x ∈ subI n p T
  | [], n, S, T, h => by rw [subI_nil, subI_nil]; exact h
  | d :: p, 0, S, T, h => h
  | d :: p, n + 1, S, T, h => by
    refine subI_mem p n fun x => ?_
    unfold Go.Proofs.Ytcbgnmolfdhnfaa.sub
    rw [List.mem_filter, List.mem_filter, h x]
theorem subI_sub : ∀ (p : List Int) (n : Nat) (S : List Pl), (subI n p S).Sublist S
  | [], n, S => by rw [subI_nil]; exact List.Sublist.refl _
  | d :: p, 0, S => List.Sublist.refl _
  | d :: p, n + 1, S => (subI_sub p n _).trans List.filter_sublist
theorem LeafEq.subI : ∀ (p : List Int) (n m : Nat) {S T : List Pl}, Dig16 p → p.length + m = n → LeafEq n S T → LeafEq m (subI n p S) (subI n p T)
  | [], n, m, S, T, _, h, hl => by
    obtain rfl : m = n := by simpa using h
    rw [subI_nil, subI_nil]; exact hl
  | d :: p, 0, m, S, T, _, h, _ => by simp at h
  | d :: p, n + 1, m, S, T, hd, h, hl => by
    have h1 := hd d (List.mem_cons_self ..)
    exact LeafEq.subI p n m (fun e he => hd e (List.mem_cons_of_mem _ he)) (by simp at h; omega) (hl.sub (by omega))
/-- The document's part is that of its list. -/
theorem mp_subI (s : Sd) (R : List Pr) : ∀ (p : List Int), Dig16 p → p.length ≤ 4 → s.mp p R = subI 4 p (R.map s.mk') := by
  have h : ∀ k, ∀ p : List Int, p.length = k → Dig16 p → p.length ≤ 4 → s.mp p R = subI 4 p (R.map s.mk') := by
    intro k
    induction k with
    | zero =>
      intro p hp _ _
      obtain rfl := List.eq_nil_of_length_eq_zero hp
      unfold Sd.mp Sd.inR
      rw [subI_nil]
      congr 1
      exact List.filter_eq_self.2 fun x _ => rfl
    | succ k ih =>
      intro p hp hd h4
      obtain ⟨q, d, rfl⟩ : ∃ q d, p = q ++ [d] := ⟨p.dropLast, p.getLast (fun e => by rw [e] at hp; simp at hp), (List.dropLast_concat_getLast _).symm⟩
      have hq : q.length = k := by simpa using hp
      obtain ⟨m, hm⟩ : ∃ m, q.length + (m + 1) = 4 := ⟨3 - q.length, by simp at h4; omega⟩
      have hd1 := hd d (by simp)
      have e : d = ((d.toNat : Nat) : Int) := by omega
      rw [subI_snoc d q 4 _ m hm, ← ih q hq (fun x hx => hd x (by simp [hx])) (by simp at h4; omega)]
      have := mp_app s q R (n := m) (i := d.toNat) hm
      rwa [← e] at this
  exact fun p => h _ p rfl
theorem place_mem_doc {s : Sd} (l : List Pr) : ∀ x, x ∈ s.place l ↔ x ∈ (un [] l).map s.mk' := by
  rw [place_lst s l (by rw [isort_length, List.length_map])]
  obtain ⟨h1, h2⟩ := lst_facts _ (isort_sortedW (l.map s.mk')) (isort_one s l)
  intro x
  rw [h2 x, isort_kf, kf_last, doc_mem]
theorem place_leaf {s : Sd} (hs : s.Ok) (l : List Pr) : LeafEq 4 (s.place l) ((un [] l).map s.mk') := by
  have hm := place_mem_doc (s := s) l
  rw [place_lst s l (by rw [isort_length, List.length_map])] at hm ⊢
  obtain ⟨h1, h2⟩ := lst_facts _ (isort_sortedW (l.map s.mk')) (isort_one s l)
  have hsr := sorted_pair (un_sorted l (a := []) trivial)
  intro c
  refine strict_ext (StrictP.filter h1 _) ?_ fun p => by
    unfold leafOf
    rw [List.mem_filter, List.mem_filter, hm p]
  unfold leafOf StrictP
  rw [List.filter_map, List.pairwise_map]
  refine List.Pairwise.imp_of_mem ?_ (hsr.sublist List.filter_sublist)
  intro p q hp hq hpq
  have e1 := (List.mem_filter.1 hp).2
  have e2 := (List.mem_filter.1 hq).2
  simp only [Function.comp_apply, decide_eq_true_eq] at e1 e2
  have l1 := Sd.at_lt hs p.1
  have l2 := Sd.at_lt hs q.1
  have e : (s.mk' p).1.1 = (s.mk' q).1.1 := by
    have a1 : (s.mk' p).1.1 = s.at p.1 / 281474976710656 := rfl
    have a2 : (s.mk' q).1.1 = s.at q.1 / 281474976710656 := rfl
    have p4 : (16 : Nat) ^ 4 = 65536 := by decide
    rw [p4] at e1 e2
    omega
  unfold plt
  rw [e]
  have hk : klt (s.mk' p).1.2 (s.mk' q).1.2 = true := hpq
  simp [hk]
/-- The digest of a part, and its pairs, by both. -/
theorem part_tr {s : Sd} (hs : s.Ok) (l : List Pr) {p : List Int} {n : Nat} (hd : Dig16 p) (hp : p.length + n = 4) : s.tr n (subI 4 p (s.place l)) = s.tr n (s.mp p (un [] l)) := by
  rw [mp_subI s _ p hd (by omega)]
  exact (LeafEq.subI p 4 n hd hp (place_leaf hs l)).tr s
/-- A placed pair's pair. -/
def prOf (x : Pl) : Pr := (x.1.2, x.2)
theorem prOf_mk (s : Sd) (p : Pr) : prOf (s.mk' p) = p := rfl
theorem part_mem {s : Sd} (l : List Pr) {p : List Int} (hd : Dig16 p) (hp : p.length ≤ 4) (x : Pr) : x ∈ (subI 4 p (s.place l)).map prOf ↔ x ∈ s.inR p (un [] l) := by
  have h := subI_mem p 4 (place_mem_doc (s := s) l)
  have e := mp_subI s (un [] l) p hd hp
  constructor
  · intro hx
    obtain ⟨y, hy, rfl⟩ := List.mem_map.1 hx
    have hy2 := (h y).1 hy
    rw [← e] at hy2
    obtain ⟨q, hq, rfl⟩ := List.mem_map.1 hy2
    exact hq
  · intro hx
    refine List.mem_map.2 ⟨s.mk' x, (h _).2 ?_, rfl⟩
    rw [← e]
    exact List.mem_map.2 ⟨x, hx, rfl⟩
theorem inR_sorted {s : Sd} {p : List Int} {R : List Pr} (h : Sorted R) : Sorted (s.inR p R) := filter_sorted h _
theorem place_nodup (s : Sd) (l : List Pr) : (s.place l).Nodup := by
  rw [place_lst s l (by rw [isort_length, List.length_map])]
  obtain ⟨h1, _⟩ := lst_facts _ (isort_sortedW (l.map s.mk')) (isort_one s l)
  exact List.Pairwise.imp (fun {a b} h e => by rw [e, plt_irr] at h; cases h) h1
theorem place_own {s : Sd} {l : List Pr} {x : Pl} (h : x ∈ s.place l) : s.Own x := by
  obtain ⟨q, _, rfl⟩ := Sd.place_mem h
  exact s.own_mk q
/-- As many. -/
theorem part_len {s : Sd} (l : List Pr) {p : List Int} (hd : Dig16 p) (hp : p.length ≤ 4) : (subI 4 p (s.place l)).length = (s.inR p (un [] l)).length := by
  have hd1 : (subI 4 p (s.place l)).Nodup := (place_nodup s l).sublist (subI_sub p 4 _)
  have hsr := sorted_pair (inR_sorted (s := s) (p := p) (un_sorted l (a := []) trivial))
  have hd2 : ((s.inR p (un [] l)).map s.mk').Nodup := by
    unfold List.Nodup
    rw [List.pairwise_map]
    exact List.Pairwise.imp (fun {a b} h e => by
      have : a.1 = b.1 := congrArg (fun z : Pl => z.1.2) e
      rw [this, klt_irr] at h; cases h) hsr
  have hm : ∀ x, x ∈ subI 4 p (s.place l) ↔ x ∈ (s.inR p (un [] l)).map s.mk' := fun x => by
    rw [subI_mem p 4 (place_mem_doc (s := s) l) x, ← mp_subI s _ p hd hp]; rfl
  have := ((List.perm_ext_iff_of_nodup hd1 hd2).2 hm).length_eq
  rw [List.length_map] at this
  exact this
theorem filter_none' {f : Pl → Nat} (S : List Pl) : (S.filter fun p => decide (f p < 0)) = [] := List.filter_eq_nil_iff.2 fun p _ => by simp
/-- The digits part a part. -/
theorem sub_sum (n : Nat) (S : List Pl) : ∀ k, k ≤ 16 → ((List.range k).map fun i => (sub n i S).length).sum = (S.filter fun p => decide (dgt n p < k)).length
  | 0, _ => by rw [filter_none' S]; rfl
  | k + 1, h => by
    rw [List.range_succ, List.map_append, List.sum_append, sub_sum n S k (by omega)]
    simp only [List.map_cons, List.map_nil, List.sum_cons, List.sum_nil, Nat.add_zero]
    unfold sub
    induction S with
    | nil => rfl
    | cons p S ih =>
      rw [List.filter_cons, List.filter_cons, List.filter_cons]
      rcases Nat.lt_trichotomy (dgt n p) k with h1 | h1 | h1
      · rw [if_pos (by simpa using h1), if_neg (by simp; omega), if_pos (by simp; omega)]
        simp only [List.length_cons]
        omega
      · rw [if_neg (by simp; omega), if_pos (by simp; omega), if_pos (by simp; omega)]
        simp only [List.length_cons]
        omega
      · rw [if_neg (by simp; omega), if_neg (by simp; omega), if_neg (by simp; omega)]
        exact ih
theorem sub_all (n : Nat) (S : List Pl) : ((List.range 16).map fun i => (sub n i S).length).sum = S.length := by
  rw [sub_sum n S 16 (Nat.le_refl _), List.filter_eq_self.2 fun p _ => by simpa using dgt_lt n p]
end Go.Proofs.Ytcbgnmolfdhnfaa
