/-
  Parts shared as evenly as can be: plain facts.
-/
import Derived.WalkKit
namespace Go.Proofs.Ytdgnjalbpiciiaa
set_option linter.unusedVariables false
set_option linter.unusedSimpArgs false

/-- Who stands ahead when one part more is given: who has more parts; of as many the lesser one. -/
def better (o : List Int) (x m : Int) : Bool := decide (o.count m < o.count x ∨ (o.count x = o.count m ∧ x < m))
def rank (o t : List Int) (m : Int) : Nat := t.countP (fun x => better o x m)
def room (o t : List Int) (m : Int) : Nat := if m ∈ t then o.length / t.length + (if rank o t m < o.length % t.length then 1 else 0) else 0
theorem better_irr (o : List Int) (x : Int) : better o x x = false := by simp [better]
theorem better_trans {o : List Int} {x y z : Int} (h1 : better o x y = true) (h2 : better o y z = true) : better o x z = true := by
  simp only [better, decide_eq_true_eq] at *; omega
theorem better_asym {o : List Int} {x y : Int} (h1 : better o x y = true) : better o y x = false := by
  simp only [better, decide_eq_true_eq, decide_eq_false_iff_not] at *; omega
theorem better_total {o : List Int} {x y : Int} (h : x ≠ y) (h1 : better o x y = false) : better o y x = true := by
  simp only [better, decide_eq_true_eq, decide_eq_false_iff_not] at *; omega

theorem countP_lt {l : List Int} {p q : Int → Bool} (h : ∀ x ∈ l, q x = true → p x = true) {i : Int} (hi : i ∈ l) (hp : p i = true) (hq : q i = false) : l.countP q < l.countP p := by
  induction l with
  | nil => cases hi
  | cons x l ih =>
    have hl := List.countP_mono_left (l := l) (p := q) (q := p) (fun y hy => h y (List.mem_cons_of_mem _ hy))
    rw [List.countP_cons, List.countP_cons]
    rcases List.mem_cons.1 hi with rfl | hi'
    · rw [hp, hq]; simp; omega
    · have := ih (fun y hy => h y (List.mem_cons_of_mem _ hy)) hi'
      have h0 := h x (List.mem_cons_self ..)
      cases hqx : q x with
      | true => rw [h0 hqx]; simpa using this
      | false => cases p x <;> simp <;> omega
theorem rank_lt_of_better {o t : List Int} {x m : Int} (hx : x ∈ t) (h : better o x m = true) : rank o t x < rank o t m :=
  countP_lt (fun y _ hy => better_trans hy h) hx h (better_irr o x)
theorem rank_lt {o t : List Int} {m : Int} (hm : m ∈ t) : rank o t m < t.length := by
  have := countP_lt (l := t) (p := fun _ => true) (q := fun x => better o x m) (fun _ _ _ => rfl) hm rfl (better_irr o m)
  simpa [rank] using this
theorem better_iff {o t : List Int} {x m : Int} (hx : x ∈ t) (hm : m ∈ t) : better o x m = true ↔ rank o t x < rank o t m := by
  constructor
  · exact rank_lt_of_better hx
  · intro h
    cases hb : better o x m with
    | true => rfl
    | false =>
      by_cases e : x = m
      · subst e; omega
      · have := rank_lt_of_better hm (better_total e hb); omega

/-- If so many have been taken, those that are best, the best of the others comes next. -/
theorem rank_next {o t : List Int} {k : Nat} {E : Int → Bool} (hE : ∀ x ∈ t, E x = true ↔ rank o t x < k) (hk : t.countP E = k) {b : Int} (hb : b ∈ t) (hbE : E b = false) (hbest : ∀ x ∈ t, E x = false → x ≠ b → better o b x = true) : rank o t b = k := by
  have h1 : ∀ x ∈ t, better o x b = E x := by
    intro x hx
    cases he : E x with
    | true =>
      have h2 := (hE x hx).1 he
      have h3 : ¬ rank o t b < k := fun h => by rw [(hE b hb).2 h] at hbE; cases hbE
      exact (better_iff hx hb).2 (by omega)
    | false =>
      by_cases e : x = b
      · subst e; exact better_irr o x
      · exact better_asym (hbest x hx he e)
  rw [← hk]
  exact List.countP_congr (fun x hx => by rw [h1 x hx])
/-- The best of those that are left. -/
theorem best_ex (o : List Int) : ∀ (l : List Int), l ≠ [] → ∃ b ∈ l, ∀ x ∈ l, x ≠ b → better o b x = true
  | [], h => absurd rfl h
  | [a], _ => ⟨a, by simp, fun x hx hne => by simp at hx; exact absurd hx hne⟩
  | a :: c :: l, _ => by
    obtain ⟨b, hb, hbest⟩ := best_ex o (c :: l) (by simp)
    cases h : better o a b with
    | true =>
      refine ⟨a, by simp, fun x hx hne => ?_⟩
      rcases List.mem_cons.1 hx with e | hx
      · exact absurd e hne
      · by_cases e : x = b
        · subst e; exact h
        · exact better_trans h (hbest x hx e)
    | false =>
      by_cases e : a = b
      · refine ⟨b, List.mem_cons_of_mem _ hb, fun x hx hne => ?_⟩
        rcases List.mem_cons.1 hx with e' | hx
        · exact absurd (e'.trans e) hne
        · exact hbest x hx hne
      · refine ⟨b, List.mem_cons_of_mem _ hb, fun x hx hne => ?_⟩
        rcases List.mem_cons.1 hx with e' | hx
        · subst e'; exact better_total e h
        · exact hbest x hx hne
theorem count_one {t : List Int} (hn : t.Nodup) {m : Int} (hm : m ∈ t) : t.countP (fun x => decide (x = m)) = 1 := by
  have h1 := List.nodup_iff_count.1 hn m
  have h2 := List.count_pos_iff.2 hm
  have : t.countP (fun x => decide (x = m)) = t.count m := by
    unfold List.count
    exact List.countP_congr (fun x _ => by simp)
  omega
theorem count0 {m x : Int} (h : ¬ m = x) : [x].count m = 0 := by
  rw [List.count_eq_zero]; simpa using h
theorem countP_or {t : List Int} {p q : Int → Bool} (h : ∀ x ∈ t, ¬ (p x = true ∧ q x = true)) : t.countP (fun x => p x || q x) = t.countP p + t.countP q := by
  induction t with
  | nil => rfl
  | cons x t ih =>
    have := ih fun y hy => h y (List.mem_cons_of_mem _ hy)
    have hx := h x (List.mem_cons_self ..)
    simp only [List.countP_cons, this]
    cases hp : p x <;> cases hq : q x <;> simp_all <;> omega
/-- As many have a rank below k. -/
theorem rank_count {o t : List Int} (hn : t.Nodup) : ∀ k, k ≤ t.length → t.countP (fun x => decide (rank o t x < k)) = k
  | 0, _ => by simp
  | k + 1, hk => by
    have ih := rank_count (o := o) hn k (by omega)
    have hne : t.filter (fun x => !decide (rank o t x < k)) ≠ [] := by
      intro e
      have : t.countP (fun x => decide (rank o t x < k)) = t.length := List.countP_eq_length.2 fun x hx => by
        rw [List.filter_eq_nil_iff] at e
        have := e x hx
        simpa using this
      omega
    obtain ⟨b, hb, hbest⟩ := best_ex o _ hne
    simp only [List.mem_filter] at hb hbest
    have hr := rank_next (o := o) (t := t) (k := k) (E := fun x => decide (rank o t x < k)) (fun x _ => by simp) ih hb.1 (by simpa using hb.2) (fun x hx he hne => hbest x ⟨hx, by simpa using he⟩ hne)
    have : t.countP (fun x => decide (rank o t x < k + 1)) = t.countP (fun x => decide (rank o t x < k) || decide (x = b)) := by
      refine List.countP_congr fun x hx => ?_
      simp only [decide_eq_true_eq, Bool.or_eq_true]
      constructor
      · intro h
        by_cases e : x = b
        · exact .inr e
        · by_cases h' : rank o t x < k
          · exact .inl h'
          · have := (better_iff hb.1 hx).1 (hbest x ⟨hx, by simpa using h'⟩ e)
            omega
      · rintro (h | rfl)
        · omega
        · omega
    rw [this, countP_or (fun x _ => by simp only [decide_eq_true_eq]; rintro ⟨h, rfl⟩; omega), ih, count_one hn hb.1]

/-- The sum of what each has. -/
def mass (R : Int → Nat) (t : List Int) : Nat := (t.map R).sum
theorem mass_cons (R : Int → Nat) (x : Int) (t : List Int) : mass R (x :: t) = R x + mass R t := by simp [mass]
theorem mass_eq {R S : Int → Nat} {t : List Int} (h : ∀ x ∈ t, R x = S x) : mass R t = mass S t := by
  unfold mass
  rw [List.map_congr_left h]
theorem mass_const (n : Nat) (t : List Int) : mass (fun _ => n) t = n * t.length := by
  induction t with
  | nil => simp [mass]
  | cons x t ih => rw [mass_cons, ih, List.length_cons, Nat.mul_succ]; omega
theorem mass_add (R S : Int → Nat) (t : List Int) : mass (fun x => R x + S x) t = mass R t + mass S t := by
  induction t with
  | nil => simp [mass]
  | cons x t ih => rw [mass_cons, mass_cons, mass_cons, ih]; omega
theorem mass_le {R S : Int → Nat} {t : List Int} (h : ∀ x ∈ t, R x ≤ S x) : mass R t ≤ mass S t := by
  induction t with
  | nil => simp [mass]
  | cons x t ih =>
    rw [mass_cons, mass_cons]
    have := ih fun y hy => h y (List.mem_cons_of_mem _ hy)
    have := h x (List.mem_cons_self ..)
    omega
theorem mass_ind (p : Int → Bool) (t : List Int) : mass (fun x => if p x = true then 1 else 0) t = t.countP p := by
  induction t with
  | nil => simp [mass]
  | cons x t ih => rw [mass_cons, ih, List.countP_cons]; cases p x <;> simp <;> omega
theorem mass_pos {R : Int → Nat} : ∀ {t : List Int}, 0 < mass R t → ∃ x ∈ t, 0 < R x
  | [], h => by simp [mass] at h
  | x :: t, h => by
    rw [mass_cons] at h
    by_cases e : 0 < R x
    · exact ⟨x, by simp, e⟩
    · obtain ⟨y, hy, hr⟩ := mass_pos (R := R) (t := t) (by omega)
      exact ⟨y, List.mem_cons_of_mem _ hy, hr⟩
def dec (R : Int → Nat) (x : Int) : Int → Nat := fun m => if m = x then R m - 1 else R m
theorem mass_dec {R : Int → Nat} {x : Int} : ∀ {t : List Int}, t.Nodup → x ∈ t → 0 < R x → mass (dec R x) t + 1 = mass R t
  | [], _, h, _ => by cases h
  | y :: t, hn, h, hr => by
    obtain ⟨h1, h2⟩ := List.nodup_cons.1 hn
    rw [mass_cons, mass_cons]
    by_cases e : y = x
    · subst e
      have : mass (dec R y) t = mass R t := mass_eq fun z hz => by
        unfold dec; rw [if_neg (fun e => by subst e; exact h1 hz)]
      rw [this]; unfold dec; rw [if_pos rfl]; omega
    · have hx : x ∈ t := by
        rcases List.mem_cons.1 h with e' | h
        · exact absurd e'.symm e
        · exact h
      have := mass_dec (R := R) h2 hx hr
      have e2 : dec R x y = R y := by unfold dec; rw [if_neg e]
      omega
theorem room_mass {o t : List Int} (hn : t.Nodup) (hne : t ≠ []) : mass (room o t) t = o.length := by
  have h0 : 0 < t.length := List.length_pos_iff.2 hne
  have h1 : mass (room o t) t = mass (fun x => o.length / t.length + (if decide (rank o t x < o.length % t.length) = true then 1 else 0)) t := mass_eq fun x hx => by
    unfold room; rw [if_pos hx]; simp
  rw [h1, mass_add, mass_const, mass_ind, rank_count hn _ (Nat.le_of_lt (Nat.mod_lt _ h0))]
  rw [Nat.mul_comm]; exact Nat.div_add_mod _ _

/-- One part of the first pass: who has it keeps it, if there is room. -/
def st1 (s : (Int → Nat) × List Int) (x : Int) : (Int → Nat) × List Int := if 0 < s.1 x then (dec s.1 x, s.2 ++ [x]) else (s.1, s.2 ++ [0])
def p1 (R : Int → Nat) (o : List Int) : (Int → Nat) × List Int := o.foldl st1 (R, [])
theorem p1_snoc (R : Int → Nat) (l : List Int) (x : Int) : p1 R (l ++ [x]) = st1 (p1 R l) x := by unfold p1; rw [List.foldl_append]; rfl
theorem p1_step (R : Int → Nat) {o : List Int} {k : Nat} {x : Int} (h : o[k]? = some x) : p1 R (o.take (k + 1)) = st1 (p1 R (o.take k)) x := by
  rw [List.take_add_one, h]; exact p1_snoc R _ x
/-- The first of a team who may have one more. -/
def pick (t : List Int) (R : Int → Nat) : Int := (t.find? (fun m => decide (0 < R m))).getD 0
def st2 (t : List Int) (s : (Int → Nat) × List Int) (x : Int) : (Int → Nat) × List Int := if 0 < x then (s.1, s.2 ++ [x]) else (dec s.1 (pick t s.1), s.2 ++ [pick t s.1])
def p2 (t : List Int) (R : Int → Nat) (l : List Int) : (Int → Nat) × List Int := l.foldl (st2 t) (R, [])
theorem p2_snoc (t : List Int) (R : Int → Nat) (l : List Int) (x : Int) : p2 t R (l ++ [x]) = st2 t (p2 t R l) x := by unfold p2; rw [List.foldl_append]; rfl
theorem p2_step (t : List Int) (R : Int → Nat) {l : List Int} {k : Nat} {x : Int} (h : l[k]? = some x) : p2 t R (l.take (k + 1)) = st2 t (p2 t R (l.take k)) x := by
  rw [List.take_add_one, h]; exact p2_snoc t R _ x
/-- Who has which part. -/
def share (o t : List Int) : List Int := if t = [] then List.replicate o.length 0 else (p2 t (p1 (room o t) o).1 (p1 (room o t) o).2).2

theorem revI {α : Type} {P : List α → Prop} (h0 : P []) (hs : ∀ l x, P l → P (l ++ [x])) (l : List α) : P l := by
  have h : ∀ l : List α, P l.reverse := by
    intro l
    induction l with
    | nil => exact h0
    | cons x l ih => rw [List.reverse_cons]; exact hs _ _ ih
  have := h l.reverse
  rwa [List.reverse_reverse] at this
theorem pick_of {t : List Int} {R : Int → Nat} (h : 0 < mass R t) : pick t R ∈ t ∧ 0 < R (pick t R) := by
  obtain ⟨x, hx, hr⟩ := mass_pos h
  unfold pick
  cases hf : t.find? (fun m => decide (0 < R m)) with
  | none => have := List.find?_eq_none.1 hf x hx; simp at this; omega
  | some y => exact ⟨List.mem_of_find?_eq_some hf, by simpa using List.find?_some hf⟩

/-- What the first pass leaves: each part 0 or its owner's; room and what was given. -/
structure One (R : Int → Nat) (t l : List Int) : Prop where
  len : (p1 R l).2.length = l.length
  each : ∀ (i : Nat) (x : Int), l[i]? = some x → (p1 R l).2[i]? = some x ∨ (p1 R l).2[i]? = some 0
  mem : ∀ x ∈ (p1 R l).2, x = 0 ∨ x ∈ t
  supp : ∀ x, 0 < (p1 R l).1 x → x ∈ t
  left : ∀ m ∈ t, (p1 R l).1 m + (p1 R l).2.count m = R m
  got : ∀ m ∈ t, (p1 R l).2.count m = min (l.count m) (R m)
  tot : mass (p1 R l).1 t + ((p1 R l).2.countP (fun x => decide (0 < x))) = mass R t
theorem one_any {R : Int → Nat} {t : List Int} (hn : t.Nodup) (hp : ∀ x ∈ t, 0 < x) (hs : ∀ x, 0 < R x → x ∈ t) (l : List Int) : One R t l := by
  refine revI (P := One R t) ?_ ?_ l
  · exact ⟨rfl, (fun i x h => by simp at h), (fun x h => by cases h), fun x h => hs x h, fun m _ => by simp [p1], fun m _ => by simp [p1], by simp [p1]⟩
  · intro l x h
    have hx : p1 R (l ++ [x]) = st1 (p1 R l) x := p1_snoc R l x
    obtain ⟨h1, h2, h3, h4, h5, h6, h7⟩ := h
    by_cases hr : 0 < (p1 R l).1 x
    · have e : p1 R (l ++ [x]) = (dec (p1 R l).1 x, (p1 R l).2 ++ [x]) := by rw [hx, st1, if_pos hr]
      have hxt := h4 x hr
      refine ⟨by rw [e]; simp [h1], fun i y hy => ?_, fun y hy => ?_, fun y hy => ?_, fun m hm => ?_, fun m hm => ?_, ?_⟩
      · rw [e]
        rcases Nat.lt_or_ge i l.length with hi | hi
        · rw [List.getElem?_append_left hi] at hy
          rw [List.getElem?_append_left (by simpa [h1] using hi)]
          exact h2 i y hy
        · rw [List.getElem?_append_right hi] at hy
          rw [List.getElem?_append_right (by simpa [h1] using hi)]
          left
          show ([x] : List Int)[i - (p1 R l).2.length]? = _
          rw [h1]; exact hy
      · rw [e] at hy
        rcases List.mem_append.1 hy with hy | hy
        · exact h3 y hy
        · rw [List.mem_singleton.1 hy]; exact .inr hxt
      · rw [e] at hy
        refine h4 y ?_
        unfold dec at hy
        simp only at hy
        split at hy <;> omega
      · rw [e]
        have := h5 m hm
        simp only [List.count_append, dec]
        by_cases em : m = x
        · subst em; rw [if_pos rfl]; simp; omega
        · rw [if_neg em, count0 em]; omega
      · rw [e]
        have h5' := h5 m hm
        have h6' := h6 m hm
        simp only [List.count_append]
        by_cases em : m = x
        · subst em; simp; omega
        · rw [count0 em]; simpa using h6'
      · rw [e]
        have := mass_dec hn hxt hr
        have hx0 := hp x hxt
        rw [List.countP_append]
        simp [hx0]; omega
    · have e : p1 R (l ++ [x]) = ((p1 R l).1, (p1 R l).2 ++ [0]) := by rw [hx, st1, if_neg hr]
      refine ⟨by rw [e]; simp [h1], fun i y hy => ?_, fun y hy => ?_, fun y hy => ?_, fun m hm => ?_, fun m hm => ?_, ?_⟩
      · rw [e]
        rcases Nat.lt_or_ge i l.length with hi | hi
        · rw [List.getElem?_append_left hi] at hy
          rw [List.getElem?_append_left (by simpa [h1] using hi)]
          exact h2 i y hy
        · have hi2 := (List.getElem?_eq_some_iff.1 hy).1
          simp at hi2
          obtain rfl : i = l.length := by omega
          right
          show ((p1 R l).2 ++ [0])[l.length]? = _
          rw [List.getElem?_append_right (by omega), h1]; simp
      · rw [e] at hy
        rcases List.mem_append.1 hy with hy | hy
        · exact h3 y hy
        · rw [List.mem_singleton.1 hy]; exact .inl rfl
      · rw [e] at hy; exact h4 y hy
      · rw [e]
        have := h5 m hm
        have := hp m hm
        simp only [List.count_append]
        rw [count0 (m := m) (x := 0) (by omega)]; omega
      · rw [e]
        have h5' := h5 m hm
        have h6' := h6 m hm
        have := hp m hm
        simp only [List.count_append]
        rw [count0 (m := m) (x := 0) (by omega)]
        by_cases em : m = x
        · subst em; simp; omega
        · rw [count0 em]; omega
      · rw [e]
        rw [List.countP_append]
        simp; omega

/-- What the second pass leaves, as long as there was room enough. -/
structure Two (R : Int → Nat) (t l : List Int) : Prop where
  len : (p2 t R l).2.length = l.length
  each : ∀ (i : Nat) (x : Int), l[i]? = some x → 0 < x → (p2 t R l).2[i]? = some x
  mem : ∀ x ∈ (p2 t R l).2, x ∈ t
  supp : ∀ x, 0 < (p2 t R l).1 x → x ∈ t
  left : ∀ m ∈ t, (p2 t R l).1 m + (p2 t R l).2.count m = R m + l.count m
  tot : mass (p2 t R l).1 t + l.countP (fun x => decide (x = 0)) = mass R t
theorem two_any {R : Int → Nat} {t : List Int} (hn : t.Nodup) (hp : ∀ x ∈ t, 0 < x) (hs : ∀ x, 0 < R x → x ∈ t) (l : List Int) : (∀ x ∈ l, x = 0 ∨ x ∈ t) → l.countP (fun x => decide (x = 0)) ≤ mass R t → Two R t l := by
  refine revI (P := fun l => (∀ x ∈ l, x = 0 ∨ x ∈ t) → l.countP (fun x => decide (x = 0)) ≤ mass R t → Two R t l) ?_ ?_ l
  · intro _ _
    exact ⟨rfl, (fun i x h => by simp at h), (fun x h => by cases h), fun x h => hs x h, fun m _ => by simp [p2], by simp [p2]⟩
  · intro l x ih hm hle
    rw [List.countP_append] at hle
    obtain ⟨h1, h2, h3, h4, h5, h7⟩ := ih (fun y hy => hm y (List.mem_append.2 (.inl hy))) (by omega)
    have hx : p2 t R (l ++ [x]) = st2 t (p2 t R l) x := p2_snoc t R l x
    by_cases hr : 0 < x
    · have hxt : x ∈ t := (hm x (by simp)).resolve_left (by omega)
      have hx0 : ¬ x = 0 := by omega
      have e : p2 t R (l ++ [x]) = ((p2 t R l).1, (p2 t R l).2 ++ [x]) := by rw [hx, st2, if_pos hr]
      refine ⟨by rw [e]; simp [h1], fun i y hy hy0 => ?_, fun y hy => ?_, fun y hy => ?_, fun m hm => ?_, ?_⟩
      · rw [e]
        rcases Nat.lt_or_ge i l.length with hi | hi
        · rw [List.getElem?_append_left hi] at hy
          rw [List.getElem?_append_left (by simpa [h1] using hi)]
          exact h2 i y hy hy0
        · rw [List.getElem?_append_right hi] at hy
          rw [List.getElem?_append_right (by simpa [h1] using hi)]
          show ([x] : List Int)[i - (p2 t R l).2.length]? = _
          rw [h1]; exact hy
      · rw [e] at hy
        rcases List.mem_append.1 hy with hy | hy
        · exact h3 y hy
        · rw [List.mem_singleton.1 hy]; exact hxt
      · rw [e] at hy; exact h4 y hy
      · rw [e]
        have := h5 m hm
        simp only [List.count_append]
        omega
      · rw [e, List.countP_append]
        simp [hx0]; omega
    · have hx0 : x = 0 := (hm x (by simp)).elim id fun h => by have := hp x h; omega
      subst hx0
      have hpos : 0 < mass (p2 t R l).1 t := by simp at hle; omega
      obtain ⟨hq, hq0⟩ := pick_of hpos
      have e : p2 t R (l ++ [0]) = (dec (p2 t R l).1 (pick t (p2 t R l).1), (p2 t R l).2 ++ [pick t (p2 t R l).1]) := by rw [hx, st2, if_neg hr]
      generalize pick t (p2 t R l).1 = q at *
      refine ⟨by rw [e]; simp [h1], fun i y hy hy0 => ?_, fun y hy => ?_, fun y hy => ?_, fun m hm => ?_, ?_⟩
      · rw [e]
        rcases Nat.lt_or_ge i l.length with hi | hi
        · rw [List.getElem?_append_left hi] at hy
          rw [List.getElem?_append_left (by simpa [h1] using hi)]
          exact h2 i y hy hy0
        · have hi2 := (List.getElem?_eq_some_iff.1 hy).1
          simp at hi2
          obtain rfl : i = l.length := by omega
          simp at hy; omega
      · rw [e] at hy
        rcases List.mem_append.1 hy with hy | hy
        · exact h3 y hy
        · rw [List.mem_singleton.1 hy]; exact hq
      · rw [e] at hy
        refine h4 y ?_
        unfold dec at hy
        simp only at hy
        split at hy <;> omega
      · rw [e]
        have := h5 m hm
        have hm0 := hp m hm
        simp only [List.count_append, dec]
        rw [count0 (m := m) (x := 0) (by omega)]
        by_cases em : m = q
        · subst em; rw [if_pos rfl]; simp; omega
        · rw [if_neg em, count0 (x := q) em]; omega
      · rw [e, List.countP_append]
        have := mass_dec hn hq hq0
        simp; omega
theorem room_supp {o t : List Int} (x : Int) (h : 0 < room o t x) : x ∈ t := by
  unfold room at h
  split at h
  · assumption
  · omega
theorem zeros_pos {t l : List Int} (hp : ∀ x ∈ t, 0 < x) (h : ∀ x ∈ l, x = 0 ∨ x ∈ t) : l.countP (fun x => decide (x = 0)) + l.countP (fun x => decide (0 < x)) = l.length := by
  induction l with
  | nil => rfl
  | cons x l ih =>
    have := ih fun y hy => h y (List.mem_cons_of_mem _ hy)
    rw [List.countP_cons, List.countP_cons, List.length_cons]
    rcases h x (List.mem_cons_self ..) with rfl | hx
    · simp; omega
    · have := hp x hx
      have h0 : ¬ x = 0 := by omega
      simp [h0, this]; omega

/-- Both passes: what there is room for, all of it is given. -/
theorem passes {o t : List Int} (hn : t.Nodup) (hne : t ≠ []) (hp : ∀ x ∈ t, 0 < x) :
    One (room o t) t o ∧ Two (p1 (room o t) o).1 t (p1 (room o t) o).2 ∧ mass (p1 (room o t) o).1 t = (p1 (room o t) o).2.countP (fun x => decide (x = 0)) := by
  have h1 := one_any hn hp (R := room o t) (fun x h => room_supp x h) o
  have h2 := h1.tot
  rw [room_mass hn hne] at h2
  have h3 := zeros_pos hp h1.mem
  rw [h1.len] at h3
  have h4 : mass (p1 (room o t) o).1 t = (p1 (room o t) o).2.countP (fun x => decide (x = 0)) := by omega
  exact ⟨h1, two_any hn hp h1.supp _ h1.mem (by omega), h4⟩
theorem mass_zero {R : Int → Nat} {t : List Int} (h : mass R t = 0) : ∀ x ∈ t, R x = 0 := by
  induction t with
  | nil => intro x hx; cases hx
  | cons y t ih =>
    rw [mass_cons] at h
    intro x hx
    rcases List.mem_cons.1 hx with rfl | hx
    · omega
    · exact ih (by omega) x hx
theorem share_len (o : List Int) {t : List Int} (hn : t.Nodup) (hp : ∀ x ∈ t, 0 < x) : (share o t).length = o.length := by
  unfold share
  split
  · simp
  · rename_i h
    obtain ⟨h1, h2, _⟩ := passes (o := o) hn h hp
    rw [h2.len, h1.len]
theorem share_mem (o : List Int) {t : List Int} (hn : t.Nodup) (hne : t ≠ []) (hp : ∀ x ∈ t, 0 < x) : ∀ x ∈ share o t, x ∈ t := by
  unfold share
  rw [if_neg hne]
  exact (passes (o := o) hn hne hp).2.1.mem
theorem share_count (o : List Int) {t : List Int} (hn : t.Nodup) (hne : t ≠ []) (hp : ∀ x ∈ t, 0 < x) : ∀ m ∈ t, (share o t).count m = room o t m := by
  intro m hm
  obtain ⟨h1, h2, h3⟩ := passes (o := o) hn hne hp
  unfold share
  rw [if_neg hne]
  have h4 := h2.left m hm
  have h5 := h1.left m hm
  have h6 := h2.tot
  have h7 := mass_zero (R := (p2 t (p1 (room o t) o).1 (p1 (room o t) o).2).1) (t := t) (by omega) m hm
  omega

/-! even -/
theorem share_even (o : List Int) {t : List Int} (hn : t.Nodup) (hne : t ≠ []) (hp : ∀ x ∈ t, 0 < x) : ∀ m ∈ t, o.length / t.length ≤ (share o t).count m ∧ (share o t).count m ≤ o.length / t.length + 1 := by
  intro m hm
  rw [share_count o hn hne hp m hm]
  unfold room
  rw [if_pos hm]
  split <;> omega

/-! still -/
/-- How many places two lists have alike. -/
def alike : List Int → List Int → Nat
  | x :: a, y :: b => (if x = y then 1 else 0) + alike a b
  | _, _ => 0
theorem alike_snoc : ∀ (a b : List Int) (x y : Int), a.length = b.length → alike (a ++ [x]) (b ++ [y]) = alike a b + (if x = y then 1 else 0)
  | [], [], x, y, _ => by simp [alike]
  | [], _ :: _, _, _, h => by simp at h
  | _ :: _, [], _, _, h => by simp at h
  | u :: a, v :: b, x, y, h => by
    have := alike_snoc a b x y (by simpa using h)
    simp only [List.cons_append, alike, this]; omega
/-- Parts that stay with somebody of the team are at most as many as that one had and as that one gets. -/
theorem alike_le {t : List Int} (hn : t.Nodup) : ∀ (a o : List Int), (∀ x ∈ a, x ∈ t) → a.length = o.length → alike a o ≤ mass (fun m => min (o.count m) (a.count m)) t := by
  intro a
  refine revI (P := fun a => ∀ o : List Int, (∀ x ∈ a, x ∈ t) → a.length = o.length → alike a o ≤ mass (fun m => min (o.count m) (a.count m)) t) ?_ ?_ a
  · intro o _ h
    have : o = [] := List.eq_nil_of_length_eq_zero (by simpa using h.symm)
    subst this; simp [alike]
  · intro l x ih o hm hl
    have ho : o ≠ [] := by intro e; rw [e] at hl; simp at hl
    obtain ⟨o', y, rfl⟩ : ∃ o' y, o = o' ++ [y] := ⟨o.dropLast, o.getLast ho, (List.dropLast_concat_getLast ho).symm⟩
    have hl' : l.length = o'.length := by simpa using hl
    rw [alike_snoc _ _ _ _ hl']
    have h1 := ih o' (fun z hz => hm z (List.mem_append.2 (.inl hz))) hl'
    have hx := hm x (by simp)
    by_cases e : x = y
    · subst e
      rw [if_pos rfl]
      have h2 : mass (fun m => min (o'.count m) (l.count m) + (if decide (m = x) = true then 1 else 0)) t ≤ mass (fun m => min ((o' ++ [x]).count m) ((l ++ [x]).count m)) t := mass_le fun m _ => by
        simp only [List.count_append]
        by_cases em : m = x
        · subst em; simp
        · rw [count0 em]; simp [em]
      rw [mass_add, mass_ind, count_one hn hx] at h2
      omega
    · rw [if_neg e]
      have h2 : mass (fun m => min (o'.count m) (l.count m)) t ≤ mass (fun m => min ((o' ++ [y]).count m) ((l ++ [x]).count m)) t := mass_le fun m _ => by
        simp only [List.count_append]
        omega
      omega
/-- Who was kept is alike. -/
theorem alike_each : ∀ (a o b : List Int), a.length = o.length → a.length = b.length → (∀ (i : Nat) (x : Int), o[i]? = some x → b[i]? = some x ∨ b[i]? = some 0) → (∀ (i : Nat) (x : Int), b[i]? = some x → 0 < x → a[i]? = some x) → b.countP (fun x => decide (0 < x)) ≤ alike a o
  | [], [], [], _, _, _, _ => by simp
  | _ :: _, [], _, h, _, _, _ => by simp at h
  | [], _ :: _, _, h, _, _, _ => by simp at h
  | _ :: _, _, [], _, h, _, _ => by simp at h
  | [], _, _ :: _, _, h, _, _ => by simp at h
  | x :: a, y :: o, z :: b, h1, h2, h3, h4 => by
    have ih := alike_each a o b (by simpa using h1) (by simpa using h2) (fun i x h => h3 (i + 1) x h) (fun i x h => h4 (i + 1) x h)
    rw [List.countP_cons, alike]
    by_cases hz : 0 < z
    · have e1 : x = z := by simpa using h4 0 z rfl hz
      have e2 : z = y := by
        rcases h3 0 y rfl with h | h
        · simpa using h
        · have : z = 0 := by simpa using h
          omega
      rw [if_pos (e1.trans e2)]; simp [hz]; omega
    · simp [hz]; omega
theorem countP_sum {l t : List Int} (hn : t.Nodup) (hp : ∀ x ∈ t, 0 < x) (h : ∀ x ∈ l, x = 0 ∨ x ∈ t) : l.countP (fun x => decide (0 < x)) = mass (fun m => l.count m) t := by
  induction l with
  | nil => simp [mass_const 0]
  | cons x l ih =>
    have := ih fun y hy => h y (List.mem_cons_of_mem _ hy)
    rw [List.countP_cons, this]
    rcases h x (List.mem_cons_self ..) with rfl | hx
    · have : mass (fun m => List.count m (0 :: l)) t = mass (fun m => l.count m) t := mass_eq fun m hm => by
        have := hp m hm
        rw [List.count_cons]; have : ¬ (0 : Int) = m := by omega
        simp [this]
      rw [this]; simp
    · have h0 := hp x hx
      have : mass (fun m => List.count m (x :: l)) t = mass (fun m => l.count m + (if decide (m = x) = true then 1 else 0)) t := mass_eq fun m hm => by
        rw [List.count_cons]
        by_cases e : m = x
        · subst e; simp
        · have : ¬ x = m := fun e' => e e'.symm
          simp [e, this]
      rw [this, mass_add, mass_ind, count_one hn hx]
      simp [h0]
theorem share_stays (o : List Int) {t : List Int} (hn : t.Nodup) (hne : t ≠ []) (hp : ∀ x ∈ t, 0 < x) : mass (fun m => min (o.count m) (room o t m)) t ≤ alike (share o t) o := by
  obtain ⟨h1, h2, h3⟩ := passes (o := o) hn hne hp
  have hl := share_len o hn hp
  have hs : share o t = (p2 t (p1 (room o t) o).1 (p1 (room o t) o).2).2 := by unfold share; rw [if_neg hne]
  rw [hs] at hl ⊢
  refine Nat.le_trans (Nat.le_of_eq ?_) (alike_each _ o (p1 (room o t) o).2 hl (by rw [hl, h1.len]) h1.each h2.each)
  rw [countP_sum hn hp h1.mem]
  exact mass_eq fun m hm => (h1.got m hm).symm

theorem countP_and_or {t : List Int} (p q : Int → Bool) : t.countP (fun x => p x && q x) + t.countP (fun x => p x && !q x) = t.countP p := by
  induction t with
  | nil => rfl
  | cons x t ih =>
    simp only [List.countP_cons]
    cases hp : p x <;> cases hq : q x <;> simp_all <;> omega
/-- Of as even ways the one that gives more to those that had most keeps most. -/
theorem even_best {o t : List Int} (hn : t.Nodup) (hne : t ≠ []) (C : Int → Nat) (hC : mass C t = o.length) (hev : ∀ x ∈ t, ∀ y ∈ t, C x ≤ C y + 1) :
    mass (fun m => min (o.count m) (C m)) t ≤ mass (fun m => min (o.count m) (room o t m)) t := by
  have h0 : 0 < t.length := List.length_pos_iff.2 hne
  have hdm : o.length / t.length * t.length + o.length % t.length = o.length := by rw [Nat.mul_comm]; exact Nat.div_add_mod _ _
  have hmod := Nat.mod_lt o.length h0
  have hR : ∀ x ∈ t, room o t x = o.length / t.length + (if decide (rank o t x < o.length % t.length) = true then 1 else 0) := fun x hx => by
    unfold room; rw [if_pos hx]; simp
  have hr : t.countP (fun x => decide (rank o t x < o.length % t.length)) = o.length % t.length := rank_count hn _ (Nat.le_of_lt hmod)
  generalize o.length / t.length = Q at *
  generalize o.length % t.length = r at *
  -- each has the quotient, or one more
  have hq : ∀ x ∈ t, Q ≤ C x ∧ C x ≤ Q + 1 := by
    intro x hx
    constructor
    · refine Nat.le_of_not_lt fun h => ?_
      have h1 : mass C t + 1 ≤ mass (fun _ => Q) t := by
        have e : mass C t ≤ mass (dec (fun _ => Q) x) t := mass_le fun y hy => by
          unfold dec
          split
          · rename_i e; subst e; show C y ≤ Q - 1; omega
          · have := hev y hy x hx; show C y ≤ Q; omega
        have := mass_dec (R := fun _ => Q) hn hx (by show 0 < Q; omega)
        omega
      rw [mass_const, hC] at h1
      omega
    · refine Nat.le_of_not_lt fun h => ?_
      have h1 : mass (fun _ => Q + 1) t + 1 ≤ mass C t := by
        have e : mass (fun _ => Q + 1) t ≤ mass (dec C x) t := mass_le fun y hy => by
          unfold dec
          split
          · rename_i e; subst e; show Q + 1 ≤ C y - 1; omega
          · have := hev x hx y hy; show Q + 1 ≤ C y; omega
        have := mass_dec (R := C) hn hx (by omega)
        omega
      rw [mass_const, hC, Nat.add_mul] at h1
      omega
  have hCe : ∀ x ∈ t, C x = Q + (if decide (C x = Q + 1) = true then 1 else 0) := by
    intro x hx
    have := hq x hx
    by_cases e : C x = Q + 1
    · simp [e]
    · simp [e]; omega
  have hk : t.countP (fun x => decide (C x = Q + 1)) = r := by
    have h1 := mass_eq hCe
    rw [mass_add, mass_const, mass_ind, hC] at h1
    omega
  have e1 : mass (fun m => min (o.count m) (C m)) t = mass (fun m => min (o.count m) Q + (if (decide (C m = Q + 1) && decide (Q < o.count m)) = true then 1 else 0)) t := mass_eq fun x hx => by
    have := hq x hx
    by_cases e : C x = Q + 1
    · by_cases e2 : Q < o.count x
      · simp [e, e2]; omega
      · simp [e, e2]; omega
    · simp [e]; omega
  have e2 : mass (fun m => min (o.count m) (room o t m)) t = mass (fun m => min (o.count m) Q + (if (decide (rank o t m < r) && decide (Q < o.count m)) = true then 1 else 0)) t := mass_eq fun x hx => by
    rw [hR x hx]
    by_cases e : rank o t x < r
    · by_cases e2 : Q < o.count x
      · simp [e, e2]; omega
      · simp [e, e2]; omega
    · simp [e]
  rw [e1, e2, mass_add, mass_add, mass_ind, mass_ind]
  refine Nat.add_le_add_left ?_ _
  by_cases hall : ∀ x ∈ t, rank o t x < r → Q < o.count x
  · have : t.countP (fun x => decide (rank o t x < r) && decide (Q < o.count x)) = r := by
      refine Eq.trans (List.countP_congr fun x hx => ?_) hr
      simp only [Bool.and_eq_true, decide_eq_true_eq]
      exact ⟨fun h => h.1, fun h => ⟨h, hall x hx h⟩⟩
    rw [this, ← hk]
    exact List.countP_mono_left fun x _ h => by simp only [Bool.and_eq_true] at h; exact h.1
  · simp only [Classical.not_forall] at hall
    obtain ⟨x, hx, hxr, hxq⟩ := hall
    refine List.countP_mono_left fun y hy h => ?_
    simp only [Bool.and_eq_true, decide_eq_true_eq] at h ⊢
    refine ⟨?_, h.2⟩
    have : better o y x = true := by simp only [better, decide_eq_true_eq]; omega
    have := rank_lt_of_better hy this
    omega
end Go.Proofs.Ytdgnjalbpiciiaa
