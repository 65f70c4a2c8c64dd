/-
  Plain: what the document tells as unlike is what the program tells.
-/
import Derived.Test.YtcbgnmolfdhnfaaV1
import Derived.Test.YtcbgnmolfdhnfaaU0
import Derived.Test.YtcbgnmolfdhnfaaRT
namespace Go.Proofs.Ytcbgnmolfdhnfaa
set_option linter.unusedVariables false
set_option linter.unusedSimpArgs false
open Go.RowKit

def Kst (l : List ByteArray) : Prop := l.Pairwise fun a b => klt a b = true
theorem keys_ext : ∀ {a b : List ByteArray}, Kst a → Kst b → (∀ p, p ∈ a ↔ p ∈ b) → a = b
  | [], [], _, _, _ => rfl
  | [], q :: b, _, _, h => by have := (h q).2 (List.mem_cons_self ..); cases this
  | p :: a, [], _, _, h => by have := (h p).1 (List.mem_cons_self ..); cases this
  | p :: a, q :: b, ha, hb, h => by
    have ha' := List.pairwise_cons.1 ha
    have hb' := List.pairwise_cons.1 hb
    have e : p = q := by
      rcases List.mem_cons.1 ((h p).1 (List.mem_cons_self ..)) with e | h1
      · exact e
      · rcases List.mem_cons.1 ((h q).2 (List.mem_cons_self ..)) with e | h2
        · exact e.symm
        · have h3 := hb'.1 p h1
          have h4 := ha'.1 q h2
          rw [klt_asym h3] at h4
          cases h4
    subst e
    rw [keys_ext ha'.2 hb'.2 fun r => ?_]
    constructor
    · intro hr
      rcases List.mem_cons.1 ((h r).1 (List.mem_cons_of_mem _ hr)) with e | h1
      · have h3 := ha'.1 r hr
        rw [e, klt_irr] at h3; cases h3
      · exact h1
    · intro hr
      rcases List.mem_cons.1 ((h r).2 (List.mem_cons_of_mem _ hr)) with e | h1
      · have h3 := hb'.1 r hr
        rw [e, klt_irr] at h3; cases h3
      · exact h1
theorem kst_nodup {l : List ByteArray} (h : Kst l) : l.Nodup := List.Pairwise.imp (fun h => klt_ne h) h
def From (A B : List Pr) (k : ByteArray) : Prop := (∃ p ∈ A, p.1 = k) ∨ ∃ p ∈ B, p.1 = k
theorem kst_map {A : List Pr} (h : Sorted A) : Kst (A.map (·.1)) := by
  unfold Kst
  rw [List.pairwise_map]
  exact sorted_pair h
theorem look_key {A : List Pr} {k : ByteArray} : look A k ≠ none ↔ ∃ p ∈ A, p.1 = k := by
  constructor
  · intro h
    cases e : look A k with
    | none => exact absurd e h
    | some v => exact ⟨(k, v), look_some e, rfl⟩
  · rintro ⟨p, hp, rfl⟩ e
    induction A with
    | nil => cases hp
    | cons q A ih =>
      rw [look] at e
      split at e
      · cases e
      · rename_i hne
        rcases List.mem_cons.1 hp with rfl | hp
        · exact hne rfl
        · exact ih hp e
/-- What the program's merge tells. -/
theorem mg_facts (s : Sd) : ∀ (n : Nat) (A B : List Pr), A.length + B.length = n → Sorted A → Sorted B →
    (∀ k, k ∈ mg (A.map s.mk') (B.map s.mk') ↔ look A k ≠ look B k) ∧ Kst (mg (A.map s.mk') (B.map s.mk')) ∧ ∀ k ∈ mg (A.map s.mk') (B.map s.mk'), From A B k := by
  intro n
  induction n using Nat.strongRecOn with
  | _ n ih =>
    intro A B hn hA hB
    match A, B, hn, hA, hB with
    | [], B, hn, hA, hB =>
      have e : mg (([] : List Pr).map s.mk') (B.map s.mk') = B.map (·.1) := by
        rw [List.map_nil, mg_nil, List.map_map]; rfl
      rw [e]
      refine ⟨fun k => ?_, kst_map hB, fun k hk => .inr ?_⟩
      · rw [List.mem_map]
        constructor
        · rintro ⟨p, hp, rfl⟩ e
          exact look_key.2 ⟨p, hp, rfl⟩ e.symm
        · intro h
          exact look_key.1 (fun e => h (by rw [e]; rfl))
      · exact List.mem_map.1 hk
    | p :: A, [], hn, hA, hB =>
      have e : mg ((p :: A).map s.mk') (([] : List Pr).map s.mk') = (p :: A).map (·.1) := by
        rw [List.map_nil, mg_nil2, List.map_map]; rfl
      rw [e]
      refine ⟨fun k => ?_, kst_map hA, fun k hk => .inl (List.mem_map.1 hk)⟩
      rw [List.mem_map]
      constructor
      · rintro ⟨q, hq, rfl⟩ e
        exact look_key.2 ⟨q, hq, rfl⟩ e
      · intro h
        exact look_key.1 (fun e => h (by rw [e]; rfl))
    | p :: A, q :: B, hn, hA, hB =>
      simp only [List.length_cons] at hn
      rcases klt_tri p.1 q.1 with h | h | h
      · obtain ⟨i1, i2, i3⟩ := ih (A.length + (B.length + 1)) (by omega) A (q :: B) rfl hA.2 hB
        have e : mg ((p :: A).map s.mk') ((q :: B).map s.mk') = p.1 :: mg (A.map s.mk') ((q :: B).map s.mk') := mg_lt (p := s.mk' p) (q := s.mk' q) h
        rw [e]
        have hb : look (q :: B) p.1 = none := look_none fun r hr ek => by
          rcases List.mem_cons.1 hr with er | hr
          · rw [← er, ek, klt_irr] at h; cases h
          · have := klt_trans h (hB.1 r hr)
            rw [ek, klt_irr] at this; cases this
        refine ⟨fun k => ?_, ?_, fun k hk => ?_⟩
        · rw [List.mem_cons, i1 k]
          by_cases hk : k = p.1
          · subst hk
            simp only [true_or, true_iff]
            rw [hb, look, if_pos rfl]
            exact fun e => by cases e
          · have : look (p :: A) k = look A k := by rw [look, if_neg (fun e => hk e.symm)]
            rw [this]
            simp [hk]
        · refine List.pairwise_cons.2 ⟨fun k hk => ?_, i2⟩
          rcases i3 k hk with ⟨r, hr, rfl⟩ | ⟨r, hr, rfl⟩
          · exact hA.1 r hr
          · rcases List.mem_cons.1 hr with rfl | hr
            · exact h
            · exact klt_trans h (hB.1 r hr)
        · rcases List.mem_cons.1 hk with rfl | hk
          · exact .inl ⟨p, List.mem_cons_self .., rfl⟩
          · rcases i3 k hk with ⟨r, hr, e⟩ | h
            · exact .inl ⟨r, List.mem_cons_of_mem _ hr, e⟩
            · exact .inr h
      · obtain ⟨i1, i2, i3⟩ := ih (A.length + B.length) (by omega) A B rfl hA.2 hB.2
        have e : mg ((p :: A).map s.mk') ((q :: B).map s.mk') = if p.2 = q.2 then mg (A.map s.mk') (B.map s.mk') else p.1 :: mg (A.map s.mk') (B.map s.mk') := mg_eq (p := s.mk' p) (q := s.mk' q) h
        have na : look A p.1 = none := look_over hA.1 (klt_irr _)
        have nb : look B p.1 = none := by rw [h]; exact look_over hB.1 (klt_irr _)
        have la : ∀ k, look (p :: A) k = if p.1 = k then some p.2 else look A k := fun k => rfl
        have lb : ∀ k, look (q :: B) k = if p.1 = k then some q.2 else look B k := fun k => by rw [look, h]
        have up : ∀ k ∈ mg (A.map s.mk') (B.map s.mk'), From (p :: A) (q :: B) k := fun k hk => by
          rcases i3 k hk with ⟨r, hr, e⟩ | ⟨r, hr, e⟩
          · exact .inl ⟨r, List.mem_cons_of_mem _ hr, e⟩
          · exact .inr ⟨r, List.mem_cons_of_mem _ hr, e⟩
        rw [e]
        by_cases hv : p.2 = q.2
        · rw [if_pos hv]
          refine ⟨fun k => ?_, i2, up⟩
          rw [i1 k, la, lb]
          by_cases hk : p.1 = k
          · subst hk; simp [na, nb, hv]
          · simp [hk]
        · rw [if_neg hv]
          refine ⟨fun k => ?_, ?_, fun k hk => ?_⟩
          · rw [List.mem_cons, i1 k, la, lb]
            by_cases hk : p.1 = k
            · subst hk; simp [hv]
            · have hk' : ¬ k = p.1 := fun e => hk e.symm
              simp [hk, hk']
          · refine List.pairwise_cons.2 ⟨fun k hk => ?_, i2⟩
            rcases i3 k hk with ⟨r, hr, rfl⟩ | ⟨r, hr, rfl⟩
            · exact hA.1 r hr
            · rw [h]; exact hB.1 r hr
          · rcases List.mem_cons.1 hk with rfl | hk
            · exact .inl ⟨p, List.mem_cons_self .., rfl⟩
            · exact up k hk
      · obtain ⟨i1, i2, i3⟩ := ih (A.length + 1 + B.length) (by omega) (p :: A) B rfl hA hB.2
        have e : mg ((p :: A).map s.mk') ((q :: B).map s.mk') = q.1 :: mg ((p :: A).map s.mk') (B.map s.mk') := mg_gt (p := s.mk' p) (q := s.mk' q) h
        rw [e]
        have hb : look (p :: A) q.1 = none := look_none fun r hr ek => by
          rcases List.mem_cons.1 hr with er | hr
          · rw [← er, ek, klt_irr] at h; cases h
          · have := klt_trans h (hA.1 r hr)
            rw [ek, klt_irr] at this; cases this
        refine ⟨fun k => ?_, ?_, fun k hk => ?_⟩
        · rw [List.mem_cons, i1 k]
          by_cases hk : k = q.1
          · subst hk
            simp only [true_or, true_iff]
            rw [hb, look, if_pos rfl]
            exact fun e => by cases e
          · have : look (q :: B) k = look B k := by rw [look, if_neg (fun e => hk e.symm)]
            rw [this]
            simp [hk]
        · refine List.pairwise_cons.2 ⟨fun k hk => ?_, i2⟩
          rcases i3 k hk with ⟨r, hr, rfl⟩ | ⟨r, hr, rfl⟩
          · rcases List.mem_cons.1 hr with rfl | hr
            · exact h
            · exact klt_trans h (hA.1 r hr)
          · exact hB.1 r hr
        · rcases List.mem_cons.1 hk with rfl | hk
          · exact .inr ⟨q, List.mem_cons_self .., rfl⟩
          · rcases i3 k hk with h | ⟨r, hr, e⟩
            · exact .inl h
            · exact .inr ⟨r, List.mem_cons_of_mem _ hr, e⟩
theorem un_none : ∀ (B : List Pr) {A : List Pr} {k : ByteArray}, Sorted A → look (un A B) k = none → look A k = none ∧ look B k = none
  | [], A, k, _, h => ⟨h, rfl⟩
  | p :: B, A, k, hs, h => by
    obtain ⟨h1, h2⟩ := un_none B (wi_sorted hs p) (show look (un (wi A p) B) k = none from h)
    rw [wi_look hs] at h1
    by_cases hk : k = p.1
    · rw [if_pos hk] at h1; cases h1
    · rw [if_neg hk] at h1
      exact ⟨h1, by rw [look, if_neg (fun e => hk e.symm)]; exact h2⟩
/-- The document's keys of a part are the program's. -/
theorem df_keys (s : Sd) {A B : List Pr} (hA : Sorted A) (hB : Sorted B) : (df A B (un A B)).map (·.1) = mg (A.map s.mk') (B.map s.mk') := by
  obtain ⟨m1, m2, _⟩ := mg_facts s _ A B rfl hA hB
  have e : ∀ L : List Pr, (df A B L).map (·.1) = (L.filter fun p => decide (look A p.1 ≠ look B p.1)).map (·.1) := by
    intro L
    induction L with
    | nil => rfl
    | cons p L ih =>
      have e1 : df A B (p :: L) = dfO A B p.1 ++ df A B L := rfl
      rw [e1, List.map_append, ih]
      unfold dfO
      by_cases hp : look A p.1 = look B p.1
      · rw [if_pos hp, List.filter_cons_of_neg (by simpa using hp)]; rfl
      · rw [if_neg hp, List.filter_cons_of_pos (by simpa using hp)]; rfl
  rw [e]
  have hu : Sorted (un A B) := un_sorted B hA
  refine keys_ext (kst_map (filter_sorted hu _)) m2 fun k => ?_
  rw [m1 k, List.mem_map]
  constructor
  · rintro ⟨p, hp, rfl⟩
    simpa using (List.mem_filter.1 hp).2
  · intro h
    have : look (un A B) k ≠ none := fun e => by
      obtain ⟨h1, h2⟩ := un_none B hA e
      exact h (by rw [h1, h2])
    obtain ⟨p, hp, rfl⟩ := look_key.1 this
    exact ⟨p, List.mem_filter.2 ⟨hp, by simpa using h⟩, rfl⟩
theorem leaf_zero {S T : List Pl} (h : LeafEq 0 S T) : S = T := by
  have h0 := h 0
  unfold leafOf at h0
  simp only [Nat.pow_zero, Nat.mod_one, decide_true] at h0
  have e : ∀ l : List Pl, l.filter (fun _ => true) = l := fun l => List.filter_eq_self.2 (by simp)
  rwa [e, e] at h0
theorem sum_ext {f g : Nat → Nat} : ∀ k, (∀ i, i < k → f i = g i) → sumTo f k = sumTo g k
  | 0, _ => rfl
  | k + 1, h => by rw [sumTo, sumTo, sum_ext k (fun i hi => h i (by omega)), h k (by omega)]
theorem cat_ext {α : Type} {f g : Nat → List α} : ∀ k, (∀ i, i < k → f i = g i) → catTo f k = catTo g k
  | 0, _ => rfl
  | k + 1, h => by rw [catTo, catTo, cat_ext k (fun i hi => h i (by omega)), h k (by omega)]
theorem v_ext (s : Sd) : ∀ (n : Nat) {S S' T T' : List Pl}, LeafEq n S S' → LeafEq n T T' → s.vk n S T = s.vk n S' T' ∧ s.vd n S T = s.vd n S' T' ∧ s.vp n S T = s.vp n S' T'
  | 0, S, S', T, T', h1, h2 => by
    rw [leaf_zero h1, leaf_zero h2]; exact ⟨rfl, rfl, rfl⟩
  | n + 1, S, S', T, T', h1, h2 => by
    have t1 := h1.tr s
    have t2 := h2.tr s
    have ih := fun i (hi : i < 16) => v_ext s n (h1.sub hi) (h2.sub hi)
    refine ⟨?_, ?_, ?_⟩
    · rw [Sd.vk, Sd.vk, t1, t2, cat_ext 16 (fun i hi => (ih i hi).1)]
    · rw [Sd.vd, Sd.vd, t1, t2, sum_ext 16 (fun i hi => (ih i hi).2.1)]
    · rw [Sd.vp, Sd.vp, t1, t2, sum_ext 16 (fun i hi => (ih i hi).2.2)]
theorem sub_map (s : Sd) (n i : Nat) (A : List Pr) : sub n i (A.map s.mk') = (A.filter fun p => decide (dgt n (s.mk' p) = i)).map s.mk' := by
  unfold Go.Proofs.Ytcbgnmolfdhnfaa.sub
  rw [List.filter_map]; rfl
theorem cat_mem {α : Type} {f : Nat → List α} {x : α} : ∀ k, x ∈ catTo f k → ∃ i, i < k ∧ x ∈ f i
  | 0, h => by cases h
  | k + 1, h => by
    rcases List.mem_append.1 h with h | h
    · obtain ⟨i, hi, hx⟩ := cat_mem k h
      exact ⟨i, by omega, hx⟩
    · exact ⟨k, by omega, h⟩
theorem vk_facts (s : Sd) : ∀ (n : Nat) {A B : List Pr}, Sorted A → Sorted B → (∀ k ∈ s.vk n (A.map s.mk') (B.map s.mk'), From A B k) ∧ (s.vk n (A.map s.mk') (B.map s.mk')).Nodup
  | 0, A, B, hA, hB => by
    obtain ⟨_, m2, m3⟩ := mg_facts s _ A B rfl hA hB
    rw [Sd.vk]
    split
    · exact ⟨fun k hk => (by cases hk), List.nodup_nil⟩
    · exact ⟨m3, kst_nodup m2⟩
  | n + 1, A, B, hA, hB => by
    rw [Sd.vk]
    split
    · exact ⟨fun k hk => (by cases hk), List.nodup_nil⟩
    · have ih := fun i => vk_facts s n (A := A.filter fun p => decide (dgt n (s.mk' p) = i)) (B := B.filter fun p => decide (dgt n (s.mk' p) = i)) (filter_sorted hA _) (filter_sorted hB _)
      simp only [sub_map]
      have dig : ∀ i k, k ∈ s.vk n ((A.filter fun p => decide (dgt n (s.mk' p) = i)).map s.mk') ((B.filter fun p => decide (dgt n (s.mk' p) = i)).map s.mk') → From A B k ∧ dgt n (s.mk' (k, e0)) = i := fun i k hk => by
        have hd : ∀ p : Pr, dgt n (s.mk' (p.1, e0)) = dgt n (s.mk' p) := fun p => rfl
        rcases (ih i).1 k hk with ⟨p, hp, rfl⟩ | ⟨p, hp, rfl⟩
        · have h := List.mem_filter.1 hp
          exact ⟨.inl ⟨p, h.1, rfl⟩, by rw [hd]; simpa using h.2⟩
        · have h := List.mem_filter.1 hp
          exact ⟨.inr ⟨p, h.1, rfl⟩, by rw [hd]; simpa using h.2⟩
      refine ⟨fun k hk => ?_, ?_⟩
      · obtain ⟨i, _, h⟩ := cat_mem 16 hk
        exact (dig i k h).1
      · have hk : ∀ m, (catTo (fun i => s.vk n ((A.filter fun p => decide (dgt n (s.mk' p) = i)).map s.mk') ((B.filter fun p => decide (dgt n (s.mk' p) = i)).map s.mk')) m).Nodup := by
          intro m
          induction m with
          | zero => exact List.nodup_nil
          | succ m im =>
            rw [catTo]
            refine List.nodup_append.2 ⟨im, (ih m).2, fun a ha b hb e => ?_⟩
            subst e
            obtain ⟨i, hi, h⟩ := cat_mem m ha
            have h1 := (dig i a h).2
            have h2 := (dig m a hb).2
            omega
        exact hk 16
theorem blt_bk (x y : List UInt8) : klt (bk x) (bk y) = Go.Op.bytesLess x y := by
  unfold klt
  rw [ba_list, ba_list]; rfl
/-- Sorted, each once. -/
theorem sortK_strict {l : List ByteArray} (h : l.Nodup) : Kst (sortK l) := by
  have hle : ∀ x y : List UInt8, decide (x ≤ y) = !(klt (bk y) (bk x)) := fun x y => by
    rw [blt_bk, bytesLess_eq, ← decide_not]
    exact decide_eq_decide.2 Iff.rfl
  have hp : ((l.map kb).mergeSort fun x y => decide (x ≤ y)).Pairwise fun x y => decide (x ≤ y) = true := by
    refine List.pairwise_mergeSort (fun a b c h1 h2 => ?_) (fun a b => ?_) _
    · rw [hle] at *
      simp only [Bool.not_eq_true'] at *
      cases h : klt (bk c) (bk a)
      · rfl
      · rcases klt_le h1 with e | e
        · rw [e] at h; rw [h] at h2; cases h2
        · have := klt_trans h e
          rw [h2] at this; cases this
    · rw [hle, hle]
      cases h : klt (bk b) (bk a)
      · rfl
      · rw [klt_asym h]; rfl
  have hn : ((l.map kb).mergeSort fun x y => decide (x ≤ y)).Nodup := by
    refine ((List.mergeSort_perm _ _).nodup_iff).2 ?_
    unfold List.Nodup
    rw [List.pairwise_map]
    exact List.Pairwise.imp (fun {a b} h e => h (by rw [← bk_kb a, ← bk_kb b, e])) h
  unfold sortK Kst
  rw [List.pairwise_map]
  refine List.Pairwise.imp (fun {a b} hh => ?_) (List.pairwise_and_iff.2 ⟨hp, hn⟩)
  obtain ⟨h1, h2⟩ := hh
  rw [hle] at h1
  simp only [Bool.not_eq_true'] at h1
  rcases klt_le h1 with e | e
  · exact absurd (by have := congrArg (fun z : ByteArray => z.data.toList) e; simpa [bk] using this) h2
  · exact e
/-- The document's list of keys. -/
def kl (l : List ByteArray) : List Pr := un [] (l.map fun k => (k, e0))
theorem kl_keys {l : List ByteArray} (h : l.Nodup) : (kl l).map (·.1) = sortK l := by
  have hs : Sorted (kl l) := un_sorted _ (a := []) trivial
  refine keys_ext (kst_map hs) (sortK_strict h) fun k => ?_
  rw [sortK_mem, List.mem_map]
  constructor
  · rintro ⟨p, hp, rfl⟩
    have h1 := look_mem hs hp
    unfold kl at h1
    rw [un_lv] at h1
    unfold lv at h1
    obtain ⟨q, hq, hv⟩ := Option.map_eq_some_iff.1 h1
    have hm := List.mem_filter.1 (List.mem_of_getLast? hq)
    obtain ⟨k, hk, rfl⟩ := List.mem_map.1 hm.1
    have : k = p.1 := by simpa using hm.2
    rw [← this]; exact hk
  · intro hk
    have : look (kl l) k ≠ none := fun e => by
      have h2 := (un_none (l.map fun k => (k, e0)) (A := []) trivial e).2
      exact look_key.2 ⟨(k, e0), List.mem_map.2 ⟨k, hk, rfl⟩, rfl⟩ h2
    obtain ⟨p, hp, rfl⟩ := look_key.1 this
    exact ⟨p, hp, rfl⟩
/-- Both tell the same. -/
theorem told_same {s : Sd} (hs : s.Ok) (l m : List Pr) : s.vk 4 (s.place l) (s.place m) = s.vk 4 (s.mp [] (un [] l)) (s.mp [] (un [] m)) ∧ s.vd 4 (s.place l) (s.place m) = s.vd 4 (s.mp [] (un [] l)) (s.mp [] (un [] m)) ∧ s.vp 4 (s.place l) (s.place m) = s.vp 4 (s.mp [] (un [] l)) (s.mp [] (un [] m)) ∧ (s.vk 4 (s.mp [] (un [] l)) (s.mp [] (un [] m))).Nodup := by
  have e : ∀ R : List Pr, s.mp [] R = R.map s.mk' := fun R => by rw [mp_subI s R [] (fun d hd => by cases hd) (by decide), subI_nil]
  rw [e, e]
  obtain ⟨h1, h2, h3⟩ := v_ext s 4 (place_leaf hs l) (place_leaf hs m)
  exact ⟨h1, h2, h3, (vk_facts s 4 (un_sorted l (a := []) trivial) (un_sorted m (a := []) trivial)).2⟩
end Go.Proofs.Ytcbgnmolfdhnfaa
