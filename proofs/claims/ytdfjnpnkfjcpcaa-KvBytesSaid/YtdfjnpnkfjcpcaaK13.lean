/-
  Plain facts: how many keys there are; operations done again, in another order, one by one.
-/
import Derived.Test.YtdfjnpnkfjcpcaaK12
namespace Go.Proofs.Ytdfjnpnkfjcpcaa
set_option linter.unusedVariables false
set_option linter.unusedSimpArgs false
open Go.RowKit

theorem wo_gone : ∀ {L : List Pr}, Sorted L → ∀ k, (wo L k).length + (if hasB L k = true then 1 else 0) = L.length
  | [], _, k => by simp [wo, hasB, look]
  | p :: L, h, k => by
    have hs : Sorted L := h.2
    have ih := wo_gone hs k
    by_cases e : p.1 = k
    · have hn : look L k = none := look_none (fun q hq => (klt_ne (e ▸ h.1 q hq)).symm)
      have h1 : hasB L k = false := by unfold hasB; rw [hn]; rfl
      have h2 : hasB (p :: L) k = true := by simp [hasB, look, e]
      have h3 : wo (p :: L) k = wo L k := by unfold wo; rw [List.filter_cons_of_neg (by simpa using e)]
      rw [h1] at ih
      rw [h2, h3]
      simp at ih ⊢
      omega
    · have h2 : hasB (p :: L) k = hasB L k := by simp [hasB, look, e]
      have h3 : wo (p :: L) k = p :: wo L k := by unfold wo; rw [List.filter_cons_of_pos (by simpa using e)]
      rw [h2, h3, List.length_cons, List.length_cons]
      omega
theorem wi_gone {L : List Pr} (h : Sorted L) (p : Pr) : (wi L p).length + (if hasB L p.1 = true then 1 else 0) = L.length + 1 := by
  have h1 := wo_gone h p.1
  rw [wo_parts h] at h1
  unfold wi
  rw [List.length_append] at h1 ⊢
  rw [List.length_cons]
  omega
theorem take1_lenE {L : List Pr} (h : Sorted L) {e : Kev} (he : e.had = hasB L e.key) : (((take1 L e).length : Nat) : Int) = lenE1 L.length e := by
  obtain ⟨p, k, had, old, has, now⟩ := e
  have h1 := wo_gone h k
  have h2 : (wi L (k, now)).length + (if hasB L k = true then 1 else 0) = L.length + 1 := wi_gone h (k, now)
  replace he : had = hasB L k := he
  rw [← he] at h1 h2
  unfold take1 lenE1
  cases had <;> cases has <;> simp at h1 h2 ⊢ <;> omega
theorem chain_len : ∀ (es : List Kev) {L : List Pr}, Sorted L → Chain L es → (((takes L es).length : Nat) : Int) = lenE L.length es
  | [], L, _, _ => rfl
  | e :: es, L, h, hc => by
    have ih := chain_len es (take1_sorted h e) hc.2
    rw [take1_lenE h hc.1.1] at ih
    exact ih
/-- No map has more than 24 keys. -/
theorem doo_24 {L : List Pr} (hs : Sorted L) (hl : L.length ≤ 24) (pos : Int) (conds ops : List Kop) : (doo L pos conds ops).length ≤ 24 := by
  have hc := plan_chain hs pos conds ops
  have h1 := chain_len _ hs hc
  rw [doo_takes]
  unfold plan at h1 ⊢
  split
  · rename_i h
    rw [if_pos h] at h1
    split
    · rename_i h'
      rw [if_pos h'] at h1
      split
      · exact hl
      · rename_i h''
        rw [if_neg h''] at h1
        simp only [] at h1 ⊢
        omega
    · exact hl
  · exact hl
theorem mades_24 (ks : List Kd) : (mades ks).1.length ≤ 24 := by
  have : ∀ (ks : List Kd) (s : List Pr × List Kev), Sorted s.1 → s.1.length ≤ 24 → (ks.foldl made1 s).1.length ≤ 24 := by
    intro ks
    induction ks with
    | nil => intro s _ h; exact h
    | cons k ks ih =>
      intro s h1 h2
      refine ih _ ?_ ?_
      · unfold made1
        split
        · exact doo_sorted h1 _ _ _
        · exact h1
      · unfold made1
        split
        · exact doo_24 h1 h2 _ _ _
        · exact h2
  exact this ks ([], []) trivial (by decide)

/-- What a key has behind an operation. -/
def opv (o : Kop) : Option ByteArray := if o.has = true then some o.val else none
theorem map_look (L : List Pr) (pos : Int) : ∀ (l : List Kop) {M : List Pr}, Sorted M → Unlike l → (∀ o ∈ l, look (takes M (l.map (evOf L pos))) o.key = opv o) ∧ ∀ k, (∀ o ∈ l, o.key ≠ k) → look (takes M (l.map (evOf L pos))) k = look M k
  | [], M, _, _ => ⟨fun o ho => (by cases ho), fun k _ => rfl⟩
  | o :: l, M, hs, hu => by
    have h1 := (List.pairwise_cons.1 hu).1
    obtain ⟨ih1, ih2⟩ := map_look L pos l (take1_sorted hs (evOf L pos o)) (List.pairwise_cons.1 hu).2
    have e : takes M ((o :: l).map (evOf L pos)) = takes (take1 M (evOf L pos o)) (l.map (evOf L pos)) := rfl
    refine ⟨fun x hx => ?_, fun k hk => ?_⟩
    · rw [e]
      rcases List.mem_cons.1 hx with rfl | hx
      · rw [ih2 x.key (fun q hq => (h1 q hq).symm), take1_look hs]
        exact if_pos rfl
      · exact ih1 x hx
    · rw [e, ih2 k (fun q hq => hk q (by simp [hq])), take1_look hs]
      exact if_neg (fun e' => hk o (by simp) e'.symm)
theorem isB_opv {L : List Pr} {o : Kop} (h : isB L o = true) : look L o.key = opv o := by
  unfold isB hasB val1 at h
  unfold opv
  simp only [Bool.and_eq_true, beq_iff_eq, decide_eq_true_eq] at h
  obtain ⟨h1, h2⟩ := h
  cases hl : look L o.key with
  | none => rw [hl] at h1; simp at h1; rw [if_neg (by rw [h1]; simp)]
  | some v => rw [hl] at h1 h2; simp at h1 h2; rw [← h1, if_pos rfl, h2]
theorem opv_isB {L : List Pr} {o : Kop} (h : look L o.key = opv o) (hv : o.has = false → o.val = ByteArray.empty) : isB L o = true := by
  unfold isB hasB val1
  rw [h]
  unfold opv
  cases hh : o.has with
  | false => simp [hv hh]
  | true => simp
theorem unlike_eq : ∀ {l : List Kop}, Unlike l → ∀ {a b : Kop}, a ∈ l → b ∈ l → a.key = b.key → a = b
  | [], _, _, _, ha, _, _ => by cases ha
  | o :: l, hu, a, b, ha, hb, e => by
    have h1 := (List.pairwise_cons.1 hu).1
    rcases List.mem_cons.1 ha with e1 | ha <;> rcases List.mem_cons.1 hb with e2 | hb
    · rw [e1, e2]
    · rw [e1] at e; exact absurd e (h1 b hb)
    · rw [e2] at e; exact absurd e.symm (h1 a ha)
    · exact unlike_eq (List.pairwise_cons.1 hu).2 ha hb e
theorem chg_look {L : List Pr} (hs : Sorted L) (pos : Int) {ops : List Kop} (hu : Unlike ops) : (∀ o ∈ ops, look (takes L (chg L pos ops)) o.key = opv o) ∧ ∀ k, (∀ o ∈ ops, o.key ≠ k) → look (takes L (chg L pos ops)) k = look L k := by
  obtain ⟨h1, h2⟩ := map_look L pos (ops.filter fun o => !isB L o) hs (List.Pairwise.filter _ hu)
  refine ⟨fun o ho => ?_, fun k hk => h2 k (fun o ho => hk o (List.mem_filter.1 ho).1)⟩
  cases hb : isB L o with
  | true =>
    rw [show takes L (chg L pos ops) = takes L ((ops.filter fun o => !isB L o).map (evOf L pos)) from rfl, h2 o.key (fun x hx e => ?_)]
    · exact isB_opv hb
    · have hx' := List.mem_filter.1 hx
      have := unlike_eq hu hx'.1 ho e
      subst this
      rw [hb] at hx'
      simp at hx'
  | false => exact h1 o (List.mem_filter.2 ⟨ho, by simp [hb]⟩)
/-- What may be, each by itself. -/
def ValidO (o : Kop) : Prop := keyOk o.key = true ∧ (o.has = true → valOk o.val = true) ∧ (o.has = false → o.val = ByteArray.empty)
theorem may1_zero {pre : List Kop} {o : Kop} : may1 pre o = 0 ↔ ValidO o ∧ hasK pre o.key = false := by
  unfold may1 ValidO
  cases hk : keyOk o.key with
  | false => simp
  | true =>
    cases hh : o.has with
    | false =>
      by_cases hv : o.val = ByteArray.empty
      · cases hp : hasK pre o.key <;> simp [hv]
      · simp [hv]
    | true =>
      cases hv : valOk o.val with
      | false => simp
      | true => cases hp : hasK pre o.key <;> simp
theorem hasK_false {pre : List Kop} {k : ByteArray} : hasK pre k = false ↔ ∀ p ∈ pre, p.key ≠ k := by
  unfold hasK
  rw [List.any_eq_false]
  simp
theorem mayGo_zero : ∀ (l pre : List Kop), mayGo pre l = 0 ↔ (∀ o ∈ l, ValidO o) ∧ Unlike l ∧ ∀ o ∈ l, ∀ p ∈ pre, p.key ≠ o.key
  | [], pre => by simp [mayGo, Unlike]
  | o :: l, pre => by
    have ih := mayGo_zero l (pre ++ [o])
    unfold mayGo
    by_cases h : may1 pre o = 0
    · rw [if_pos h, ih]
      obtain ⟨h1, h2⟩ := may1_zero.1 h
      rw [hasK_false] at h2
      constructor
      · rintro ⟨a, b, c⟩
        refine ⟨fun x hx => ?_, List.Pairwise.cons (fun x hx => c x hx o (by simp)) b, fun x hx p hp => ?_⟩
        · rcases List.mem_cons.1 hx with rfl | hx
          · exact h1
          · exact a x hx
        · rcases List.mem_cons.1 hx with rfl | hx
          · exact h2 p hp
          · exact c x hx p (by simp [hp])
      · rintro ⟨a, b, c⟩
        refine ⟨fun x hx => a x (by simp [hx]), (List.pairwise_cons.1 b).2, fun x hx p hp => ?_⟩
        rcases List.mem_append.1 hp with hp | hp
        · exact c x (by simp [hx]) p hp
        · obtain rfl : p = o := by simpa using hp
          exact (List.pairwise_cons.1 b).1 x hx
    · rw [if_neg h]
      refine ⟨fun h' => absurd h' h, fun ⟨a, b, c⟩ => absurd (may1_zero.2 ⟨a o (by simp), hasK_false.2 (c o (by simp))⟩) h⟩
theorem mayE_zero (l : List Kop) : mayE l = 0 ↔ (∀ o ∈ l, ValidO o) ∧ Unlike l := by
  unfold mayE
  rw [mayGo_zero]
  simp
theorem mayE_perm {a b : List Kop} (h : a.Perm b) : mayE a = 0 ↔ mayE b = 0 := by
  rw [mayE_zero, mayE_zero]
  have : Unlike a ↔ Unlike b := h.pairwise_iff (fun h' => Ne.symm h')
  rw [this]
  have : (∀ o ∈ a, ValidO o) ↔ (∀ o ∈ b, ValidO o) := ⟨fun h' o ho => h' o (h.mem_iff.2 ho), fun h' o ho => h' o (h.mem_iff.1 ho)⟩
  rw [this]
theorem mayE_values (l : List Kop) : ∀ pre, mayGo pre l = 0 ∨ mayGo pre l = 20 ∨ mayGo pre l = 21 ∨ mayGo pre l = 61 := by
  induction l with
  | nil => intro pre; exact .inl rfl
  | cons o l ih =>
    intro pre
    unfold mayGo
    split
    · exact ih _
    · unfold may1
      repeat' split
      all_goals simp
theorem ckE_nil (ops : List Kop) : ckE [] ops = if ops.length = 0 ∨ 6 < ops.length then 61 else mayE ops := by
  unfold ckE
  have : mayE ([] : List Kop) = 0 := rfl
  rw [if_pos this]
  simp
theorem ckE_ops {conds ops : List Kop} (h : ckE conds ops = 0) : ckE [] ops = 0 := by
  obtain ⟨h1, h2⟩ := ck_unlike h
  obtain ⟨h3, _, h4⟩ := ck_len h
  rw [ckE_nil, if_neg (by omega)]
  exact h2
theorem ckE_perm {a b : List Kop} (h : a.Perm b) : ckE [] a = 0 ↔ ckE [] b = 0 := by
  rw [ckE_nil, ckE_nil, h.length_eq]
  split
  · simp
  · exact mayE_perm h
theorem plan_ok {L : List Pr} {pos : Int} {conds ops : List Kop} (h : (plan L pos conds ops).2 = 0) : ckE conds ops = 0 ∧ plan L pos conds ops = (chg L pos ops, 0) ∧ lenE L.length (chg L pos ops) ≤ 24 := by
  unfold plan at h ⊢
  split at h
  · rename_i h1
    split at h
    · rename_i h2
      split at h
      · cases h
      · rename_i h3
        rw [if_pos h1, if_pos h2, if_neg h3]
        exact ⟨h1, rfl, by omega⟩
    · cases h
  · rename_i h1; exact absurd h h1
/-- The same operations once more change nothing. -/
theorem plan_again {L : List Pr} (hs : Sorted L) (pos pos' : Int) {conds ops : List Kop} (h : (plan L pos conds ops).2 = 0) : plan (doo L pos conds ops) pos' [] ops = ([], 0) := by
  have hd := doo_takes L pos conds ops
  have hc := plan_chain hs pos conds ops
  obtain ⟨h1, h2, h3⟩ := plan_ok h
  rw [h2] at hd hc
  simp only [] at hd hc
  have hl := chain_len _ hs hc
  obtain ⟨hu, hm⟩ := ck_unlike h1
  have hv := ((mayE_zero ops).1 hm).1
  have hlook := (chg_look hs pos hu).1
  rw [hd]
  have hch : chg (takes L (chg L pos ops)) pos' ops = [] := by
    generalize takes L (chg L pos ops) = M at *
    unfold chg
    rw [List.filter_eq_nil_iff.2 (fun o ho => ?_)]
    · rfl
    · rw [opv_isB (hlook o ho) (hv o ho).2.2]
      simp
  unfold plan
  rw [if_pos (ckE_ops h1), if_pos (by rfl), hch, if_neg]
  show ¬ 24 < (((takes L (chg L pos ops)).length : Nat) : Int)
  omega

/-- In another order. -/
theorem takes_perm {L : List Pr} (hs : Sorted L) (pos : Int) {a b : List Kop} (h : a.Perm b) (ha : Unlike a) : takes L (chg L pos a) = takes L (chg L pos b) := by
  have hb : Unlike b := (h.pairwise_iff (fun h' => Ne.symm h')).1 ha
  obtain ⟨a1, a2⟩ := chg_look hs pos ha
  obtain ⟨b1, b2⟩ := chg_look hs pos hb
  refine sorted_ext (takes_sorted _ hs) (takes_sorted _ hs) (fun k => ?_)
  by_cases e : ∃ o ∈ a, o.key = k
  · obtain ⟨o, ho, rfl⟩ := e
    rw [a1 o ho, b1 o (h.mem_iff.1 ho)]
  · rw [a2 k (fun o ho e' => e ⟨o, ho, e'⟩), b2 k (fun o ho e' => e ⟨o, h.mem_iff.2 ho, e'⟩)]
theorem plan_nil (L : List Pr) (pos : Int) (ops : List Kop) : plan L pos [] ops = if ckE [] ops = 0 then (if 24 < lenE L.length (chg L pos ops) then ([], 7) else (chg L pos ops, 0)) else ([], ckE [] ops) := by
  unfold plan
  simp
theorem chg_chain {L : List Pr} (hs : Sorted L) (pos : Int) {ops : List Kop} (hu : Unlike ops) : Chain L (chg L pos ops) :=
  chain_map L pos _ L hs (List.Pairwise.filter _ hu) (fun _ _ => rfl) (fun o ho => by simpa using (List.mem_filter.1 ho).2)
theorem plan_perm {L : List Pr} (hs : Sorted L) (pos : Int) {a b : List Kop} (h : a.Perm b) :
    ((plan L pos [] a).2 = 0 → (plan L pos [] b).2 = 0 ∧ doo L pos [] a = doo L pos [] b) ∧ ((plan L pos [] a).2 = 7 → (plan L pos [] b).2 = 7) := by
  have hk := ckE_perm h
  by_cases h0 : ckE [] a = 0
  · have h1 := hk.1 h0
    have hu := (ck_unlike h0).1
    have hub := (ck_unlike h1).1
    have ht := takes_perm hs pos h hu
    have l1 := chain_len _ hs (chg_chain hs pos hu)
    have l2 := chain_len _ hs (chg_chain hs pos hub)
    rw [ht] at l1
    have hl : lenE L.length (chg L pos a) = lenE L.length (chg L pos b) := l1.symm.trans l2
    unfold doo
    rw [plan_nil, plan_nil, if_pos h0, if_pos h1, hl]
    split
    · simp
    · simp [ht]
  · have h1 : ¬ ckE [] b = 0 := fun h' => h0 (hk.2 h')
    unfold doo
    rw [plan_nil, plan_nil, if_neg h0, if_neg h1]
    refine ⟨fun h' => absurd h' h0, fun h' => ?_⟩
    exfalso
    simp only [] at h'
    rw [ckE_nil] at h'
    split at h'
    · cases h'
    · have := mayE_values a []
      unfold mayE at h'
      omega

/-- One operation by itself. -/
def one1 (M : List Pr) (o : Kop) : List Pr := doo M 1 [] [o]
theorem one1_sorted {M : List Pr} (h : Sorted M) (o : Kop) : Sorted (one1 M o) := doo_sorted h _ _ _
theorem keyed {M : List Pr} (h : Sorted M) (o : Kop) : Unlike [o] := List.pairwise_singleton _ _
theorem one1_ok {M : List Pr} (h : Sorted M) {o : Kop} (hv : ValidO o) (hl : (takes M (chg M 1 [o])).length ≤ 24) : one1 M o = takes M (chg M 1 [o]) := by
  have hc := chain_len _ h (chg_chain h 1 (keyed h o))
  have h0 : ckE [] [o] = 0 := by
    rw [ckE_nil, if_neg (by simp)]
    exact (mayE_zero [o]).2 ⟨fun x hx => by obtain rfl : x = o := by simpa using hx
                                            exact hv, keyed h o⟩
  have hn : ¬ 24 < lenE M.length (chg M 1 [o]) := by rw [← hc]; omega
  unfold one1 doo
  rw [plan_nil, if_pos h0, if_neg hn]
  exact if_pos rfl
theorem one1_put_len {M : List Pr} (h : Sorted M) {o : Kop} (ho : o.has = true) : M.length ≤ (takes M (chg M 1 [o])).length := by
  have e : chg M 1 [o] = if isB M o = true then [] else [evOf M 1 o] := by unfold chg; cases hb : isB M o <;> simp [hb]
  rw [e]
  split
  · exact Nat.le_refl _
  · show M.length ≤ (take1 M (evOf M 1 o)).length
    have e2 : take1 M (evOf M 1 o) = wi M (o.key, o.val) := by unfold take1 evOf; exact if_pos ho
    have := wi_gone h (o.key, o.val)
    rw [e2]
    split at this <;> omega
theorem one1_drop_len {M : List Pr} (h : Sorted M) {o : Kop} (ho : o.has = false) : (takes M (chg M 1 [o])).length ≤ M.length := by
  have e : chg M 1 [o] = if isB M o = true then [] else [evOf M 1 o] := by unfold chg; cases hb : isB M o <;> simp [hb]
  rw [e]
  split
  · exact Nat.le_refl _
  · show (take1 M (evOf M 1 o)).length ≤ M.length
    have e2 : take1 M (evOf M 1 o) = wo M o.key := by unfold take1 evOf; exact if_neg (by simp [ho])
    rw [e2]
    exact wo_len _ _
/-- One by one: first all that take away, then all that put; no step is refused. -/
def gof (M : List Pr) (o : Kop) : List Pr := takes M (chg M 1 [o])
theorem gof_sorted {M : List Pr} (h : Sorted M) (o : Kop) : Sorted (gof M o) := takes_sorted _ h
theorem gof_fold_sorted : ∀ (l : List Kop) {M : List Pr}, Sorted M → Sorted (l.foldl gof M)
  | [], _, h => h
  | o :: l, _, h => gof_fold_sorted l (gof_sorted h o)
theorem gof_look : ∀ (l : List Kop) {M : List Pr}, Sorted M → Unlike l → (∀ o ∈ l, look (l.foldl gof M) o.key = opv o) ∧ ∀ k, (∀ o ∈ l, o.key ≠ k) → look (l.foldl gof M) k = look M k
  | [], M, _, _ => ⟨fun o ho => (by cases ho), fun k _ => rfl⟩
  | o :: l, M, hs, hu => by
    have h1 := (List.pairwise_cons.1 hu).1
    obtain ⟨ih1, ih2⟩ := gof_look l (gof_sorted hs o) (List.pairwise_cons.1 hu).2
    obtain ⟨c1, c2⟩ := chg_look hs 1 (keyed hs o)
    refine ⟨fun x hx => ?_, fun k hk => ?_⟩
    · rcases List.mem_cons.1 hx with rfl | hx
      · exact (ih2 x.key (fun q hq => (h1 q hq).symm)).trans (c1 x (by simp))
      · exact ih1 x hx
    · exact (ih2 k (fun q hq => hk q (by simp [hq]))).trans (c2 k (fun q hq => by obtain rfl : q = o := by simpa using hq
                                                                                  exact hk q (by simp)))
theorem gof_puts : ∀ (l : List Kop) {M : List Pr}, Sorted M → (∀ o ∈ l, o.has = true) → M.length ≤ (l.foldl gof M).length
  | [], _, _, _ => Nat.le_refl _
  | o :: l, _, h, hp => Nat.le_trans (one1_put_len h (hp o (by simp))) (gof_puts l (gof_sorted h o) (fun x hx => hp x (by simp [hx])))
theorem one_puts : ∀ (l : List Kop) {M : List Pr}, Sorted M → (∀ o ∈ l, o.has = true) → (∀ o ∈ l, ValidO o) → (l.foldl gof M).length ≤ 24 → l.foldl one1 M = l.foldl gof M
  | [], _, _, _, _, _ => rfl
  | o :: l, M, h, hp, hv, hl => by
    have h1 : one1 M o = gof M o := one1_ok h (hv o (by simp)) (Nat.le_trans (gof_puts l (gof_sorted h o) (fun x hx => hp x (by simp [hx]))) hl)
    have ih := one_puts l (gof_sorted h o) (fun x hx => hp x (by simp [hx])) (fun x hx => hv x (by simp [hx])) hl
    rw [List.foldl_cons, List.foldl_cons, h1, ih]
theorem one_drops : ∀ (l : List Kop) {M : List Pr}, Sorted M → (∀ o ∈ l, o.has = false) → (∀ o ∈ l, ValidO o) → M.length ≤ 24 → l.foldl one1 M = l.foldl gof M
  | [], _, _, _, _, _ => rfl
  | o :: l, M, h, hp, hv, hl => by
    have hle : (gof M o).length ≤ 24 := Nat.le_trans (one1_drop_len h (hp o (by simp))) hl
    have h1 : one1 M o = gof M o := one1_ok h (hv o (by simp)) hle
    have ih := one_drops l (gof_sorted h o) (fun x hx => hp x (by simp [hx])) (fun x hx => hv x (by simp [hx])) hle
    rw [List.foldl_cons, List.foldl_cons, h1, ih]
theorem parts_perm (f : Kop → Bool) : ∀ l : List Kop, (l.filter f ++ l.filter (fun o => !f o)).Perm l
  | [] => List.Perm.refl _
  | o :: l => by
    have ih := parts_perm f l
    cases h : f o with
    | true => rw [List.filter_cons_of_pos h, List.filter_cons_of_neg (by simp [h])]; exact ih.cons o
    | false =>
      rw [List.filter_cons_of_neg (by simp [h]), List.filter_cons_of_pos (by simp [h])]
      exact List.perm_middle.trans (ih.cons o)
theorem one_by_one {L : List Pr} (hs : Sorted L) (hl : L.length ≤ 24) {ops : List Kop} (h : (plan L 1 [] ops).2 = 0) :
    (ops.filter (fun o => o.has)).foldl one1 ((ops.filter (fun o => !o.has)).foldl one1 L) = doo L 1 [] ops := by
  have hd := doo_takes L 1 [] ops
  obtain ⟨h1, h2, h3⟩ := plan_ok h
  rw [h2] at hd
  simp only [] at hd
  obtain ⟨hu, hm⟩ := ck_unlike h1
  have hv := ((mayE_zero ops).1 hm).1
  have hlen := chain_len _ hs (chg_chain hs 1 hu)
  have hp : (ops.filter (fun o => !o.has) ++ ops.filter (fun o => o.has)).Perm ops := by
    have := parts_perm (fun o => !o.has) ops
    simpa using this
  have hup : Unlike (ops.filter (fun o => !o.has) ++ ops.filter (fun o => o.has)) := (hp.pairwise_iff (fun h' => Ne.symm h')).2 hu
  have e : (ops.filter (fun o => o.has)).foldl gof ((ops.filter (fun o => !o.has)).foldl gof L) = takes L (chg L 1 ops) := by
    rw [← List.foldl_append]
    obtain ⟨a1, a2⟩ := gof_look _ hs hup
    obtain ⟨b1, b2⟩ := chg_look hs 1 hu
    refine sorted_ext (gof_fold_sorted _ hs) (takes_sorted _ hs) (fun k => ?_)
    by_cases e : ∃ o ∈ ops, o.key = k
    · obtain ⟨o, ho, rfl⟩ := e
      rw [a1 o (hp.mem_iff.2 ho), b1 o ho]
    · rw [a2 k (fun o ho e' => e ⟨o, hp.mem_iff.1 ho, e'⟩), b2 k (fun o ho e' => e ⟨o, ho, e'⟩)]
  rw [hd, ← e]
  rw [one_drops _ hs (fun o ho => by simpa using (List.mem_filter.1 ho).2) (fun o ho => hv o (List.mem_filter.1 ho).1) hl]
  refine one_puts _ (gof_fold_sorted _ hs) (fun o ho => (List.mem_filter.1 ho).2) (fun o ho => hv o (List.mem_filter.1 ho).1) ?_
  rw [e]
  omega
end Go.Proofs.Ytdfjnpnkfjcpcaa
