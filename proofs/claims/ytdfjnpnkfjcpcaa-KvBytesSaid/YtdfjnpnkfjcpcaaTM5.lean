/-
  Plain facts: the document's lists: with a pair, without a key, together, what is in both, what leads from one to another one.
-/
import Derived.Test.YtdfjnpnkfjcpcaaTM4
namespace Go.Proofs.Ytdfjnpnkfjcpcaa
set_option linter.unusedVariables false
set_option linter.unusedSimpArgs false

/-- The list without a key. -/
def wo (xs : List Pr) (k : ByteArray) : List Pr := xs.filter fun p => decide (p.1 ≠ k)
theorem wo_step {xs : List Pr} {k : ByteArray} {i : Nat} {p : Pr} (h : xs[i]? = some p) : wo (xs.take (i + 1)) k = if p.1 = k then wo (xs.take i) k else wo (xs.take i) k ++ [p] := by
  rw [List.take_add_one, h]
  by_cases e : p.1 = k <;> simp [wo, List.filter_append, e]
theorem wo_len (xs : List Pr) (k : ByteArray) : (wo xs k).length ≤ xs.length := List.length_filter_le _ _
theorem wo_length (xs : List Pr) (k : ByteArray) (i : Nat) : (wo (xs.take i) k).length ≤ i := by
  have := wo_len (xs.take i) k
  have := List.length_take_le i xs; omega
theorem wo_sorted {xs : List Pr} (h : Sorted xs) (k : ByteArray) : Sorted (wo xs k) := filter_sorted h _
theorem wo_look {xs : List Pr} (h : Sorted xs) (k x : ByteArray) : look (wo xs k) x = if x = k then none else look xs x := by
  rw [wo, look_filter h]
  by_cases e : x = k
  · subst e; cases look xs x <;> simp
  · cases look xs x <;> simp [e]

/-- The list with a pair. -/
def wi (xs : List Pr) (p : Pr) : List Pr := xs.filter (fun q => klt q.1 p.1) ++ p :: xs.filter (fun q => klt p.1 q.1)
theorem wi_under (xs : List Pr) (p : Pr) : Under (xs.filter (fun q => klt q.1 p.1)) p.1 := fun q hq => (List.mem_filter.1 hq).2
theorem wi_over (xs : List Pr) (p : Pr) : Over (xs.filter (fun q => klt p.1 q.1)) p.1 := fun q hq => (List.mem_filter.1 hq).2
theorem wi_sorted {xs : List Pr} (h : Sorted xs) (p : Pr) : Sorted (wi xs p) :=
  (sorted_mid _ _ _).2 ⟨filter_sorted h _, filter_sorted h _, wi_under _ _, wi_over _ _⟩
theorem wi_look {xs : List Pr} (h : Sorted xs) (p : Pr) (x : ByteArray) : look (wi xs p) x = if x = p.1 then some p.2 else look xs x := by
  unfold wi
  rw [look_mid (wi_under _ _) (wi_over _ _), look_filter h, look_filter h]
  rcases klt_tri x p.1 with g | g | g
  · rw [if_pos g, if_neg (klt_ne g)]; cases look xs x <;> simp [g]
  · subst g; simp [klt_irr]
  · have e : ¬ x = p.1 := fun e => klt_ne g e.symm
    rw [klt_asym g, if_neg Bool.false_ne_true, if_pos g, if_neg e]; cases look xs x <;> simp [g]
theorem filt2 (f g : Pr → Bool) (hfg : ∀ q, ¬ (f q = true ∧ g q = true)) : ∀ l : List Pr, (l.filter f).length + (l.filter g).length ≤ l.length
  | [] => Nat.le_refl _
  | q :: l => by
    have ih := filt2 f g hfg l
    have h := hfg q
    rw [List.filter_cons, List.filter_cons]
    split <;> split <;> simp_all <;> omega
theorem wi_len (xs : List Pr) (p : Pr) : (wi xs p).length ≤ xs.length + 1 := by
  have := filt2 (fun q => klt q.1 p.1) (fun q => klt p.1 q.1) (fun q ⟨h1, h2⟩ => by rw [klt_asym h1] at h2; cases h2) xs
  simp only [wi, List.length_append, List.length_cons]; omega
theorem wi_wo (xs : List Pr) (p : Pr) : wi (wo xs p.1) p = wi xs p := by
  unfold wi wo
  rw [List.filter_filter, List.filter_filter]
  congr 1
  · refine List.filter_congr fun q _ => ?_
    cases h : klt q.1 p.1
    · simp
    · simp [klt_ne h]
  · congr 1
    refine List.filter_congr fun q _ => ?_
    cases h : klt p.1 q.1
    · simp
    · simp [(klt_ne h).symm]

/-- Whether some key is more. -/
def wst (A : List Pr) (p : Pr) : Bool := A.any fun q => klt p.1 q.1
/-- With's list in the midst. -/
def wm (A : List Pr) (p : Pr) : List Pr := if wst A p = true then wi A p else A
theorem wm_nil (p : Pr) : wm [] p = [] := rfl
theorem wst_step {zs : List Pr} {i : Nat} {x p : Pr} (h : zs[i]? = some x) : wst (zs.take (i + 1)) p = (wst (zs.take i) p || klt p.1 x.1) := by
  rw [List.take_add_one, h]; simp [wst]
theorem wst_none {A : List Pr} {p : Pr} (h : wst A p = false) (hk : ∀ q ∈ A, q.1 ≠ p.1) : A.filter (fun q => klt q.1 p.1) = A ∧ A.filter (fun q => klt p.1 q.1) = [] := by
  have h0 : ∀ q ∈ A, klt p.1 q.1 = false := fun q hq => by
    cases e : klt p.1 q.1
    · rfl
    · have : wst A p = true := List.any_eq_true.2 ⟨q, hq, e⟩
      rw [h] at this; cases this
  refine ⟨filter_all fun q hq => ?_, filter_none h0⟩
  rcases klt_tri q.1 p.1 with g | g | g
  · exact g
  · exact absurd g (hk q hq)
  · rw [h0 q hq] at g; cases g
theorem wm_step {zs : List Pr} (hs : Sorted zs) {i : Nat} {x p : Pr} (h : zs[i]? = some x) (hk : ∀ q ∈ zs, q.1 ≠ p.1) :
    wm (zs.take (i + 1)) p = if (!wst (zs.take i) p && klt p.1 x.1) = true then wm (zs.take i) p ++ [p] ++ [x] else wm (zs.take i) p ++ [x] := by
  have hx : x ∈ zs := List.mem_of_getElem? h
  have hk' : ∀ q ∈ zs.take i, q.1 ≠ p.1 := fun q hq => hk q (List.mem_of_mem_take hq)
  have e : zs.take (i + 1) = zs.take i ++ [x] := by rw [List.take_add_one, h]; rfl
  have hlt : ∀ q ∈ zs.take i, klt q.1 x.1 = true := by
    have h1 := hs
    rw [← List.take_append_drop i zs, sorted_app] at h1
    refine fun q hq => h1.2.2 q hq x ?_
    rw [List.mem_iff_getElem?]
    exact ⟨0, by rw [List.getElem?_drop]; exact h⟩
  unfold wm
  rw [wst_step h]
  cases hw : wst (zs.take i) p
  · obtain ⟨h1, h2⟩ := wst_none hw hk'
    cases g : klt p.1 x.1
    · rw [e]; simp
    · have : wi (zs.take (i + 1)) p = zs.take i ++ [p] ++ [x] := by
        rw [e]; unfold wi
        rw [List.filter_append, List.filter_append, h1, h2]
        simp [klt_asym g, g]
      simp [this]
  · obtain ⟨q, hq, hg⟩ := List.any_eq_true.1 hw
    have hpx := klt_trans hg (hlt q hq)
    have : wi (zs.take (i + 1)) p = wi (zs.take i) p ++ [x] := by
      rw [e]; unfold wi
      rw [List.filter_append, List.filter_append]
      simp [klt_asym hpx, hpx]
    simp [this]
theorem wm_end {zs : List Pr} {p : Pr} (hk : ∀ q ∈ zs, q.1 ≠ p.1) : (if wst zs p = true then wm zs p else wm zs p ++ [p]) = wi zs p := by
  unfold wm
  cases hw : wst zs p
  · obtain ⟨h1, h2⟩ := wst_none hw hk
    unfold wi; rw [h1, h2]; simp
  · simp
theorem wm_len (A : List Pr) (p : Pr) : (wm A p).length ≤ A.length + 1 := by
  unfold wm; split
  · exact wi_len A p
  · omega
theorem wo_not {xs : List Pr} {k : ByteArray} : ∀ q ∈ wo xs k, q.1 ≠ k := fun q hq => by simpa using (List.mem_filter.1 hq).2

/-- All pairs of two lists; of the second one, where both have a key. -/
def un (a b : List Pr) : List Pr := b.foldl wi a
def mi (a b : List Pr) : List Pr := b.foldl (fun l p => wo l p.1) a
theorem foldl_step {α β : Type} (f : β → α → β) (z : β) {l : List α} {i : Nat} {x : α} (h : l[i]? = some x) : (l.take (i + 1)).foldl f z = f ((l.take i).foldl f z) x := by
  rw [List.take_add_one, h]; simp
theorem un_step (a : List Pr) {b : List Pr} {i : Nat} {x : Pr} (h : b[i]? = some x) : un a (b.take (i + 1)) = wi (un a (b.take i)) x := foldl_step wi a h
theorem mi_step (a : List Pr) {b : List Pr} {i : Nat} {x : Pr} (h : b[i]? = some x) : mi a (b.take (i + 1)) = wo (mi a (b.take i)) x.1 := foldl_step (fun (l : List Pr) (p : Pr) => wo l p.1) a h
theorem un_sorted : ∀ (b : List Pr) {a : List Pr}, Sorted a → Sorted (un a b)
  | [], _, h => h
  | p :: b, a, h => un_sorted b (wi_sorted h p)
theorem mi_sorted : ∀ (b : List Pr) {a : List Pr}, Sorted a → Sorted (mi a b)
  | [], _, h => h
  | p :: b, a, h => mi_sorted b (wo_sorted h p.1)
theorem un_len : ∀ (b a : List Pr), (un a b).length ≤ a.length + b.length
  | [], a => Nat.le_refl _
  | p :: b, a => by have h1 := un_len b (wi a p); have h2 := wi_len a p; simp only [un, List.foldl_cons, List.length_cons] at h1 ⊢; omega
theorem mi_len : ∀ (b a : List Pr), (mi a b).length ≤ a.length
  | [], a => Nat.le_refl _
  | p :: b, a => by have h1 := mi_len b (wo a p.1); have h2 := wo_len a p.1; simp only [mi, List.foldl_cons] at h1 ⊢; omega
theorem un_look : ∀ {b a : List Pr}, Sorted a → Sorted b → ∀ k, look (un a b) k = T.fU (look a k) (look b k)
  | [], a, _, _, k => by simp [un, T.fU, look]
  | p :: b, a, ha, hb, k => by
    have ih := un_look (b := b) (wi_sorted ha p) hb.2 k
    simp only [un, List.foldl_cons] at ih ⊢
    rw [ih, wi_look ha, look]
    by_cases e : p.1 = k
    · subst e
      rw [if_pos rfl, if_pos rfl, look_over hb.1 (klt_irr _)]; rfl
    · rw [if_neg (fun h => e h.symm), if_neg e]
theorem mi_look : ∀ {b a : List Pr}, Sorted a → Sorted b → ∀ k, look (mi a b) k = T.fM (look a k) (look b k)
  | [], a, _, _, k => by simp [mi, T.fM, look]
  | p :: b, a, ha, hb, k => by
    have ih := mi_look (b := b) (wo_sorted ha p.1) hb.2 k
    simp only [mi, List.foldl_cons] at ih ⊢
    rw [ih, wo_look ha, look]
    by_cases e : p.1 = k
    · subst e
      rw [if_pos rfl, if_pos rfl, look_over hb.1 (klt_irr _)]; simp [T.fM]
    · rw [if_neg (fun h => e h.symm), if_neg e]
theorem bo_look {a b : List Pr} (ha : Sorted a) (hb : Sorted b) (k : ByteArray) : look (mi a (mi a b)) k = T.fB (look a k) (look b k) := by
  rw [mi_look ha (mi_sorted b ha), mi_look ha hb]
  unfold T.fM T.fB
  cases look a k <;> cases look b k <;> simp

namespace T
theorem IsPut.list {t u : T} {p : Pr} (P : IsPut t p u) (h : Sorted t.list) : u.list = wi t.list p :=
  sorted_ext P.sorted (wi_sorted h p) fun k => by rw [P.has, wi_look h]
theorem Two.union {a b t : T} (P : Two fU a b t) (ha : Sorted a.list) (hb : Sorted b.list) : t.list = un a.list b.list :=
  sorted_ext P.sorted (un_sorted _ ha) fun k => by rw [P.has, un_look ha hb]
theorem Two.minus {a b t : T} (P : Two fM a b t) (ha : Sorted a.list) (hb : Sorted b.list) : t.list = mi a.list b.list :=
  sorted_ext P.sorted (mi_sorted _ ha) fun k => by rw [P.has, mi_look ha hb]
theorem Two.both {a b t : T} (P : Two fB a b t) (ha : Sorted a.list) (hb : Sorted b.list) : t.list = mi a.list (mi a.list b.list) :=
  sorted_ext P.sorted (mi_sorted _ ha) fun k => by rw [P.has, bo_look ha hb]
theorem Diffed.list {a b : T} {l : List Ev} (D : Diffed a b l) (ha : Sorted a.list) (hb : Sorted b.list) : l = (un a.list b.list).filterMap fun p => ev p.1 (look a.list p.1) (look b.list p.1) :=
  D _ (un_sorted _ ha) (un_look ha hb)
theorem Parted.less {t : T} {k : ByteArray} {l : T} {h : Option Pr} {m : T} (P : Parted t k l h m) : l.list = t.list.filter (fun q => klt q.1 k) ∧ m.list = t.list.filter (fun q => klt k q.1) := by
  have hh : ∀ q ∈ h.toList, q.1 = k := fun q hq => P.here q (by simpa using hq)
  rw [P.list]
  simp only [List.filter_append]
  constructor
  · rw [filter_all (l := l.list) (f := fun q => klt q.1 k) (fun q hq => P.under q hq), filter_none (l := h.toList) (fun q hq => by rw [hh q hq]; exact klt_irr _), filter_none (l := m.list) (fun q hq => klt_asym (P.over q hq))]; simp
  · rw [filter_none (l := l.list) (f := fun q => klt k q.1) (fun q hq => klt_asym (P.under q hq)), filter_none (l := h.toList) (fun q hq => by rw [hh q hq]; exact klt_irr _), filter_all (l := m.list) (fun q hq => P.over q hq)]; simp
theorem Parted.hereV {t : T} {k : ByteArray} {l : T} {h : Option Pr} {m : T} (P : Parted t k l h m) : h.map (·.2) = look t.list k := by
  rw [P.has, klt_irr]; simp
end T
/-- A sorted list without a key is what is less and what is more. -/
theorem wo_parts {xs : List Pr} (h : Sorted xs) (k : ByteArray) : wo xs k = xs.filter (fun q => klt q.1 k) ++ xs.filter (fun q => klt k q.1) := by
  refine sorted_ext (wo_sorted h k) ?_ fun x => ?_
  · rw [sorted_app]
    exact ⟨filter_sorted h _, filter_sorted h _, fun p hp q hq => klt_trans (List.mem_filter.1 hp).2 (List.mem_filter.1 hq).2⟩
  · rw [wo_look h, look_app, look_filter h, look_filter h]
    rcases klt_tri x k with g | g | g
    · rw [if_neg (klt_ne g)]; cases look xs x <;> simp [g, klt_asym g]
    · subst g; rw [if_pos rfl]; cases look xs x <;> simp [klt_irr]
    · rw [if_neg (fun e => klt_ne g e.symm)]; cases look xs x <;> simp [g, klt_asym g]
/-- Floor and Ceil as folds; At; Rank; Scan. -/
theorem filter_step (f : Pr → Bool) {xs : List Pr} {i : Nat} {p : Pr} (h : xs[i]? = some p) : (xs.take (i + 1)).filter f = if f p = true then (xs.take i).filter f ++ [p] else (xs.take i).filter f := by
  rw [List.take_add_one, h]
  by_cases e : f p = true <;> simp [List.filter_append, e]
theorem cnt_step {xs : List Pr} {k : ByteArray} {i : Nat} {p : Pr} (h : xs[i]? = some p) : cnt (xs.take (i + 1)) k = if klt p.1 k = true then cnt (xs.take i) k + 1 else cnt (xs.take i) k := by
  unfold cnt; rw [filter_step _ h]; split <;> simp
theorem flo_step {xs : List Pr} {k : ByteArray} {i : Nat} {p : Pr} (h : xs[i]? = some p) : flo (xs.take (i + 1)) k = if klt k p.1 = true then flo (xs.take i) k else some p := by
  unfold flo; rw [filter_step _ h]
  cases klt k p.1 <;> simp
theorem cei_step {xs : List Pr} {k : ByteArray} {i : Nat} {p : Pr} (h : xs[i]? = some p) (hn : cei (xs.take i) k = none) : cei (xs.take (i + 1)) k = if klt p.1 k = true then none else some p := by
  unfold cei at hn ⊢; rw [filter_step _ h]
  have : (xs.take i).filter (fun q => !klt q.1 k) = [] := by simpa using hn
  rw [this]
  cases klt p.1 k <;> simp
theorem cei_done {xs : List Pr} {k : ByteArray} {i : Nat} {p : Pr} (h : xs[i]? = some p) (hn : cei (xs.take i) k = none) (hp : klt p.1 k = false) : cei xs k = some p := by
  unfold cei at hn ⊢
  have h0 : (xs.take i).filter (fun q => !klt q.1 k) = [] := by simpa using hn
  have hd : xs.drop i = p :: xs.drop (i + 1) := by
    obtain ⟨hi, e⟩ := List.getElem?_eq_some_iff.1 h
    rw [List.drop_eq_getElem_cons hi, e]
  rw [← List.take_append_drop i xs, List.filter_append, h0, hd]
  simp [hp]
theorem look_step {xs : List Pr} {k : ByteArray} {i : Nat} {p : Pr} (h : xs[i]? = some p) (hn : look (xs.take i) k = none) (hp : p.1 ≠ k) : look (xs.take (i + 1)) k = none := by
  rw [List.take_add_one, h, look_app, hn]; simp [look, hp]
theorem look_done {xs : List Pr} {k : ByteArray} {i : Nat} {p : Pr} (h : xs[i]? = some p) (hn : look (xs.take i) k = none) (hp : p.1 = k) : look xs k = some p.2 := by
  have hd : xs.drop i = p :: xs.drop (i + 1) := by
    obtain ⟨hi, e⟩ := List.getElem?_eq_some_iff.1 h
    rw [List.drop_eq_getElem_cons hi, e]
  rw [← List.take_append_drop i xs, look_app, hn, hd, look, if_pos hp]; rfl
theorem scn_step {xs : List Pr} {a b : ByteArray} {m i : Nat} {p : Pr} (h : xs[i]? = some p) : scn (xs.take (i + 1)) a b m = if (within a b p && decide ((scn (xs.take i) a b m).length < m)) = true then scn (xs.take i) a b m ++ [p] else scn (xs.take i) a b m := by
  unfold scn; rw [filter_step _ h, List.length_take]
  cases hw : within a b p
  · simp
  · simp only [if_true, Bool.true_and, decide_eq_true_eq]
    generalize (xs.take i).filter (within a b) = F
    by_cases hm : F.length < m
    · have h1 : min m F.length < m := by omega
      rw [if_pos h1, List.take_of_length_le (by simp; omega), List.take_of_length_le (by omega)]
    · have h1 : ¬ min m F.length < m := by omega
      rw [if_neg h1, List.take_append_of_le_length (by omega)]
end Go.Proofs.Ytdfjnpnkfjcpcaa
