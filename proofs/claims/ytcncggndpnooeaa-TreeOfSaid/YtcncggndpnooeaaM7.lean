/-
  Plain facts: what leads from one list to another one, done to the first, makes the second.
-/
import Derived.Test.YtcncggndpnooeaaM6
namespace Go.Proofs.Ytcncggndpnooeaa
set_option linter.unusedVariables false
set_option linter.unusedSimpArgs false

/-- What leads from one list to another one. -/
def di (xs zs us : List Pr) : List Ev := us.filterMap fun p => ev p.1 (look xs p.1) (look zs p.1)
theorem di_step (xs zs : List Pr) {us : List Pr} {i : Nat} {p : Pr} (h : us[i]? = some p) : di xs zs (us.take (i + 1)) = di xs zs (us.take i) ++ (ev p.1 (look xs p.1) (look zs p.1)).toList := by
  rw [List.take_add_one, h]
  simp only [di, List.filterMap_append]
  congr 1
theorem di_len (xs zs us : List Pr) : (di xs zs us).length ≤ us.length := List.length_filterMap_le _ _
theorem di_same (xs us : List Pr) : di xs xs us = [] := by
  unfold di
  rw [List.filterMap_eq_nil_iff]
  intro p _
  simp [ev]
/-- A list behind an event. -/
def ap1 (l : List Pr) (e : Ev) : List Pr := if e.has = true then wi l (e.key, e.now) else wo l e.key
def ap (l : List Pr) (es : List Ev) : List Pr := es.foldl ap1 l
theorem ap_step (l : List Pr) {es : List Ev} {i : Nat} {e : Ev} (h : es[i]? = some e) : ap l (es.take (i + 1)) = ap1 (ap l (es.take i)) e := foldl_step ap1 l h
theorem ap1_sorted {l : List Pr} (h : Sorted l) (e : Ev) : Sorted (ap1 l e) := by
  unfold ap1; split
  · exact wi_sorted h _
  · exact wo_sorted h _
theorem ap1_len (l : List Pr) (e : Ev) : (ap1 l e).length ≤ l.length + 1 := by
  unfold ap1; split
  · exact wi_len _ _
  · have := wo_len l e.key; omega
theorem ap_sorted : ∀ (es : List Ev) {l : List Pr}, Sorted l → Sorted (ap l es)
  | [], _, h => h
  | e :: es, l, h => ap_sorted es (ap1_sorted h e)
theorem ap_look (L M : List Pr) : ∀ (us : List Pr), Sorted us → ∀ {l : List Pr}, Sorted l → (∀ p ∈ us, look l p.1 = look L p.1) → ∀ k, look (ap l (di L M us)) k = if (look us k).isSome = true then look M k else look l k
  | [], _, l, _, _, k => by simp [di, ap, look]
  | p :: us, hu, l, hl, hp, k => by
    have hp0 := hp p (by simp)
    have ed : di L M (p :: us) = (ev p.1 (look L p.1) (look M p.1)).toList ++ di L M us := by
      unfold di
      rw [List.filterMap_cons]
      cases ev p.1 (look L p.1) (look M p.1) <;> rfl
    rw [ed]
    by_cases he : look L p.1 = look M p.1
    · have : ev p.1 (look L p.1) (look M p.1) = none := by simp [ev, he]
      rw [this]
      simp only [Option.toList, List.nil_append]
      rw [ap_look L M us hu.2 hl (fun q hq => hp q (by simp [hq])) k, look]
      by_cases e : p.1 = k
      · subst e
        rw [if_pos rfl, look_over hu.1 (klt_irr _), hp0, he]; simp
      · rw [if_neg e]
    · have hv : ev p.1 (look L p.1) (look M p.1) = some ⟨p.1, (look L p.1).isSome, (look L p.1).getD ByteArray.empty, (look M p.1).isSome, (look M p.1).getD ByteArray.empty⟩ := by
        unfold ev; rw [if_neg he]
      rw [hv]
      simp only [Option.toList, List.cons_append, List.nil_append, ap, List.foldl_cons]
      have h1 : ∀ x, look (ap1 l ⟨p.1, (look L p.1).isSome, (look L p.1).getD ByteArray.empty, (look M p.1).isSome, (look M p.1).getD ByteArray.empty⟩) x = if x = p.1 then look M p.1 else look l x := by
        intro x
        unfold ap1
        cases hM : look M p.1 with
        | none =>
          simp only [Option.isSome, Bool.false_eq_true, if_false]
          rw [wo_look hl]
        | some v =>
          simp only [Option.isSome, if_true, Option.getD]
          rw [wi_look hl]
      have h2 := ap_look L M us hu.2 (ap1_sorted hl ⟨p.1, (look L p.1).isSome, (look L p.1).getD ByteArray.empty, (look M p.1).isSome, (look M p.1).getD ByteArray.empty⟩) (fun q hq => by
        rw [h1, if_neg (fun e => klt_ne (hu.1 q hq) e.symm)]
        exact hp q (by simp [hq])) k
      unfold ap at h2
      rw [h2, h1, look]
      by_cases e : p.1 = k
      · subst e
        rw [if_pos rfl, look_over hu.1 (klt_irr _)]; simp
      · rw [if_neg e, if_neg (show ¬ k = p.1 from fun h => e h.symm)]
theorem ap_di {L M : List Pr} (hL : Sorted L) (hM : Sorted M) : ap L (di L M (un L M)) = M := by
  refine sorted_ext (ap_sorted _ hL) hM fun k => ?_
  rw [ap_look L M (un L M) (un_sorted M hL) hL (fun _ _ => rfl) k, un_look hL hM]
  unfold T.fU
  cases look L k <;> cases look M k <;> simp
end Go.Proofs.Ytcncggndpnooeaa
