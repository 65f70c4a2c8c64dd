/-
  Plain facts: events that tell what was there; what many operations lead to.
-/
import Derived.Test.YtdfjnpnkfjcpcaaK10
namespace Go.Proofs.Ytdfjnpnkfjcpcaa
set_option linter.unusedVariables false
set_option linter.unusedSimpArgs false
open Go.RowKit

theorem take1_look {L : List Pr} (h : Sorted L) (e : Kev) (x : ByteArray) : look (take1 L e) x = if x = e.key then (if e.has = true then some e.now else none) else look L x := by
  unfold take1
  split
  · rw [wi_look h]
  · rw [wo_look h]
theorem takes_look : ∀ (es : List Kev) {L : List Pr}, Sorted L → ∀ k, (∀ e ∈ es, e.key ≠ k) → look (takes L es) k = look L k
  | [], L, h, k, _ => rfl
  | e :: es, L, h, k, hk => by
    have ih := takes_look es (take1_sorted h e) k (fun x hx => hk x (by simp [hx]))
    have h1 := take1_look h e k
    rw [if_neg (fun e' => hk e (by simp) e'.symm)] at h1
    exact ih.trans h1
/-- An event tells what the key had just ahead of it, and that it changes something. -/
def tells (L : List Pr) (e : Kev) : Prop := e.had = hasB L e.key ∧ e.old = val1 L e.key ∧ ¬ (e.had = e.has ∧ e.old = e.now)
def Chain : List Pr → List Kev → Prop
  | _, [] => True
  | L, e :: es => tells L e ∧ Chain (take1 L e) es
theorem Chain.app : ∀ (a b : List Kev) (L : List Pr), Chain L (a ++ b) ↔ Chain L a ∧ Chain (takes L a) b
  | [], b, L => by simp [Chain, takes]
  | e :: a, b, L => by
    have ih := Chain.app a b (take1 L e)
    show tells L e ∧ Chain (take1 L e) (a ++ b) ↔ (tells L e ∧ Chain (take1 L e) a) ∧ Chain (takes (take1 L e) a) b
    rw [ih, and_assoc]
theorem Chain.at : ∀ {es : List Kev} {L : List Pr}, Chain L es → ∀ {i : Nat} {e : Kev}, es[i]? = some e → tells (takes L (es.take i)) e
  | [], L, h, i, e, he => by simp at he
  | x :: es, L, h, 0, e, he => by
    simp at he
    subst he
    exact h.1
  | x :: es, L, h, i + 1, e, he => Chain.at h.2 (by simpa using he)
theorem takes_app (L : List Pr) (a b : List Kev) : takes L (a ++ b) = takes (takes L a) b := List.foldl_append

/-- Operations on unlike keys, each of which may be. -/
def Unlike (l : List Kop) : Prop := l.Pairwise fun a b => a.key ≠ b.key
theorem mayGo_unlike : ∀ (l pre : List Kop), mayGo pre l = 0 → Unlike l ∧ ∀ o ∈ l, ∀ p ∈ pre, p.key ≠ o.key
  | [], pre, _ => ⟨List.Pairwise.nil, fun o ho => by cases ho⟩
  | o :: l, pre, h => by
    unfold mayGo at h
    by_cases h1 : may1 pre o = 0
    · rw [if_pos h1] at h
      obtain ⟨h2, h3⟩ := mayGo_unlike l (pre ++ [o]) h
      have hn : hasK pre o.key = false := by
        unfold may1 at h1
        split at h1
        · cases h1
        · split at h1
          · cases h1
          · split at h1
            · cases h1
            · rename_i hh; simpa using hh
      have hn2 : ∀ p ∈ pre, p.key ≠ o.key := fun p hp e => by
        unfold hasK at hn
        rw [List.any_eq_false] at hn
        exact hn p hp (by simpa using e)
      refine ⟨List.Pairwise.cons (fun x hx => h3 x hx o (by simp)) h2, fun x hx p hp => ?_⟩
      rcases List.mem_cons.1 hx with rfl | hx
      · exact hn2 p hp
      · exact h3 x hx p (by simp [hp])
    · rw [if_neg h1] at h
      exact absurd h h1
theorem ck_unlike {conds ops : List Kop} (h : ckE conds ops = 0) : Unlike ops ∧ mayE ops = 0 := by
  unfold ckE at h
  split at h
  · cases h
  · split at h
    · exact ⟨(mayGo_unlike ops [] h).1, h⟩
    · rename_i hn; exact absurd h hn
theorem isB_false {L : List Pr} {o : Kop} (h : isB L o = false) : ¬ (hasB L o.key = o.has ∧ val1 L o.key = o.val) := by
  rintro ⟨h1, h2⟩
  unfold isB at h
  rw [h1, h2] at h
  simp at h
theorem chain_map (L : List Pr) (pos : Int) : ∀ (l : List Kop) (M : List Pr), Sorted M → Unlike l → (∀ o ∈ l, look M o.key = look L o.key) → (∀ o ∈ l, isB L o = false) → Chain M (l.map (evOf L pos))
  | [], M, _, _, _, _ => trivial
  | o :: l, M, hs, hu, hl, hb => by
    have h0 := hl o (by simp)
    refine ⟨⟨?_, ?_, ?_⟩, chain_map L pos l _ (take1_sorted hs _) (List.pairwise_cons.1 hu).2 (fun x hx => ?_) (fun x hx => hb x (by simp [hx]))⟩
    · show hasB L o.key = hasB M o.key
      unfold hasB; rw [h0]
    · show val1 L o.key = val1 M o.key
      unfold val1; rw [h0]
    · exact isB_false (hb o (by simp))
    · rw [take1_look hs, if_neg (fun e => (List.pairwise_cons.1 hu).1 x hx (show o.key = x.key from e.symm))]
      exact hl x (by simp [hx])
theorem plan_chain {L : List Pr} (hs : Sorted L) (pos : Int) (conds ops : List Kop) : Chain L (plan L pos conds ops).1 := by
  unfold plan
  split
  · rename_i h
    have hu := (ck_unlike h).1
    split
    · split
      · trivial
      · refine chain_map L pos _ L hs (List.Pairwise.filter _ hu) (fun _ _ => rfl) (fun o ho => ?_)
        have := (List.mem_filter.1 ho).2
        simpa using this
    · trivial
  · trivial
theorem doo_takes (L : List Pr) (pos : Int) (conds ops : List Kop) : doo L pos conds ops = takes L (plan L pos conds ops).1 := by
  unfold doo
  split
  · rfl
  · rename_i h
    have : (plan L pos conds ops).1 = [] := by
      unfold plan at h ⊢
      repeat' split
      all_goals first | rfl | simp_all
    rw [this]; rfl
theorem mades_inv : ∀ (ks : List Kd) (s : List Pr × List Kev), s.1 = takes [] s.2 → Chain [] s.2 → Sorted s.1 → (ks.foldl made1 s).1 = takes [] (ks.foldl made1 s).2 ∧ Chain [] (ks.foldl made1 s).2 ∧ Sorted (ks.foldl made1 s).1
  | [], s, h1, h2, h3 => ⟨h1, h2, h3⟩
  | k :: ks, s, h1, h2, h3 => by
    refine mades_inv ks (made1 s k) ?_ ?_ ?_
    · unfold made1
      split
      · simp only []
        rw [takes_app, ← h1, doo_takes]
      · exact h1
    · unfold made1
      split
      · simp only []
        rw [Chain.app, ← h1]
        exact ⟨h2, plan_chain h3 _ _ _⟩
      · exact h2
    · unfold made1
      split
      · exact doo_sorted h3 _ _ _
      · exact h3
theorem mades_told (ks : List Kd) : (mades ks).1 = takes [] (mades ks).2 ∧ Chain [] (mades ks).2 ∧ Sorted (mades ks).1 := mades_inv ks ([], []) rfl trivial trivial
theorem mades_len' {ks : List Kd} (h : ks.length ≤ 100) : (mades ks).1.length ≤ 600 ∧ (mades ks).2.length ≤ 600 := by
  have h1 := mades_len ks ks.length
  rw [List.take_length] at h1
  omega
end Go.Proofs.Ytdfjnpnkfjcpcaa
