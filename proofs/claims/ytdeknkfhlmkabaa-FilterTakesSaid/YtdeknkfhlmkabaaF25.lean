/-
  What the document reads, plainly; where the package reads a filter that may be, the document reads the same, and the other way around; what was read is the filter's bytes.
-/
import Derived.Test.YtdeknkfhlmkabaaF21
namespace Go.Proofs.Ytdeknkfhlmkabaa
set_option linter.unusedVariables false
set_option linter.unusedSimpArgs false
open Go.RowKit

def wnF (xs : List Int) (p : Nat × Int) : Nat × (Nat × Int) :=
  if p.2 ≠ 0 then (0, p) else if (Wi.numAt (xs.drop p.1)).2.2 ≠ 0 then (0, (p.1, (Wi.numAt (xs.drop p.1)).2.2)) else if 24 < (Wi.numAt (xs.drop p.1)).1 then (0, (p.1, 5)) else ((Wi.numAt (xs.drop p.1)).1, (p.1 + (Wi.numAt (xs.drop p.1)).2.1, 0))
structure Rd where
  f : Fl
  st : Nat × Int
def rds (F : Nat × Int → Rd) : Nat → (Nat × Int) → List Fl × (Nat × Int)
  | 0, st => ([], st)
  | N + 1, st => if (rds F N st).2.2 = 0 then ((rds F N st).1 ++ [(F (rds F N st).2).f], (F (rds F N st).2).st) else rds F N st
def rdF (xs : List Int) : Nat → (Nat × Int) → Rd
  | 0, st => ⟨.mk (rd1 xs st).1 (rd2 xs st).1 (rd3 xs st).1 [], (wnF xs (rd3 xs st).2).2⟩
  | m + 1, st => ⟨.mk (rd1 xs st).1 (rd2 xs st).1 (rd3 xs st).1 (rds (rdF xs m) (wnF xs (rd3 xs st).2).1 (wnF xs (rd3 xs st).2).2).1, (rds (rdF xs m) (wnF xs (rd3 xs st).2).1 (wnF xs (rd3 xs st).2).2).2⟩

theorem wn_le (xs : List Int) (p : Nat × Int) : (wnF xs p).1 ≤ 24 := by
  unfold wnF
  split
  · exact Nat.zero_le _
  · split
    · exact Nat.zero_le _
    · split
      · exact Nat.zero_le _
      · simp only; omega
theorem wn_of_nm {xs : List Int} {p : Nat × Int} (h : (nmF xs p).2.2 = 0) (hl : (nmF xs p).1.toNat ≤ 24) : wnF xs p = ((nmF xs p).1.toNat, (nmF xs p).2) := by
  obtain ⟨a, e⟩ := p
  obtain ⟨N, S, E, ht⟩ : ∃ N S E, Wi.numAt (xs.drop a) = (N, S, E) := ⟨_, _, _, rfl⟩
  simp only [nmF, wnF, ht] at h hl ⊢
  by_cases h0 : e = 0
  · by_cases h1 : E = 0
    · subst h0 h1
      simp only [ne_eq, not_true_eq_false, if_false, if_true, Int.toNat_natCast] at hl ⊢
      rw [if_neg (by omega)]
    · simp [h0, h1] at h
  · simp [h0] at h
theorem nm_of_wn {xs : List Int} {p : Nat × Int} (h : (wnF xs p).2.2 = 0) : nmF xs p = (((wnF xs p).1 : Int), (wnF xs p).2) := by
  obtain ⟨a, e⟩ := p
  obtain ⟨N, S, E, ht⟩ : ∃ N S E, Wi.numAt (xs.drop a) = (N, S, E) := ⟨_, _, _, rfl⟩
  simp only [nmF, wnF, ht] at h ⊢
  by_cases h0 : e = 0
  · by_cases h1 : E = 0
    · subst h0 h1
      simp only [ne_eq, not_true_eq_false, if_false, if_true] at h ⊢
      by_cases h2 : 24 < N
      · rw [if_pos h2] at h
        simp at h
      · rw [if_neg h2]
    · simp [h0, h1] at h
  · simp [h0] at h
theorem nm_err {xs : List Int} {p : Nat × Int} (h : (nmF xs p).2.2 ≠ 0) : (nmF xs p).1 = 0 := by
  obtain ⟨a, e⟩ := p
  obtain ⟨N, S, E, ht⟩ : ∃ N S E, Wi.numAt (xs.drop a) = (N, S, E) := ⟨_, _, _, rfl⟩
  simp only [nmF, ht] at h ⊢
  by_cases h0 : e = 0
  · by_cases h1 : E = 0
    · simp [h0, h1] at h
    · simp [h0, h1]
  · simp [h0]
theorem rds_stuck {F : Nat × Int → Rd} {st : Nat × Int} {j : Nat} (h : (rds F j st).2.2 ≠ 0) : ∀ N, j ≤ N → rds F N st = rds F j st
  | 0, hj => by obtain rfl : j = 0 := by omega
                rfl
  | N + 1, hj => by
    by_cases e : j = N + 1
    · subst e; rfl
    · have ih := rds_stuck h N (by omega)
      simp only [rds, ih]
      rw [if_neg h]
theorem rds_prefix {F : Nat × Int → Rd} {st : Nat × Int} {N j : Nat} (h : (rds F N st).2.2 = 0) (hj : j ≤ N) : (rds F j st).2.2 = 0 := by
  by_cases e : (rds F j st).2.2 = 0
  · exact e
  · rw [rds_stuck e N hj] at h; exact h
theorem rds_next {F : Nat × Int → Rd} {st : Nat × Int} {j : Nat} (h : (rds F j st).2.2 = 0) : rds F (j + 1) st = ((rds F j st).1 ++ [(F (rds F j st).2).f], (F (rds F j st).2).st) := by
  simp only [rds]
  rw [if_pos h]
theorem rds_len {F : Nat × Int → Rd} {st : Nat × Int} : ∀ N, (rds F N st).1.length ≤ N
  | 0 => by simp [rds]
  | N + 1 => by
    have := rds_len (F := F) (st := st) N
    simp only [rds]
    split
    · simp; exact this
    · omega
theorem rds_len_ok {F : Nat × Int → Rd} {st : Nat × Int} : ∀ N, (rds F N st).2.2 = 0 → (rds F N st).1.length = N
  | 0, _ => by simp [rds]
  | N + 1, h => by
    have h0 := rds_prefix h (Nat.le_succ N)
    rw [rds_next h0]
    simp [rds_len_ok N h0]
theorem tk_err (xs : List Int) : ∀ (m : Nat) (st : Nat × Int) (ah : Nat), (tk xs m st ah).ok = true → (tk xs m st ah).st.2 = 0
  | 0, st, ah, h => by simp [tk] at h
  | m + 1, st, ah, h => by
    simp only [tk] at h ⊢
    split at h
    · simp at h
    · rename_i h1
      rw [if_neg h1]
      split at h
      · rename_i h2
        rw [if_pos h2]
        simpa using h
      · simp at h
/-- The package's reading, in parts. -/
theorem tk_parts {xs : List Int} {m : Nat} {st : Nat × Int} {ah : Nat} (h : (tk xs (m + 1) st ah).ok = true) :
    ah < 24 ∧ (tks (tk xs m) (rd4 xs st).1.toNat (rd4 xs st).2 (ah + 1)).ok = true ∧ (tks (tk xs m) (rd4 xs st).1.toNat (rd4 xs st).2 (ah + 1)).st.2 = 0 ∧
    tk xs (m + 1) st ah = ⟨true, .mk (rd1 xs st).1 (rd2 xs st).1 (rd3 xs st).1 (tks (tk xs m) (rd4 xs st).1.toNat (rd4 xs st).2 (ah + 1)).ks, (tks (tk xs m) (rd4 xs st).1.toNat (rd4 xs st).2 (ah + 1)).st, (tks (tk xs m) (rd4 xs st).1.toNat (rd4 xs st).2 (ah + 1)).ah⟩ := by
  simp only [tk] at h ⊢
  split at h
  · simp at h
  · rename_i h1
    rw [if_neg h1]
    split at h
    · rename_i h2
      rw [if_pos h2]
      have h3 : (tks (tk xs m) (rd4 xs st).1.toNat (rd4 xs st).2 (ah + 1)).st.2 = 0 := by simpa using h
      refine ⟨by omega, h2, h3, ?_⟩
      rw [decide_eq_true h3]
    · simp at h
theorem tks_prefix {F : Nat × Int → Nat → Tk} {st : Nat × Int} {ah N j : Nat} (h : (tks F N st ah).ok = true) (hj : j ≤ N) : (tks F j st ah).ok = true := by
  cases e : (tks F j st ah).ok with
  | true => rfl
  | false => rw [tks_bad F st ah j e N hj] at h; cases h
theorem tks_kid {F : Nat × Int → Nat → Tk} {st : Nat × Int} {ah j : Nat} (h : (tks F (j + 1) st ah).ok = true) :
    (F (tks F j st ah).st (tks F j st ah).ah).ok = true ∧ tks F (j + 1) st ah = ⟨true, (tks F j st ah).ks ++ [(F (tks F j st ah).st (tks F j st ah).ah).f], (F (tks F j st ah).st (tks F j st ah).ah).st, (F (tks F j st ah).st (tks F j st ah).ah).ah⟩ := by
  have h0 := tks_prefix h (Nat.le_succ j)
  have hn := tks_next (F := F) (st := st) (ah := ah) (j := j) rfl h0
  rw [hn] at h ⊢
  cases e : (F (tks F j st ah).st (tks F j st ah).ah).ok with
  | true => exact ⟨rfl, by rw [if_pos rfl]⟩
  | false => rw [e] at h; simp at h
theorem rd4_ok {xs : List Int} {m ah : Nat} {st : Nat × Int} (h : (tks (tk xs m) (rd4 xs st).1.toNat (rd4 xs st).2 (ah + 1)).st.2 = 0) : (rd4 xs st).2.2 = 0 := by
  by_cases e : (rd4 xs st).2.2 = 0
  · exact e
  · have h0 : (rd4 xs st).1 = 0 := nm_err e
    rw [h0] at h
    simp only [Int.toNat_zero, tks] at h
    exact absurd h e
/-- Where the package reads a filter, the document reads the same. -/
theorem tk_rd (xs : List Int) : ∀ (m : Nat) (st : Nat × Int) (ah : Nat), ah ≤ 24 → (tk xs m st ah).ok = true → rdF xs (m + 1) st = ⟨(tk xs m st ah).f, (tk xs m st ah).st⟩
  | 0, st, ah, _, h => by simp [tk] at h
  | m + 1, st, ah, hah, h => by
    obtain ⟨h1, h2, h3, h4⟩ := tk_parts h
    have h5 := rd4_ok h3
    have hN := tks_ah (tk xs m) (tk_ah xs m) _ _ (ah + 1) (by omega) h2
    have hlen : ∀ j, j ≤ (rd4 xs st).1.toNat → (tks (tk xs m) j (rd4 xs st).2 (ah + 1)).ks.length = j := by
      intro j
      induction j with
      | zero => intro _; simp [tks]
      | succ j ih =>
        intro hj
        obtain ⟨_, e⟩ := tks_kid (tks_prefix h2 hj)
        rw [e]
        simp [ih (by omega)]
    have hN2 := hlen _ (Nat.le_refl _)
    have hw : wnF xs (rd3 xs st).2 = ((rd4 xs st).1.toNat, (rd4 xs st).2) := wn_of_nm h5 (by show (rd4 xs st).1.toNat ≤ 24; omega)
    have hr : ∀ j, j ≤ (rd4 xs st).1.toNat → rds (rdF xs (m + 1)) j (rd4 xs st).2 = ((tks (tk xs m) j (rd4 xs st).2 (ah + 1)).ks, (tks (tk xs m) j (rd4 xs st).2 (ah + 1)).st) ∧ (tks (tk xs m) j (rd4 xs st).2 (ah + 1)).st.2 = 0 := by
      intro j
      induction j with
      | zero => intro _; exact ⟨rfl, h5⟩
      | succ j ih =>
        intro hj
        obtain ⟨i1, i2⟩ := ih (by omega)
        have hp := tks_prefix h2 (show j ≤ _ by omega)
        obtain ⟨k1, k2⟩ := tks_kid (tks_prefix h2 hj)
        have hb := (tks_ah (tk xs m) (tk_ah xs m) j _ (ah + 1) (by omega) hp).2
        have hk := tk_rd xs m _ _ hb k1
        have he := tk_err xs m _ _ k1
        rw [rds_next (by rw [i1]; exact i2), i1, k2]
        simp only
        rw [hk]
        exact ⟨rfl, he⟩
    obtain ⟨r1, _⟩ := hr _ (Nat.le_refl _)
    rw [h4]
    show (⟨_, _⟩ : Rd) = _
    rw [hw]
    simp only
    rw [r1]
/-- Where the document reads a filter that may be, the package reads it. -/
theorem rd_tk (xs : List Int) : ∀ (m : Nat) (st : Nat × Int) (ah : Nat), ah ≤ 24 → (rdF xs (m + 1) st).st.2 = 0 → (ec m (rdF xs (m + 1) st).f ah).2 = 0 → tk xs m st ah = ⟨true, (rdF xs (m + 1) st).f, (rdF xs (m + 1) st).st, (ec m (rdF xs (m + 1) st).f ah).1⟩
  | 0, st, ah, _, _, h => by simp [ec] at h
  | m + 1, st, ah, hah, h0, h => by
    obtain ⟨h1, h2⟩ := ok_ecs h
    generalize hn : wnF xs (rd3 xs st).2 = wn at *
    obtain ⟨n, s4⟩ := wn
    have hR : rdF xs (m + 2) st = ⟨.mk (rd1 xs st).1 (rd2 xs st).1 (rd3 xs st).1 (rds (rdF xs (m + 1)) n s4).1, (rds (rdF xs (m + 1)) n s4).2⟩ := by
      show (⟨_, _⟩ : Rd) = _
      rw [hn]
    rw [hR] at h0 h h2 ⊢
    simp only [Fl.kids] at h0 h h2 ⊢
    have e4 : s4.2 = 0 := rds_prefix (j := 0) h0 (Nat.zero_le _)
    have h4 : rd4 xs st = ((n : Int), s4) := by
      have := nm_of_wn (xs := xs) (p := (rd3 xs st).2) (by rw [hn]; exact e4)
      rw [hn] at this
      exact this
    have hlen := rds_len_ok n h0
    have hoke : (ecs m (rds (rdF xs (m + 1)) n s4).1 (ah + 1)).2 = 0 := by rw [← h2]; exact h
    have hpre : ∀ j, j ≤ n → (rds (rdF xs (m + 1)) j s4).1 = (rds (rdF xs (m + 1)) n s4).1.take j := by
      intro j hj
      have : ∀ k, j ≤ k → k ≤ n → (rds (rdF xs (m + 1)) k s4).1.take j = (rds (rdF xs (m + 1)) j s4).1 := by
        intro k
        induction k with
        | zero => intro a _; obtain rfl : j = 0 := by omega
                  simp [rds]
        | succ k ih =>
          intro a b
          by_cases e : j = k + 1
          · subst e
            rw [List.take_of_length_le]
            exact rds_len _
          · rw [rds_next (rds_prefix h0 (by omega))]
            simp only
            rw [List.take_append_of_le_length (by rw [rds_len_ok k (rds_prefix h0 (by omega))]; omega), ih (by omega) (by omega)]
      exact (this n hj (Nat.le_refl _)).symm
    have hr : ∀ j, j ≤ n → tks (tk xs m) j s4 (ah + 1) = ⟨true, (rds (rdF xs (m + 1)) j s4).1, (rds (rdF xs (m + 1)) j s4).2, (ecs m (rds (rdF xs (m + 1)) j s4).1 (ah + 1)).1⟩ := by
      intro j
      induction j with
      | zero => intro _; rfl
      | succ j ih =>
        intro hj
        have ij := ih (by omega)
        have ej := rds_prefix h0 (show j ≤ n by omega)
        have ej1 := rds_prefix h0 hj
        rw [rds_next ej] at ej1
        simp only at ej1
        have hkid : (rds (rdF xs (m + 1)) n s4).1[j]? = some (rdF xs (m + 1) (rds (rdF xs (m + 1)) j s4).2).f := by
          have hp := hpre (j + 1) hj
          rw [rds_next ej] at hp
          simp only at hp
          have hl := rds_len_ok j ej
          have : ((rds (rdF xs (m + 1)) n s4).1.take (j + 1))[j]? = some (rdF xs (m + 1) (rds (rdF xs (m + 1)) j s4).2).f := by
            rw [← hp, List.getElem?_append_right (by omega), hl]
            simp
          rw [List.getElem?_take_of_lt (by omega)] at this
          exact this
        have hk0 := ok_take (i := j) hoke
        have hk1 := ok_take (i := j + 1) hoke
        have hst := ecs_step hkid m (ah + 1) hk0
        rw [hst] at hk1
        rw [← hpre j (by omega)] at hk0 hk1 hst
        have hle : (ecs m (rds (rdF xs (m + 1)) j s4).1 (ah + 1)).1 ≤ 24 := by
          have := (ecs_le m (fun f a ha => ec_le m f a ha) (rds (rdF xs (m + 1)) j s4).1 (ah + 1, 0) (by simp only; omega)).1
          exact this
        have hih := rd_tk xs m _ _ hle ej1 hk1
        have hnx := tks_next (F := tk xs m) (j := j) ij rfl
        rw [hnx]
        simp only
        rw [hih, if_pos rfl, rds_next ej]
        simp only
        have hst' : ecs m ((rds (rdF xs (m + 1)) j s4).1 ++ [(rdF xs (m + 1) (rds (rdF xs (m + 1)) j s4).2).f]) (ah + 1) = ec m (rdF xs (m + 1) (rds (rdF xs (m + 1)) j s4).2).f (ecs m (rds (rdF xs (m + 1)) j s4).1 (ah + 1)).1 := by
          rw [← hst]
          congr 1
          have hp := hpre (j + 1) hj
          rw [rds_next ej] at hp
          exact hp
        rw [hst']
    have hrn := hr n (Nat.le_refl _)
    simp only [tk, h4, Int.toNat_natCast, hrn, h2]
    rw [if_neg (by omega)]
    simp [h0]
/-- What the document takes. -/
def rdOk (xs : List Int) (st : Nat × Int) : Bool := decide ((rdF xs 7 st).st.2 = 0) && decide (ckF (rdF xs 7 st).f = 0)
theorem good_rd (xs : List Int) (st : Nat × Int) : goodF xs st = rdOk xs st ∧ (goodF xs st = true → rdF xs 7 st = ⟨(tk xs 6 st 0).f, (tk xs 6 st 0).st⟩) := by
  have key : goodF xs st = true → rdF xs 7 st = ⟨(tk xs 6 st 0).f, (tk xs 6 st 0).st⟩ := fun h => by
    unfold goodF at h
    simp only [Bool.and_eq_true] at h
    exact tk_rd xs 6 st 0 (by omega) h.1
  refine ⟨?_, key⟩
  cases hg : goodF xs st with
  | true =>
    have hk := key hg
    unfold goodF at hg
    simp only [Bool.and_eq_true] at hg
    have he := tk_err xs 6 st 0 hg.1
    unfold rdOk
    rw [hk]
    simp only
    rw [decide_eq_true he, hg.2]; rfl
  | false =>
    cases hr : rdOk xs st with
    | false => rfl
    | true =>
      unfold rdOk at hr
      simp only [Bool.and_eq_true, decide_eq_true_eq] at hr
      have := rd_tk xs 6 st 0 (by omega) hr.1 hr.2
      unfold goodF at hg
      rw [this] at hg
      simp only [Bool.true_and, decide_eq_false_iff_not] at hg
      exact absurd hr.2 hg
end Go.Proofs.Ytdeknkfhlmkabaa
