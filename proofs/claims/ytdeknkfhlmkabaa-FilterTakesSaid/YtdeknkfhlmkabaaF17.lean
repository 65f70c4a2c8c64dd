/-
  Reading, plainly: numbers, texts, a filter; both readers read so.
-/
import Derived.Test.YtdeknkfhlmkabaaF15
import Derived.Test.YtdeknkfhlmkabaaWB
namespace Go.Proofs.Ytdeknkfhlmkabaa
set_option linter.unusedVariables false
set_option linter.unusedSimpArgs false
open Go.RowKit

def nmF (xs : List Int) (p : Nat × Int) : Int × (Nat × Int) :=
  if p.2 ≠ 0 then (0, p) else if (Wi.numAt (xs.drop p.1)).2.2 = 0 then ((Wi.numAt (xs.drop p.1)).1, (p.1 + (Wi.numAt (xs.drop p.1)).2.1, 0)) else (0, (p.1, (Wi.numAt (xs.drop p.1)).2.2))
def txF (xs : List Int) (most : Nat) (p : Nat × Int) : ByteArray × (Nat × Int) :=
  if p.2 ≠ 0 then (⟨#[]⟩, p) else if (Wi.numAt (xs.drop p.1)).2.2 ≠ 0 then (⟨#[]⟩, (p.1, (Wi.numAt (xs.drop p.1)).2.2))
  else if most < (Wi.numAt (xs.drop p.1)).1 then (⟨#[]⟩, (p.1, 4))
  else if p.1 + (Wi.numAt (xs.drop p.1)).2.1 + (Wi.numAt (xs.drop p.1)).1 ≤ xs.length then (strOfNums ((xs.drop (p.1 + (Wi.numAt (xs.drop p.1)).2.1)).take (Wi.numAt (xs.drop p.1)).1), (p.1 + (Wi.numAt (xs.drop p.1)).2.1 + (Wi.numAt (xs.drop p.1)).1, 0))
  else (⟨#[]⟩, (p.1, 2))
section
variable {w : World} {rb g n cap : Nat} {xs : List Int} {i : Nat} {err : Int}
theorem Number_nm (h : Wi.RS w rb g n cap xs i err) : Calls Try.prog 60 #[.pointer (some ⟨rb, 0, none⟩)] w (Wi.Out (.int .i64 (nmF xs (i, err)).1) w rb g n cap xs (nmF xs (i, err)).2.1 (nmF xs (i, err)).2.2) := by
  have h1 := Wi.Number_rs h
  unfold nmF
  by_cases he : err = 0
  · subst he
    obtain ⟨N, S, E, ht⟩ : ∃ N S E, Wi.numAt (xs.drop i) = (N, S, E) := ⟨_, _, _, rfl⟩
    rw [if_neg (by simp), ht] at h1
    rw [if_neg (by simp)]
    simp only [ht]
    by_cases hE : E = 0
    · subst hE
      have h2 := (Wi.numAt_size h N S ht).2
      have hw : Wi.withinOf 0 9223372036854775807 (N, S, 0) = (N, S, 0) := by unfold Wi.withinOf; rw [if_neg (by simp), if_neg (by simp only []; omega)]
      rw [hw] at h1
      rw [if_pos rfl]
      exact h1
    · have hw : Wi.withinOf 0 9223372036854775807 (N, S, E) = (0, 0, E) := by unfold Wi.withinOf; rw [if_pos hE]
      rw [hw] at h1
      rw [if_neg hE]
      exact h1
  · rw [if_pos he] at h1
    rw [if_pos he]
    exact h1
theorem Text_tx (h : Wi.RS w rb g n cap xs i err) (most : Nat) (hm : most ≤ 1000000) : Calls Try.prog 61 #[.pointer (some ⟨rb, 0, none⟩), .int .i64 (most : Nat)] w (Wi.Out (.string (txF xs most (i, err)).1) w rb g n cap xs (txF xs most (i, err)).2.1 (txF xs most (i, err)).2.2) := by
  unfold txF
  by_cases he : err = 0
  · subst he
    rw [if_neg (by simp)]
    obtain ⟨N, S, E, ht⟩ : ∃ N S E, Wi.numAt (xs.drop i) = (N, S, E) := ⟨_, _, _, rfl⟩
    simp only [ht]
    have hM : max (most : Int) 0 = (most : Int) := by omega
    by_cases hE : E = 0
    · subst hE
      rw [if_neg (by simp)]
      have hS := (Wi.numAt_size h N S ht).1
      have hS9 : S ≤ 9 := by
        have := Wi.numAt_ok (xs.drop i) (fun x hx => h.rng x (List.mem_of_mem_drop hx)) (by rw [ht])
        rw [ht] at this; exact this.2.1
      by_cases h1 : most < N
      · rw [if_pos h1]
        exact Wi.Text_bad h most N S most 0 4 ht hM (.inl (by omega)) hS9 (.inr (.inl ⟨rfl, by omega, rfl⟩))
      · rw [if_neg h1]
        by_cases h2 : i + S + N ≤ xs.length
        · rw [if_pos h2]
          exact Wi.Text_good h most N S ht (by omega) (by rw [← h.len]; exact h2)
        · rw [if_neg h2]
          have := h.len
          exact Wi.Text_bad h most N S most 0 2 ht hM (.inl (by omega)) hS9 (.inr (.inr ⟨rfl, by omega, by omega, rfl⟩))
    · rw [if_pos hE]
      exact Wi.Text_bad h most N S most E E ht hM (.inr hE) (by have := Wi.numAt_err (xs.drop i); rw [ht] at this; rcases this with h | h; exact h; exact absurd h hE) (.inl ⟨hE, rfl⟩)
  · rw [if_pos he]
    exact Wi.Text_err h most he
end
section
variable {w : World} {xb n c : Nat} {p : Option Addr} {xs : List Int} {i : Nat} {err : Int}
theorem XNumber_nm (h : Wi.XS w xb p n c xs i err) : Calls Try.prog 62 #[.pointer (some ⟨xb, 0, none⟩)] w (Wi.XOut (.int .i64 (nmF xs (i, err)).1) w xb p n c xs (nmF xs (i, err)).2.1 (nmF xs (i, err)).2.2) := by
  unfold nmF
  by_cases he : err = 0
  · subst he
    rw [if_neg (by simp)]
    obtain ⟨N, S, E, ht⟩ : ∃ N S E, Wi.numAt (xs.drop i) = (N, S, E) := ⟨_, _, _, rfl⟩
    simp only [ht]
    by_cases hE : E = 0
    · subst hE
      rw [if_pos rfl]
      exact Wi.XNumber_ok h N S ht
    · rw [if_neg hE]
      exact Wi.XNumber_bad h N S E ht hE
  · rw [if_pos he]
    exact Wi.XNumber_err h he
theorem XText_tx (h : Wi.XS w xb p n c xs i err) (most : Nat) (hm : most ≤ 1000000) : Calls Try.prog 63 #[.pointer (some ⟨xb, 0, none⟩), .int .i64 (most : Nat)] w (Wi.XOut (.string (txF xs most (i, err)).1) w xb p n c xs (txF xs most (i, err)).2.1 (txF xs most (i, err)).2.2) := by
  unfold txF
  by_cases he : err = 0
  · subst he
    rw [if_neg (by simp)]
    obtain ⟨N, S, E, ht⟩ : ∃ N S E, Wi.numAt (xs.drop i) = (N, S, E) := ⟨_, _, _, rfl⟩
    simp only [ht]
    by_cases hE : E = 0
    · subst hE
      rw [if_neg (by simp)]
      have hs := Wi.xs_ok h N S ht
      have hln := h.len
      by_cases h1 : most < N
      · rw [if_pos h1]
        exact Wi.XText_long h most N S ht (by omega) (by omega)
      · rw [if_neg h1]
        by_cases h2 : i + S + N ≤ xs.length
        · rw [if_pos h2]
          by_cases h0 : 0 < (N : Int)
          · exact Wi.XText_ok h most N S ht h0 (by omega) (by omega)
          · obtain rfl : N = 0 := by omega
            by_cases hic : c = i + S
            · have := Wi.XText_full0 h most S ht hic
              simpa [strOfNums] using this
            · exact Wi.XText_ok0 h most 0 S ht (by omega) (by omega) hic
        · rw [if_neg h2]
          exact Wi.XText_short h most N S ht (by omega) (by omega) (by omega)
    · rw [if_pos hE]
      exact Wi.XText_bad h most N S E ht hE
  · rw [if_pos he]
    exact Wi.XText_err h most he
end

/-- A filter that is read: whether there is one, it, where the reader stands, how many parts were entered. -/
structure Tk where
  ok : Bool
  f : Fl
  st : Nat × Int
  ah : Nat
structure Tks where
  ok : Bool
  ks : List Fl
  st : Nat × Int
  ah : Nat
def noF : Fl := .mk 0 ByteArray.empty ByteArray.empty []
/-- So many kids, one behind the other. -/
def tks (tk : Nat × Int → Nat → Tk) : Nat → (Nat × Int) → Nat → Tks
  | 0, st, ah => ⟨true, [], st, ah⟩
  | N + 1, st, ah => if (tks tk N st ah).ok = true then (if (tk (tks tk N st ah).st (tks tk N st ah).ah).ok = true then ⟨true, (tks tk N st ah).ks ++ [(tk (tks tk N st ah).st (tks tk N st ah).ah).f], (tk (tks tk N st ah).st (tks tk N st ah).ah).st, (tk (tks tk N st ah).st (tks tk N st ah).ah).ah⟩ else ⟨false, [], st, ah⟩) else ⟨false, [], st, ah⟩
def rd1 (xs : List Int) (st : Nat × Int) : Int × (Nat × Int) := nmF xs st
def rd2 (xs : List Int) (st : Nat × Int) : ByteArray × (Nat × Int) := txF xs 192 (rd1 xs st).2
def rd3 (xs : List Int) (st : Nat × Int) : ByteArray × (Nat × Int) := txF xs 192 (rd2 xs st).2
def rd4 (xs : List Int) (st : Nat × Int) : Int × (Nat × Int) := nmF xs (rd3 xs st).2
/-- What the package reads, so many levels down. -/
def tk (xs : List Int) : Nat → (Nat × Int) → Nat → Tk
  | 0, st, ah => ⟨false, noF, st, ah⟩
  | m + 1, st, ah => if 24 ≤ ah then ⟨false, noF, st, ah⟩ else
    if (tks (tk xs m) (rd4 xs st).1.toNat (rd4 xs st).2 (ah + 1)).ok = true then
      ⟨decide ((tks (tk xs m) (rd4 xs st).1.toNat (rd4 xs st).2 (ah + 1)).st.2 = 0), .mk (rd1 xs st).1 (rd2 xs st).1 (rd3 xs st).1 (tks (tk xs m) (rd4 xs st).1.toNat (rd4 xs st).2 (ah + 1)).ks, (tks (tk xs m) (rd4 xs st).1.toNat (rd4 xs st).2 (ah + 1)).st, (tks (tk xs m) (rd4 xs st).1.toNat (rd4 xs st).2 (ah + 1)).ah⟩
    else ⟨false, noF, st, ah⟩
theorem tks_ah (F : Nat × Int → Nat → Tk) (ih : ∀ st ah, ah ≤ 24 → (F st ah).ok = true → ah + 1 ≤ (F st ah).ah ∧ (F st ah).ah ≤ 24) : ∀ (N : Nat) (st : Nat × Int) (ah : Nat), ah ≤ 24 → (tks F N st ah).ok = true → (tks F N st ah).ks.length + ah ≤ (tks F N st ah).ah ∧ (tks F N st ah).ah ≤ 24
  | 0, st, ah, h, _ => by simp only [tks, List.length_nil]; omega
  | N + 1, st, ah, h, hok => by
    simp only [tks] at hok ⊢
    split at hok
    · rename_i h1
      have h2 := tks_ah F ih N st ah h h1
      rw [if_pos h1]
      split at hok
      · rename_i h3
        have h4 := ih _ _ h2.2 h3
        rw [if_pos h3]
        simp only [List.length_append, List.length_cons, List.length_nil]
        omega
      · simp at hok
    · simp at hok
theorem tk_ah (xs : List Int) : ∀ (m : Nat) (st : Nat × Int) (ah : Nat), ah ≤ 24 → (tk xs m st ah).ok = true → ah + 1 ≤ (tk xs m st ah).ah ∧ (tk xs m st ah).ah ≤ 24
  | 0, st, ah, h, hok => by simp [tk] at hok
  | m + 1, st, ah, h, hok => by
    simp only [tk] at hok ⊢
    split at hok
    · simp at hok
    · rename_i h1
      rw [if_neg h1]
      split at hok
      · rename_i h2
        rw [if_pos h2]
        have h3 := tks_ah (tk xs m) (tk_ah xs m) _ _ (ah + 1) (by omega) h2
        simp only
        omega
      · simp at hok
theorem tks_bad (F : Nat × Int → Nat → Tk) (st : Nat × Int) (ah j : Nat) (h : (tks F j st ah).ok = false) : ∀ N, j ≤ N → (tks F N st ah).ok = false
  | 0, hj => by
    obtain rfl : j = 0 := by omega
    exact h
  | N + 1, hj => by
    by_cases e : j = N + 1
    · subst e; exact h
    · have := tks_bad F st ah j h N (by omega)
      simp only [tks]
      rw [if_neg (by rw [this]; simp)]
theorem tks_next {F : Nat × Int → Nat → Tk} {st : Nat × Int} {ah j : Nat} {T : Tks} (h : tks F j st ah = T) (hok : T.ok = true) : tks F (j + 1) st ah = if (F T.st T.ah).ok = true then ⟨true, T.ks ++ [(F T.st T.ah).f], (F T.st T.ah).st, (F T.st T.ah).ah⟩ else ⟨false, [], st, ah⟩ := by
  simp only [tks, h]
  rw [if_pos hok]
end Go.Proofs.Ytdeknkfhlmkabaa
