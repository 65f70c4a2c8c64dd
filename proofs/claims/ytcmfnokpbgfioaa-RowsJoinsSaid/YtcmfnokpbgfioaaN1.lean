/-
  Entries and logs, plainly.
-/
import Derived.Test.YtcmfnokpbgfioaaR1
namespace Go.Proofs.Ytcmfnokpbgfioaa
set_option linter.unusedVariables false
set_option linter.unusedSimpArgs false
open Go.RowKit

/-- An entry, plainly. -/
structure Er where
  i : Int
  t : Int
  d : List Int
def inM' (n : Int) : Bool := decide (0 ≤ n ∧ n ≤ 1099511627776)
def okR (i t : Int) (e : Er) : Bool := decide (e.i = i + 1 ∧ e.i ≤ 1099511627776 ∧ max t 1 ≤ e.t ∧ e.t ≤ 1099511627776 ∧ e.d.length ≤ 8192)
def goR : Int → Int → List Er → Bool
  | _, _, [] => true
  | i, t, e :: l => okR i t e && goR e.i e.t l
/-- The term at a place: 0 is the base's. -/
def tm (t : Int) (l : List Er) : Nat → Int
  | 0 => t
  | k + 1 => match l[k]? with
    | some e => e.t
    | none => t
theorem tm_at {t : Int} {l : List Er} {k : Nat} {e : Er} (h : l[k]? = some e) : tm t l (k + 1) = e.t := by
  show (match l[k]? with | some e => e.t | none => t) = e.t
  rw [h]
theorem tm_zero (t : Int) (l : List Er) : tm t l 0 = t := rfl
theorem okR_iff {i t : Int} {e : Er} : okR i t e = true ↔ e.i = i + 1 ∧ e.i ≤ 1099511627776 ∧ max t 1 ≤ e.t ∧ e.t ≤ 1099511627776 ∧ e.d.length ≤ 8192 := by simp [okR]
theorem goR_cons {i t : Int} {e : Er} {l : List Er} : goR i t (e :: l) = true ↔ okR i t e = true ∧ goR e.i e.t l = true := by simp [goR]
theorem goR_get : ∀ {l : List Er} {i t : Int} {k : Nat} {e : Er}, goR i t l = true → l[k]? = some e → e.i = i + k + 1 ∧ t ≤ e.t ∧ 1 ≤ e.t ∧ e.t ≤ 1099511627776 ∧ e.i ≤ 1099511627776 ∧ e.d.length ≤ 8192
  | [], _, _, _, _, _, h => by simp at h
  | x :: l, i, t, 0, e, hg, h => by
    simp only [List.getElem?_cons_zero, Option.some.injEq] at h
    subst h
    obtain ⟨h1, h2, h3, h4, h5⟩ := okR_iff.1 (goR_cons.1 hg).1
    exact ⟨by omega, by omega, by omega, h4, h2, h5⟩
  | x :: l, i, t, k + 1, e, hg, h => by
    rw [List.getElem?_cons_succ] at h
    obtain ⟨h1, h2, h3, h4, h5⟩ := okR_iff.1 (goR_cons.1 hg).1
    have := goR_get (goR_cons.1 hg).2 h
    exact ⟨by omega, by omega, by omega, this.2.2.2.1, this.2.2.2.2.1, this.2.2.2.2.2⟩
theorem goR_mono : ∀ {l : List Er} {i t : Int} {j k : Nat} {e f : Er}, goR i t l = true → l[j]? = some e → l[k]? = some f → j ≤ k → e.t ≤ f.t
  | [], _, _, _, _, _, _, _, h, _, _ => by simp at h
  | x :: l, i, t, 0, 0, e, f, hg, h, h', _ => by
    rw [h] at h'; cases h'; exact Int.le_refl _
  | x :: l, i, t, 0, k + 1, e, f, hg, h, h', _ => by
    simp only [List.getElem?_cons_zero, Option.some.injEq] at h
    subst h
    rw [List.getElem?_cons_succ] at h'
    exact (goR_get (goR_cons.1 hg).2 h').2.1
  | x :: l, i, t, j + 1, k + 1, e, f, hg, h, h', hjk => by
    rw [List.getElem?_cons_succ] at h h'
    exact goR_mono (goR_cons.1 hg).2 h h' (by omega)
  | x :: l, i, t, j + 1, 0, e, f, hg, h, h', hjk => by omega
theorem tm_mono {l : List Er} {i t : Int} (hg : goR i t l = true) {j k : Nat} (hjk : j ≤ k) (hk : k ≤ l.length) : tm t l j ≤ tm t l k := by
  match j, k with
  | 0, 0 => exact Int.le_refl _
  | 0, k + 1 =>
    have hx : l[k]? = some l[k] := List.getElem?_eq_getElem (by omega)
    rw [tm_at hx, tm_zero]
    exact (goR_get hg hx).2.1
  | j + 1, k + 1 =>
    have hx : l[k]? = some l[k] := List.getElem?_eq_getElem (by omega)
    have hy : l[j]? = some (l[j]'(by omega)) := List.getElem?_eq_getElem (by omega)
    rw [tm_at hx, tm_at hy]
    exact goR_mono hg hy hx (by omega)
  | j + 1, 0 => omega
theorem tm_cons (t : Int) (x : Er) (l : List Er) (k : Nat) (hk : k ≤ l.length) : tm t (x :: l) (k + 1) = tm x.t l k := by
  match k with
  | 0 => rfl
  | k + 1 =>
    have hx : l[k]? = some l[k] := List.getElem?_eq_getElem (by omega)
    rw [tm_at hx, tm_at (List.getElem?_cons_succ.trans hx)]
theorem goR_app : ∀ (l : List Er) (i t : Int) (m : List Er), goR i t l = true → goR i t (l ++ m) = goR (i + l.length) (tm t l l.length) m
  | [], i, t, m, _ => by simp [tm]
  | x :: l, i, t, m, hg => by
    have h := goR_cons.1 hg
    obtain ⟨h1, _⟩ := okR_iff.1 h.1
    show (okR i t x && goR x.i x.t (l ++ m)) = _
    rw [h.1, Bool.true_and, goR_app l x.i x.t m h.2, List.length_cons, tm_cons t x l l.length (Nat.le_refl _), h1]
    congr 1
    omega
theorem tm_take (t : Int) (l : List Er) (n k : Nat) (hk : k ≤ n) (hn : n ≤ l.length) : tm t (l.take n) k = tm t l k := by
  match k with
  | 0 => rfl
  | k + 1 =>
    have hx : l[k]? = some l[k] := List.getElem?_eq_getElem (by omega)
    rw [tm_at hx, tm_at (by rw [List.getElem?_take, if_pos (by omega)]; exact hx)]
theorem goR_split {l : List Er} {i t : Int} (n : Nat) (hn : n ≤ l.length) (hg : goR i t l = true) : goR i t (l.take n) = true ∧ goR (i + n) (tm t l n) (l.drop n) = true := by
  induction l generalizing i t n with
  | nil =>
    obtain rfl : n = 0 := by simpa using hn
    simp [goR]
  | cons x l ih =>
    match n with
    | 0 => simpa [goR, tm] using hg
    | n + 1 =>
      have h := goR_cons.1 hg
      obtain ⟨h1, _⟩ := okR_iff.1 h.1
      have hn' : n ≤ l.length := by simpa using hn
      have := ih n hn' h.2
      refine ⟨?_, ?_⟩
      · show (okR i t x && goR x.i x.t (l.take n)) = true
        rw [h.1, this.1]; rfl
      · rw [List.drop_succ_cons, tm_cons t x l n hn']
        rw [show i + ((n + 1 : Nat) : Int) = x.i + n by omega]
        exact this.2
/-- A log that may be. -/
def okL (i t : Int) (l : List Er) : Bool := inM' i && inM' t && goR i t l
/-- The term at an index, if it is there. -/
def atL (i t : Int) (l : List Er) (x : Int) : Option Int := if i ≤ x ∧ x ≤ i + l.length then some (tm t l (x - i).toNat) else none
theorem okL_iff {i t : Int} {l : List Er} : okL i t l = true ↔ (0 ≤ i ∧ i ≤ 1099511627776) ∧ (0 ≤ t ∧ t ≤ 1099511627776) ∧ goR i t l = true := by
  simp [okL, inM', and_assoc]
theorem okL_end {i t : Int} {l : List Er} (h : okL i t l = true) : i + l.length ≤ 1099511627776 := by
  obtain ⟨h1, _, hg⟩ := okL_iff.1 h
  match l, hg with
  | [], _ => simp; omega
  | x :: l, hg =>
    have hx : (x :: l)[l.length]? = some ((x :: l)[l.length]) := List.getElem?_eq_getElem (by simp)
    have := goR_get hg hx
    simp only [List.length_cons]
    omega
theorem tm_bound {i t : Int} {l : List Er} (h : okL i t l = true) (k : Nat) : 0 ≤ tm t l k ∧ tm t l k ≤ 1099511627776 := by
  obtain ⟨h1, h2, hg⟩ := okL_iff.1 h
  match k with
  | 0 => exact h2
  | k + 1 =>
    cases hx : l[k]? with
    | none =>
      show 0 ≤ (match l[k]? with | some e => e.t | none => t) ∧ (match l[k]? with | some e => e.t | none => t) ≤ _
      rw [hx]; exact h2
    | some e => rw [tm_at hx]; have := goR_get hg hx; exact ⟨by omega, this.2.2.2.1⟩
theorem atL_row {i t : Int} {l : List Er} (hg : goR i t l = true) {k : Nat} {e : Er} (hx : l[k]? = some e) : atL i t l e.i = some e.t := by
  have hk := (List.getElem?_eq_some_iff.1 hx).1
  have h := goR_get hg hx
  unfold atL
  rw [if_pos (by omega), show (e.i - i).toNat = k + 1 by omega, tm_at hx]

/-- From where on entries are others than a log has (of those behind its base). -/
def oth (i t : Int) (l : List Er) (e : Er) : Bool := decide (i < e.i) && !(atL i t l e.i == some e.t)
def fstO (i t : Int) (l : List Er) : List Er → Option Nat
  | [] => none
  | e :: m => if oth i t l e then some 0 else (fstO i t l m).map (· + 1)
def meetB (i t : Int) (l : List Er) (x u : Int) (m : List Er) : Bool := inM' u && ((decide (m.length = 0) || inM' x) && goR x u m) && (decide (x < i) || (atL i t l x == some u))
structure Jn where
  l : List Er
  cut : Int
  fresh : List Er
  ok : Bool
def joinL (i t : Int) (l : List Er) (x u : Int) (m : List Er) : Jn :=
  if meetB i t l x u m then
    match fstO i t l m with
    | none => ⟨l, 0, [], true⟩
    | some f => match m[f]? with
      | none => ⟨l, 0, [], true⟩
      | some e =>
        if e.t < (atL i t l (e.i - 1)).getD 0 then ⟨l, 0, [], false⟩
        else ⟨l.take (e.i - 1 - i).toNat ++ m.drop f, if e.i ≤ i + l.length then e.i else 0, m.drop f, true⟩
  else ⟨l, 0, [], false⟩
theorem fstO_some {i t : Int} {l : List Er} : ∀ {m : List Er} {f : Nat}, fstO i t l m = some f → ∃ e, m[f]? = some e ∧ oth i t l e = true ∧ ∀ (j : Nat) (e' : Er), j < f → m[j]? = some e' → oth i t l e' = false
  | [], f, h => by simp [fstO] at h
  | x :: m, f, h => by
    unfold fstO at h
    cases hx : oth i t l x with
    | true =>
      rw [hx, if_pos rfl] at h
      cases h
      exact ⟨x, rfl, hx, fun j e' hj => by omega⟩
    | false =>
      rw [hx, if_neg (by decide)] at h
      obtain ⟨f', hf, rfl⟩ := Option.map_eq_some_iff.1 h
      obtain ⟨e, h1, h2, h3⟩ := fstO_some hf
      refine ⟨e, h1, h2, fun j e' hj hj' => ?_⟩
      match j with
      | 0 => simp only [List.getElem?_cons_zero, Option.some.injEq] at hj'; subst hj'; exact hx
      | j + 1 => exact h3 j e' (by omega) hj'
theorem fstO_none {i t : Int} {l : List Er} : ∀ {m : List Er}, fstO i t l m = none → ∀ (j : Nat) (e' : Er), m[j]? = some e' → oth i t l e' = false
  | [], h, j, e', hj => by simp at hj
  | x :: m, h, j, e', hj => by
    unfold fstO at h
    cases hx : oth i t l x with
    | true => rw [hx, if_pos rfl] at h; cases h
    | false =>
      rw [hx, if_neg (by decide)] at h
      match j with
      | 0 => simp only [List.getElem?_cons_zero, Option.some.injEq] at hj; subst hj; exact hx
      | j + 1 => exact fstO_none (Option.map_eq_none_iff.1 h) j e' hj
theorem oth_false {i t : Int} {l : List Er} {e : Er} (h : oth i t l e = false) (hi : i < e.i) : atL i t l e.i = some e.t := by
  unfold oth at h
  rw [decide_eq_true hi, Bool.true_and] at h
  simpa using h
/-- Where others begin, the log has what stands ahead. -/
theorem fst_ahead {i t : Int} {l : List Er} {x u : Int} {m : List Er} (hm : meetB i t l x u m = true) {f : Nat} {e : Er} (hf : fstO i t l m = some f) (he : m[f]? = some e) : i ≤ e.i - 1 ∧ e.i - 1 ≤ i + l.length := by
  obtain ⟨e', he', ho, hbef⟩ := fstO_some hf
  rw [he] at he'; cases he'
  unfold meetB at hm
  simp only [Bool.and_eq_true, Bool.or_eq_true, decide_eq_true_eq, beq_iff_eq] at hm
  obtain ⟨⟨_, _, hg⟩, hx⟩ := hm
  have hi : i < e.i := by
    unfold oth at ho
    simp only [Bool.and_eq_true, decide_eq_true_eq] at ho
    exact ho.1
  have hei := (goR_get hg he).1
  match f with
  | 0 =>
    rcases hx with hx | hx
    · omega
    · unfold atL at hx
      split at hx
      · omega
      · cases hx
  | f + 1 =>
    have hk := (List.getElem?_eq_some_iff.1 he).1
    have hy : m[f]? = some (m[f]'(by omega)) := List.getElem?_eq_getElem (by omega)
    have hyi := (goR_get hg hy).1
    have hb := hbef f _ (by omega) hy
    by_cases hlt : i < (m[f]'(by omega)).i
    · have := oth_false hb hlt
      unfold atL at this
      split at this
      · omega
      · cases this
    · omega
theorem okL_join {i t : Int} {l : List Er} {x u : Int} {m : List Er} (hl : okL i t l = true) : okL i t (joinL i t l x u m).l = true := by
  unfold joinL
  split
  · rename_i hm
    cases hf : fstO i t l m with
    | none => exact hl
    | some f =>
      obtain ⟨e, he, _⟩ := fstO_some hf
      simp only [he]
      split
      · exact hl
      · rename_i hle
        obtain ⟨h1, h2⟩ := fst_ahead hm hf he
        obtain ⟨a1, a2, hg⟩ := okL_iff.1 hl
        have hn : (e.i - 1 - i).toNat ≤ l.length := by omega
        have hs := goR_split _ hn hg
        refine okL_iff.2 ⟨a1, a2, ?_⟩
        rw [goR_app _ _ _ _ hs.1]
        have hlen : (l.take (e.i - 1 - i).toNat).length = (e.i - 1 - i).toNat := by rw [List.length_take]; omega
        rw [hlen, tm_take _ _ _ _ (Nat.le_refl _) hn]
        unfold meetB at hm
        simp only [Bool.and_eq_true, Bool.or_eq_true, decide_eq_true_eq, beq_iff_eq] at hm
        obtain ⟨⟨_, _, hgm⟩, hx⟩ := hm
        have hk := (List.getElem?_eq_some_iff.1 he).1
        have hd := (goR_split f (by omega) hgm).2
        have hgd := goR_get hgm he
        have hat : atL i t l (e.i - 1) = some (tm t l (e.i - 1 - i).toNat) := by unfold atL; rw [if_pos ⟨h1, h2⟩]
        rw [hat, Option.getD_some] at hle
        rw [List.drop_eq_getElem_cons hk] at hd ⊢
        have hek : m[f] = e := (List.getElem?_eq_some_iff.1 he).2
        rw [hek] at hd ⊢
        have hc := goR_cons.1 hd
        refine goR_cons.2 ⟨okR_iff.2 ⟨?_, hgd.2.2.2.2.1, ?_, hgd.2.2.2.1, hgd.2.2.2.2.2⟩, hc.2⟩
        · omega
        · have := hgd.2.2.1
          omega
  · exact hl
end Go.Proofs.Ytcmfnokpbgfioaa
