/-
  What TextMade's walk stands on: the map of the names that were had, lists of texts that came in, all fields joined.
-/
import Derived.Test.YthmibccjnhmegaaDoorPartsW
import Derived.Test.YthmibccjnhmegaaDoorM9
import Derived.Test.YthmibccjnhmegaaDoorBig
import Derived.Test.YthmibccjnhmegaaDoorShelf2
import Derived.Maps.OwnOps
import Derived.Maps.OwnSet
import Derived.Maps.Views
import Derived.StringKeys
namespace Go.Proofs.YthmibccjnhmegaaDoor
set_option linter.unusedVariables false
set_option linter.unusedSimpArgs false
open Go.RowKit Go.Maps

/-- A slice of texts that came in. -/
structure StrsIn (w : World) (a : Option Addr) (n : Nat) (xs : List ByteArray) : Prop where
  len : xs.length = n
  at' : 0 < n → ∃ b o, a = some ⟨b, o, none⟩ ∧ b < w.heap.size ∧ ∀ i, i < n → w.cell? ⟨b, o + i, none⟩ = some (.string (xs.getD i ByteArray.empty))
  small : ∀ x ∈ xs, x.size ≤ 140737488351232

/-- The datum of the map of these names. -/
def hadD (l : List ByteArray) : DataW Unit := l.foldl (fun D x => D.put (.string x.data.toList) (.lit (.bool true))) (.map [])
theorem hadD_snoc (l : List ByteArray) (x : ByteArray) : hadD (l ++ [x]) = (hadD l).put (.string x.data.toList) (.lit (.bool true)) := by simp [hadD, List.foldl_append]
theorem hadD_map (l : List ByteArray) : IsMap (hadD l) := by
  refine rev_ind (P := fun l => IsMap (hadD l)) ⟨[], rfl⟩ ?_ l
  intro l x ⟨es, h⟩
  rw [hadD_snoc, h]
  exact ⟨_, rfl⟩
theorem lit_inj {a b : ByteArray} (h : (Lit.string a.data.toList) = .string b.data.toList) : a = b := by
  simp only [Lit.string.injEq] at h
  exact toList_inj h
theorem hadD_at (l : List ByteArray) (y : ByteArray) : (hadD l).atKey (.string y.data.toList) (.lit (.bool false)) = .lit (.bool (decide (y ∈ l))) := by
  refine rev_ind (P := fun l => (hadD l).atKey (.string y.data.toList) (.lit (.bool false)) = .lit (.bool (decide (y ∈ l)))) rfl ?_ l
  intro l x ih
  rw [hadD_snoc]
  by_cases e : y = x
  · subst e
    rw [atKey_put_same (k := .string y.data.toList) (hadD_map l) trivial]
    simp
  · rw [atKey_put_other (fun h => e (lit_inj h)), ih]
    simp [e]

theorem plainElem_bool_inv {P : Program} {e : TypeId} (he : P.underlying e = some .bool) {v : Value} {z : DataW Unit × List MemPlace} (h : plainElem P e v = some z) : ∃ x, v = .bool x ∧ z = (.lit (.bool x), []) := by
  unfold plainElem at h
  rw [he] at h
  cases v <;> simp at h
  exact ⟨_, rfl, h.symm⟩

theorem zeroB' (w : World) : (zeroValue 4).run Tryd.prog w = .ok (.bool false) w := by kernel_rfl
theorem keyS : Keyed Tryd.prog 9 := string_keyed Tryd.underlying9

def Had (w : World) (b n : Nat) (l : List ByteArray) : Prop := w.ownsMap Tryd.prog 9 (plainElem Tryd.prog 4) b n (hadD l)

/-- What the map says of a name. -/
theorem had_look {w : World} {b n : Nat} {l : List ByteArray} (h : Had w b n l) (y : ByteArray) (hy : y.size ≤ 9223372036854775807) :
    (Instr.lookup 38 (.map (some b)) (.string y) false).run Tryd.prog w = .ok (.bool (decide (y ∈ l))) w := by
  obtain ⟨v, ps, hrun, hv⟩ := World.ownsMap.lookup h keyS Tryd.underlying38 (zeroB' w) (plainElem_bool Tryd.underlying4 false) (WideMaps.keyOf_string_mk Tryd.underlying9 (s := y) (by unfold maxLen; omega))
  obtain ⟨x, rfl, hx⟩ := plainElem_bool_inv Tryd.underlying4 hv
  simp only [Prod.mk.injEq] at hx
  rw [hadD_at] at hx
  have := hx.1
  simp only [DataW.lit.injEq, Lit.bool.injEq] at this
  rw [this]; exact hrun

theorem Had.later {w w' : World} {b n : Nat} {l : List ByteArray} (h : Had w b n l) (hb : Below w.heap.size w w') : Had w' b n l :=
  World.ownsMap.kept (row := Option.none) h ⟨hb.os, hb.tape, hb.output, hb.size, fun k hk _ => hb.block k hk⟩ (by simp)

def valSum (l : List (ByteArray × ByteArray)) : Nat := (l.map fun x => x.2.size).sum
theorem allText_size (l : List (ByteArray × ByteArray)) (hx : ∀ x ∈ l, x.1.size ≤ 8) : (allText l).size ≤ l.length * 10 + valSum l := by
  rw [Lib.size_eq]
  show (Lib.join _ _).length ≤ _
  refine Nat.le_trans (join_len _ _) ?_
  have hs : (((l.map fieldText).map (·.data.toList)).map List.length).sum ≤ l.length * 9 + valSum l := by
    induction l with
    | nil => simp [valSum]
    | cons x l ih =>
      have h1 := hx x (List.mem_cons_self ..)
      have h2 := ih fun y hy => hx y (List.mem_cons_of_mem _ hy)
      unfold valSum at h2 ⊢
      simp only [List.map_cons, List.sum_cons, List.length_cons]
      rw [fieldText_list]
      simp only [List.length_append, List.length_cons]
      rw [← Lib.size_eq, ← Lib.size_eq, Nat.add_mul]
      omega
  simp only [List.length_map]
  have h1 : (⟨#[32]⟩ : ByteArray).data.toList.length = 1 := rfl
  rw [h1]
  omega

/-- All fields joined, out of a row that the call owns. -/
theorem JoinAll (l : List (ByteArray × ByteArray)) (B n : Nat) (v : Value) (w : World) (hn : n = l.length) (h50 : n ≤ 50) (hx : ∀ x ∈ l, x.1.size ≤ 8) (hv : valSum l ≤ 140737488351232)
    (hown : w.ownsRow B 9 1 v n (strVals (l.map fieldText))) :
    Calls Tryd.prog 30 #[v, .string ⟨#[32]⟩] w fun e w' => e = .returned (.string (allText l)) ∧ Below w.heap.size w w' := by
  have hz := allText_size l hx
  rcases Nat.eq_zero_or_pos n with h0 | h0
  · have hl : l = [] := List.eq_nil_of_length_eq_zero (by omega)
    subst hl
    have hv : ∃ a c, v = .slice a 0 c := by
      rcases hown.2 with ⟨rfl, _⟩ | ⟨g, cap, cur, rfl, _⟩
      · exact ⟨_, _, rfl⟩
      · exact ⟨_, _, by rw [h0]⟩
    obtain ⟨a, c, rfl⟩ := hv
    exact (Tryd.strings_Join_none a c ⟨#[32]⟩ w).mono fun e w' ⟨he, hw⟩ => ⟨he, hw ▸ Below.refl _ _⟩
  · obtain ⟨g, c, rfl⟩ := owns_open hown h0
    have hcap : n ≤ c := by
      rcases hown.2 with ⟨h, _⟩ | ⟨g', cap, cur, h, _, _, h2, _⟩
      · cases h
      · simp only [Value.slice.injEq] at h; omega
    have hnl : n = (l.map fieldText).length := by rw [List.length_map]; exact hn
    subst hnl
    refine (Tryd.strings_Join g 0 c (l.map fieldText) ⟨#[32]⟩ w (fun j x hj => ?_) (owns_at hown).2 (by omega) hcap ?_).mono fun e w' ⟨he, hb⟩ => ⟨he, hb⟩
    · have hjl := (List.getElem?_eq_some_iff.1 hj).1
      rw [Nat.zero_add, owns_cell hown j hjl, str_cell _ _ hjl, List.getD_eq_getElem?_getD, hj]; rfl
    · rw [Lib.size_eq] at hz
      exact Nat.le_trans hz (by omega)

theorem IndexByte_any (s : ByteArray) (w : World) : Calls Tryd.prog 31 #[.string s, .int .u8 32] w fun e w' => e = .returned (.int .i64 (Lib.indexByte s.data.toList 32)) ∧ w = w' :=
  (Tryd.strings_IndexByte s 32 w).mono fun _ _ ⟨a, b⟩ => ⟨a, b.symm⟩

end Go.Proofs.YthmibccjnhmegaaDoor
