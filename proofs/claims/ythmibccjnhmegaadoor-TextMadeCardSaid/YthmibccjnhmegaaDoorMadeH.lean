/-
  Plain facts and steps for TextMade.
-/
import Derived.Test.YthmibccjnhmegaaDoorMadeA
import Derived.Lib.MinMax
namespace Go.Proofs.YthmibccjnhmegaaDoor
set_option linter.unusedVariables false
set_option linter.unusedSimpArgs false
open Go.RowKit Go.Maps

def pairsOf (xs ys : List ByteArray) (k : Nat) : List (ByteArray × ByteArray) := (List.range k).map fun j => (xs.getD j ByteArray.empty, ys.getD j ByteArray.empty)
theorem pairs_succ (xs ys : List ByteArray) (k : Nat) : pairsOf xs ys (k + 1) = pairsOf xs ys k ++ [(xs.getD k ByteArray.empty, ys.getD k ByteArray.empty)] := by
  unfold pairsOf; rw [List.range_succ, List.map_append]; rfl
theorem pairs_length (xs ys : List ByteArray) (k : Nat) : (pairsOf xs ys k).length = k := by simp [pairsOf]
theorem pairs_at (xs ys : List ByteArray) (k i : Nat) (h : i < k) : (pairsOf xs ys k)[i]? = some (xs.getD i ByteArray.empty, ys.getD i ByteArray.empty) := by
  unfold pairsOf; rw [List.getElem?_map, List.getElem?_range h]; rfl

/-- What holds of the fields that were taken. -/
structure Took (l : List (ByteArray × ByteArray)) : Prop where
  clean : ∀ x ∈ l, Clean x
  apart : (l.map (Prod.fst : ByteArray × ByteArray → ByteArray)).Nodup
  small : ∀ x ∈ l, x.1.size ≤ 8

theorem Took.nil : Took [] := ⟨by simp, by simp, by simp⟩
theorem Took.more {l : List (ByteArray × ByteArray)} (h : Took l) {x y : ByteArray} (h1 : madeB x 1 8 letterB = true) (h2 : ¬ x ∈ l.map (Prod.fst : ByteArray × ByteArray → ByteArray)) (h3 : ¬ (32 : UInt8) ∈ y.data.toList) : Took (l ++ [(x, y)]) where
  clean := fun z hz => by
    rcases List.mem_append.1 hz with hz | hz
    · exact h.clean z hz
    · rw [List.mem_singleton] at hz; subst hz
      exact ⟨h1, fun b hb e => h3 (e ▸ hb)⟩
  apart := by
    rw [List.map_append, List.nodup_append]
    refine ⟨h.apart, by simp, ?_⟩
    intro a ha b hb e
    simp only [List.map_cons, List.map_nil, List.mem_singleton] at hb
    subst e; subst hb
    exact h2 ha
  small := fun z hz => by
    rcases List.mem_append.1 hz with hz | hz
    · exact h.small z hz
    · rw [List.mem_singleton] at hz; subst hz
      exact name_size h1

theorem valSum_snoc (l : List (ByteArray × ByteArray)) (x y : ByteArray) : valSum (l ++ [(x, y)]) = valSum l + y.size := by simp [valSum]
theorem strVals_snoc' (l : List ByteArray) (x : ByteArray × ByteArray) : strVals l ++ [Value.string (fieldText x)] = strVals (l ++ [x].map fieldText) := strVals_snoc l _
theorem index_minus {l : List UInt8} (h : ¬ (32 : UInt8) ∈ l) : Lib.indexByte l 32 = -1 := by rw [indexByte_one, if_neg h]
theorem parts_few {l : List (ByteArray × ByteArray)} (h : Took l) (hl : l.length ≤ 50) : (partsOf (allText l) 32).length ≤ 1000000 := by
  by_cases e : l = []
  · subst e
    have : partsOf (allText []) 32 = [ByteArray.empty] := by decide +kernel
    rw [this]; decide
  · rw [parts_all l e h.clean, List.length_map]; omega

theorem StrsIn.lt {w : World} {b o n : Nat} {xs : List ByteArray} (h : StrsIn w (some ⟨b, o, none⟩) n xs) (hn : 0 < n) : b < w.heap.size := by
  obtain ⟨b', o', e, hb, _⟩ := h.at' hn
  simp only [Option.some.injEq, Addr.mk.injEq] at e
  obtain ⟨rfl, _, _⟩ := e; exact hb
theorem StrsIn.cell {w W : World} {b o n : Nat} {xs : List ByteArray} (h : StrsIn w (some ⟨b, o, none⟩) n xs) (hn : 0 < n) (hb : Below w.heap.size w W) (i : Nat) (hi : i < n) : W.cell? ⟨b, o + i, none⟩ = some (.string (xs.getD i ByteArray.empty)) := by
  have hlt := h.lt hn
  obtain ⟨b', o', e, _, hc⟩ := h.at' hn
  simp only [Option.some.injEq, Addr.mk.injEq] at e
  obtain ⟨rfl, rfl, _⟩ := e
  exact (hb.cell hlt).trans (hc i hi)
theorem StrsIn.size_at {w : World} {a : Option Addr} {n : Nat} {xs : List ByteArray} (h : StrsIn w a n xs) (i : Nat) (hi : i < n) : (xs.getD i ByteArray.empty).size ≤ 140737488351232 := by
  have hl := h.len
  rw [List.getD_eq_getElem?_getD, List.getElem?_eq_getElem (by omega)]
  exact h.small _ (List.getElem_mem _)

theorem min2_nat (ts : Array TypeId) (t : TypeId) (W : World) (m q : Nat) (h : q = min m 16384) : (Builtin.min_ ts t #[.int .i64 m, .int .i64 16384]).run Tryd.prog W = .ok (.int .i64 q) W := by
  rw [run_min_int2]
  congr 2
  split <;> omega
theorem min3_nat (ts : Array TypeId) (t : TypeId) (W : World) (m n q : Nat) (h : q = min (min m n) 50) : (Builtin.min_ ts t #[.int .i64 m, .int .i64 n, .int .i64 50]).run Tryd.prog W = .ok (.int .i64 q) W := by
  rw [run_min_int3]
  congr 2
  split <;> split at * <;> omega

theorem had_new (w : World) : Had (w.alloc (.map #[] 0)) w.heap.size 0 [] := World.ownsMap_made _ _ _ _
theorem had_put {w : World} {b n : Nat} {l : List ByteArray} {x : ByteArray} (h : w.ownsMap Tryd.prog 9 (plainElem Tryd.prog 4) b (n + 1) ((hadD l).put (.string x.data.toList) (.lit (.bool true)))) : Had w b (n + 1) (l ++ [x]) := by
  unfold Had; rw [hadD_snoc]; exact h
theorem below_map {w0 w w' : World} (hb : Below w0.heap.size w0 w) (hg : w.grownBy w' (some w0.heap.size)) : Below w0.heap.size w0 w' :=
  hb.grown hg hb.size (fun k hk => by simp at hk; omega)
theorem owns_map {w w' : World} {b n : Nat} {v : Value} {xs : List Value} (h : w.ownsRow (b + 1) 9 1 v n xs) (hg : w.grownBy w' (some b)) : w'.ownsRow (b + 1) 9 1 v n xs := by
  refine h.kept hg ?_
  cases hv : v.ownBlock with
  | none => exact .inl rfl
  | some g =>
    refine .inr fun e => ?_
    have := (h.lt g hv).1
    simp at e; omega
theorem map_cell {w w' : World} {b k o : Nat} {v : Value} (hg : w.grownBy w' (some b)) (h : w.cell? ⟨k, o, none⟩ = some v) (hne : k ≠ b) : w'.cell? ⟨k, o, none⟩ = some v :=
  hg.cell h (by simpa using hne)
theorem had_row {w w' : World} {b n k : Nat} {l : List ByteArray} {v : Value} {xs : List Value} (h : Had w b n l) (hr : w.ownsRow (b + 1) 9 1 v k xs) (hg : w.grownBy w' v.ownBlock) : Had w' b n l := by
  refine World.ownsMap.kept h hg ?_
  cases hv : v.ownBlock with
  | none => simp
  | some g =>
    have := (hr.lt g hv).1
    intro e; simp at e; omega

end Go.Proofs.YthmibccjnhmegaaDoor
