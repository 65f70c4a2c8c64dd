/-
  Slices of slices of bytes that a call owns: what grows by append, and what is read of it.
-/
import Derived.Test.YtpdabpcdmenlaaaDoorRX
namespace Go.Proofs.YtpdabpcdmenlaaaDoor
set_option linter.unusedVariables false
set_option linter.unusedSimpArgs false
open Go.RowKit

theorem Tryd.infoSl : (Tryd.prog.info? 22).map (fun i => (i.zero, i.size, i.bytes)) = some (some (.slice none 0 0), 1, 24) := by kernel_rfl

/-- What the call owns from block B on: slices of bytes, one for each of these lists. -/
structure OwnL (w : World) (B : Nat) (v : Value) (ls : List (List Int)) (vals : List Value) : Prop where
  own : w.ownsRow B 22 1 v ls.length vals
  empty : ls.length = 0 → v.ownBlock = none
  each : ∀ i, i < ls.length → ∃ g m c, vals[i]? = some (.slice (some ⟨g, 0, none⟩) m c) ∧ Lib.BytesIn w (some ⟨g, 0, none⟩) m (ls.getD i []) ∧ (ls.getD i []).length = m

theorem OwnL.later {w w' : World} {B : Nat} {v : Value} {ls : List (List Int)} {vals : List Value} (h : OwnL w B v ls vals) (hb : Below w.heap.size w w') : OwnL w' B v ls vals where
  own := h.own.kept (row := Option.none) ⟨hb.os, hb.tape, hb.output, hb.size, fun k hk _ => hb.block k hk⟩ (by cases v.ownBlock <;> simp)
  empty := h.empty
  each := fun i hi => by
    obtain ⟨g, m, c, h1, h2, h3⟩ := h.each i hi
    exact ⟨g, m, c, h1, Go.Proofs.YtpdabpcdmenlaaaDoor.later h2 hb, h3⟩

theorem OwnL.nil (w : World) (B : Nat) : OwnL w B (.slice Option.none 0 0) [] [] where
  own := World.ownsRow_nil w B _ 1
  empty := fun _ => rfl
  each := fun i hi => by simp at hi

/-- Bytes stay where a row of slices grows: the row's block holds slices, theirs holds bytes. -/
theorem in_grown {w w' : World} {B : Nat} {v : Value} {ls : List (List Int)} {vals : List Value} (hL : OwnL w B v ls vals) (hg : w.grownBy w' v.ownBlock) {g m : Nat} {xs : List Int} (h : Lib.BytesIn w (some ⟨g, 0, none⟩) m xs) :
    Lib.BytesIn w' (some ⟨g, 0, none⟩) m xs := by
  intro hm
  obtain ⟨b, o, he, hc⟩ := h hm
  simp only [Option.some.injEq, Addr.mk.injEq, and_true] at he
  obtain ⟨rfl, rfl⟩ := he
  refine ⟨g, 0, rfl, fun i hi => hg.cell (hc i hi) ?_⟩
  intro hrow
  have h0 := hc 0 hm
  rcases Nat.eq_zero_or_pos ls.length with hl | hl
  · rw [hL.empty hl] at hrow; cases hrow
  · rcases hL.own.2 with ⟨rfl, hz⟩ | ⟨g', cap, cur, rfl, _⟩
    · omega
    · simp only [Value.ownBlock, Option.some.injEq] at hrow
      subst hrow
      have h1 := hL.own.cellAt 0 (by omega)
      obtain ⟨_, _, _, h2, _⟩ := hL.each 0 hl
      rw [h2] at h1
      rw [Nat.add_zero] at h0
      rw [h0] at h1
      cases h1

theorem wpList_pushl {w0 : World} {ops : Array Oper} {rest : List Oper} {o : Oper} {a : Act} {Q : Exit → Act → World → Prop} (hgd : o.guard = none) (s x : Operand)
    (ho : o.op = .call { callee := .builtin .append, args := #[s, x], argTypes := #[57, 57] })
    (B : Nat) (v : Value) (ls : List (List Int)) (vals : List Value) (hs : a.eval s = v) (hL : OwnL w0 B v ls vals)
    (g m c : Nat) (pay : List Int) (hx : a.eval x = .slice (some ⟨w0.heap.size, 0, none⟩) 1 1) (hin : Lib.BytesIn w0 (some ⟨g, 0, none⟩) m pay) (hl : pay.length = m)
    (hlen : ls.length ≤ 100000) (hB : B ≤ w0.heap.size)
    (h : ∀ v' w', OwnL w' B v' (ls ++ [pay]) (vals ++ [.slice (some ⟨g, 0, none⟩) m c]) → Below B w0 w' → wpList Tryd.prog ops Q rest (a.put o.dst v') w') :
    wpList Tryd.prog ops Q (o :: rest) a (w0.alloc (.cells #[.slice (some ⟨g, 0, none⟩) m c] 22)) := by
  obtain ⟨i0, hi, hz0, hz1, hz2⟩ := info_parts Tryd.infoSl
  have hb0 := (Below.refl w0.heap.size w0).alloc (Nat.le_refl _) (.cells #[.slice (some ⟨g, 0, none⟩) m c] 22)
  have hbB := (Below.refl B w0).alloc hB (.cells #[.slice (some ⟨g, 0, none⟩) m c] 22)
  have hL' := hL.later hb0
  have hin' := Go.Proofs.YtpdabpcdmenlaaaDoor.later hin hb0
  refine wpList_append_own _ hgd s x 57 ho B 22 i0 (.slice none 0 0) 1 24 Tryd.underlying57 hi hz0 hz1 hz2 rfl (by decide) v ls.length vals hs hL'.own ⟨w0.heap.size, 0, none⟩ 1 1 [.slice (some ⟨g, 0, none⟩) m c] hx rfl ?_ ?_ (by unfold maxLen; omega) (by omega) (by have := hb0.size; omega) ?_
  · intro j u hu
    match j, hu with
    | 0, hu => rw [addLit, World.cell?_alloc_at _ _ _ _ rfl, ← hu]; rfl
  · intro u hu
    obtain rfl := List.mem_singleton.1 hu
    rfl
  · intro v' w' hown hgrow hnil
    refine h v' w' ⟨by simpa using hown, by simp, ?_⟩ (hbB.grown hgrow (by have := hb0.size; omega) (fun k hk => (hL.own.lt k hk).1))
    intro i hi
    rw [List.length_append, List.length_singleton] at hi
    have hvl : vals.length = ls.length := by simpa using hL.own.1
    by_cases hlt : i < ls.length
    · obtain ⟨g1, m1, c1, h1, h2, h3⟩ := hL'.each i hlt
      refine ⟨g1, m1, c1, by rw [List.getElem?_append_left (by omega)]; exact h1, ?_⟩
      rw [List.getD_eq_getElem?_getD, List.getElem?_append_left hlt, ← List.getD_eq_getElem?_getD]
      exact ⟨in_grown hL' hgrow h2, h3⟩
    · obtain rfl : i = ls.length := by omega
      refine ⟨g, m, c, by rw [List.getElem?_append_right (by omega), hvl, Nat.sub_self]; rfl, ?_⟩
      rw [List.getD_eq_getElem?_getD, List.getElem?_append_right (Nat.le_refl _), Nat.sub_self]
      exact ⟨in_grown hL' hgrow hin', hl⟩

/-- So many frames behind one another: their payloads, and where they end. -/
def run (xs : List Int) : Nat → List (List Int) × Nat
  | 0 => ([], 0)
  | k + 1 => ((run xs k).1 ++ [(nextAt (xs.drop (run xs k).2)).1], (run xs k).2 + (nextAt (xs.drop (run xs k).2)).2.1)

def Good (xs : List Int) (k : Nat) : Prop := ∀ i, i < k → (nextAt (xs.drop (run xs i).2)).2.2 = 0

theorem Good.succ {xs : List Int} {k : Nat} (h : Good xs k) (he : (nextAt (xs.drop (run xs k).2)).2.2 = 0) : Good xs (k + 1) := by
  intro i hi
  rcases Nat.lt_succ_iff_lt_or_eq.1 hi with h1 | rfl
  · exact h i h1
  · exact he

theorem run_one {xs : List Int} {k j : Nat} (h1 : Good xs k) (h2 : Good xs j) (e1 : (nextAt (xs.drop (run xs k).2)).2.2 ≠ 0) (e2 : (nextAt (xs.drop (run xs j).2)).2.2 ≠ 0) : k = j := by
  rcases Nat.lt_trichotomy k j with h | h | h
  · exact absurd (h2 k h) e1
  · exact h
  · exact absurd (h1 j h) e2

/-- What both of the Alls answer. -/
def AllP (B : Nat) (w : World) (xs : List Int) (e : Ending) (w' : World) : Prop :=
  ∃ k v vals, e = .returned (.tuple #[v, .int .i64 (run xs k).2]) ∧ Good xs k ∧ (nextAt (xs.drop (run xs k).2)).2.2 ≠ 0 ∧ (run xs k).1.length = k ∧ OwnL w' B v (run xs k).1 vals ∧ Below B w w'

theorem run_length (xs : List Int) : ∀ k, (run xs k).1.length = k
  | 0 => rfl
  | k + 1 => by rw [run, List.length_append, run_length xs k]; rfl

end Go.Proofs.YtpdabpcdmenlaaaDoor
