/-
  Arguments of type []string, opened; the walk of TextMade, whole.
-/
import Derived.Test.YthmibccjnhmegaaDoorMadeW
import Derived.SliceStrings
import Derived.SizedLaws
namespace Go.Proofs.YthmibccjnhmegaaDoor
set_option linter.unusedVariables false
set_option linter.unusedSimpArgs false
open Go.RowKit Go.Maps Go.ChangeShapes

theorem weightsAll_mem {H : Type} {P : Program} {e : TypeId} {d : DataW H} {n : Nat} (hn : n ∈ d.weights P e) : ∀ l : List (DataW H), d ∈ l → n ∈ DataW.weightsAll P e l
  | [], h => by simp at h
  | x :: l, h => by
    simp only [DataW.weightsAll, List.mem_append]
    rcases List.mem_cons.1 h with rfl | h
    · exact .inl hn
    · exact .inr (weightsAll_mem hn l h)

theorem opened_strings {H : Type} {enc : TypeId × Value → H} {W : World} {a0 : Option Addr} {len cap : Nat} {d0 : DataW H} {p : List MemPlace}
    (h0 : DataW.Trod enc Tryd.prog W 0 (fun _ => true) true 27 (.slice a0 len cap) d0 p) (hd : ∀ n ∈ d0.weights Tryd.prog 27, n ≤ reachBytes) :
    ∃ xs : List ByteArray, StrsIn W a0 len xs ∧ len ≤ 9223372036854775807 := by
  obtain ⟨fuel, hf⟩ := h0
  rcases open_strings Tryd.underlying27 Tryd.underlying9 (by kernel_rfl) hf with ⟨hcs, _⟩ | ⟨a, len', cap', ss, hcs, _, hl, hm, hz, hx, hcell, hwz⟩
  · simp [Value.cells] at hcs
    obtain ⟨rfl, rfl, rfl⟩ := hcs
    exact ⟨[], ⟨rfl, fun h => absurd h (by omega), by simp⟩, by omega⟩
  · simp [Value.cells] at hcs
    obtain ⟨rfl, rfl, rfl⟩ := hcs
    simp only [if_true] at hz
    simp only [Prod.mk.injEq] at hx
    obtain ⟨rfl, _⟩ := hx
    refine ⟨ss.take len, ⟨by simp; omega, fun hn => ?_, fun x hx => ?_⟩, by unfold maxLen at hm; omega⟩
    · have hb := hcell 0 (by omega)
      obtain ⟨b, o, t⟩ := a
      obtain rfl : t = none := by simpa [Addr.add] using World.cell?_spot hb
      exact ⟨b, o, rfl, World.block_lt_of_cell? W _ hb, fun i hi => by
        have := hcell i (by omega)
        rw [addLit] at this
        rw [this]; simp [List.getD, hi]⟩
    · have h1 : x.data.toList.length ∈ (DataW.slice (strs (ss.take len)) (strs (ss.drop len)) : DataW H).weights Tryd.prog 27 := by
        simp only [DataW.weights, Tryd.underlying27, List.mem_cons, List.mem_append]
        exact .inr (.inl (weightsAll_mem (d := .lit (.string x.data.toList)) (by simp [DataW.weights]) _ (List.mem_map.2 ⟨x, hx, rfl⟩)))
      have h2 := hd _ h1
      rw [← Lib.size_eq] at h2
      exact Nat.le_trans h2 (by decide)

theorem TextMade_walk (a1 a2 : Option Addr) (len1 cap1 len2 cap2 : Nat) (xs ys : List ByteArray) (other : ByteArray) (w : World) (hx : StrsIn w a1 len1 xs) (hy : StrsIn w a2 len2 ys) (ho : other.size ≤ 9223372036854775807)
    (hl1 : len1 ≤ 9223372036854775807) (hl2 : len2 ≤ 9223372036854775807) (hT : TabIn w) :
    Calls Tryd.prog 9 #[.slice a1 len1 cap1, .slice a2 len2 cap2, .string other] w (Yes w) := by
  rcases Nat.eq_zero_or_pos (min (min len1 len2) 50) with h0 | h0
  · exact Made_none a1 a2 len1 cap1 len2 cap2 other w ho (fun ts t W => min3_nat ts t W len1 len2 0 h0.symm) hT
  · obtain ⟨b1, o1, rfl, _⟩ := hx.at' (by omega)
    obtain ⟨b2, o2, rfl, _⟩ := hy.at' (by omega)
    exact Made_some b1 o1 b2 o2 len1 cap1 len2 cap2 _ xs ys other w hx hy ho hl1 hl2 h0 (by omega) (by omega) (by omega) (fun ts t W => min3_nat ts t W len1 len2 _ rfl) hT

end Go.Proofs.YthmibccjnhmegaaDoor
