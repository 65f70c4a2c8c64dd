/-
  Walks: two lists of sessions are the same (the library's).
-/
import Derived.Test.YtnfpobbdcjfcoaaB12
namespace Go.Proofs.Ytnfpobbdcjfcoaa
set_option linter.unusedVariables false
set_option linter.unusedSimpArgs false
open Go.RowKit
variable {w : World}

set_option maxRecDepth 100000 in
set_option maxHeartbeats 3200000 in
theorem equal_any {v u : Value} {l : List Se} (h : SeB w [] v l) (hu : SeB w [] u l) :
    Calls Try.prog 27 #[v, u] w fun e w' => e = .returned (.bool true) ∧ Below w.heap.size w w' := by
  obtain ⟨a, c, rfl, h1, h2, h⟩ := h
  obtain ⟨a', c', rfl, h1', h2', h'⟩ := hu
  have HD := Lib.hid h
  have HE := Lib.hid h'
  clear h h'
  go_enter Try.func27, Try.ntmps27
  go_wp2_with fail
  go_loopw [13] (fun v wr => ∃ i : Nat, v = .int .i64 i ∧ i ≤ l.length ∧ Hid (Below w.heap.size w wr))
    (fun v _ => l.length - (intOf v).toNat)
  case atStart => exact ⟨0, rfl, Nat.zero_le _, Below.refl _ _⟩
  case round =>
    obtain ⟨i, rfl, hin, HB⟩ := hrel
    by_cases hlt : i < l.length
    · have ei : IntKind.i64.wrap ((i : Int) + 1) = (i : Int) + 1 := IntWalk.i64_in _ (by omega)
      obtain ⟨s, hs⟩ : ∃ s, l[i]? = some s := ⟨l[i], List.getElem?_eq_getElem hlt⟩
      obtain ⟨g, off, rfl, _, _, hat⟩ := HD.out.resolve_left (fun e => by rw [e] at hs; simp at hs)
      obtain ⟨g', off', rfl, _, _, hat'⟩ := HE.out.resolve_left (fun e => by rw [e] at hs; simp at hs)
      have HBD : Hid (Below w.heap.size w wr.drew) := ⟨HB.out.os, HB.out.tape, HB.out.output, HB.out.size, HB.out.block⟩
      obtain ⟨k0, k1, k2, k3⟩ := hat i s hs
      obtain ⟨m0, m1, m2, m3⟩ := hat' i s hs
      have k0 := cell_later HBD.out k0
      have k1 := cell_later HBD.out k1
      have k2 := cell_later HBD.out k2
      have k3 := cell_later HBD.out k3
      have m0 := cell_later HBD.out m0
      have m1 := cell_later HBD.out m1
      have m2 := cell_later HBD.out m2
      have m3 := cell_later HBD.out m3
      have hI1 : (i : Int) < ((l.length : Nat) : Int) := by omega
      have hI2 : (0 : Int) ≤ (i : Int) := by omega
      clear hat hat' hs
      go_wp2_with fail
      go_region
      all_goals
        go_wp2_with fail
        exact ⟨⟨i + 1, by simp, hlt, HBD⟩, by show l.length - ((i : Int) + 1).toNat < l.length - ((i : Int)).toNat; omega⟩
    · obtain rfl : i = l.length := by omega
      go_wp2_with fail
      go_ret
      exact ⟨rfl, HB.out⟩
end Go.Proofs.Ytnfpobbdcjfcoaa
