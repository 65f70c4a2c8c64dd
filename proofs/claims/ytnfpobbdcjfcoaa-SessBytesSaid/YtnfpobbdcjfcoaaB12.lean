/-
  Two lists of sessions held against each other; a table beside another one.
-/
import Derived.Test.YtnfpobbdcjfcoaaB11
import Derived.BigQuiet
namespace Go.Proofs.Ytnfpobbdcjfcoaa
set_option linter.unusedVariables false
set_option linter.unusedSimpArgs false
open Go.RowKit
variable {w : World} {B b c : Nat} {L : List Nat} {t x : Tb}

theorem Tk.apart {w w' : World} (h : Tk w B b L t) (hc : c ∉ L) (he : Ext w [c] w' [c]) : Tk w' B b L t := by
  obtain ⟨v, h⟩ := h
  have hk : ∀ k ∈ L, w'.heap[k]? = w.heap[k]? := fun k hk => he.block k (h.llt k hk) (fun hm => by simp at hm; subst hm; exact hc hk)
  refine ⟨v, h.cells.keep he.size (hk b h.bL), ?_, h.at_, h.low⟩
  refine h.own.kept (row := some c) ⟨he.os, he.tape, he.output, he.size, fun k hk hn => he.block k hk (fun hm => hn (by simp at hm; rw [hm]))⟩ ?_
  right
  intro e
  exact hc (h.ob c e).1
theorem Sk.apart {w wr w' : World} {n : Nat} (h : Sk w wr b L t n) (hc : c ∉ L) (hb : w.heap.size ≤ c) (he : Ext wr [c] w' [c]) : Sk w w' b L t n :=
  ⟨h.tab.apart hc he, h.ok, h.below.trans (he.below h.below.size (fun k hk => by simp at hk; omega))⟩

set_option maxRecDepth 100000 in
set_option maxHeartbeats 3200000 in
theorem same_any {v u : Value} {l : List Se} (h : SeB w [] v l) (hu : SeB w [] u l) :
    Calls Try.prog 22 #[v, u] w fun e w' => e = .returned (.bool true) ∧ Below w.heap.size w w' := by
  obtain ⟨a, c, rfl, h1, h2, h⟩ := h
  obtain ⟨a', c', rfl, h1', h2', h'⟩ := hu
  have HD := Lib.hid h
  have HE := Lib.hid h'
  clear h h'
  go_enter Try.func22, Try.ntmps22
  go_wp2_with fail
  go_loopw [13] (fun v wr => ∃ i : Nat, v = .int .i64 i ∧ i ≤ l.length ∧ Hid (Below w.heap.size w wr))
    (fun v _ => l.length - (intOf v).toNat)
  case atStart => exact ⟨0, rfl, Nat.zero_le _, Below.refl _ _⟩
  case round =>
    obtain ⟨i, rfl, hin, HB⟩ := hrel
    by_cases hlt : i < l.length
    · have ei : IntKind.i64.wrap ((i : Int) + 1) = (i : Int) + 1 := IntWalk.i64_in _ (by omega)
      obtain ⟨s, hs⟩ : ∃ s, l[i]? = some s := ⟨l[i], List.getElem?_eq_getElem hlt⟩
      obtain ⟨g, off, rfl, _, _, hat⟩ := HD.out.resolve_left (fun e => by rw [e] at hs; simp at hs)
      obtain ⟨g', off', rfl, _, _, hat'⟩ := HE.out.resolve_left (fun e => by rw [e] at hs; simp at hs)
      have HBD : Hid (Below w.heap.size w wr.drew) := ⟨HB.out.os, HB.out.tape, HB.out.output, HB.out.size, HB.out.block⟩
      obtain ⟨k0, k1, k2, k3⟩ := hat i s hs
      obtain ⟨m0, m1, m2, m3⟩ := hat' i s hs
      have k0 := cell_later HBD.out k0
      have k1 := cell_later HBD.out k1
      have k2 := cell_later HBD.out k2
      have k3 := cell_later HBD.out k3
      have m0 := cell_later HBD.out m0
      have m1 := cell_later HBD.out m1
      have m2 := cell_later HBD.out m2
      have m3 := cell_later HBD.out m3
      have hI1 : (i : Int) < ((l.length : Nat) : Int) := by omega
      have hI2 : (0 : Int) ≤ (i : Int) := by omega
      clear hat hat' hs
      go_wp2_with fail
      go_region
      all_goals
        go_wp2_with fail
        exact ⟨⟨i + 1, by simp, hlt, HBD⟩, by show l.length - ((i : Int) + 1).toNat < l.length - ((i : Int)).toNat; omega⟩
    · obtain rfl : i = l.length := by omega
      go_wp2_with fail
      go_ret
      exact ⟨rfl, HB.out⟩
end Go.Proofs.Ytnfpobbdcjfcoaa
