/-
  The document's Same: equal lists are the same.
-/
import Derived.Test.YtcmfnokpbgfioaaOw
import Derived.Laws.BytesArg
import Derived.BigQuiet
namespace Go.Proofs.Ytcmfnokpbgfioaa
set_option linter.unusedVariables false
set_option linter.unusedSimpArgs false
open Go.RowKit

theorem conv_byt {w : World} {L : List Nat} {v : Value} {xs : List Int} (h : Byt w L v xs) : (convert 42 9 v).run Try.prog w = .ok (.string (strOfNums xs)) w := by
  obtain ⟨a, c, rfl, _, _, h⟩ := h
  cases a with
  | none =>
    have hx : xs = [] := h.resolve_right (by rintro ⟨p, hp, _⟩; cases hp)
    subst hx
    exact run_convert_bytes_nil w 42 5 Try.underlying42 Try.underlying5 0 c 9 Try.underlying9
  | some p =>
    by_cases hx : xs = []
    · subst hx
      rw [run_convert_bytes_string w 42 9 5 _ _ c Try.underlying42 Try.underlying5 Try.underlying9]
      simp [Conv.bytesToString, loadCells, loadCellsFrom]
      rfl
    · obtain ⟨p', hp, _, _, hr⟩ := h.resolve_left hx
      cases hp
      have hpos : 0 < xs.length := List.length_pos_iff.2 hx
      have h0 := hr.at hpos
      obtain ⟨b, o, t⟩ := p
      obtain rfl : t = none := by simpa [Addr.add] using World.cell?_spot h0
      exact run_convert_bytes_arg w 42 5 Try.underlying42 Try.underlying5 b o xs.length c xs rfl (fun i hi => by have := hr.at hi; simpa [Addr.add_lit] using this) 9 Try.underlying9

set_option maxRecDepth 100000 in
set_option maxHeartbeats 6400000 in
theorem Same_any {w : World} {u v : Value} {es : List Er} (h1 : EIn w u es) (h2 : EIn w v es) : Calls Try.prog 20 #[u, v] w (BoolP true w) := by
  obtain ⟨a, c, rfl, _, _⟩ := h1.slice
  obtain ⟨a2, c2, rfl, _, _⟩ := h2.slice
  have H1 := Lib.hid h1
  have H2 := Lib.hid h2
  clear h1 h2
  go_enter Try.func20, Try.ntmps20
  go_wp2_with fail
  go_loopw [13] (fun j wr => ∃ k : Nat, j = .int .i64 k ∧ k ≤ es.length ∧ Hid (Below w.heap.size w wr)) (fun j _ => es.length - (intOf j).toNat)
  case atStart => exact ⟨0, rfl, Nat.zero_le _, (by show Below _ _ _; exact Below.refl _ _)⟩
  case round =>
    obtain ⟨k, rfl, hk, hB⟩ := hrel
    by_cases hlt : k < es.length
    · have he : es[k]? = some es[k] := List.getElem?_eq_getElem hlt
      generalize es[k] = e at *
      obtain ⟨g1, o1, p1, c3, rfl, d0, d1, d2, hb1⟩ := (H1.out.later hB.out).at he
      obtain ⟨g2, o2, p2, c4, rfl, q0, q1, q2, hb2⟩ := (H2.out.later hB.out).at he
      have hc1 := conv_byt (hb1.below (lay_drew (Below.refl _ wr)))
      have hc2 := conv_byt (hb2.below (lay_drew (Below.refl _ wr)))
      have hc3 := conv_byt hb1
      have hc4 := conv_byt hb2
      have hc5 := fun N => conv_byt (hb1.below (below_drewN (Below.refl _ wr) N))
      have hc6 := fun N => conv_byt (hb2.below (below_drewN (Below.refl _ wr) N))
      have hkk : (k : Int) < (es.length : Int) := by omega
      have HB2 := Lib.hid hB.out
      clear he hb1 hb2
      go_wp2_with fail
      go_quiet (fail)
      go_wp2_with fail
      exact ⟨⟨k + 1, by go_num, hlt, below_drewN HB2.out _⟩, by show es.length - ((k : Int) + 1).toNat < es.length - (k : Int).toNat; omega⟩
    · obtain rfl : k = es.length := by omega
      go_wp2_with fail
      go_ret
      exact ⟨rfl, hB.out⟩
end Go.Proofs.Ytcmfnokpbgfioaa
