/-
  Walks: the calls of a tree.
-/
import Derived.Test.YtdfjnpnkfjcpcaaTB12
namespace Go.Proofs.Ytdfjnpnkfjcpcaa
set_option linter.unusedVariables false
set_option linter.unusedSimpArgs false
open Go.RowKit

/-- A block below B that is a tree's. -/
def TBk (w : World) (B b : Nat) : Prop := b < B ∧ ∃ cs, w.heap[b]? = some (.cells cs 104 (0, 0))
def Tr (w : World) (B : Nat) (t : T) (v : Option Addr) : Prop := (v = none ∧ t = .nil) ∨ ∃ b x, v = some ⟨b, 0, none⟩ ∧ TBk w B b ∧ w.cell? ⟨b, 0, none⟩ = some (.pointer x) ∧ Knot w B t x
theorem Tr.all {w w' : World} {t : T} {v : Option Addr} (h : Tr w w.heap.size t v) (hb : Below w.heap.size w w') : Tr w' w'.heap.size t v := by
  rcases h with h | ⟨b, x, hv, hB, hc, hk⟩
  · exact .inl h
  · exact .inr ⟨b, x, hv, ⟨Nat.lt_of_lt_of_le hB.1 hb.size, hB.2.elim fun cs h => ⟨cs, (hb.block b hB.1).trans h⟩⟩, cell_later hb hc, hk.all hb⟩
theorem Tr.drew {w : World} {B : Nat} {t : T} {v : Option Addr} (h : Tr w B t v) : Tr w.drew B t v := by
  rcases h with h | ⟨b, x, hv, hB, hc, hk⟩
  · exact .inl h
  · exact .inr ⟨b, x, hv, hB, hc, hk.drew⟩
/-- What is made: a tree, in blocks that are there. -/
def Grows (w : World) (Q : T → Prop) (e : Ending) (w' : World) : Prop := ∃ tb t, e = .returned (.pointer (some ⟨tb, 0, none⟩)) ∧ Q t ∧ Tr w' w'.heap.size t (some ⟨tb, 0, none⟩) ∧ Below w.heap.size w w'
theorem tree_made {w : World} {t : T} {x : Option Addr} (h : Knot w w.heap.size t x) : Tr (w.alloc (.cells #[.pointer x] 104)) (w.alloc (.cells #[.pointer x] 104)).heap.size t (some ⟨w.heap.size, 0, none⟩) :=
  .inr ⟨w.heap.size, x, rfl, ⟨by simp, _, Go.heap_alloc_new w _⟩, by rw [World.cell?_alloc_at _ _ _ _ rfl]; rfl, h.all (below_alloc w _)⟩

set_option maxHeartbeats 800000 in
theorem top_any {w : World} {B : Nat} {t : T} {v : Option Addr} (h : Tr w B t v) : Calls Try.prog 87 #[.pointer v] w fun e w' => (∃ x, e = .returned (.pointer x) ∧ Knot w B t x) ∧ w = w' := by
  rcases h with ⟨rfl, rfl⟩ | ⟨b, x, rfl, hB, hc, hk⟩
  · go_enter Try.func87, Try.ntmps87
    go_wp2_with fail
    go_ret
    exact ⟨⟨none, rfl, rfl⟩, rfl⟩
  · have HK := Lib.hid hk
    clear hk
    go_enter Try.func87, Try.ntmps87
    go_wp2_with fail
    go_ret
    exact ⟨⟨x, rfl, HK.out⟩, rfl⟩

set_option maxHeartbeats 800000 in
theorem New_any (w : World) : Calls Try.prog 48 #[] w (Grows w (· = .nil)) := by
  go_enter Try.func48, Try.ntmps48
  go_wp2_with fail
  go_ret
  exact ⟨_, _, rfl, rfl, tree_made (x := none) rfl, below_alloc w _⟩

set_option maxHeartbeats 800000 in
theorem Len_any {w : World} {B : Nat} {t : T} {v : Option Addr} (h : Tr w B t v) : Calls Try.prog 60 #[.pointer v] w fun e w' => e = .returned (.int .i64 (t.size : Nat)) ∧ w = w' := by
  have H := Lib.hid h
  clear h
  go_enter Try.func60, Try.ntmps60
  go_wp2_with fail
  go_fit (top_any H.out)
  rintro e w' ⟨⟨x, rfl, hk⟩, rfl⟩
  have HK := Lib.hid hk
  clear hk
  go_wp2_with fail
  go_fit (len_any HK.out)
  rintro e w' ⟨rfl, rfl⟩
  go_wp2_with fail
  go_ret
  exact ⟨rfl, rfl⟩

/-- What is told of what a key has. -/
def gotV (o : Option ByteArray) : Value := .tuple #[.string (o.getD ByteArray.empty), .bool o.isSome]

set_option maxRecDepth 100000 in
set_option maxHeartbeats 1600000 in
theorem Get_any {w : World} {t : T} {v : Option Addr} (k : ByteArray) (h : Tr w w.heap.size t v) (hso : Sorted t.list) : Calls Try.prog 61 #[.pointer v, .string k] w fun e w' => e = .returned (gotV (look t.list k)) ∧ Below w.heap.size w w' := by
  have H := Lib.hid h
  have HS := Lib.hid hso
  clear h hso
  go_enter Try.func61, Try.ntmps61
  go_wp2_with fail
  go_fit (top_any H.out)
  rintro e w' ⟨⟨x, rfl, hk⟩, rfl⟩
  have HK := Lib.hid hk
  clear hk
  go_wp2_with fail
  go_fit (ceil_any k HK.out HS.out)
  rintro e w1 ⟨v1, rfl, hh, hb⟩
  have HB := Lib.hid hb
  have hl : look t.list k = (cei t.list k).bind fun q => if q.1 = k then some q.2 else none := cei_look HS.out k
  have HL := Lib.hid hl
  clear hl hb
  rcases hh with ⟨hc, rfl⟩ | ⟨p, a, c, hc, hkn⟩
  · have HE : Hid (look t.list k = none) := by show _ = _; rw [HL.out, hc]; rfl
    clear hc HL
    go_wp2_with fail
    go_ret2
    rw [HE.out]
    exact ⟨rfl, HB.out⟩
  · obtain ⟨b, _, _, rfl, _, f0, f1, f2, f3, f4, f5, _, _⟩ := hkn
    by_cases e : p.1 = k
    · have HE : Hid (look t.list k = some p.2) := by show _ = _; rw [HL.out, hc]; simp [e]
      have he : (p.1.toList == k.toList) = true := by rw [ba_eq]; simp [e]
      clear hc HL f2 f3 f4 f5
      go_wp2_with fail
      go_ret2
      rw [HE.out]
      exact ⟨rfl, HB.out⟩
    · have HE : Hid (look t.list k = none) := by show _ = _; rw [HL.out, hc]; simp [e]
      have he : (p.1.toList == k.toList) = false := by rw [ba_eq]; simp [e]
      clear hc HL f2 f3 f4 f5
      go_wp2_with fail
      go_ret2
      rw [HE.out]
      exact ⟨rfl, HB.out⟩

end Go.Proofs.Ytdfjnpnkfjcpcaa
