/-
  Walks: places, ranks, neighbours.
-/
import Derived.Test.YtdfjnpnkfjcpcaaTB9
namespace Go.Proofs.Ytdfjnpnkfjcpcaa
set_option linter.unusedVariables false
set_option linter.unusedSimpArgs false
open Go.RowKit

def knotCount (w : World) : Value → Nat
  | .pointer (some ⟨b, _, _⟩) => match w.cell? ⟨b, 4, none⟩ with
    | some (.int _ n) => n.toNat
    | _ => 0
  | _ => 0
theorem Knot.count {w : World} {B : Nat} {t : T} {x : Option Addr} (h : Knot w B t x) : knotCount w (.pointer x) = t.size := by
  cases t with
  | nil => obtain rfl : x = none := h; rfl
  | node l p r =>
    obtain ⟨b, _, _, rfl, _, _, _, _, _, h4, _⟩ := h
    simp [knotCount, h4]

/-- The pair at a place. -/
def atI (t : T) (i : Int) : Option Pr := if i < 0 then none else t.list[i.toNat]?
theorem atI_less {l r : T} {p : Pr} {i : Int} (h : i < (l.size : Nat)) : atI (.node l p r) i = atI l i := by
  unfold atI
  split
  · rfl
  · rw [T.at_less (by omega)]
theorem atI_here {l r : T} {p : Pr} : atI (.node l p r) (l.size : Nat) = some p := by
  unfold atI
  rw [if_neg (by omega), Int.toNat_natCast, T.at_here]
theorem atI_more {l r : T} {p : Pr} {i : Int} (h : ((l.size : Nat) : Int) < i) : atI (.node l p r) i = atI r (i - (l.size + 1)) := by
  unfold atI
  rw [if_neg (by omega), if_neg (by omega), T.at_more (by omega)]
  congr 1
  omega

/-- A knot that was found, or none. -/
def Found (h : Option Pr) (w : World) (e : Ending) (w' : World) : Prop := ∃ v, e = .returned (.pointer v) ∧ Here w' h v ∧ Below w.heap.size w w'

theorem Knot.here {w : World} {l r : T} {p : Pr} {x : Option Addr} (h : Knot w w.heap.size (.node l p r) x) : Here w (some p) x := .inr ⟨p, l, r, rfl, h⟩

set_option maxRecDepth 100000 in
set_option maxHeartbeats 3200000 in
theorem ceil_any {w : World} {t : T} {x : Option Addr} (k : ByteArray) (ht : Knot w w.heap.size t x) (ho : Sorted t.list) :
    Calls Try.prog 92 #[.pointer x, .string k] w (Found (cei t.list k) w) := by
  have HT := Lib.hid ht
  clear ht
  go_enter Try.func92, Try.ntmps92
  go_wp2_with fail
  go_loopw [0, 5] (fun v u wr => ∃ (t' : T) (x' f' : Option Addr) (g : Option Pr), v = .pointer x' ∧ u = .pointer f' ∧ Hid (Knot wr w.heap.size t' x') ∧ Hid (Sorted t'.list) ∧ Hid (Here wr g f') ∧ Hid ((cei t'.list k).or g = cei t.list k) ∧ Hid (Below w.heap.size w wr))
    (fun v _ wr => knotCount wr v)
  case atStart => exact ⟨t, x, none, none, rfl, rfl, HT, ho, .inl ⟨rfl, rfl⟩, by show _ = _; simp, Below.refl _ _⟩
  case round =>
    obtain ⟨t', x', f', g, rfl, rfl, hk, hso, hg, he, hb⟩ := hrel
    rename_i wr
    clear HT ho
    cases t' with
    | nil =>
      obtain rfl : x' = none := hk.out
      clear hk
      go_wp2_with fail
      go_ret
      refine ⟨f', rfl, ?_, hb.out⟩
      rw [← he.out]; exact hg.out
    | node l p r =>
      have hm := hk.out.count
      have Kx := Lib.hid (hk.out.mono hb.out.size)
      obtain ⟨b, xl, xr, rfl, hbb, c0, c1, c2, c3, c4, c5, kl, kr⟩ := hk.out
      have Kl := Lib.hid kl
      have Kr := Lib.hid kr
      clear kl kr c1 c4 c5
      cases hlt : klt p.1 k with
      | true =>
        have hlt' : Go.Op.bytesLess p.1.toList k.toList = true := hlt
        go_wp2_with fail
        refine ⟨⟨r, xr, f', g, rfl, rfl, Kr, (T.node_sorted hso.out).2.1, hg, ?_, hb⟩, by rw [hm, Kr.out.count]; simp only [T.size]; omega⟩
        rw [← T.cei_more hso.out hlt]; exact he
      | false =>
        have hlt' : Go.Op.bytesLess p.1.toList k.toList = false := hlt
        go_wp2_with fail
        go_region_held3 (fun V => V.cell? ⟨b, 2, none⟩ = some (.pointer xl)) (go_keep) (fail)
        go_wp2_with fail
        refine ⟨⟨l, xl, _, some p, rfl, rfl, Kl.out.drew, (T.node_sorted hso.out).1, Kx.out.here.all (below_drew1 wr), ?_, below_drew hb.out⟩, by rw [hm, Kl.out.drew.count]; simp only [T.size]; omega⟩
        have h1 := he.out
        rw [T.cei_less hso.out hlt] at h1
        show _ = _
        rw [← h1]
        cases cei l.list k <;> rfl
end Go.Proofs.Ytdfjnpnkfjcpcaa
