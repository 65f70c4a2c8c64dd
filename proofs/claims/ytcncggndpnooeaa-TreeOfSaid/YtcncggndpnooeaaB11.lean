/-
  Walks: places, ranks, neighbours.
-/
import Derived.Test.YtcncggndpnooeaaB10
namespace Go.Proofs.Ytcncggndpnooeaa
set_option linter.unusedVariables false
set_option linter.unusedSimpArgs false
open Go.RowKit

def knotCount (w : World) : Value → Nat
  | .pointer (some ⟨b, _, _⟩) => match w.cell? ⟨b, 4, none⟩ with
    | some (.int _ n) => n.toNat
    | _ => 0
  | _ => 0
theorem Knot.count {w : World} {B : Nat} {t : T} {x : Option Addr} (h : Knot w B t x) : knotCount w (.pointer x) = t.size := by
  cases t with
  | nil => obtain rfl : x = none := h; rfl
  | node l p r =>
    obtain ⟨b, _, _, rfl, _, _, _, _, _, h4, _⟩ := h
    simp [knotCount, h4]

/-- The pair at a place. -/
def atI (t : T) (i : Int) : Option Pr := if i < 0 then none else t.list[i.toNat]?
theorem atI_less {l r : T} {p : Pr} {i : Int} (h : i < (l.size : Nat)) : atI (.node l p r) i = atI l i := by
  unfold atI
  split
  · rfl
  · rw [T.at_less (by omega)]
theorem atI_here {l r : T} {p : Pr} : atI (.node l p r) (l.size : Nat) = some p := by
  unfold atI
  rw [if_neg (by omega), Int.toNat_natCast, T.at_here]
theorem atI_more {l r : T} {p : Pr} {i : Int} (h : ((l.size : Nat) : Int) < i) : atI (.node l p r) i = atI r (i - (l.size + 1)) := by
  unfold atI
  rw [if_neg (by omega), if_neg (by omega), T.at_more (by omega)]
  congr 1
  omega

/-- A knot that was found, or none. -/
def Found (h : Option Pr) (w : World) (e : Ending) (w' : World) : Prop := ∃ v, e = .returned (.pointer v) ∧ Here w' h v ∧ Below w.heap.size w w'

theorem Knot.here {w : World} {l r : T} {p : Pr} {x : Option Addr} (h : Knot w w.heap.size (.node l p r) x) : Here w (some p) x := .inr ⟨p, l, r, rfl, h⟩

set_option maxRecDepth 100000 in
set_option maxHeartbeats 3200000 in
theorem at_any {w : World} {t : T} {x : Option Addr} (i : Int) (ht : Knot w w.heap.size t x) (hs : t.size ≤ 1073741824) (hi : -9223372036854775808 ≤ i ∧ i ≤ 9223372036854775807) :
    Calls Try.prog 67 #[.pointer x, .int .i64 i] w (Found (atI t i) w) := by
  have HT := Lib.hid ht
  clear ht
  go_enter Try.func67, Try.ntmps67
  go_wp2_with fail
  go_loopw [0, 1] (fun v u wr => ∃ (t' : T) (x' : Option Addr) (i' : Int), v = .pointer x' ∧ u = .int .i64 i' ∧ Hid (Knot wr w.heap.size t' x') ∧ Hid (atI t' i' = atI t i) ∧ Hid (t'.size ≤ 1073741824) ∧ -9223372036854775808 ≤ i' ∧ i' ≤ 9223372036854775807 ∧ Hid (Below w.heap.size w wr))
    (fun v _ wr => knotCount wr v)
  case atStart => exact ⟨t, x, i, rfl, rfl, HT, rfl, hs, hi.1, hi.2, Below.refl _ _⟩
  case round =>
    obtain ⟨t', x', i', rfl, rfl, hk, he, hs', h1, h2, hb⟩ := hrel
    rename_i wr
    clear HT hs
    cases t' with
    | nil =>
      obtain rfl : x' = none := hk.out
      clear hk
      go_wp2_with fail
      go_ret
      refine ⟨none, rfl, .inl ⟨?_, rfl⟩, hb.out⟩
      rw [← he.out]; unfold atI; split <;> rfl
    | node l p r =>
      have hm := hk.out.count
      obtain ⟨b, xl, xr, rfl, hbb, c0, c1, c2, c3, c4, c5, kl, kr⟩ := hk.out
      have Kl := Lib.hid kl
      have Kr := Lib.hid kr
      have hz := hs'.out
      simp only [T.size] at hz
      have e1 : IntKind.i64.wrap ((l.size : Int) + 1) = (l.size : Int) + 1 := IntWalk.i64_in _ (by omega)
      have e2 : (l.size : Int) < i' → IntKind.i64.wrap (i' - ((l.size : Int) + 1)) = i' - ((l.size : Int) + 1) := fun h => IntWalk.i64_in _ (by omega)
      clear kl kr c0 c1 c4 c5
      go_wp2_with fail
      go_fit (len_any Kl.out)
      rintro e w' ⟨rfl, rfl⟩
      go_wp2_with fail
      · rename_i hlt
        exact ⟨⟨l, xl, i', rfl, rfl, Kl, (atI_less hlt).symm.trans he.out, by show _ ≤ _; omega, h1, h2, hb⟩, by rw [hm, Kl.out.count]; simp only [T.size]; omega⟩
      · rename_i hge hgt
        exact ⟨⟨r, xr, _, rfl, rfl, Kr, (atI_more hgt).symm.trans he.out, by show _ ≤ _; omega, by omega, by omega, hb⟩, by rw [hm, Kr.out.count]; simp only [T.size]; omega⟩
      · rename_i hge hle
        obtain rfl : i' = (l.size : Nat) := by omega
        go_ret
        have h3 : atI t i = some p := he.out.symm.trans atI_here
        rw [h3]
        exact ⟨_, rfl, (hk.out.mono hb.out.size).here, hb.out⟩

set_option maxRecDepth 100000 in
set_option maxHeartbeats 3200000 in
theorem rank_any {w : World} {t : T} {x : Option Addr} (k : ByteArray) (ht : Knot w w.heap.size t x) (hs : t.size ≤ 1073741824) (ho : Sorted t.list) :
    Calls Try.prog 69 #[.pointer x, .string k] w fun e w' => e = .returned (.int .i64 (cnt t.list k : Nat)) ∧ Below w.heap.size w w' := by
  have HT := Lib.hid ht
  clear ht
  go_enter Try.func69, Try.ntmps69
  go_wp2_with fail
  go_loopw [0, 5] (fun v u wr => ∃ (t' : T) (x' : Option Addr) (n : Nat), v = .pointer x' ∧ u = .int .i64 n ∧ Hid (Knot wr w.heap.size t' x') ∧ Hid (Sorted t'.list) ∧ Hid (n + cnt t'.list k = cnt t.list k) ∧ Hid (n + t'.size ≤ 1073741824) ∧ Hid (Below w.heap.size w wr))
    (fun v _ wr => knotCount wr v)
  case atStart => exact ⟨t, x, 0, rfl, rfl, HT, ho, by show _ = _; omega, by show _ ≤ _; omega, Below.refl _ _⟩
  case round =>
    obtain ⟨t', x', n, rfl, rfl, hk, hso, he, hs', hb⟩ := hrel
    rename_i wr
    clear HT hs ho
    cases t' with
    | nil =>
      obtain rfl : x' = none := hk.out
      clear hk
      go_wp2_with fail
      go_ret
      refine ⟨?_, hb.out⟩
      rw [← he.out]; rfl
    | node l p r =>
      have hm := hk.out.count
      obtain ⟨b, xl, xr, rfl, hbb, c0, c1, c2, c3, c4, c5, kl, kr⟩ := hk.out
      have Kl := Lib.hid kl
      have Kr := Lib.hid kr
      have hz := hs'.out
      simp only [T.size] at hz
      have e1 : IntKind.i64.wrap ((l.size : Int) + 1) = (l.size : Int) + 1 := IntWalk.i64_in _ (by omega)
      have e2 : IntKind.i64.wrap ((n : Int) + ((l.size : Int) + 1)) = (n : Int) + ((l.size : Int) + 1) := IntWalk.i64_in _ (by omega)
      clear kl kr c1 c4 c5
      cases hlt : klt p.1 k with
      | true =>
        have hlt' : Go.Op.bytesLess p.1.toList k.toList = true := hlt
        go_wp2_with fail
        go_fit (len_any Kl.out)
        rintro e w' ⟨rfl, rfl⟩
        go_wp2_with fail
        refine ⟨⟨r, xr, n + (l.size + 1), rfl, ?_, Kr, (T.node_sorted hso.out).2.1, ?_, ?_, hb⟩, by rw [hm, Kr.out.count]; simp only [T.size]; omega⟩
        · (try rw [e1, e2]); congr 1
        · show _ = _
          have h1 := he.out
          rw [T.cnt_more hso.out hlt] at h1
          omega
        · show _ ≤ _
          omega
      | false =>
        have hlt' : Go.Op.bytesLess p.1.toList k.toList = false := hlt
        go_wp2_with fail
        refine ⟨⟨l, xl, n, rfl, rfl, Kl, (T.node_sorted hso.out).1, ?_, ?_, hb⟩, by rw [hm, Kl.out.count]; simp only [T.size]; omega⟩
        · show _ = _
          have h1 := he.out
          rw [T.cnt_less hso.out hlt] at h1
          omega
        · show _ ≤ _
          omega

set_option maxRecDepth 100000 in
set_option maxHeartbeats 3200000 in
theorem floor_any {w : World} {t : T} {x : Option Addr} (k : ByteArray) (ht : Knot w w.heap.size t x) (ho : Sorted t.list) :
    Calls Try.prog 68 #[.pointer x, .string k] w (Found (flo t.list k) w) := by
  have HT := Lib.hid ht
  clear ht
  go_enter Try.func68, Try.ntmps68
  go_wp2_with fail
  go_loopw [0, 5] (fun v u wr => ∃ (t' : T) (x' f' : Option Addr) (g : Option Pr), v = .pointer x' ∧ u = .pointer f' ∧ Hid (Knot wr w.heap.size t' x') ∧ Hid (Sorted t'.list) ∧ Hid (Here wr g f') ∧ Hid ((flo t'.list k).or g = flo t.list k) ∧ Hid (Below w.heap.size w wr))
    (fun v _ wr => knotCount wr v)
  case atStart => exact ⟨t, x, none, none, rfl, rfl, HT, ho, .inl ⟨rfl, rfl⟩, by show _ = _; simp, Below.refl _ _⟩
  case round =>
    obtain ⟨t', x', f', g, rfl, rfl, hk, hso, hg, he, hb⟩ := hrel
    rename_i wr
    clear HT ho
    cases t' with
    | nil =>
      obtain rfl : x' = none := hk.out
      clear hk
      go_wp2_with fail
      go_ret
      refine ⟨f', rfl, ?_, hb.out⟩
      rw [← he.out]; exact hg.out
    | node l p r =>
      have hm := hk.out.count
      have Kx := Lib.hid (hk.out.mono hb.out.size)
      obtain ⟨b, xl, xr, rfl, hbb, c0, c1, c2, c3, c4, c5, kl, kr⟩ := hk.out
      have Kl := Lib.hid kl
      have Kr := Lib.hid kr
      clear kl kr c1 c4 c5
      cases hlt : klt k p.1 with
      | true =>
        have hlt' : Go.Op.bytesLess p.1.toList k.toList = false := klt_asym hlt
        have hne : (p.1.toList == k.toList) = false := by rw [ba_eq]; simp [(klt_ne hlt).symm]
        go_wp2_with fail
        refine ⟨⟨l, xl, f', g, rfl, rfl, Kl, (T.node_sorted hso.out).1, hg, ?_, hb⟩, by rw [hm, Kl.out.count]; simp only [T.size]; omega⟩
        rw [← T.flo_less hso.out hlt]; exact he
      | false =>
        have hlt' : (Go.Op.bytesLess p.1.toList k.toList || (p.1.toList == k.toList)) = true := by
          rw [ba_eq]
          rcases klt_le hlt with e | e
          · simp [e]
          · have e' : Go.Op.bytesLess p.1.toList k.toList = true := e
            simp [e']
        have hor : ((Go.Op.bytesLess p.1.toList k.toList = true) ∨ (p.1.toList == k.toList) = true) := by simpa using hlt'
        go_wp2_with fail
        go_region_held3 (fun V => V.cell? ⟨b, 3, none⟩ = some (.pointer xr)) (go_keep) (fail)
        go_wp2_with fail
        refine ⟨⟨r, xr, _, some p, rfl, rfl, Kr.out.drew, (T.node_sorted hso.out).2.1, Kx.out.here.all (below_drew1 wr), ?_, below_drew hb.out⟩, by rw [hm, Kr.out.drew.count]; simp only [T.size]; omega⟩
        have h1 := he.out
        rw [T.flo_more hso.out hlt] at h1
        show _ = _
        rw [← h1]
        cases flo r.list k <;> rfl

set_option maxRecDepth 100000 in
set_option maxHeartbeats 3200000 in
theorem ceil_any {w : World} {t : T} {x : Option Addr} (k : ByteArray) (ht : Knot w w.heap.size t x) (ho : Sorted t.list) :
    Calls Try.prog 58 #[.pointer x, .string k] w (Found (cei t.list k) w) := by
  have HT := Lib.hid ht
  clear ht
  go_enter Try.func58, Try.ntmps58
  go_wp2_with fail
  go_loopw [0, 5] (fun v u wr => ∃ (t' : T) (x' f' : Option Addr) (g : Option Pr), v = .pointer x' ∧ u = .pointer f' ∧ Hid (Knot wr w.heap.size t' x') ∧ Hid (Sorted t'.list) ∧ Hid (Here wr g f') ∧ Hid ((cei t'.list k).or g = cei t.list k) ∧ Hid (Below w.heap.size w wr))
    (fun v _ wr => knotCount wr v)
  case atStart => exact ⟨t, x, none, none, rfl, rfl, HT, ho, .inl ⟨rfl, rfl⟩, by show _ = _; simp, Below.refl _ _⟩
  case round =>
    obtain ⟨t', x', f', g, rfl, rfl, hk, hso, hg, he, hb⟩ := hrel
    rename_i wr
    clear HT ho
    cases t' with
    | nil =>
      obtain rfl : x' = none := hk.out
      clear hk
      go_wp2_with fail
      go_ret
      refine ⟨f', rfl, ?_, hb.out⟩
      rw [← he.out]; exact hg.out
    | node l p r =>
      have hm := hk.out.count
      have Kx := Lib.hid (hk.out.mono hb.out.size)
      obtain ⟨b, xl, xr, rfl, hbb, c0, c1, c2, c3, c4, c5, kl, kr⟩ := hk.out
      have Kl := Lib.hid kl
      have Kr := Lib.hid kr
      clear kl kr c1 c4 c5
      cases hlt : klt p.1 k with
      | true =>
        have hlt' : Go.Op.bytesLess p.1.toList k.toList = true := hlt
        go_wp2_with fail
        refine ⟨⟨r, xr, f', g, rfl, rfl, Kr, (T.node_sorted hso.out).2.1, hg, ?_, hb⟩, by rw [hm, Kr.out.count]; simp only [T.size]; omega⟩
        rw [← T.cei_more hso.out hlt]; exact he
      | false =>
        have hlt' : Go.Op.bytesLess p.1.toList k.toList = false := hlt
        go_wp2_with fail
        go_region_held3 (fun V => V.cell? ⟨b, 2, none⟩ = some (.pointer xl)) (go_keep) (fail)
        go_wp2_with fail
        refine ⟨⟨l, xl, _, some p, rfl, rfl, Kl.out.drew, (T.node_sorted hso.out).1, Kx.out.here.all (below_drew1 wr), ?_, below_drew hb.out⟩, by rw [hm, Kl.out.drew.count]; simp only [T.size]; omega⟩
        have h1 := he.out
        rw [T.cei_less hso.out hlt] at h1
        show _ = _
        rw [← h1]
        cases cei l.list k <;> rfl
end Go.Proofs.Ytcncggndpnooeaa
