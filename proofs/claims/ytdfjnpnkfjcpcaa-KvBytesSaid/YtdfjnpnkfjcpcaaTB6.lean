/-
  Walks: what is less than a key, the key's own knot, what is more. (Written by gentree6.py.)
-/
import Derived.Test.YtdfjnpnkfjcpcaaTB5
namespace Go.Proofs.Ytdfjnpnkfjcpcaa
set_option linter.unusedVariables false
set_option linter.unusedSimpArgs false
open Go.RowKit

/-- A knot with a pair, or none. -/
def Here (w : World) (h : Option Pr) (v : Option Addr) : Prop := (h = none ∧ v = none) ∨ ∃ p a c, h = some p ∧ Knot w w.heap.size (.node a p c) v
theorem Here.all {w w' : World} {h : Option Pr} {v : Option Addr} (H : Here w h v) (hb : Below w.heap.size w w') : Here w' h v := by
  rcases H with H | ⟨p, a, c, e, K⟩
  · exact .inl H
  · exact .inr ⟨p, a, c, e, K.all hb⟩

/-- What is told of a tree that was split. -/
def Splits (t : T) (k : ByteArray) (w : World) (e : Ending) (w' : World) : Prop :=
  ∃ vl vh vm l h m, e = .returned (.tuple #[.pointer vl, .pointer vh, .pointer vm]) ∧ T.Parted t k l h m ∧ Knot w' w'.heap.size l vl ∧ Here w' h vh ∧ Knot w' w'.heap.size m vm ∧ Below w.heap.size w w'

theorem T.Parted.sizes {t : T} {k : ByteArray} {l : T} {h : Option Pr} {m : T} (P : T.Parted t k l h m) : l.size + m.size ≤ t.size := by
  rw [← T.size_list, ← T.size_list, ← T.size_list, P.list]; simp; (try omega)

set_option maxHeartbeats 800000 in
theorem split_nil (w : World) (k : ByteArray) : Calls Try.prog 89 #[.pointer none, .string k] w (Splits .nil k w) := by
  go_enter Try.func89, Try.ntmps89
  go_wp2_with fail
  go_ret3
  exact ⟨none, none, none, .nil, none, .nil, rfl, T.parted_nil k, rfl, .inl ⟨rfl, rfl⟩, rfl, Below.refl _ _⟩

set_option maxRecDepth 100000 in
set_option maxHeartbeats 3200000 in
theorem split_less {w : World} {l r : T} {p : Pr} {x : Option Addr} (k : ByteArray) (h : Knot w w.heap.size (.node l p r) x) (bt : (T.node l p r).Bal) (hs : Sorted (T.node l p r).list) (hz : (T.node l p r).size ≤ 1073741822) (hk : klt k p.1 = true)
    (IH : ∀ (w : World) (x : Option Addr), Knot w w.heap.size l x → Calls Try.prog 89 #[.pointer x, .string k] w (Splits l k w)) :
    Calls Try.prog 89 #[.pointer x, .string k] w (Splits (.node l p r) k w) := by
  obtain ⟨b, xl, xr, rfl, hbb, c0, c1, c2, c3, c4, c5, kl, kr⟩ := h
  have HI := Lib.hid (IH _ _ kl)
  have Ko := Lib.hid kr
  have BO := Lib.hid bt.2.1
  have HS := Lib.hid hs
  have HK := Lib.hid hk
  have HZ := Lib.hid hz
  have hk1 : Go.Op.bytesLess k.toList p.1.toList = true := hk
  clear kl kr bt hs hz hk c4 c5 IH
  go_enter Try.func89, Try.ntmps89
  go_wp2_with fail
  go_fit HI.out
  rintro e w1 ⟨vl, vh, vm, l1, h1, m1, rfl, P, kl1, hh1, km1, hb1⟩
  have hz1 : m1.size + r.size ≤ 1073741822 := by have h1 := HZ.out; have h2 := P.sizes; simp only [T.size] at h1; omega
  have d0 := cell_later hb1 c0
  have d1 := cell_later hb1 c1
  have d3 := cell_later hb1 c3
  have HKl := Lib.hid kl1
  have HKm := Lib.hid km1
  have HH := Lib.hid hh1
  have HP := Lib.hid P
  have HB1 := Lib.hid hb1
  have HT := Lib.hid (join_any p (HKm.out.all (below_drew1 _)) ((Ko.out.all hb1).all (below_drew1 _)) P.mbal BO.out hz1)
  clear kl1 km1 hh1 P hb1 hz1 c0 c1 c2 c3 hk1 HI Ko BO HZ
  go_wp2_with fail
  go_region_held3 (fun V => V.cell? ⟨b, 0, none⟩ = some (.string p.1) ∧ V.cell? ⟨b, 1, none⟩ = some (.string p.2) ∧ V.cell? ⟨b, 3, none⟩ = some (.pointer xr)) (go_keep)
    (first
      | (go_at_call 105; (with_reducible refine HT.out.mono ?_); rintro e w2 ⟨v2, t2, rfl, hj, hk2, hb2⟩; have hbd : Below w1.heap.size w1 w2 := (below_drew1 w1).trans hb2; have j0 := cell_later hbd d0; have j1 := cell_later hbd d1; have j2 := cell_later hbd d3; have HB2 := Lib.hid hbd; have HJ := Lib.hid hj; have HK2 := Lib.hid hk2; clear hbd hb2 hj hk2))
  go_wp2_with fail
  go_ret3
  exact ⟨vl, vh, v2, l1, h1, t2, rfl, T.parted_less HS.out HK.out HP.out HJ.out, HKl.out.all HB2.out, HH.out.all HB2.out, HK2.out, HB1.out.trans (HB2.out.mono HB1.out.size)⟩

set_option maxRecDepth 100000 in
set_option maxHeartbeats 3200000 in
theorem split_more {w : World} {l r : T} {p : Pr} {x : Option Addr} (k : ByteArray) (h : Knot w w.heap.size (.node l p r) x) (bt : (T.node l p r).Bal) (hs : Sorted (T.node l p r).list) (hz : (T.node l p r).size ≤ 1073741822) (hk : klt p.1 k = true)
    (IH : ∀ (w : World) (x : Option Addr), Knot w w.heap.size r x → Calls Try.prog 89 #[.pointer x, .string k] w (Splits r k w)) :
    Calls Try.prog 89 #[.pointer x, .string k] w (Splits (.node l p r) k w) := by
  obtain ⟨b, xl, xr, rfl, hbb, c0, c1, c2, c3, c4, c5, kl, kr⟩ := h
  have HI := Lib.hid (IH _ _ kr)
  have Ko := Lib.hid kl
  have BO := Lib.hid bt.1
  have HS := Lib.hid hs
  have HK := Lib.hid hk
  have HZ := Lib.hid hz
  have hk1 : Go.Op.bytesLess p.1.toList k.toList = true := hk
  have hk2 : Go.Op.bytesLess k.toList p.1.toList = false := klt_asym hk
  have hk3 : (k.toList == p.1.toList) = false := by rw [ba_eq]; simp [(klt_ne hk).symm]
  clear kl kr bt hs hz hk c4 c5 IH
  go_enter Try.func89, Try.ntmps89
  go_wp2_with fail
  go_fit HI.out
  rintro e w1 ⟨vl, vh, vm, l1, h1, m1, rfl, P, kl1, hh1, km1, hb1⟩
  have hz1 : l.size + l1.size ≤ 1073741822 := by have h1 := HZ.out; have h2 := P.sizes; simp only [T.size] at h1; omega
  have d0 := cell_later hb1 c0
  have d1 := cell_later hb1 c1
  have d2 := cell_later hb1 c2
  have HKl := Lib.hid kl1
  have HKm := Lib.hid km1
  have HH := Lib.hid hh1
  have HP := Lib.hid P
  have HB1 := Lib.hid hb1
  have HT := Lib.hid (join_any p ((Ko.out.all hb1).all (below_drew1 _)) (HKl.out.all (below_drew1 _)) BO.out P.lbal hz1)
  clear kl1 km1 hh1 P hb1 hz1 c0 c1 c2 c3 hk1 hk2 hk3 HI Ko BO HZ
  go_wp2_with fail
  go_region_held3 (fun V => V.cell? ⟨b, 0, none⟩ = some (.string p.1) ∧ V.cell? ⟨b, 1, none⟩ = some (.string p.2) ∧ V.cell? ⟨b, 2, none⟩ = some (.pointer xl)) (go_keep)
    (first
      | (go_at_call 105; (with_reducible refine HT.out.mono ?_); rintro e w2 ⟨v2, t2, rfl, hj, hk2, hb2⟩; have hbd : Below w1.heap.size w1 w2 := (below_drew1 w1).trans hb2; have j0 := cell_later hbd d0; have j1 := cell_later hbd d1; have j2 := cell_later hbd d2; have HB2 := Lib.hid hbd; have HJ := Lib.hid hj; have HK2 := Lib.hid hk2; clear hbd hb2 hj hk2))
  go_wp2_with fail
  go_ret3
  exact ⟨v2, vh, vm, t2, h1, m1, rfl, T.parted_more HS.out HK.out HP.out HJ.out, HK2.out, HH.out.all HB2.out, HKm.out.all HB2.out, HB1.out.trans (HB2.out.mono HB1.out.size)⟩

set_option maxRecDepth 100000 in
set_option maxHeartbeats 3200000 in
theorem split_here {w : World} {l r : T} {p : Pr} {x : Option Addr} (h : Knot w w.heap.size (.node l p r) x) (bt : (T.node l p r).Bal) (hs : Sorted (T.node l p r).list) :
    Calls Try.prog 89 #[.pointer x, .string p.1] w (Splits (.node l p r) p.1 w) := by
  have HW := Lib.hid h
  obtain ⟨b, xl, xr, rfl, hbb, c0, c1, c2, c3, c4, c5, kl, kr⟩ := h
  have Kl := Lib.hid kl
  have Kr := Lib.hid kr
  have BT := Lib.hid bt
  have HS := Lib.hid hs
  have hk1 : Go.Op.bytesLess p.1.toList p.1.toList = false := klt_irr _
  have hk2 : (p.1.toList == p.1.toList) = true := by rw [ba_eq]; simp
  clear kl kr bt hs c4 c5
  go_enter Try.func89, Try.ntmps89
  go_wp2_with fail
  (try go_quiet (fail))
  go_wp2_with fail
  go_ret3
  first
    | exact ⟨xl, _, xr, l, some p, r, rfl, T.parted_here BT.out HS.out, Kl.out, .inr ⟨p, l, r, rfl, HW.out⟩, Kr.out, Below.refl _ _⟩
    | exact ⟨xl, _, xr, l, some p, r, rfl, T.parted_here BT.out HS.out, Kl.out.all (below_drewN (Below.refl _ _) _), .inr ⟨p, l, r, rfl, HW.out.all (below_drewN (Below.refl _ _) _)⟩, Kr.out.all (below_drewN (Below.refl _ _) _), below_drewN (Below.refl _ _) _⟩

theorem split_any (k : ByteArray) : ∀ {t : T}, t.Bal → Sorted t.list → t.size ≤ 1073741822 → ∀ (w : World) (x : Option Addr), Knot w w.heap.size t x → Calls Try.prog 89 #[.pointer x, .string k] w (Splits t k w)
  | .nil, _, _, _ => fun w x h => by obtain rfl : x = none := h; exact split_nil w k
  | .node l p r, bt, hs, hz => fun w x h => by
    have hs' := T.node_sorted hs
    rcases klt_tri k p.1 with g | rfl | g
    · exact split_less k h bt hs hz g (split_any k bt.1 hs'.1 (by simp only [T.size] at hz; omega))
    · exact split_here h bt hs
    · exact split_more k h bt hs hz g (split_any k bt.2.1 hs'.2.1 (by simp only [T.size] at hz; omega))
end Go.Proofs.Ytdfjnpnkfjcpcaa
