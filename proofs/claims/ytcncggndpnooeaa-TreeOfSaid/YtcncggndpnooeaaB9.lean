/-
  Walks: union and minus of two trees that are no one tree. (Written by gentree9.py.)
-/
import Derived.Test.YtcncggndpnooeaaB8
namespace Go.Proofs.Ytcncggndpnooeaa
set_option linter.unusedVariables false
set_option linter.unusedSimpArgs false
open Go.RowKit

set_option maxRecDepth 100000 in
set_option maxHeartbeats 3200000 in
theorem union_step {w : World} {a lb rb : T} {pb : Pr} {p q : Nat} (hpq : p ≠ q) (hap : KB w w.heap.size p) (ha : Knot w w.heap.size a (some ⟨p, 0, none⟩)) (hb : Knot w w.heap.size (.node lb pb rb) (some ⟨q, 0, none⟩)) (ga : Good a 500000000) (gb : Good (.node lb pb rb) 500000000)
    (IHl : ∀ (w : World) (a : T) (x y : Option Addr), Knot w w.heap.size a x → Knot w w.heap.size lb y → Good a 500000000 → Calls Try.prog 73 #[.pointer x, .pointer y] w (Makes w (fun t => T.Two T.fU a lb t ∧ t.size ≤ a.size + lb.size))) (IHr : ∀ (w : World) (a : T) (x y : Option Addr), Knot w w.heap.size a x → Knot w w.heap.size rb y → Good a 500000000 → Calls Try.prog 73 #[.pointer x, .pointer y] w (Makes w (fun t => T.Two T.fU a rb t ∧ t.size ≤ a.size + rb.size))) :
    Calls Try.prog 73 #[.pointer (some ⟨p, 0, none⟩), .pointer (some ⟨q, 0, none⟩)] w (Makes w (fun t => T.Two T.fU a (.node lb pb rb) t ∧ t.size ≤ a.size + (T.node lb pb rb).size)) := by
  obtain ⟨q', xl, xr, hq, hbb, c0, c1, c2, c3, c4, c5, kl, kr⟩ := hb
  simp only [Option.some.injEq, Addr.mk.injEq, and_true] at hq
  obtain rfl := hq
  have E1 := knots_other w hpq hap hbb
  have HS := Lib.hid (split_any pb.1 ga.bal ga.sorted (by have := ga.size; omega) w _ ha)
  have GA := Lib.hid ga
  have GB := Lib.hid gb
  have Kl := Lib.hid kl
  have Kr := Lib.hid kr
  have IL := Lib.hid IHl
  have IR := Lib.hid IHr
  clear kl kr ha ga gb c4 c5 IHl IHr hap hbb
  go_enter Try.func73, Try.ntmps73
  go_wp2_with fail
  go_fit HS.out
  rintro e w1 ⟨vl, vh, vm, l, h, m, rfl, P, kl1, hh1, km1, hb1⟩
  have d0 := cell_later hb1 c0
  have d1 := cell_later hb1 c1
  have d2 := cell_later hb1 c2
  have d3 := cell_later hb1 c3
  have HKm := Lib.hid km1
  have Kl1 := Lib.hid (Kl.out.all hb1)
  have Kr1 := Lib.hid (Kr.out.all hb1)
  have HP := Lib.hid P
  have HB1 := Lib.hid hb1
  have GL := Lib.hid (P.good_left GA.out)
  have GM := Lib.hid (P.good_right GA.out)
  have HT1 := Lib.hid (IL.out _ _ _ _ (kl1.all (below_drew1 w1)) (Kl1.out.all (below_drew1 w1)) GL.out)
  clear kl1 km1 hh1 P hb1 c0 c1 c2 c3 E1 HS IL Kl Kr hpq
  go_wp2_with fail
  go_region_held3 (fun V => V.cell? ⟨q, 0, none⟩ = some (.string pb.1) ∧ V.cell? ⟨q, 1, none⟩ = some (.string pb.2) ∧ V.cell? ⟨q, 2, none⟩ = some (.pointer xl) ∧ V.cell? ⟨q, 3, none⟩ = some (.pointer xr)) (go_keep)
    (first
      | (go_at_call 73; (with_reducible refine HT1.out.mono ?_); rintro e w2 ⟨v2, t2, rfl, hQ2, hk2, hb2⟩; have hbd : Below w1.heap.size w1 w2 := (below_drew1 w1).trans hb2; have j0 := cell_later hbd d0; have j1 := cell_later hbd d1; have j2 := cell_later hbd d2; have j3 := cell_later hbd d3; have HB2 := Lib.hid hbd; have HQ2 := Lib.hid hQ2; have HK2 := Lib.hid hk2; have HT2 := Lib.hid (IR.out _ _ _ _ (HKm.out.all hbd) (Kr1.out.all hbd) GM.out); clear hbd hb2 hQ2 hk2 HT1 IR)
      | (go_at_call 73; (with_reducible refine HT2.out.mono ?_); rintro e w3 ⟨v3, t3, rfl, hQ3, hk3, hb3⟩; have i0 := cell_later hb3 j0; have i1 := cell_later hb3 j1; have i2 := cell_later hb3 j2; have i3 := cell_later hb3 j3; have HB3 := Lib.hid (HB2.out.trans (hb3.mono HB2.out.size)); have HQ3 := Lib.hid hQ3; have HT3 := Lib.hid (join_any pb (HK2.out.all hb3) hk3 HQ2.out.1.bal hQ3.1.bal (by have h1 := HP.out.sizes; have h2 := HQ2.out.2; have h3 := hQ3.2; have h4 := GA.out.size; have h5 := GB.out.size; simp only [T.size] at h5; omega)); clear hb3 hQ3 hk3 HT2)
      | (go_at_call 82; (with_reducible refine HT3.out.mono ?_); rintro e w4 ⟨v4, t4, rfl, hj, hk4, hb4⟩; have o0 := cell_later hb4 i0; have o1 := cell_later hb4 i1; have o2 := cell_later hb4 i2; have o3 := cell_later hb4 i3; have HB4 := Lib.hid (HB3.out.trans (hb4.mono HB3.out.size)); have HJ := Lib.hid hj; have HK4 := Lib.hid hk4; clear hb4 hj hk4 HT3))
  go_wp2_with fail
  go_ret
  refine ⟨v4, t4, rfl, ⟨T.two_join rfl GA.out.sorted GB.out.sorted HP.out (T.parted_here GB.out.bal GB.out.sorted) HQ2.out.1 HQ3.out.1 rfl rfl HJ.out, ?_⟩, HK4.out, HB1.out.trans (HB4.out.mono HB1.out.size)⟩
  have h1 := HP.out.sizes
  have h2 := HQ2.out.2
  have h3 := HQ3.out.2
  have h4 := HJ.out.size
  (try simp only [T.size])
  omega

set_option maxRecDepth 100000 in
set_option maxHeartbeats 3200000 in
theorem minus_step {w : World} {a lb rb : T} {pb : Pr} {p q : Nat} (hpq : p ≠ q) (hap : KB w w.heap.size p) (ha : Knot w w.heap.size a (some ⟨p, 0, none⟩)) (hb : Knot w w.heap.size (.node lb pb rb) (some ⟨q, 0, none⟩)) (ga : Good a 500000000) (gb : Good (.node lb pb rb) 500000000)
    (IHl : ∀ (w : World) (a : T) (x y : Option Addr), Knot w w.heap.size a x → Knot w w.heap.size lb y → Good a 500000000 → Calls Try.prog 74 #[.pointer x, .pointer y] w (Makes w (fun t => T.Two T.fM a lb t ∧ t.size ≤ a.size))) (IHr : ∀ (w : World) (a : T) (x y : Option Addr), Knot w w.heap.size a x → Knot w w.heap.size rb y → Good a 500000000 → Calls Try.prog 74 #[.pointer x, .pointer y] w (Makes w (fun t => T.Two T.fM a rb t ∧ t.size ≤ a.size))) :
    Calls Try.prog 74 #[.pointer (some ⟨p, 0, none⟩), .pointer (some ⟨q, 0, none⟩)] w (Makes w (fun t => T.Two T.fM a (.node lb pb rb) t ∧ t.size ≤ a.size)) := by
  obtain ⟨q', xl, xr, hq, hbb, c0, c1, c2, c3, c4, c5, kl, kr⟩ := hb
  simp only [Option.some.injEq, Addr.mk.injEq, and_true] at hq
  obtain rfl := hq
  have E1 := knots_other w hpq hap hbb
  have HS := Lib.hid (split_any pb.1 ga.bal ga.sorted (by have := ga.size; omega) w _ ha)
  have GA := Lib.hid ga
  have GB := Lib.hid gb
  have Kl := Lib.hid kl
  have Kr := Lib.hid kr
  have IL := Lib.hid IHl
  have IR := Lib.hid IHr
  clear kl kr ha ga gb c4 c5 IHl IHr hap hbb
  go_enter Try.func74, Try.ntmps74
  go_wp2_with fail
  go_fit HS.out
  rintro e w1 ⟨vl, vh, vm, l, h, m, rfl, P, kl1, hh1, km1, hb1⟩
  have d0 := cell_later hb1 c0
  have d1 := cell_later hb1 c1
  have d2 := cell_later hb1 c2
  have d3 := cell_later hb1 c3
  have HKm := Lib.hid km1
  have Kl1 := Lib.hid (Kl.out.all hb1)
  have Kr1 := Lib.hid (Kr.out.all hb1)
  have HP := Lib.hid P
  have HB1 := Lib.hid hb1
  have GL := Lib.hid (P.good_left GA.out)
  have GM := Lib.hid (P.good_right GA.out)
  have HT1 := Lib.hid (IL.out _ _ _ _ (kl1.all (below_drew1 w1)) (Kl1.out.all (below_drew1 w1)) GL.out)
  clear kl1 km1 hh1 P hb1 c0 c1 c2 c3 E1 HS IL Kl Kr hpq
  go_wp2_with fail
  go_region_held3 (fun V => V.cell? ⟨q, 0, none⟩ = some (.string pb.1) ∧ V.cell? ⟨q, 1, none⟩ = some (.string pb.2) ∧ V.cell? ⟨q, 2, none⟩ = some (.pointer xl) ∧ V.cell? ⟨q, 3, none⟩ = some (.pointer xr)) (go_keep)
    (first
      | (go_at_call 74; (with_reducible refine HT1.out.mono ?_); rintro e w2 ⟨v2, t2, rfl, hQ2, hk2, hb2⟩; have hbd : Below w1.heap.size w1 w2 := (below_drew1 w1).trans hb2; have j0 := cell_later hbd d0; have j1 := cell_later hbd d1; have j2 := cell_later hbd d2; have j3 := cell_later hbd d3; have HB2 := Lib.hid hbd; have HQ2 := Lib.hid hQ2; have HK2 := Lib.hid hk2; have HT2 := Lib.hid (IR.out _ _ _ _ (HKm.out.all hbd) (Kr1.out.all hbd) GM.out); clear hbd hb2 hQ2 hk2 HT1 IR)
      | (go_at_call 74; (with_reducible refine HT2.out.mono ?_); rintro e w3 ⟨v3, t3, rfl, hQ3, hk3, hb3⟩; have i0 := cell_later hb3 j0; have i1 := cell_later hb3 j1; have i2 := cell_later hb3 j2; have i3 := cell_later hb3 j3; have HB3 := Lib.hid (HB2.out.trans (hb3.mono HB2.out.size)); have HQ3 := Lib.hid hQ3; have HT3 := Lib.hid (meet_any (HK2.out.all hb3) hk3 HQ2.out.1.bal hQ3.1.bal (by have h1 := HP.out.sizes; have h2 := HQ2.out.2; have h3 := hQ3.2; have h4 := GA.out.size; have h5 := GB.out.size; simp only [T.size] at h5; omega)); clear hb3 hQ3 hk3 HT2)
      | (go_at_call 72; (with_reducible refine HT3.out.mono ?_); rintro e w4 ⟨v4, t4, rfl, hj, hk4, hb4⟩; have o0 := cell_later hb4 i0; have o1 := cell_later hb4 i1; have o2 := cell_later hb4 i2; have o3 := cell_later hb4 i3; have HB4 := Lib.hid (HB3.out.trans (hb4.mono HB3.out.size)); have HJ := Lib.hid hj; have HK4 := Lib.hid hk4; clear hb4 hj hk4 HT3))
  go_wp2_with fail
  go_ret
  refine ⟨v4, t4, rfl, ⟨T.two_meet rfl GA.out.sorted GB.out.sorted HP.out (T.parted_here GB.out.bal GB.out.sorted) HQ2.out.1 HQ3.out.1 rfl HJ.out.2 HJ.out.1, ?_⟩, HK4.out, HB1.out.trans (HB4.out.mono HB1.out.size)⟩
  have h1 := HP.out.sizes
  have h2 := HQ2.out.2
  have h3 := HQ3.out.2
  have h4 := HJ.out.size
  (try simp only [T.size])
  omega

theorem union_any : ∀ {b : T} {w : World} {a : T} {x y : Option Addr}, Knot w w.heap.size a x → Knot w w.heap.size b y → Good a 500000000 → Good b 500000000 →
    Calls Try.prog 73 #[.pointer x, .pointer y] w (Makes w (fun t => T.Two T.fU a b t ∧ t.size ≤ a.size + b.size))
  | b, w, .nil, x, y, ha, hb, ga, gb => by
    obtain rfl : x = none := ha
    exact union_nil hb gb
  | .nil, w, .node la pa ra, x, y, ha, hb, ga, gb => by
    obtain ⟨p, rfl⟩ := knot_some ha
    obtain rfl : y = none := hb
    exact union_nil' ha ga
  | .node lb pb rb, w, .node la pa ra, x, y, ha, hb, ga, gb => by
    obtain ⟨p, rfl⟩ := knot_some ha
    obtain ⟨q, rfl⟩ := knot_some hb
    by_cases hpq : p = q
    · subst hpq
      rw [← ha.one hb]
      exact union_same ha ga
    · have hap : KB w w.heap.size p := by obtain ⟨p', _, _, hp, h, _⟩ := ha; simp only [Option.some.injEq, Addr.mk.injEq, and_true] at hp; rw [hp]; exact h
      exact union_step hpq hap ha hb ga gb (fun w a x y h1 h2 g => union_any h1 h2 g gb.left) (fun w a x y h1 h2 g => union_any h1 h2 g gb.right)
theorem minus_any : ∀ {b : T} {w : World} {a : T} {x y : Option Addr}, Knot w w.heap.size a x → Knot w w.heap.size b y → Good a 500000000 → Good b 500000000 →
    Calls Try.prog 74 #[.pointer x, .pointer y] w (Makes w (fun t => T.Two T.fM a b t ∧ t.size ≤ a.size))
  | b, w, .nil, x, y, ha, hb, ga, gb => by
    obtain rfl : x = none := ha
    exact minus_nil
  | .nil, w, .node la pa ra, x, y, ha, hb, ga, gb => by
    obtain ⟨p, rfl⟩ := knot_some ha
    obtain rfl : y = none := hb
    exact minus_nil' ha ga
  | .node lb pb rb, w, .node la pa ra, x, y, ha, hb, ga, gb => by
    obtain ⟨p, rfl⟩ := knot_some ha
    obtain ⟨q, rfl⟩ := knot_some hb
    by_cases hpq : p = q
    · subst hpq
      rw [← ha.one hb]
      exact minus_same
    · have hap : KB w w.heap.size p := by obtain ⟨p', _, _, hp, h, _⟩ := ha; simp only [Option.some.injEq, Addr.mk.injEq, and_true] at hp; rw [hp]; exact h
      exact minus_step hpq hap ha hb ga gb (fun w a x y h1 h2 g => minus_any h1 h2 g gb.left) (fun w a x y h1 h2 g => minus_any h1 h2 g gb.right)
end Go.Proofs.Ytcncggndpnooeaa
