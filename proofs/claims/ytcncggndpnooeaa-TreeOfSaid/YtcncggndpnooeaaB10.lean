/-
  Walks: what is in both of two trees. (Written by gentree10.py.)
-/
import Derived.Test.YtcncggndpnooeaaB9
namespace Go.Proofs.Ytcncggndpnooeaa
set_option linter.unusedVariables false
set_option linter.unusedSimpArgs false
open Go.RowKit

set_option maxRecDepth 100000 in
set_option maxHeartbeats 3200000 in
theorem both_step {w : World} {b la ra : T} {pa : Pr} {p q : Nat} (hpq : p ≠ q) (hbq : KB w w.heap.size q) (ha : Knot w w.heap.size (.node la pa ra) (some ⟨p, 0, none⟩)) (hb : Knot w w.heap.size b (some ⟨q, 0, none⟩)) (ga : Good (.node la pa ra) 500000000) (gb : Good b 500000000)
    (IHl : ∀ (w : World) (b : T) (x y : Option Addr), Knot w w.heap.size la x → Knot w w.heap.size b y → Good b 500000000 → Calls Try.prog 75 #[.pointer x, .pointer y] w (Makes w (fun t => T.Two T.fB la b t ∧ t.size ≤ la.size))) (IHr : ∀ (w : World) (b : T) (x y : Option Addr), Knot w w.heap.size ra x → Knot w w.heap.size b y → Good b 500000000 → Calls Try.prog 75 #[.pointer x, .pointer y] w (Makes w (fun t => T.Two T.fB ra b t ∧ t.size ≤ ra.size))) :
    Calls Try.prog 75 #[.pointer (some ⟨p, 0, none⟩), .pointer (some ⟨q, 0, none⟩)] w (Makes w (fun t => T.Two T.fB (.node la pa ra) b t ∧ t.size ≤ (T.node la pa ra).size)) := by
  obtain ⟨p', xl, xr, hp, hbb, c0, c1, c2, c3, c4, c5, kl, kr⟩ := ha
  simp only [Option.some.injEq, Addr.mk.injEq, and_true] at hp
  obtain rfl := hp
  have E1 := knots_other w hpq hbb hbq
  have HS := Lib.hid (split_any pa.1 gb.bal gb.sorted (by have := gb.size; omega) w _ hb)
  have GA := Lib.hid ga
  have GB := Lib.hid gb
  have Kl := Lib.hid kl
  have Kr := Lib.hid kr
  have IL := Lib.hid IHl
  have IR := Lib.hid IHr
  clear kl kr hb ga gb c4 c5 IHl IHr hbq hbb
  go_enter Try.func75, Try.ntmps75
  go_wp2_with fail
  go_fit HS.out
  rintro e w1 ⟨vl, vh, vm, l, h, m, rfl, P, kl1, hh1, km1, hb1⟩
  have d0 := cell_later hb1 c0
  have d1 := cell_later hb1 c1
  have d2 := cell_later hb1 c2
  have d3 := cell_later hb1 c3
  have HKm := Lib.hid km1
  have Kl1 := Lib.hid (Kl.out.all hb1)
  have Kr1 := Lib.hid (Kr.out.all hb1)
  have HP := Lib.hid P
  have HB1 := Lib.hid hb1
  have GL := Lib.hid (P.good_left GB.out)
  have GM := Lib.hid (P.good_right GB.out)
  have HT1 := Lib.hid (IL.out _ _ _ _ (Kl1.out.all (below_drew1 w1)) (kl1.all (below_drew1 w1)) GL.out)
  have HH := Lib.hid hh1
  clear kl1 km1 P hb1 c0 c1 c2 c3 E1 HS IL Kl Kr hpq hh1
  go_wp2_with fail
  go_region_held3 (fun V => V.cell? ⟨p, 0, none⟩ = some (.string pa.1) ∧ V.cell? ⟨p, 1, none⟩ = some (.string pa.2) ∧ V.cell? ⟨p, 2, none⟩ = some (.pointer xl) ∧ V.cell? ⟨p, 3, none⟩ = some (.pointer xr)) (go_keep)
    (first
      | (go_at_call 75; (with_reducible refine HT1.out.mono ?_); rintro e w2 ⟨v2, t2, rfl, hQ2, hk2, hb2⟩; have hbd : Below w1.heap.size w1 w2 := (below_drew1 w1).trans hb2; have j0 := cell_later hbd d0; have j1 := cell_later hbd d1; have j2 := cell_later hbd d2; have j3 := cell_later hbd d3; have HB2 := Lib.hid hbd; have HQ2 := Lib.hid hQ2; have HK2 := Lib.hid hk2; have HT2 := Lib.hid (IR.out _ _ _ _ (Kr1.out.all hbd) (HKm.out.all hbd) GM.out); clear hbd hb2 hQ2 hk2 HT1 IR)
      | (go_at_call 75; (with_reducible refine HT2.out.mono ?_); rintro e w3 ⟨v3, t3, rfl, hQ3, hk3, hb3⟩; have i0 := cell_later hb3 j0; have i1 := cell_later hb3 j1; have i2 := cell_later hb3 j2; have i3 := cell_later hb3 j3; have HB3 := Lib.hid (HB2.out.trans (hb3.mono HB2.out.size)); have HQ3 := Lib.hid hQ3; have HK2' := Lib.hid (HK2.out.all hb3); have HK3 := Lib.hid hk3; clear hb3 hQ3 hk3 HT2))
  have o0 := i0
  have o1 := i1
  clear d0 d1 d2 d3 j0 j1 j2 j3
  rcases HH.out with ⟨rfl, rfl⟩ | ⟨ph, a', c', rfl, hkh⟩
  · go_wp2_with fail
    go_fit (meet_any HK2'.out HK3.out HQ2.out.1.bal HQ3.out.1.bal (by have h2 := HQ2.out.2; have h3 := HQ3.out.2; have h4 := GA.out.size; simp only [T.size] at h4; omega))
    rintro e w4 ⟨v4, t4, rfl, hj, hk4, hb4⟩
    have HB4 := Lib.hid (HB3.out.trans (hb4.mono HB3.out.size))
    have HJ := Lib.hid hj
    have HK4 := Lib.hid hk4
    clear hb4 hj hk4
    go_wp2_with fail
    go_ret
    refine ⟨v4, t4, rfl, ⟨T.two_meet rfl GA.out.sorted GB.out.sorted (T.parted_here GA.out.bal GA.out.sorted) HP.out HQ2.out.1 HQ3.out.1 rfl HJ.out.2 HJ.out.1, ?_⟩, HK4.out, HB1.out.trans (HB4.out.mono HB1.out.size)⟩
    have h2 := HQ2.out.2
    have h3 := HQ3.out.2
    have h4 := HJ.out.size
    simp only [T.size]
    omega
  · obtain ⟨bh, rfl⟩ := knot_some hkh
    have HT := Lib.hid (join_any pa HK2'.out HK3.out HQ2.out.1.bal HQ3.out.1.bal (by have h2 := HQ2.out.2; have h3 := HQ3.out.2; have h4 := GA.out.size; simp only [T.size] at h4; omega))
    have HT' := Lib.hid (join_any pa (HK2'.out.all (below_drew1 _)) (HK3.out.all (below_drew1 _)) HQ2.out.1.bal HQ3.out.1.bal (by have h2 := HQ2.out.2; have h3 := HQ3.out.2; have h4 := GA.out.size; simp only [T.size] at h4; omega))
    clear hkh
    go_wp2_with fail
    first
      | (go_fit HT.out; rintro e w4 ⟨v4, t4, rfl, hj, hk4, hb4⟩; have HB4 := Lib.hid (HB3.out.trans (hb4.mono HB3.out.size)); have HJ := Lib.hid hj; have HK4 := Lib.hid hk4; clear hb4 hj hk4)
      | (go_region_with (go_at_call 82; (with_reducible refine HT'.out.mono ?_); rintro e w4 ⟨v4, t4, rfl, hj, hk4, hb4⟩; have HB4 := Lib.hid (HB3.out.trans (((below_drew1 w3).trans hb4).mono HB3.out.size)); have HJ := Lib.hid hj; have HK4 := Lib.hid hk4; clear hb4 hj hk4))
    go_wp2_with fail
    go_ret
    refine ⟨v4, t4, rfl, ⟨T.two_join rfl GA.out.sorted GB.out.sorted (T.parted_here GA.out.bal GA.out.sorted) HP.out HQ2.out.1 HQ3.out.1 rfl rfl HJ.out, ?_⟩, HK4.out, HB1.out.trans (HB4.out.mono HB1.out.size)⟩
    have h2 := HQ2.out.2
    have h3 := HQ3.out.2
    have h4 := HJ.out.size
    simp only [T.size]
    omega

theorem both_any : ∀ {a : T} {w : World} {b : T} {x y : Option Addr}, Knot w w.heap.size a x → Knot w w.heap.size b y → Good a 500000000 → Good b 500000000 →
    Calls Try.prog 75 #[.pointer x, .pointer y] w (Makes w (fun t => T.Two T.fB a b t ∧ t.size ≤ a.size))
  | .nil, w, .nil, x, y, ha, hb, ga, gb => by
    obtain rfl : x = none := ha
    obtain rfl : y = none := hb
    exact both_none
  | .nil, w, .node lb pb rb, x, y, ha, hb, ga, gb => by
    obtain rfl : x = none := ha
    obtain ⟨q, rfl⟩ := knot_some hb
    exact both_nil
  | .node la pa ra, w, .nil, x, y, ha, hb, ga, gb => by
    obtain ⟨p, rfl⟩ := knot_some ha
    obtain rfl : y = none := hb
    exact both_nil'
  | .node la pa ra, w, .node lb pb rb, x, y, ha, hb, ga, gb => by
    obtain ⟨p, rfl⟩ := knot_some ha
    obtain ⟨q, rfl⟩ := knot_some hb
    by_cases hpq : p = q
    · subst hpq
      rw [← ha.one hb]
      exact both_same ha ga
    · have hbq : KB w w.heap.size q := by obtain ⟨p', _, _, hp, h, _⟩ := hb; simp only [Option.some.injEq, Addr.mk.injEq, and_true] at hp; rw [hp]; exact h
      exact both_step hpq hbq ha hb ga gb (fun w b x y h1 h2 g => both_any h1 h2 ga.left g) (fun w b x y h1 h2 g => both_any h1 h2 ga.right g)
end Go.Proofs.Ytcncggndpnooeaa
