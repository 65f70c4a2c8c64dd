/-
  Walks: a pair between two sides of which one may be deeper by two. (Written by gentree.py.)
-/
import Derived.Test.YtdfjnpnkfjcpcaaTB1
namespace Go.Proofs.Ytdfjnpnkfjcpcaa
set_option linter.unusedVariables false
set_option linter.unusedSimpArgs false
open Go.RowKit

theorem cell_later {w w' : World} (hb : Below w.heap.size w w') {p : Addr} {v : Value} (h : w.cell? p = some v) : w'.cell? p = some v :=
  (hb.cell (p := p) (World.block_lt_of_cell? w _ h)).trans h
theorem Knot.all {w w' : World} {t : T} {v : Option Addr} (h : Knot w w.heap.size t v) (hb : Below w.heap.size w w') : Knot w' w'.heap.size t v := (h.later hb).mono hb.size
theorem Knot.drew {w : World} {B : Nat} {t : T} {v : Option Addr} (h : Knot w B t v) : Knot w.drew B t v := h.later (below_drew (Below.refl _ _))
theorem below_drew2 (W : World) : Below W.heap.size W W.drew.drew := below_drew (below_drew (Below.refl _ _))
theorem below_drew1 (W : World) : Below W.heap.size W W.drew := below_drew (Below.refl _ _)

set_option maxRecDepth 100000 in
set_option maxHeartbeats 3200000 in
theorem level_lr {w : World} {a b c r : T} {q m : Pr} {x y : Option Addr} (p : Pr) (hl : Knot w w.heap.size (T.node a q (.node b m c)) x) (hr : Knot w w.heap.size (r) y) (hs : (T.node a q (.node b m c)).size + (r).size ≤ 1073741823)
    (h1 : ((r.deep : Nat) : Int) + 1 < ((T.node a q (.node b m c)).deep : Nat)) (h2 : (a.deep : Int) < ((T.node b m c).deep : Nat)) :
    Calls Try.prog 104 #[.pointer x, .agg #[.string p.1, .string p.2], .pointer y] w (Makes w (· = .node (.node a q b) m (.node c p r))) := by
  have HB := Lib.hid (below_alloc w (Obj.cells #[Value.string p.fst, Value.string p.snd] 87))
  have hp0 : (w.alloc (Obj.cells #[Value.string p.fst, Value.string p.snd] 87)).cell? ⟨w.heap.size, 0, none⟩ = some (.string p.1) := by rw [World.cell?_alloc_at _ _ _ _ rfl]; rfl
  have hp1 : (w.alloc (Obj.cells #[Value.string p.fst, Value.string p.snd] 87)).cell? ⟨w.heap.size, 1, none⟩ = some (.string p.2) := by rw [World.cell?_alloc_at _ _ _ _ rfl]; rfl
  have hl := hl.all HB.out
  have hr := hr.all HB.out
  have hdr := (r).deep_size
  have e1 : IntKind.i64.wrap (((r).deep : Nat) + 1) = (((r).deep : Nat) : Int) + 1 := IntWalk.i64_in _ (by omega)
  clear hdr
  go_enter Try.func104, Try.ntmps104
  go_wp2_with fail
  generalize w.alloc (Obj.cells #[Value.string p.fst, Value.string p.snd] 87) = W at *
  have Hl := Lib.hid hl
  have Hr := Lib.hid hr
  obtain ⟨bx, xa, xm, rfl, hbx, a0, a1, a2, a3, a4, a5, kxa, kxm⟩ := hl
  have Ka := Lib.hid kxa
  have Km := Lib.hid kxm
  obtain ⟨bm, xb, xc, rfl, hbm, b0, b1, b2, b3, b4, b5, kxb, kxc⟩ := kxm
  have Kb := Lib.hid kxb
  have Kc := Lib.hid kxc
  clear kxa kxb kxc a4 a5 b4 b5 hr
  go_fit (deep_any Hl.out)
  rintro e w' ⟨rfl, rfl⟩
  go_wp2_with fail
  go_fit (deep_any Hr.out)
  rintro e w' ⟨rfl, rfl⟩
  go_wp2_with fail
  go_region_held3 (fun V => V.cell? ⟨bx, 2, none⟩ = some (.pointer xa)) (go_keep)
    (first | (go_at_call 115; (with_reducible refine (deep_any Km.out.drew).mono ?_); rintro e w' ⟨rfl, rfl⟩) | (go_at_call 115; (with_reducible refine (deep_any Ka.out.drew).mono ?_); rintro e w' ⟨rfl, rfl⟩))
  go_wp2_with fail
  have c0_0 := a0
  have c0_1 := a1
  have c0_2 := a2
  have c0_3 := b0
  have c0_4 := b1
  have c0_5 := b2
  have c0_6 := b3
  have c0_7 := hp0
  have c0_8 := hp1
  have hb0 := below_drew2 W
  have hz1 : a.size + b.size ≤ 1073741824 := by simp only [T.size] at hs; (try simp only [T.size]); omega
  have hz2 : c.size + r.size ≤ 1073741824 := by simp only [T.size] at hs; (try simp only [T.size]); omega
  have hz3 : (T.node a q b).size + (T.node c p r).size ≤ 1073741824 := by simp only [T.size] at hs; (try simp only [T.size]); omega
  have HT1 := Lib.hid (tie_any q (Ka.out.all hb0) (Kb.out.all hb0) hz1)
  clear h1 h2 e1 Hl Km
  go_region_held3 (fun V => V.cell? ⟨bx, 0, none⟩ = some (.string q.1) ∧ V.cell? ⟨bx, 1, none⟩ = some (.string q.2) ∧ V.cell? ⟨bx, 2, none⟩ = some (.pointer xa) ∧ V.cell? ⟨bm, 0, none⟩ = some (.string m.1) ∧ V.cell? ⟨bm, 1, none⟩ = some (.string m.2) ∧ V.cell? ⟨bm, 2, none⟩ = some (.pointer xb) ∧ V.cell? ⟨bm, 3, none⟩ = some (.pointer xc) ∧ V.cell? ⟨w.heap.size, 0, none⟩ = some (.string p.1) ∧ V.cell? ⟨w.heap.size, 1, none⟩ = some (.string p.2)) (go_keep)
    (first
      | (go_at_call 103; (with_reducible refine HT1.out.mono ?_); rintro e w1 ⟨v1, t1, rfl, rfl, hk1, hb1⟩; have HB1 : Hid (Below W.heap.size W w1) := hb0.trans hb1; have c1_0 := cell_later HB1.out c0_0; have c1_1 := cell_later HB1.out c0_1; have c1_2 := cell_later HB1.out c0_2; have c1_3 := cell_later HB1.out c0_3; have c1_4 := cell_later HB1.out c0_4; have c1_5 := cell_later HB1.out c0_5; have c1_6 := cell_later HB1.out c0_6; have c1_7 := cell_later HB1.out c0_7; have c1_8 := cell_later HB1.out c0_8; have HK1_1 := Lib.hid hk1; have HT2 := Lib.hid (tie_any p (Kc.out.all HB1.out) (Hr.out.all HB1.out) hz2); clear hb1 hk1 HT1)
      | (go_at_call 103; (with_reducible refine HT2.out.mono ?_); rintro e w2 ⟨v2, t2, rfl, rfl, hk2, hb2⟩; have HB2 := Lib.hid (HB1.out.trans (hb2.mono HB1.out.size)); have c2_0 := cell_later HB2.out c0_0; have c2_1 := cell_later HB2.out c0_1; have c2_2 := cell_later HB2.out c0_2; have c2_3 := cell_later HB2.out c0_3; have c2_4 := cell_later HB2.out c0_4; have c2_5 := cell_later HB2.out c0_5; have c2_6 := cell_later HB2.out c0_6; have c2_7 := cell_later HB2.out c0_7; have c2_8 := cell_later HB2.out c0_8; have HK1_2 := Lib.hid (HK1_1.out.all hb2); have HK2_2 := Lib.hid hk2; have HT3 := Lib.hid (tie_any m (HK1_2.out) (HK2_2.out) hz3); clear hb2 hk2 HT2)
      | (go_at_call 103; (with_reducible refine HT3.out.mono ?_); rintro e w3 ⟨v3, t3, rfl, rfl, hk3, hb3⟩; have HB3 := Lib.hid (HB2.out.trans (hb3.mono HB2.out.size)); have c3_0 := cell_later HB3.out c0_0; have c3_1 := cell_later HB3.out c0_1; have c3_2 := cell_later HB3.out c0_2; have c3_3 := cell_later HB3.out c0_3; have c3_4 := cell_later HB3.out c0_4; have c3_5 := cell_later HB3.out c0_5; have c3_6 := cell_later HB3.out c0_6; have c3_7 := cell_later HB3.out c0_7; have c3_8 := cell_later HB3.out c0_8; have HK1_3 := Lib.hid (HK1_2.out.all hb3); have HK2_3 := Lib.hid (HK2_2.out.all hb3); have HK3_3 := Lib.hid hk3; clear hb3 hk3 HT3))
  go_wp2_with fail
  go_ret
  exact ⟨_, _, rfl, rfl, HK3_3.out, HB.out.trans (HB3.out.mono HB.out.size)⟩

set_option maxRecDepth 100000 in
set_option maxHeartbeats 3200000 in
theorem level_ll {w : World} {a b r : T} {q m : Pr} {x y : Option Addr} (p : Pr) (hl : Knot w w.heap.size (T.node a q b) x) (hr : Knot w w.heap.size (r) y) (hs : (T.node a q b).size + (r).size ≤ 1073741823)
    (h1 : ((r.deep : Nat) : Int) + 1 < ((T.node a q b).deep : Nat)) (h2 : (b.deep : Int) ≤ (a.deep : Int)) :
    Calls Try.prog 104 #[.pointer x, .agg #[.string p.1, .string p.2], .pointer y] w (Makes w (· = .node a q (.node b p r))) := by
  have HB := Lib.hid (below_alloc w (Obj.cells #[Value.string p.fst, Value.string p.snd] 87))
  have hp0 : (w.alloc (Obj.cells #[Value.string p.fst, Value.string p.snd] 87)).cell? ⟨w.heap.size, 0, none⟩ = some (.string p.1) := by rw [World.cell?_alloc_at _ _ _ _ rfl]; rfl
  have hp1 : (w.alloc (Obj.cells #[Value.string p.fst, Value.string p.snd] 87)).cell? ⟨w.heap.size, 1, none⟩ = some (.string p.2) := by rw [World.cell?_alloc_at _ _ _ _ rfl]; rfl
  have hl := hl.all HB.out
  have hr := hr.all HB.out
  have hdr := (r).deep_size
  have e1 : IntKind.i64.wrap (((r).deep : Nat) + 1) = (((r).deep : Nat) : Int) + 1 := IntWalk.i64_in _ (by omega)
  clear hdr
  go_enter Try.func104, Try.ntmps104
  go_wp2_with fail
  generalize w.alloc (Obj.cells #[Value.string p.fst, Value.string p.snd] 87) = W at *
  have Hl := Lib.hid hl
  have Hr := Lib.hid hr
  obtain ⟨bx, xa, xb, rfl, hbx, a0, a1, a2, a3, a4, a5, kxa, kxb⟩ := hl
  have Ka := Lib.hid kxa
  have Kb := Lib.hid kxb
  clear kxa kxb a4 a5 hr
  go_fit (deep_any Hl.out)
  rintro e w' ⟨rfl, rfl⟩
  go_wp2_with fail
  go_fit (deep_any Hr.out)
  rintro e w' ⟨rfl, rfl⟩
  go_wp2_with fail
  go_region_held3 (fun V => V.cell? ⟨bx, 2, none⟩ = some (.pointer xa)) (go_keep)
    (first | (go_at_call 115; (with_reducible refine (deep_any Kb.out.drew).mono ?_); rintro e w' ⟨rfl, rfl⟩) | (go_at_call 115; (with_reducible refine (deep_any Ka.out.drew).mono ?_); rintro e w' ⟨rfl, rfl⟩))
  go_wp2_with fail
  have c0_0 := a0
  have c0_1 := a1
  have c0_2 := a2
  have c0_3 := a3
  have c0_4 := hp0
  have c0_5 := hp1
  have hb0 := below_drew2 W
  have hz1 : b.size + r.size ≤ 1073741824 := by simp only [T.size] at hs; (try simp only [T.size]); omega
  have hz2 : a.size + (T.node b p r).size ≤ 1073741824 := by simp only [T.size] at hs; (try simp only [T.size]); omega
  have HT1 := Lib.hid (tie_any p (Kb.out.all hb0) (Hr.out.all hb0) hz1)
  clear h1 h2 e1 Hl
  go_region_held3 (fun V => V.cell? ⟨bx, 0, none⟩ = some (.string q.1) ∧ V.cell? ⟨bx, 1, none⟩ = some (.string q.2) ∧ V.cell? ⟨bx, 2, none⟩ = some (.pointer xa) ∧ V.cell? ⟨bx, 3, none⟩ = some (.pointer xb) ∧ V.cell? ⟨w.heap.size, 0, none⟩ = some (.string p.1) ∧ V.cell? ⟨w.heap.size, 1, none⟩ = some (.string p.2)) (go_keep)
    (first
      | (go_at_call 103; (with_reducible refine HT1.out.mono ?_); rintro e w1 ⟨v1, t1, rfl, rfl, hk1, hb1⟩; have HB1 : Hid (Below W.heap.size W w1) := hb0.trans hb1; have c1_0 := cell_later HB1.out c0_0; have c1_1 := cell_later HB1.out c0_1; have c1_2 := cell_later HB1.out c0_2; have c1_3 := cell_later HB1.out c0_3; have c1_4 := cell_later HB1.out c0_4; have c1_5 := cell_later HB1.out c0_5; have HK1_1 := Lib.hid hk1; have HT2 := Lib.hid (tie_any q (Ka.out.all HB1.out) (HK1_1.out) hz2); clear hb1 hk1 HT1)
      | (go_at_call 103; (with_reducible refine HT2.out.mono ?_); rintro e w2 ⟨v2, t2, rfl, rfl, hk2, hb2⟩; have HB2 := Lib.hid (HB1.out.trans (hb2.mono HB1.out.size)); have c2_0 := cell_later HB2.out c0_0; have c2_1 := cell_later HB2.out c0_1; have c2_2 := cell_later HB2.out c0_2; have c2_3 := cell_later HB2.out c0_3; have c2_4 := cell_later HB2.out c0_4; have c2_5 := cell_later HB2.out c0_5; have HK1_2 := Lib.hid (HK1_1.out.all hb2); have HK2_2 := Lib.hid hk2; clear hb2 hk2 HT2))
  go_wp2_with fail
  go_ret
  exact ⟨_, _, rfl, rfl, HK2_2.out, HB.out.trans (HB2.out.mono HB.out.size)⟩

set_option maxRecDepth 100000 in
set_option maxHeartbeats 3200000 in
theorem level_rl {w : World} {a b c l : T} {q m : Pr} {x y : Option Addr} (p : Pr) (hl : Knot w w.heap.size (l) x) (hr : Knot w w.heap.size (T.node (.node b m c) q a) y) (hs : (l).size + (T.node (.node b m c) q a).size ≤ 1073741823)
    (h0 : (l.deep : Int) ≤ (((T.node (.node b m c) q a).deep : Nat) : Int) + 1) (h1 : ((l.deep : Nat) : Int) + 1 < ((T.node (.node b m c) q a).deep : Nat)) (h2 : (a.deep : Int) < ((T.node b m c).deep : Nat)) :
    Calls Try.prog 104 #[.pointer x, .agg #[.string p.1, .string p.2], .pointer y] w (Makes w (· = .node (.node l p b) m (.node c q a))) := by
  have HB := Lib.hid (below_alloc w (Obj.cells #[Value.string p.fst, Value.string p.snd] 87))
  have hp0 : (w.alloc (Obj.cells #[Value.string p.fst, Value.string p.snd] 87)).cell? ⟨w.heap.size, 0, none⟩ = some (.string p.1) := by rw [World.cell?_alloc_at _ _ _ _ rfl]; rfl
  have hp1 : (w.alloc (Obj.cells #[Value.string p.fst, Value.string p.snd] 87)).cell? ⟨w.heap.size, 1, none⟩ = some (.string p.2) := by rw [World.cell?_alloc_at _ _ _ _ rfl]; rfl
  have hl := hl.all HB.out
  have hr := hr.all HB.out
  have hdr := (l).deep_size
  have e1 : IntKind.i64.wrap (((l).deep : Nat) + 1) = (((l).deep : Nat) : Int) + 1 := IntWalk.i64_in _ (by omega)
  clear hdr
  have hdr := (T.node (.node b m c) q a).deep_size
  have e2 : IntKind.i64.wrap (((T.node (.node b m c) q a).deep : Nat) + 1) = (((T.node (.node b m c) q a).deep : Nat) : Int) + 1 := IntWalk.i64_in _ (by omega)
  clear hdr
  go_enter Try.func104, Try.ntmps104
  go_wp2_with fail
  generalize w.alloc (Obj.cells #[Value.string p.fst, Value.string p.snd] 87) = W at *
  have Hl := Lib.hid hl
  have Hr := Lib.hid hr
  obtain ⟨bx, xm, xa, rfl, hbx, a0, a1, a2, a3, a4, a5, kxm, kxa⟩ := hr
  have Ka := Lib.hid kxa
  have Km := Lib.hid kxm
  obtain ⟨bm, xb, xc, rfl, hbm, b0, b1, b2, b3, b4, b5, kxb, kxc⟩ := kxm
  have Kb := Lib.hid kxb
  have Kc := Lib.hid kxc
  clear kxa kxb kxc a4 a5 b4 b5 hl
  go_fit (deep_any Hl.out)
  rintro e w' ⟨rfl, rfl⟩
  go_wp2_with fail
  go_fit (deep_any Hr.out)
  rintro e w' ⟨rfl, rfl⟩
  go_wp2_with fail
  go_fit (deep_any Hr.out)
  rintro e w' ⟨rfl, rfl⟩
  go_wp2_with fail
  go_fit (deep_any Hl.out)
  rintro e w' ⟨rfl, rfl⟩
  go_wp2_with fail
  go_region_held3 (fun V => V.cell? ⟨bx, 3, none⟩ = some (.pointer xa)) (go_keep)
    (first | (go_at_call 115; (with_reducible refine (deep_any Km.out.drew).mono ?_); rintro e w' ⟨rfl, rfl⟩) | (go_at_call 115; (with_reducible refine (deep_any Ka.out.drew).mono ?_); rintro e w' ⟨rfl, rfl⟩))
  go_wp2_with fail
  have c0_0 := a0
  have c0_1 := a1
  have c0_2 := a3
  have c0_3 := b0
  have c0_4 := b1
  have c0_5 := b2
  have c0_6 := b3
  have c0_7 := hp0
  have c0_8 := hp1
  have hb0 := below_drew2 W
  have hz1 : l.size + b.size ≤ 1073741824 := by simp only [T.size] at hs; (try simp only [T.size]); omega
  have hz2 : c.size + a.size ≤ 1073741824 := by simp only [T.size] at hs; (try simp only [T.size]); omega
  have hz3 : (T.node l p b).size + (T.node c q a).size ≤ 1073741824 := by simp only [T.size] at hs; (try simp only [T.size]); omega
  have HT1 := Lib.hid (tie_any p (Hl.out.all hb0) (Kb.out.all hb0) hz1)
  clear h0 h1 h2 e1 e2 Hr Km
  go_region_held3 (fun V => V.cell? ⟨bx, 0, none⟩ = some (.string q.1) ∧ V.cell? ⟨bx, 1, none⟩ = some (.string q.2) ∧ V.cell? ⟨bx, 3, none⟩ = some (.pointer xa) ∧ V.cell? ⟨bm, 0, none⟩ = some (.string m.1) ∧ V.cell? ⟨bm, 1, none⟩ = some (.string m.2) ∧ V.cell? ⟨bm, 2, none⟩ = some (.pointer xb) ∧ V.cell? ⟨bm, 3, none⟩ = some (.pointer xc) ∧ V.cell? ⟨w.heap.size, 0, none⟩ = some (.string p.1) ∧ V.cell? ⟨w.heap.size, 1, none⟩ = some (.string p.2)) (go_keep)
    (first
      | (go_at_call 103; (with_reducible refine HT1.out.mono ?_); rintro e w1 ⟨v1, t1, rfl, rfl, hk1, hb1⟩; have HB1 : Hid (Below W.heap.size W w1) := hb0.trans hb1; have c1_0 := cell_later HB1.out c0_0; have c1_1 := cell_later HB1.out c0_1; have c1_2 := cell_later HB1.out c0_2; have c1_3 := cell_later HB1.out c0_3; have c1_4 := cell_later HB1.out c0_4; have c1_5 := cell_later HB1.out c0_5; have c1_6 := cell_later HB1.out c0_6; have c1_7 := cell_later HB1.out c0_7; have c1_8 := cell_later HB1.out c0_8; have HK1_1 := Lib.hid hk1; have HT2 := Lib.hid (tie_any q (Kc.out.all HB1.out) (Ka.out.all HB1.out) hz2); clear hb1 hk1 HT1)
      | (go_at_call 103; (with_reducible refine HT2.out.mono ?_); rintro e w2 ⟨v2, t2, rfl, rfl, hk2, hb2⟩; have HB2 := Lib.hid (HB1.out.trans (hb2.mono HB1.out.size)); have c2_0 := cell_later HB2.out c0_0; have c2_1 := cell_later HB2.out c0_1; have c2_2 := cell_later HB2.out c0_2; have c2_3 := cell_later HB2.out c0_3; have c2_4 := cell_later HB2.out c0_4; have c2_5 := cell_later HB2.out c0_5; have c2_6 := cell_later HB2.out c0_6; have c2_7 := cell_later HB2.out c0_7; have c2_8 := cell_later HB2.out c0_8; have HK1_2 := Lib.hid (HK1_1.out.all hb2); have HK2_2 := Lib.hid hk2; have HT3 := Lib.hid (tie_any m (HK1_2.out) (HK2_2.out) hz3); clear hb2 hk2 HT2)
      | (go_at_call 103; (with_reducible refine HT3.out.mono ?_); rintro e w3 ⟨v3, t3, rfl, rfl, hk3, hb3⟩; have HB3 := Lib.hid (HB2.out.trans (hb3.mono HB2.out.size)); have c3_0 := cell_later HB3.out c0_0; have c3_1 := cell_later HB3.out c0_1; have c3_2 := cell_later HB3.out c0_2; have c3_3 := cell_later HB3.out c0_3; have c3_4 := cell_later HB3.out c0_4; have c3_5 := cell_later HB3.out c0_5; have c3_6 := cell_later HB3.out c0_6; have c3_7 := cell_later HB3.out c0_7; have c3_8 := cell_later HB3.out c0_8; have HK1_3 := Lib.hid (HK1_2.out.all hb3); have HK2_3 := Lib.hid (HK2_2.out.all hb3); have HK3_3 := Lib.hid hk3; clear hb3 hk3 HT3))
  go_wp2_with fail
  go_ret
  exact ⟨_, _, rfl, rfl, HK3_3.out, HB.out.trans (HB3.out.mono HB.out.size)⟩

set_option maxRecDepth 100000 in
set_option maxHeartbeats 3200000 in
theorem level_rr {w : World} {a b l : T} {q m : Pr} {x y : Option Addr} (p : Pr) (hl : Knot w w.heap.size (l) x) (hr : Knot w w.heap.size (T.node b q a) y) (hs : (l).size + (T.node b q a).size ≤ 1073741823)
    (h0 : (l.deep : Int) ≤ (((T.node b q a).deep : Nat) : Int) + 1) (h1 : ((l.deep : Nat) : Int) + 1 < ((T.node b q a).deep : Nat)) (h2 : (b.deep : Int) ≤ (a.deep : Int)) :
    Calls Try.prog 104 #[.pointer x, .agg #[.string p.1, .string p.2], .pointer y] w (Makes w (· = .node (.node l p b) q a)) := by
  have HB := Lib.hid (below_alloc w (Obj.cells #[Value.string p.fst, Value.string p.snd] 87))
  have hp0 : (w.alloc (Obj.cells #[Value.string p.fst, Value.string p.snd] 87)).cell? ⟨w.heap.size, 0, none⟩ = some (.string p.1) := by rw [World.cell?_alloc_at _ _ _ _ rfl]; rfl
  have hp1 : (w.alloc (Obj.cells #[Value.string p.fst, Value.string p.snd] 87)).cell? ⟨w.heap.size, 1, none⟩ = some (.string p.2) := by rw [World.cell?_alloc_at _ _ _ _ rfl]; rfl
  have hl := hl.all HB.out
  have hr := hr.all HB.out
  have hdr := (l).deep_size
  have e1 : IntKind.i64.wrap (((l).deep : Nat) + 1) = (((l).deep : Nat) : Int) + 1 := IntWalk.i64_in _ (by omega)
  clear hdr
  have hdr := (T.node b q a).deep_size
  have e2 : IntKind.i64.wrap (((T.node b q a).deep : Nat) + 1) = (((T.node b q a).deep : Nat) : Int) + 1 := IntWalk.i64_in _ (by omega)
  clear hdr
  go_enter Try.func104, Try.ntmps104
  go_wp2_with fail
  generalize w.alloc (Obj.cells #[Value.string p.fst, Value.string p.snd] 87) = W at *
  have Hl := Lib.hid hl
  have Hr := Lib.hid hr
  obtain ⟨bx, xb, xa, rfl, hbx, a0, a1, a2, a3, a4, a5, kxb, kxa⟩ := hr
  have Ka := Lib.hid kxa
  have Kb := Lib.hid kxb
  clear kxa kxb a4 a5 hl
  go_fit (deep_any Hl.out)
  rintro e w' ⟨rfl, rfl⟩
  go_wp2_with fail
  go_fit (deep_any Hr.out)
  rintro e w' ⟨rfl, rfl⟩
  go_wp2_with fail
  go_fit (deep_any Hr.out)
  rintro e w' ⟨rfl, rfl⟩
  go_wp2_with fail
  go_fit (deep_any Hl.out)
  rintro e w' ⟨rfl, rfl⟩
  go_wp2_with fail
  go_region_held3 (fun V => V.cell? ⟨bx, 3, none⟩ = some (.pointer xa)) (go_keep)
    (first | (go_at_call 115; (with_reducible refine (deep_any Kb.out.drew).mono ?_); rintro e w' ⟨rfl, rfl⟩) | (go_at_call 115; (with_reducible refine (deep_any Ka.out.drew).mono ?_); rintro e w' ⟨rfl, rfl⟩))
  go_wp2_with fail
  have c0_0 := a0
  have c0_1 := a1
  have c0_2 := a2
  have c0_3 := a3
  have c0_4 := hp0
  have c0_5 := hp1
  have hb0 := below_drew2 W
  have hz1 : l.size + b.size ≤ 1073741824 := by simp only [T.size] at hs; (try simp only [T.size]); omega
  have hz2 : (T.node l p b).size + a.size ≤ 1073741824 := by simp only [T.size] at hs; (try simp only [T.size]); omega
  have HT1 := Lib.hid (tie_any p (Hl.out.all hb0) (Kb.out.all hb0) hz1)
  clear h0 h1 h2 e1 e2 Hr
  go_region_held3 (fun V => V.cell? ⟨bx, 0, none⟩ = some (.string q.1) ∧ V.cell? ⟨bx, 1, none⟩ = some (.string q.2) ∧ V.cell? ⟨bx, 2, none⟩ = some (.pointer xb) ∧ V.cell? ⟨bx, 3, none⟩ = some (.pointer xa) ∧ V.cell? ⟨w.heap.size, 0, none⟩ = some (.string p.1) ∧ V.cell? ⟨w.heap.size, 1, none⟩ = some (.string p.2)) (go_keep)
    (first
      | (go_at_call 103; (with_reducible refine HT1.out.mono ?_); rintro e w1 ⟨v1, t1, rfl, rfl, hk1, hb1⟩; have HB1 : Hid (Below W.heap.size W w1) := hb0.trans hb1; have c1_0 := cell_later HB1.out c0_0; have c1_1 := cell_later HB1.out c0_1; have c1_2 := cell_later HB1.out c0_2; have c1_3 := cell_later HB1.out c0_3; have c1_4 := cell_later HB1.out c0_4; have c1_5 := cell_later HB1.out c0_5; have HK1_1 := Lib.hid hk1; have HT2 := Lib.hid (tie_any q (HK1_1.out) (Ka.out.all HB1.out) hz2); clear hb1 hk1 HT1)
      | (go_at_call 103; (with_reducible refine HT2.out.mono ?_); rintro e w2 ⟨v2, t2, rfl, rfl, hk2, hb2⟩; have HB2 := Lib.hid (HB1.out.trans (hb2.mono HB1.out.size)); have c2_0 := cell_later HB2.out c0_0; have c2_1 := cell_later HB2.out c0_1; have c2_2 := cell_later HB2.out c0_2; have c2_3 := cell_later HB2.out c0_3; have c2_4 := cell_later HB2.out c0_4; have c2_5 := cell_later HB2.out c0_5; have HK1_2 := Lib.hid (HK1_1.out.all hb2); have HK2_2 := Lib.hid hk2; clear hb2 hk2 HT2))
  go_wp2_with fail
  go_ret
  exact ⟨_, _, rfl, rfl, HK2_2.out, HB.out.trans (HB2.out.mono HB.out.size)⟩

set_option maxRecDepth 100000 in
set_option maxHeartbeats 3200000 in
theorem level_tie {w : World} {l r : T} {q m : Pr} {x y : Option Addr} (p : Pr) (hl : Knot w w.heap.size (l) x) (hr : Knot w w.heap.size (r) y) (hs : (l).size + (r).size ≤ 1073741823)
    (h0 : (l.deep : Int) ≤ (r.deep : Int) + 1) (h1 : (r.deep : Int) ≤ (l.deep : Int) + 1) :
    Calls Try.prog 104 #[.pointer x, .agg #[.string p.1, .string p.2], .pointer y] w (Makes w (· = .node l p r)) := by
  have HB := Lib.hid (below_alloc w (Obj.cells #[Value.string p.fst, Value.string p.snd] 87))
  have hp0 : (w.alloc (Obj.cells #[Value.string p.fst, Value.string p.snd] 87)).cell? ⟨w.heap.size, 0, none⟩ = some (.string p.1) := by rw [World.cell?_alloc_at _ _ _ _ rfl]; rfl
  have hp1 : (w.alloc (Obj.cells #[Value.string p.fst, Value.string p.snd] 87)).cell? ⟨w.heap.size, 1, none⟩ = some (.string p.2) := by rw [World.cell?_alloc_at _ _ _ _ rfl]; rfl
  have hl := hl.all HB.out
  have hr := hr.all HB.out
  have hdr := (l).deep_size
  have e1 : IntKind.i64.wrap (((l).deep : Nat) + 1) = (((l).deep : Nat) : Int) + 1 := IntWalk.i64_in _ (by omega)
  clear hdr
  have hdr := (r).deep_size
  have e2 : IntKind.i64.wrap (((r).deep : Nat) + 1) = (((r).deep : Nat) : Int) + 1 := IntWalk.i64_in _ (by omega)
  clear hdr
  go_enter Try.func104, Try.ntmps104
  go_wp2_with fail
  generalize w.alloc (Obj.cells #[Value.string p.fst, Value.string p.snd] 87) = W at *
  have Hl := Lib.hid hl
  have Hr := Lib.hid hr
  clear hl hr
  go_fit (deep_any Hl.out)
  rintro e w' ⟨rfl, rfl⟩
  go_wp2_with fail
  go_fit (deep_any Hr.out)
  rintro e w' ⟨rfl, rfl⟩
  go_wp2_with fail
  go_fit (deep_any Hr.out)
  rintro e w' ⟨rfl, rfl⟩
  go_wp2_with fail
  go_fit (deep_any Hl.out)
  rintro e w' ⟨rfl, rfl⟩
  go_wp2_with fail
  have hz1 : l.size + r.size ≤ 1073741824 := by omega
  have HT := Lib.hid (tie_any p (Hl.out.all (below_drew1 W)) (Hr.out.all (below_drew1 W)) hz1)
  have HT' := Lib.hid (tie_any p Hl.out Hr.out hz1)
  clear Hl Hr e1 e2 h0 h1 hs hz1
  first
    | go_fit HT'.out
    | (go_region_with (go_at_call 103; (with_reducible refine HT.out.mono ?_)))
  rintro e w1 ⟨v1, t1, rfl, rfl, hk1, hb1⟩
  have HE : Hid (Makes w (· = .node l p r) (.returned (.pointer v1)) w1) := ⟨_, _, rfl, rfl, hk1, HB.out.trans (hb1.mono HB.out.size)⟩
  clear hk1 hb1
  go_wp2_with fail
  go_ret
  exact HE.out

end Go.Proofs.Ytdfjnpnkfjcpcaa
