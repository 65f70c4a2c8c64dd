/-
  Walks: a tree with a pair. (Written by gentree7.py.)
-/
import Derived.Test.YtdfjnpnkfjcpcaaTB6
namespace Go.Proofs.Ytdfjnpnkfjcpcaa
set_option linter.unusedVariables false
set_option linter.unusedSimpArgs false
open Go.RowKit

set_option maxRecDepth 100000 in
set_option maxHeartbeats 3200000 in
theorem put_nil_any (w : World) (p : Pr) : Calls Try.prog 88 #[.pointer none, .agg #[.string p.1, .string p.2]] w (Makes w (T.IsPut .nil p)) := by
  have HB := Lib.hid (below_alloc w (Obj.cells #[Value.string p.fst, Value.string p.snd] 87))
  have hx := box_alloc w p.1 p.2 87
  have x0 := hx.c0
  have x1 := hx.c1
  go_enter Try.func88, Try.ntmps88
  go_wp2_with fail
  generalize w.alloc (Obj.cells #[Value.string p.fst, Value.string p.snd] 87) = W at *
  have HT := Lib.hid (tie_any (w := W) (l := .nil) (r := .nil) (x := none) (y := none) p rfl rfl (by simp [T.size]))
  have HT' := Lib.hid (tie_any (w := W.drew) (l := .nil) (r := .nil) (x := none) (y := none) p rfl rfl (by simp [T.size]))
  first
    | (go_fit HT.out; rintro e w1 ⟨v1, t1, rfl, rfl, hk1, hb1⟩; have HB1 := Lib.hid hb1; have HK := Lib.hid hk1; clear hb1 hk1)
    | (go_region_with (go_at_call 103; (with_reducible refine HT'.out.mono ?_); rintro e w1 ⟨v1, t1, rfl, rfl, hk1, hb1⟩; have HB1 : Hid (Below W.heap.size W w1) := (below_drew1 W).trans hb1; have HK := Lib.hid hk1; clear hb1 hk1))
  go_wp2_with fail
  go_ret
  exact ⟨v1, _, rfl, T.put_nil p, HK.out, HB.out.trans (HB1.out.mono HB.out.size)⟩

set_option maxRecDepth 100000 in
set_option maxHeartbeats 3200000 in
theorem put_less_any {w : World} {l r : T} {q : Pr} {x : Option Addr} (p : Pr) (h : Knot w w.heap.size (.node l q r) x) (bt : (T.node l q r).Bal) (hs : Sorted (T.node l q r).list) (hz : (T.node l q r).size ≤ 1073741820) (hk : klt p.1 q.1 = true)
    (IH : ∀ (w : World) (x : Option Addr), Knot w w.heap.size l x → Calls Try.prog 88 #[.pointer x, .agg #[.string p.1, .string p.2]] w (Makes w (T.IsPut l p))) :
    Calls Try.prog 88 #[.pointer x, .agg #[.string p.1, .string p.2]] w (Makes w (T.IsPut (.node l q r) p)) := by
  have HB := Lib.hid (below_alloc w (Obj.cells #[Value.string p.fst, Value.string p.snd] 87))
  have hx := box_alloc w p.1 p.2 87
  have x0 := hx.c0
  have x1 := hx.c1
  obtain ⟨b, xl, xr, rfl, hbb, c0, c1, c2, c3, c4, c5, kl, kr⟩ := h.all HB.out
  have BT := Lib.hid bt
  have HS := Lib.hid hs
  have HK := Lib.hid hk
  have HZ := Lib.hid hz
  have hk1 : Go.Op.bytesLess p.1.toList q.1.toList = true := hk
  clear bt hs hz hk c4 c5 hx h
  go_enter Try.func88, Try.ntmps88
  go_wp2_with fail
  generalize w.alloc (Obj.cells #[Value.string p.fst, Value.string p.snd] 87) = W at *
  go_region_held3 (fun V => V.cell? ⟨b, 0, none⟩ = some (.string q.1) ∧ V.cell? ⟨w.heap.size, 0, none⟩ = some (.string p.1)) (go_keep) (fail)
  go_wp2_with fail
  have c0 := cell_later (below_drew1 W) c0
  have c1 := cell_later (below_drew1 W) c1
  have c2 := cell_later (below_drew1 W) c2
  have c3 := cell_later (below_drew1 W) c3
  have x0 := cell_later (below_drew1 W) x0
  have x1 := cell_later (below_drew1 W) x1
  have HB := Lib.hid (HB.out.trans ((below_drew1 W).mono HB.out.size))
  have kl := kl.all (below_drew1 W)
  have kr := kr.all (below_drew1 W)
  generalize W.drew = W at *
  have Ko := Lib.hid kr
  have HI := Lib.hid (IH _ _ (kl.all (below_drew1 W)))
  clear kl kr IH hk1
  go_region_held3 (fun V => V.cell? ⟨b, 0, none⟩ = some (.string q.1) ∧ V.cell? ⟨b, 1, none⟩ = some (.string q.2) ∧ V.cell? ⟨b, 2, none⟩ = some (.pointer xl) ∧ V.cell? ⟨b, 3, none⟩ = some (.pointer xr) ∧ V.cell? ⟨w.heap.size, 0, none⟩ = some (.string p.1) ∧ V.cell? ⟨w.heap.size, 1, none⟩ = some (.string p.2)) (go_keep)
    (first
      | (go_at_call 88; (with_reducible refine HI.out.mono ?_); rintro e w1 ⟨v1, t1, rfl, hP, hk1, hb1⟩; have HB1 : Hid (Below W.heap.size W w1) := (below_drew1 W).trans hb1; have d0 := cell_later HB1.out c0; have d1 := cell_later HB1.out c1; have d2 := cell_later HB1.out c2; have d3 := cell_later HB1.out c3; have y0 := cell_later HB1.out x0; have y1 := cell_later HB1.out x1; have HP := Lib.hid hP; have HT := Lib.hid (level_any q hk1 (Ko.out.all HB1.out) (by have := hP.size; have h1 := HZ.out; simp only [T.size] at h1; omega) (T.put_level BT.out hP).1 (T.put_level BT.out hP).2.1 (T.put_level BT.out hP).2.2.1 (T.put_level BT.out hP).2.2.2); clear hb1 hk1 hP HI)
      | (go_at_call 104; (with_reducible refine HT.out.mono ?_); rintro e w2 ⟨v2, t2, rfl, hj, hk2, hb2⟩; have j0 := cell_later hb2 d0; have j1 := cell_later hb2 d1; have j2 := cell_later hb2 d2; have j3 := cell_later hb2 d3; have z0 := cell_later hb2 y0; have z1 := cell_later hb2 y1; have HB2 := Lib.hid (HB1.out.trans (hb2.mono HB1.out.size)); have HJ := Lib.hid hj; have HK2 := Lib.hid hk2; clear hb2 hj hk2 HT))
  go_wp2_with fail
  go_ret
  exact ⟨v2, t2, rfl, T.put_less BT.out HS.out HK.out HP.out HJ.out, HK2.out, HB.out.trans (HB2.out.mono HB.out.size)⟩

set_option maxRecDepth 100000 in
set_option maxHeartbeats 3200000 in
theorem put_more_any {w : World} {l r : T} {q : Pr} {x : Option Addr} (p : Pr) (h : Knot w w.heap.size (.node l q r) x) (bt : (T.node l q r).Bal) (hs : Sorted (T.node l q r).list) (hz : (T.node l q r).size ≤ 1073741820) (hk : klt q.1 p.1 = true)
    (IH : ∀ (w : World) (x : Option Addr), Knot w w.heap.size r x → Calls Try.prog 88 #[.pointer x, .agg #[.string p.1, .string p.2]] w (Makes w (T.IsPut r p))) :
    Calls Try.prog 88 #[.pointer x, .agg #[.string p.1, .string p.2]] w (Makes w (T.IsPut (.node l q r) p)) := by
  have HB := Lib.hid (below_alloc w (Obj.cells #[Value.string p.fst, Value.string p.snd] 87))
  have hx := box_alloc w p.1 p.2 87
  have x0 := hx.c0
  have x1 := hx.c1
  obtain ⟨b, xl, xr, rfl, hbb, c0, c1, c2, c3, c4, c5, kl, kr⟩ := h.all HB.out
  have BT := Lib.hid bt
  have HS := Lib.hid hs
  have HK := Lib.hid hk
  have HZ := Lib.hid hz
  have hk1 : Go.Op.bytesLess q.1.toList p.1.toList = true := hk
  have hk2 : Go.Op.bytesLess p.1.toList q.1.toList = false := klt_asym hk
  have hk3 : (p.1.toList == q.1.toList) = false := by rw [ba_eq]; simp [(klt_ne hk).symm]
  clear bt hs hz hk c4 c5 hx h
  go_enter Try.func88, Try.ntmps88
  go_wp2_with fail
  generalize w.alloc (Obj.cells #[Value.string p.fst, Value.string p.snd] 87) = W at *
  go_region_held3 (fun V => V.cell? ⟨b, 0, none⟩ = some (.string q.1) ∧ V.cell? ⟨w.heap.size, 0, none⟩ = some (.string p.1)) (go_keep) (fail)
  go_wp2_with fail
  have c0 := cell_later (below_drew1 W) c0
  have c1 := cell_later (below_drew1 W) c1
  have c2 := cell_later (below_drew1 W) c2
  have c3 := cell_later (below_drew1 W) c3
  have x0 := cell_later (below_drew1 W) x0
  have x1 := cell_later (below_drew1 W) x1
  have HB := Lib.hid (HB.out.trans ((below_drew1 W).mono HB.out.size))
  have kl := kl.all (below_drew1 W)
  have kr := kr.all (below_drew1 W)
  generalize W.drew = W at *
  go_region_held3 (fun V => V.cell? ⟨b, 0, none⟩ = some (.string q.1) ∧ V.cell? ⟨w.heap.size, 0, none⟩ = some (.string p.1)) (go_keep) (fail)
  go_wp2_with fail
  have c0 := cell_later (below_drew1 W) c0
  have c1 := cell_later (below_drew1 W) c1
  have c2 := cell_later (below_drew1 W) c2
  have c3 := cell_later (below_drew1 W) c3
  have x0 := cell_later (below_drew1 W) x0
  have x1 := cell_later (below_drew1 W) x1
  have HB := Lib.hid (HB.out.trans ((below_drew1 W).mono HB.out.size))
  have kl := kl.all (below_drew1 W)
  have kr := kr.all (below_drew1 W)
  generalize W.drew = W at *
  have Ko := Lib.hid kl
  have HI := Lib.hid (IH _ _ (kr.all (below_drew1 W)))
  clear kl kr IH hk1 hk2 hk3
  go_region_held3 (fun V => V.cell? ⟨b, 0, none⟩ = some (.string q.1) ∧ V.cell? ⟨b, 1, none⟩ = some (.string q.2) ∧ V.cell? ⟨b, 2, none⟩ = some (.pointer xl) ∧ V.cell? ⟨b, 3, none⟩ = some (.pointer xr) ∧ V.cell? ⟨w.heap.size, 0, none⟩ = some (.string p.1) ∧ V.cell? ⟨w.heap.size, 1, none⟩ = some (.string p.2)) (go_keep)
    (first
      | (go_at_call 88; (with_reducible refine HI.out.mono ?_); rintro e w1 ⟨v1, t1, rfl, hP, hk1, hb1⟩; have HB1 : Hid (Below W.heap.size W w1) := (below_drew1 W).trans hb1; have d0 := cell_later HB1.out c0; have d1 := cell_later HB1.out c1; have d2 := cell_later HB1.out c2; have d3 := cell_later HB1.out c3; have y0 := cell_later HB1.out x0; have y1 := cell_later HB1.out x1; have HP := Lib.hid hP; have HT := Lib.hid (level_any q (Ko.out.all HB1.out) hk1 (by have := hP.size; have h1 := HZ.out; simp only [T.size] at h1; omega) (T.put_level' BT.out hP).1 (T.put_level' BT.out hP).2.1 (T.put_level' BT.out hP).2.2.1 (T.put_level' BT.out hP).2.2.2); clear hb1 hk1 hP HI)
      | (go_at_call 104; (with_reducible refine HT.out.mono ?_); rintro e w2 ⟨v2, t2, rfl, hj, hk2, hb2⟩; have j0 := cell_later hb2 d0; have j1 := cell_later hb2 d1; have j2 := cell_later hb2 d2; have j3 := cell_later hb2 d3; have z0 := cell_later hb2 y0; have z1 := cell_later hb2 y1; have HB2 := Lib.hid (HB1.out.trans (hb2.mono HB1.out.size)); have HJ := Lib.hid hj; have HK2 := Lib.hid hk2; clear hb2 hj hk2 HT))
  go_wp2_with fail
  go_ret
  exact ⟨v2, t2, rfl, T.put_more BT.out HS.out HK.out HP.out HJ.out, HK2.out, HB.out.trans (HB2.out.mono HB.out.size)⟩

set_option maxRecDepth 100000 in
set_option maxHeartbeats 3200000 in
theorem put_here_any {w : World} {l r : T} {q : Pr} {x : Option Addr} (p : Pr) (h : Knot w w.heap.size (.node l q r) x) (bt : (T.node l q r).Bal) (hs : Sorted (T.node l q r).list) (hz : (T.node l q r).size ≤ 1073741820) (hk : p.1 = q.1) :
    Calls Try.prog 88 #[.pointer x, .agg #[.string p.1, .string p.2]] w (Makes w (T.IsPut (.node l q r) p)) := by
  have HB := Lib.hid (below_alloc w (Obj.cells #[Value.string p.fst, Value.string p.snd] 87))
  have hx := box_alloc w p.1 p.2 87
  have x0 := hx.c0
  have x1 := hx.c1
  obtain ⟨b, xl, xr, rfl, hbb, c0, c1, c2, c3, c4, c5, kl, kr⟩ := h.all HB.out
  have BT := Lib.hid bt
  have HS := Lib.hid hs
  have HK := Lib.hid hk
  have hz1 : l.size + r.size ≤ 1073741824 := by simp only [T.size] at hz; omega
  have hk1 : Go.Op.bytesLess p.1.toList q.1.toList = false := by rw [hk]; exact klt_irr _
  have hk2 : (p.1.toList == q.1.toList) = true := by rw [ba_eq]; simp [hk]
  have hk3 : Go.Op.bytesLess q.1.toList p.1.toList = false := by rw [hk]; exact klt_irr _
  clear bt hs hz hk c4 c5 hx h
  go_enter Try.func88, Try.ntmps88
  go_wp2_with fail
  generalize w.alloc (Obj.cells #[Value.string p.fst, Value.string p.snd] 87) = W at *
  go_region_held3 (fun V => V.cell? ⟨b, 0, none⟩ = some (.string q.1) ∧ V.cell? ⟨w.heap.size, 0, none⟩ = some (.string p.1)) (go_keep) (fail)
  go_wp2_with fail
  have c0 := cell_later (below_drew1 W) c0
  have c1 := cell_later (below_drew1 W) c1
  have c2 := cell_later (below_drew1 W) c2
  have c3 := cell_later (below_drew1 W) c3
  have x0 := cell_later (below_drew1 W) x0
  have x1 := cell_later (below_drew1 W) x1
  have HB := Lib.hid (HB.out.trans ((below_drew1 W).mono HB.out.size))
  have kl := kl.all (below_drew1 W)
  have kr := kr.all (below_drew1 W)
  generalize W.drew = W at *
  go_region_held3 (fun V => V.cell? ⟨b, 0, none⟩ = some (.string q.1) ∧ V.cell? ⟨w.heap.size, 0, none⟩ = some (.string p.1)) (go_keep) (fail)
  go_wp2_with fail
  have c0 := cell_later (below_drew1 W) c0
  have c1 := cell_later (below_drew1 W) c1
  have c2 := cell_later (below_drew1 W) c2
  have c3 := cell_later (below_drew1 W) c3
  have x0 := cell_later (below_drew1 W) x0
  have x1 := cell_later (below_drew1 W) x1
  have HB := Lib.hid (HB.out.trans ((below_drew1 W).mono HB.out.size))
  have kl := kl.all (below_drew1 W)
  have kr := kr.all (below_drew1 W)
  generalize W.drew = W at *
  have HT := Lib.hid (tie_any p (kl.all (below_drew1 W)) (kr.all (below_drew1 W)) hz1)
  clear kl kr hk1 hk2 hk3 hz1
  go_region_held3 (fun V => V.cell? ⟨b, 2, none⟩ = some (.pointer xl) ∧ V.cell? ⟨b, 3, none⟩ = some (.pointer xr) ∧ V.cell? ⟨w.heap.size, 0, none⟩ = some (.string p.1) ∧ V.cell? ⟨w.heap.size, 1, none⟩ = some (.string p.2)) (go_keep)
    (first
      | (go_at_call 103; (with_reducible refine HT.out.mono ?_); rintro e w2 ⟨v2, t2, rfl, rfl, hk2, hb2⟩; have HB2 : Hid (Below W.heap.size W w2) := (below_drew1 W).trans hb2; have d2 := cell_later HB2.out c2; have d3 := cell_later HB2.out c3; have y0 := cell_later HB2.out x0; have y1 := cell_later HB2.out x1; have HK2 := Lib.hid hk2; clear hb2 hk2 HT))
  go_wp2_with fail
  go_ret
  exact ⟨v2, _, rfl, T.put_here BT.out HS.out HK.out, HK2.out, HB.out.trans (HB2.out.mono HB.out.size)⟩

theorem put_any (p : Pr) : ∀ {t : T}, t.Bal → Sorted t.list → t.size ≤ 1073741820 → ∀ (w : World) (x : Option Addr), Knot w w.heap.size t x → Calls Try.prog 88 #[.pointer x, .agg #[.string p.1, .string p.2]] w (Makes w (T.IsPut t p))
  | .nil, _, _, _ => fun w x h => by obtain rfl : x = none := h; exact put_nil_any w p
  | .node l q r, bt, hs, hz => fun w x h => by
    have hs' := T.node_sorted hs
    rcases klt_tri p.1 q.1 with g | g | g
    · exact put_less_any p h bt hs hz g (put_any p bt.1 hs'.1 (by simp only [T.size] at hz; omega))
    · exact put_here_any p h bt hs hz g
    · exact put_more_any p h bt hs hz g (put_any p bt.2.1 hs'.2.1 (by simp only [T.size] at hz; omega))
end Go.Proofs.Ytdfjnpnkfjcpcaa
