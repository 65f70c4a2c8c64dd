/-
  Walks: a pair between two sides of any depth; two sides without a pair between. (Written by gentree3.py.)
-/
import Derived.Test.YtdfjnpnkfjcpcaaTB2
namespace Go.Proofs.Ytdfjnpnkfjcpcaa
set_option linter.unusedVariables false
set_option linter.unusedSimpArgs false
open Go.RowKit

theorem level_any {w : World} {l r : T} {x y : Option Addr} (p : Pr) (hl : Knot w w.heap.size l x) (hr : Knot w w.heap.size r y) (hs : l.size + r.size ≤ 1073741823) (bl : l.Bal) (br : r.Bal) (h1 : l.deep ≤ r.deep + 2) (h2 : r.deep ≤ l.deep + 2) :
    Calls Try.prog 104 #[.pointer x, .agg #[.string p.1, .string p.2], .pointer y] w (Makes w (T.Joined l p r)) := by
  by_cases g1 : r.deep + 1 < l.deep
  · cases l with
    | nil => simp [T.deep] at g1
    | node a q b =>
      have e1 : (T.node a q b).deep = r.deep + 2 := by omega
      by_cases g2 : a.deep < b.deep
      · cases b with
        | nil => simp [T.deep] at g2
        | node b m c => exact (level_lr p hl hr hs (by omega) (by omega)).mono fun e w' => Makes.mono fun t ht => ht ▸ T.joined_lr bl br e1 g2
      · exact (level_ll (m := p) p hl hr hs (by omega) (by omega)).mono fun e w' => Makes.mono fun t ht => ht ▸ T.joined_ll bl br e1 (by omega)
  · by_cases g3 : l.deep + 1 < r.deep
    · cases r with
      | nil => simp [T.deep] at g3
      | node b q a =>
        have e1 : (T.node b q a).deep = l.deep + 2 := by omega
        by_cases g2 : a.deep < b.deep
        · cases b with
          | nil => simp [T.deep] at g2
          | node b m c => exact (level_rl p hl hr hs (by omega) (by omega) (by omega)).mono fun e w' => Makes.mono fun t ht => ht ▸ T.joined_rl bl br e1 g2
        · exact (level_rr (m := p) p hl hr hs (by omega) (by omega) (by omega)).mono fun e w' => Makes.mono fun t ht => ht ▸ T.joined_rr bl br e1 (by omega)
    · exact (level_tie (q := p) (m := p) p hl hr hs (by omega) (by omega)).mono fun e w' => Makes.mono fun t ht => ht ▸ T.joined_tie bl br (by omega) (by omega)


set_option maxRecDepth 100000 in
set_option maxHeartbeats 3200000 in
theorem join_left {w : World} {a b r : T} {q : Pr} {x y : Option Addr} (p : Pr) (hl : Knot w w.heap.size (T.node a q b) x) (hr : Knot w w.heap.size (r) y) (hs : (T.node a q b).size + (r).size ≤ 1073741822) (bl : (T.node a q b).Bal) (br : (r).Bal)
    (h1 : r.deep + 1 < (T.node a q b).deep) (IH : ∀ (w : World) (x y : Option Addr), Knot w w.heap.size b x → Knot w w.heap.size r y → Calls Try.prog 105 #[.pointer x, .agg #[.string p.1, .string p.2], .pointer y] w (Makes w (T.Joined b p r))) :
    Calls Try.prog 105 #[.pointer x, .agg #[.string p.1, .string p.2], .pointer y] w (Makes w (T.Joined (T.node a q b) p (r))) := by
  have HB := Lib.hid (below_alloc w (Obj.cells #[Value.string p.fst, Value.string p.snd] 87))
  have hp0 : (w.alloc (Obj.cells #[Value.string p.fst, Value.string p.snd] 87)).cell? ⟨w.heap.size, 0, none⟩ = some (.string p.1) := by rw [World.cell?_alloc_at _ _ _ _ rfl]; rfl
  have hp1 : (w.alloc (Obj.cells #[Value.string p.fst, Value.string p.snd] 87)).cell? ⟨w.heap.size, 1, none⟩ = some (.string p.2) := by rw [World.cell?_alloc_at _ _ _ _ rfl]; rfl
  have hl := hl.all HB.out
  have hr := hr.all HB.out
  have hdr := (r).deep_size
  have e1 : IntKind.i64.wrap (((r).deep : Nat) + 1) = (((r).deep : Nat) : Int) + 1 := IntWalk.i64_in _ (by omega)
  clear hdr
  have i1 : ((r.deep : Nat) : Int) + 1 < ((T.node a q b).deep : Nat) := by omega
  have HG := Lib.hid h1
  have IH := Lib.hid IH
  have BL := Lib.hid bl
  go_enter Try.func105, Try.ntmps105
  go_wp2_with fail
  generalize w.alloc (Obj.cells #[Value.string p.fst, Value.string p.snd] 87) = W at *
  have Hl := Lib.hid hl
  have Hr := Lib.hid hr
  obtain ⟨bx, xa, xb, rfl, hbx, a0, a1, a2, a3, a4, a5, kxa, kxb⟩ := hl
  have Ka := Lib.hid kxa
  have Kb := Lib.hid kxb
  clear kxa kxb a4 a5 hr bl br
  go_fit (deep_any Hl.out)
  rintro e w' ⟨rfl, rfl⟩
  go_wp2_with fail
  go_fit (deep_any Hr.out)
  rintro e w' ⟨rfl, rfl⟩
  go_wp2_with fail
  have c0_0 := a0
  have c0_1 := a1
  have c0_2 := a2
  have c0_3 := a3
  have c0_4 := hp0
  have c0_5 := hp1
  have hb0 := below_drew1 W
  have Hsz := Lib.hid hs
  have HT1 := Lib.hid (IH.out _ _ _ (Kb.out.all hb0) (Hr.out.all hb0))
  clear h1 i1 e1 Hl hs
  go_region_held3 (fun V => V.cell? ⟨bx, 0, none⟩ = some (.string q.1) ∧ V.cell? ⟨bx, 1, none⟩ = some (.string q.2) ∧ V.cell? ⟨bx, 2, none⟩ = some (.pointer xa) ∧ V.cell? ⟨bx, 3, none⟩ = some (.pointer xb) ∧ V.cell? ⟨w.heap.size, 0, none⟩ = some (.string p.1) ∧ V.cell? ⟨w.heap.size, 1, none⟩ = some (.string p.2)) (go_keep)
    (first
      | (go_at_call 105; (with_reducible refine HT1.out.mono ?_); rintro e w1 ⟨v1, t1, rfl, hJ1, hk1, hb1⟩; have HB1 : Hid (Below W.heap.size W w1) := hb0.trans hb1; have c1_0 := cell_later HB1.out c0_0; have c1_1 := cell_later HB1.out c0_1; have c1_2 := cell_later HB1.out c0_2; have c1_3 := cell_later HB1.out c0_3; have c1_4 := cell_later HB1.out c0_4; have c1_5 := cell_later HB1.out c0_5; have HJ1 := Lib.hid hJ1; have HT2 := Lib.hid (level_any q (Ka.out.all HB1.out) hk1 (by rw [hJ1.size]; have := Hsz.out; simp only [T.size] at this; omega) BL.out.1 hJ1.bal (T.joined_left_ok BL.out HG.out hJ1).1 (T.joined_left_ok BL.out HG.out hJ1).2); clear hb1 hk1 hJ1 HT1)
      | (go_at_call 104; (with_reducible refine HT2.out.mono ?_); rintro e w2 ⟨v2, t2, rfl, hJ2, hk2, hb2⟩; have HB2 := Lib.hid (HB1.out.trans (hb2.mono HB1.out.size)); have c2_0 := cell_later HB2.out c0_0; have c2_1 := cell_later HB2.out c0_1; have c2_2 := cell_later HB2.out c0_2; have c2_3 := cell_later HB2.out c0_3; have c2_4 := cell_later HB2.out c0_4; have c2_5 := cell_later HB2.out c0_5; have HJ2 := Lib.hid hJ2; have HK2 := Lib.hid hk2; clear hb2 hk2 hJ2 HT2))
  go_wp2_with fail
  go_ret
  exact ⟨_, _, rfl, T.joined_left BL.out HG.out HJ1.out HJ2.out, HK2.out, HB.out.trans (HB2.out.mono HB.out.size)⟩

set_option maxRecDepth 100000 in
set_option maxHeartbeats 3200000 in
theorem join_right {w : World} {a b l : T} {q : Pr} {x y : Option Addr} (p : Pr) (hl : Knot w w.heap.size (l) x) (hr : Knot w w.heap.size (T.node b q a) y) (hs : (l).size + (T.node b q a).size ≤ 1073741822) (bl : (l).Bal) (br : (T.node b q a).Bal)
    (h1' : l.deep ≤ (T.node b q a).deep + 1) (h1 : l.deep + 1 < (T.node b q a).deep) (IH : ∀ (w : World) (x y : Option Addr), Knot w w.heap.size l x → Knot w w.heap.size b y → Calls Try.prog 105 #[.pointer x, .agg #[.string p.1, .string p.2], .pointer y] w (Makes w (T.Joined l p b))) :
    Calls Try.prog 105 #[.pointer x, .agg #[.string p.1, .string p.2], .pointer y] w (Makes w (T.Joined (l) p (T.node b q a))) := by
  have HB := Lib.hid (below_alloc w (Obj.cells #[Value.string p.fst, Value.string p.snd] 87))
  have hp0 : (w.alloc (Obj.cells #[Value.string p.fst, Value.string p.snd] 87)).cell? ⟨w.heap.size, 0, none⟩ = some (.string p.1) := by rw [World.cell?_alloc_at _ _ _ _ rfl]; rfl
  have hp1 : (w.alloc (Obj.cells #[Value.string p.fst, Value.string p.snd] 87)).cell? ⟨w.heap.size, 1, none⟩ = some (.string p.2) := by rw [World.cell?_alloc_at _ _ _ _ rfl]; rfl
  have hl := hl.all HB.out
  have hr := hr.all HB.out
  have hdr := (l).deep_size
  have e1 : IntKind.i64.wrap (((l).deep : Nat) + 1) = (((l).deep : Nat) : Int) + 1 := IntWalk.i64_in _ (by omega)
  clear hdr
  have hdr := (T.node b q a).deep_size
  have e2 : IntKind.i64.wrap (((T.node b q a).deep : Nat) + 1) = (((T.node b q a).deep : Nat) : Int) + 1 := IntWalk.i64_in _ (by omega)
  clear hdr
  have i1 : ((l.deep : Nat) : Int) + 1 < ((T.node b q a).deep : Nat) := by omega
  have i2 : ((l.deep : Nat) : Int) ≤ ((T.node b q a).deep : Nat) + 1 := by omega
  have HG := Lib.hid h1
  have IH := Lib.hid IH
  have BR := Lib.hid br
  go_enter Try.func105, Try.ntmps105
  go_wp2_with fail
  generalize w.alloc (Obj.cells #[Value.string p.fst, Value.string p.snd] 87) = W at *
  have Hl := Lib.hid hl
  have Hr := Lib.hid hr
  obtain ⟨bx, xb, xa, rfl, hbx, a0, a1, a2, a3, a4, a5, kxb, kxa⟩ := hr
  have Ka := Lib.hid kxa
  have Kb := Lib.hid kxb
  clear kxa kxb a4 a5 hl bl br
  go_fit (deep_any Hl.out)
  rintro e w' ⟨rfl, rfl⟩
  go_wp2_with fail
  go_fit (deep_any Hr.out)
  rintro e w' ⟨rfl, rfl⟩
  go_wp2_with fail
  go_fit (deep_any Hr.out)
  rintro e w' ⟨rfl, rfl⟩
  go_wp2_with fail
  go_fit (deep_any Hl.out)
  rintro e w' ⟨rfl, rfl⟩
  go_wp2_with fail
  have c0_0 := a0
  have c0_1 := a1
  have c0_2 := a2
  have c0_3 := a3
  have c0_4 := hp0
  have c0_5 := hp1
  have hb0 := below_drew1 W
  have Hsz := Lib.hid hs
  have HT1 := Lib.hid (IH.out _ _ _ (Hl.out.all hb0) (Kb.out.all hb0))
  clear h1 h1' i1 i2 e1 e2 Hr hs
  go_region_held3 (fun V => V.cell? ⟨bx, 0, none⟩ = some (.string q.1) ∧ V.cell? ⟨bx, 1, none⟩ = some (.string q.2) ∧ V.cell? ⟨bx, 2, none⟩ = some (.pointer xb) ∧ V.cell? ⟨bx, 3, none⟩ = some (.pointer xa) ∧ V.cell? ⟨w.heap.size, 0, none⟩ = some (.string p.1) ∧ V.cell? ⟨w.heap.size, 1, none⟩ = some (.string p.2)) (go_keep)
    (first
      | (go_at_call 105; (with_reducible refine HT1.out.mono ?_); rintro e w1 ⟨v1, t1, rfl, hJ1, hk1, hb1⟩; have HB1 : Hid (Below W.heap.size W w1) := hb0.trans hb1; have c1_0 := cell_later HB1.out c0_0; have c1_1 := cell_later HB1.out c0_1; have c1_2 := cell_later HB1.out c0_2; have c1_3 := cell_later HB1.out c0_3; have c1_4 := cell_later HB1.out c0_4; have c1_5 := cell_later HB1.out c0_5; have HJ1 := Lib.hid hJ1; have HT2 := Lib.hid (level_any q hk1 (Ka.out.all HB1.out) (by rw [hJ1.size]; have := Hsz.out; simp only [T.size] at this; omega) hJ1.bal BR.out.2.1 (T.joined_right_ok BR.out HG.out hJ1).2 (T.joined_right_ok BR.out HG.out hJ1).1); clear hb1 hk1 hJ1 HT1)
      | (go_at_call 104; (with_reducible refine HT2.out.mono ?_); rintro e w2 ⟨v2, t2, rfl, hJ2, hk2, hb2⟩; have HB2 := Lib.hid (HB1.out.trans (hb2.mono HB1.out.size)); have c2_0 := cell_later HB2.out c0_0; have c2_1 := cell_later HB2.out c0_1; have c2_2 := cell_later HB2.out c0_2; have c2_3 := cell_later HB2.out c0_3; have c2_4 := cell_later HB2.out c0_4; have c2_5 := cell_later HB2.out c0_5; have HJ2 := Lib.hid hJ2; have HK2 := Lib.hid hk2; clear hb2 hk2 hJ2 HT2))
  go_wp2_with fail
  go_ret
  exact ⟨_, _, rfl, T.joined_right BR.out HG.out HJ1.out HJ2.out, HK2.out, HB.out.trans (HB2.out.mono HB.out.size)⟩

set_option maxRecDepth 100000 in
set_option maxHeartbeats 3200000 in
theorem join_tie {w : World} {l r : T} {q : Pr} {x y : Option Addr} (p : Pr) (hl : Knot w w.heap.size (l) x) (hr : Knot w w.heap.size (r) y) (hs : (l).size + (r).size ≤ 1073741822) (bl : (l).Bal) (br : (r).Bal)
    (h0 : l.deep ≤ r.deep + 1) (h1 : r.deep ≤ l.deep + 1) :
    Calls Try.prog 105 #[.pointer x, .agg #[.string p.1, .string p.2], .pointer y] w (Makes w (T.Joined (l) p (r))) := by
  have HB := Lib.hid (below_alloc w (Obj.cells #[Value.string p.fst, Value.string p.snd] 87))
  have hp0 : (w.alloc (Obj.cells #[Value.string p.fst, Value.string p.snd] 87)).cell? ⟨w.heap.size, 0, none⟩ = some (.string p.1) := by rw [World.cell?_alloc_at _ _ _ _ rfl]; rfl
  have hp1 : (w.alloc (Obj.cells #[Value.string p.fst, Value.string p.snd] 87)).cell? ⟨w.heap.size, 1, none⟩ = some (.string p.2) := by rw [World.cell?_alloc_at _ _ _ _ rfl]; rfl
  have hl := hl.all HB.out
  have hr := hr.all HB.out
  have hdr := (l).deep_size
  have e1 : IntKind.i64.wrap (((l).deep : Nat) + 1) = (((l).deep : Nat) : Int) + 1 := IntWalk.i64_in _ (by omega)
  clear hdr
  have hdr := (r).deep_size
  have e2 : IntKind.i64.wrap (((r).deep : Nat) + 1) = (((r).deep : Nat) : Int) + 1 := IntWalk.i64_in _ (by omega)
  clear hdr
  have i0 : ((l.deep : Nat) : Int) ≤ ((r.deep : Nat) : Int) + 1 := by omega
  have i1 : ((r.deep : Nat) : Int) ≤ ((l.deep : Nat) : Int) + 1 := by omega
  go_enter Try.func105, Try.ntmps105
  go_wp2_with fail
  generalize w.alloc (Obj.cells #[Value.string p.fst, Value.string p.snd] 87) = W at *
  have Hl := Lib.hid hl
  have Hr := Lib.hid hr
  clear hl hr
  go_fit (deep_any Hl.out)
  rintro e w' ⟨rfl, rfl⟩
  go_wp2_with fail
  go_fit (deep_any Hr.out)
  rintro e w' ⟨rfl, rfl⟩
  go_wp2_with fail
  go_fit (deep_any Hr.out)
  rintro e w' ⟨rfl, rfl⟩
  go_wp2_with fail
  go_fit (deep_any Hl.out)
  rintro e w' ⟨rfl, rfl⟩
  go_wp2_with fail
  have hz1 : l.size + r.size ≤ 1073741824 := by omega
  have HT := Lib.hid (tie_any p (Hl.out.all (below_drew1 W)) (Hr.out.all (below_drew1 W)) hz1)
  have HT' := Lib.hid (tie_any p Hl.out Hr.out hz1)
  have H0 := Lib.hid h0
  have H1 := Lib.hid h1
  have BL := Lib.hid bl
  have BR := Lib.hid br
  clear Hl Hr e1 e2 h0 h1 i0 i1 hs hz1 bl br
  first
    | go_fit HT'.out
    | (go_region_with (go_at_call 103; (with_reducible refine HT.out.mono ?_)))
  rintro e w1 ⟨v1, t1, rfl, rfl, hk1, hb1⟩
  have HE : Hid (Makes w (T.Joined l p r) (.returned (.pointer v1)) w1) := ⟨_, _, rfl, T.joined_tie BL.out BR.out H0.out H1.out, hk1, HB.out.trans (hb1.mono HB.out.size)⟩
  clear hk1 hb1
  go_wp2_with fail
  go_ret
  exact HE.out

theorem join_upto (p : Pr) : ∀ (n : Nat) {w : World} {l r : T} {x y : Option Addr}, l.size + r.size ≤ n → n ≤ 1073741822 → Knot w w.heap.size l x → Knot w w.heap.size r y → l.Bal → r.Bal →
    Calls Try.prog 105 #[.pointer x, .agg #[.string p.1, .string p.2], .pointer y] w (Makes w (T.Joined l p r)) := by
  intro n
  induction n with
  | zero =>
    intro w l r x y hn hm hl hr bl br
    have h1 := l.deep_size
    have h2 := r.deep_size
    exact join_tie (q := p) p hl hr (by omega) bl br (by omega) (by omega)
  | succ n ih =>
    intro w l r x y hn hm hl hr bl br
    by_cases g1 : r.deep + 1 < l.deep
    · cases l with
      | nil => simp [T.deep] at g1
      | node a q b => exact join_left p hl hr (by omega) bl br g1 fun w x y h h' => ih (by simp only [T.size] at hn; omega) (by omega) h h' bl.2.1 br
    · by_cases g3 : l.deep + 1 < r.deep
      · cases r with
        | nil => simp [T.deep] at g3
        | node b q a => exact join_right p hl hr (by omega) bl br (by omega) g3 fun w x y h h' => ih (by simp only [T.size] at hn; omega) (by omega) h h' bl br.1
      · exact join_tie (q := p) p hl hr (by omega) bl br (by omega) (by omega)

theorem join_any (p : Pr) {w : World} {l r : T} {x y : Option Addr} (hl : Knot w w.heap.size l x) (hr : Knot w w.heap.size r y) (bl : l.Bal) (br : r.Bal) (hs : l.size + r.size ≤ 1073741822) :
    Calls Try.prog 105 #[.pointer x, .agg #[.string p.1, .string p.2], .pointer y] w (Makes w (T.Joined l p r)) := join_upto p _ (Nat.le_refl _) hs hl hr bl br

end Go.Proofs.Ytdfjnpnkfjcpcaa
