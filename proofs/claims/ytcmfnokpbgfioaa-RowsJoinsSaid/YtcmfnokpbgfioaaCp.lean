/-
  The laws' copied: entries in memory of their own.
-/
import Derived.Test.YtcmfnokpbgfioaaOw
namespace Go.Proofs.Ytcmfnokpbgfioaa
set_option linter.unusedVariables false
set_option linter.unusedSimpArgs false
open Go.RowKit

def byL : Lay Int := ⟨fun x => [.int .u8 x], 1, fun _ => rfl, by intro x u hu; simp at hu; subst hu; rfl⟩
theorem byL_all (xs : List Int) : byL.all xs = u8s xs := by
  unfold Lay.all u8s byL
  simp [List.flatMap_singleton']
  induction xs with
  | nil => rfl
  | cons x l ih => simp [ih]
theorem byt_in {w : World} {L : List Nat} {v : Value} {xs : List Int} (h : Byt w L v xs) : byL.In w v xs := by
  obtain ⟨a, c, rfl, h1, h2, h⟩ := h
  refine ⟨a, c, rfl, h1, h2, ?_⟩
  by_cases hx : xs = []
  · exact .inl hx
  · obtain ⟨p, rfl, _, hlt, hr⟩ := h.resolve_left hx
    have h0 := hr.at (List.length_pos_iff.2 hx)
    obtain ⟨b, o, t⟩ := p
    obtain rfl : t = none := by simpa [Addr.add] using World.cell?_spot h0
    refine .inr ⟨b, o, rfl, hlt, fun i x hi j u hu => ?_⟩
    have hj : j = 0 := by
      have := (List.getElem?_eq_some_iff.1 hu).1
      simpa [byL] using this
    subst hj
    simp only [byL, List.getElem?_cons_zero, Option.some.injEq] at hu
    subst hu
    have hlt2 := (List.getElem?_eq_some_iff.1 hi).1
    have := hr.at hlt2
    rw [lay_add] at this
    have e : xs.getD i 0 = x := by rw [List.getD_eq_getElem?_getD, hi]; rfl
    rw [e] at this
    simpa [byL] using this
/-- 'append(l, more...)', l a row of one's own. -/
theorem wpList_catB {P : Program} {α : Type} {I : Lay α} {w : World} {B bytes : Nat} {v u zero : Value} {xs ys : List α} {ops : Array Oper} {rest : List Oper} {o : Oper} {a : Act} {Q : Exit → Act → World → Prop} (hgd : o.guard = none) (s x : Operand) (T E : TypeId)
    (ho : o.op = .call { callee := .builtin .append, args := #[s, x], argTypes := #[T, T] })
    (hT : P.underlying T = some (.slice E)) (hinfo : (P.info? E).map (fun i => (i.zero, i.size, i.bytes)) = some (some zero, I.sz, bytes)) (hz : zero.cells.size = I.sz) (hsz : 0 < I.sz)
    (hown : w.ownsRow B E I.sz v xs.length (I.all xs)) (hu : I.In w u ys) (hl : xs.length + ys.length ≤ 140737488355328) (hlb : (xs.length + ys.length) * bytes ≤ 140737488355328) (hB : B ≤ w.heap.size) (hs : a.eval s = v) (hx : a.eval x = u)
    (hk : ∀ v' w', w'.ownsRow B E I.sz v' (xs ++ ys).length (I.all (xs ++ ys)) → w.grownBy w' v.ownBlock → wpList P ops Q rest (a.put o.dst v') w') : wpList P ops Q (o :: rest) a w := by
  refine wpList_plain hgd fun _ hK => ?_
  obtain ⟨i0, hi, hz0, hz1, hz2⟩ := info_parts hinfo
  have main : ∃ v' w', (Builtin.append_ #[T, T] o.type #[v, u]).run P w = .ok v' w' ∧ w'.ownsRow B E I.sz v' (xs ++ ys).length (I.all (xs ++ ys)) ∧ w.grownBy w' v.ownBlock := by
    obtain ⟨a', c, rfl, hc1, hc2, hu⟩ := hu
    by_cases hy : ys = []
    · subst hy
      refine ⟨v, w, ?_, by rw [List.append_nil]; exact hown, World.grownBy.refl w _⟩
      rcases hown.2 with ⟨rfl, hn⟩ | ⟨g, cap, cur, rfl, _, _, hnc, _⟩
      · cases a' <;> simp [Builtin.append_, run_underlying hT, sizeOf, typeInfo, hi, Builtin.lenOf, Builtin.firstCells, loadCellsFrom, loadCells]
      · cases a' <;> simp [Builtin.append_, run_underlying hT, sizeOf, typeInfo, hi, Builtin.lenOf, Builtin.firstCells, hnc, storeCells, loadCellsFrom, loadCells]
    · obtain ⟨g, off, rfl, _, hp⟩ := hu.resolve_left hy
      obtain ⟨v', w', hr, h2, h3, _, h5⟩ := run_append_own_at (P := P) w B T o.type E i0 zero I.sz bytes hT hi hz0 hz1 hz2 hz hsz v xs.length (I.all xs) hown ⟨g, off, none⟩ ys.length c (I.all ys) (Lay.all_len I ys) (lay_cells hp) (Lay.all_ones I ys) (by unfold maxLen; omega) (Nat.le_trans hlb (by decide)) hB
      exact ⟨v', w', hr, by rw [Lay.all_app, List.length_append]; exact h2, h3⟩
  obtain ⟨v', w', hr, h2, h3⟩ := main
  unfold Oper.wp execOp
  simp only [ho, resolve, invoke, builtin, Sem.run_bind, Sem.run_pure, Result.andThen_ok, List.map_toArray, List.map_cons, List.map_nil, hs, hx, hr]
  exact hK _ _ (hk v' w' h2 h3)
theorem eql_bytes (a : Option Addr) (n c : Nat) (W : World) : (binOp .eql 42 (.slice a n c) (.slice none 0 0)).run Try.prog W = .ok (.bool a.isNone) W := by
  cases a <;> kernel_rfl
set_option maxRecDepth 100000 in
set_option maxHeartbeats 1600000 in
theorem CloneB {w : World} {v : Value} {l : List Int} (h : byL.In w v l) (hl : l.length ≤ 140737488351232) : Calls Try.prog 42 #[v] w fun e w' => ∃ u, e = .returned u ∧ Rw byL 5 w w' u l := by
  obtain ⟨a, c, rfl, _, _⟩ := h.slice
  have H := Lib.hid h
  cases a with
  | none =>
    have hn : l = [] := by
      obtain ⟨a', c', hv, _, _, h'⟩ := h
      rcases h' with e | ⟨g, off, e, _⟩
      · exact e
      · simp only [Value.slice.injEq] at hv
        rw [← hv.1] at e; cases e
    subst hn
    have e1 := fun W => eql_bytes none 0 c W
    clear h H
    go_enter Try.func42, Try.ntmps42
    go_wp2_with fail
    go_ret
    exact ⟨_, rfl, Rw.nil w⟩
  | some a =>
    have e1 := fun W => eql_bytes (some a) l.length c W
    have HB := Lib.hid (lay_alloc w (.cells #[] 5))
    have HI := Lib.hid (h.later HB.out)
    have HOwn : Hid ((w.alloc (.cells #[] 5)).ownsRow w.heap.size 5 byL.sz (.slice (some ⟨w.heap.size, 0, none⟩) 0 0) ([] : List Int).length (byL.all [])) := World.ownsRow_made w #[] 0 (Nat.le_refl _) (by decide) rfl
    have HL : Hid (([] : List Int).length + l.length ≤ 140737488355328) := by show 0 + l.length ≤ _; omega
    have HLb : Hid ((([] : List Int).length + l.length) * 1 ≤ 140737488355328) := by show (0 + l.length) * 1 ≤ _; omega
    clear h H hl
    go_enter Try.func42, Try.ntmps42
    go_wp2_with (at_builtin; refine wpList_catB (I := byL) rfl _ _ 42 5 rfl Try.underlying42 Try.infoU8 rfl (by decide) HOwn.out HI.out HL.out HLb.out HB.out.size rfl rfl ?_; intro v2 w2 hown hgrow; have HO := Lib.hid hown; have HG := Lib.hid hgrow; clear hown hgrow)
    obtain ⟨va, vc, hv⟩ := row_slice1 HO.out
    subst hv
    go_ret
    exact ⟨_, rfl, HO.out, HB.out.trans ⟨HG.out.os, HG.out.tape, HG.out.output, HG.out.size, fun k hk => HG.out.block k (Nat.lt_of_lt_of_le hk HB.out.size) (fun e => by simp [Value.ownBlock] at e; omega)⟩⟩

theorem Clone_bys {w : World} {L : List Nat} {v : Value} {xs : List Int} (h : Byt w L v xs) (hl : xs.length ≤ 140737488351232) : Calls Try.prog 42 #[v] w (Copied xs w) := by
  refine (CloneB (byt_in h) hl).mono ?_
  rintro e w' ⟨u, rfl, hR⟩
  have := hR.own
  rw [byL_all] at this
  exact ⟨u, rfl, this, hR.grown⟩

set_option maxRecDepth 100000 in
set_option maxHeartbeats 3200000 in
theorem copied_any {w : World} {v : Value} {es : List Er} (h : EIn w v es) (hl : es.length ≤ 100000) (hd : ∀ e ∈ es, e.d.length ≤ 140737488351232) : Calls Try.prog 22 #[v] w (OwnP es w) := by
  obtain ⟨ls, h1, hm⟩ := h.mat
  have HC := Lib.hid (CloneN h1 (by rw [hm.len]; omega))
  have HM := Lib.hid hm
  obtain ⟨a, c, rfl, _, _⟩ := h.slice
  have HLd := Lib.hid hd
  clear h h1 hm hd
  go_enter Try.func22, Try.ntmps22
  go_wp2_with fail
  go_fit HC.out
  rintro e w1 ⟨u, rfl, hR⟩
  obtain ⟨a1, c1, rfl, _, _⟩ := hR.slice
  have HR := Lib.hid hR
  have HN : Hid (ls.length = es.length) := HM.out.len
  clear hR HC
  go_wp2_with fail
  by_cases h0 : es.length = 0
  · obtain rfl : es = [] := List.eq_nil_of_length_eq_zero h0
    have hn0 : ls.length = 0 := HN.out
    rw [hn0]
    have HG := Lib.hid HR.out.grown
    have HO : Hid (EInB w1 w.heap.size (.slice a1 ls.length c1) []) := ⟨ls, HR.out.own, hn0, fun k x e hx he => by simp at he⟩
    rw [hn0] at HO
    clear HR HM HLd
    go_loopw [8] (fun j wr => j = .int .i64 0 ∧ wr = w1) (fun _ _ => 0)
    case atStart => exact ⟨rfl, rfl⟩
    case round =>
      obtain ⟨rfl, rfl⟩ := hrel
      go_wp2_with fail
      go_ret
      exact ⟨_, rfl, HO.out, HG.out⟩
  · obtain ⟨g, cc, hv⟩ : ∃ g cc, (Value.slice a1 ls.length c1) = .slice (some ⟨g, 0, none⟩) ls.length cc := by
      rcases HR.out.own.2 with ⟨h', h2⟩ | ⟨g', cap, cur, h', _⟩
      · rw [HN.out] at h2; exact absurd h2 h0
      · exact ⟨g', cap, h'⟩
    simp only [Value.slice.injEq, true_and] at hv
    obtain ⟨rfl, rfl⟩ := hv
    have hge := (HR.out.lt g rfl).1
    have HM1 := Lib.hid (HM.out.newer HR.out.grown hge)
    have HGE := Lib.hid hge
    rw [HN.out] at *
    clear HM hge h0
    go_loopw [3, 8] (fun i j wr => ∃ (k : Nat) (ls' : List En), j = .int .i64 k ∧ k ≤ es.length ∧ Hid (Rw enL 44 w wr (.slice (some ⟨g, 0, none⟩) es.length c1) ls') ∧ Hid (Mat wr [g] ls' es) ∧ Hid (MatN wr w.heap.size g k ls' es)) (fun _ j _ => es.length - (intOf j).toNat)
    case atStart => exact ⟨0, ls, rfl, Nat.zero_le _, HR, HM1, (by show MatN _ _ _ _ _ _; intro k x e hk; omega)⟩
    case round =>
      obtain ⟨k, ls', rfl, hk, hR, hM, hN⟩ := hrel
      by_cases hlt : k < es.length
      · have he : es[k]? = some es[k] := List.getElem?_eq_getElem hlt
        have hln : ls'.length = es.length := hM.out.len
        have hx : ls'[k]? = some ls'[k] := List.getElem?_eq_getElem (by omega)
        have hde := HLd.out es[k] (List.getElem_mem hlt)
        generalize es[k] = e at *
        generalize ls'[k] = x at *
        obtain ⟨h1, h2, h3⟩ := hM.out.each k x e hx he
        obtain ⟨p, n1, c2, hs⟩ : ∃ p n1 c2, x.s = (p, n1, c2) := ⟨_, _, _, rfl⟩
        have hxx : x = ⟨x.i, x.t, (p, n1, c2)⟩ := by rw [← hs]
        have hx2 := hx
        rw [hxx] at hx2
        obtain ⟨g', off, hga, d0, d1, d2⟩ := en_at hR.out.told hx2
        simp only [Option.some.injEq, Addr.mk.injEq, and_true] at hga
        obtain ⟨rfl, rfl⟩ := hga
        simp only [Nat.zero_add] at d2
        have hsv : x.s.v = .slice p n1 c2 := by rw [hs]; rfl
        rw [hsv] at h3
        have HB := Lib.hid (Clone_bys h3 (by omega))
        have hkk : (k : Int) < (es.length : Int) := by omega
        have HX := Lib.hid hx
        have HE := Lib.hid he
        have HDL := Lib.hid hde
        clear h1 h2 h3 hs hxx hx2 d0 d1 hsv hx he hde
        go_wp2_with fail
        go_fit HB.out
        rintro e3 w2 ⟨v2, rfl, ho, hb⟩
        have hR2 := hR.out.below hb
        have hM2 := hM.out.below hb
        have hby := Copied.byt (L := [g]) ho (fun j hj => by simp at hj; have := (hR.out.lt g rfl).2; omega)
        have hbz := row_keep (B' := w.heap.size) ho hR.out.grown.size (fun _ _ _ => rfl)
        have hbg := hR.out.lt g rfl
        obtain ⟨p2, c3, rfl, _, _⟩ := hby.slice
        have HR3 := Lib.hid (hR2.stored (n := es.length) hln.symm HX.out (p2, e.d.length, c3))
        have HM3 := Lib.hid (hM2.stored (o := k * 3 + 2) (s := (p2, e.d.length, c3)) HX.out HE.out hby)
        have HN3 := Lib.hid ((hN.out.below hb).stored (o := k * 3 + 2) (s := (p2, e.d.length, c3)) HX.out HE.out hbz (fun h => by have h1 := ho.lt g h; have h2 := hbg.2; omega))
        have hown := hR2.own
        rw [hln] at hown
        have q0 : w2.cell? ⟨g, k * 3 + 2, none⟩ = some (.slice p n1 c2) := (lay_later hb d2)
        have q1 := hown.frozenAt (k * 3 + 2)
        clear hR2 hM2 hby hbz hbg ho hb hown HB d2 hR hM hN
        go_wp2_with fail
        exact ⟨⟨k + 1, _, by go_num, hlt, HR3, HM3, HN3⟩, by show es.length - ((k : Int) + 1).toNat < es.length - (k : Int).toNat; omega⟩
      · obtain rfl : k = es.length := by omega
        have HG := Lib.hid hR.out.grown
        have HO : Hid (EInB wr w.heap.size (.slice (some ⟨g, 0, none⟩) es.length c1) es) := by
          exact ⟨ls', (by rw [hM.out.len]; have h0 := hR.out.own; rw [hM.out.len] at h0; exact h0), hM.out.len, fun k x e hx he => ⟨(hM.out.each k x e hx he).1, (hM.out.each k x e hx he).2.1, (hN.out k x e (List.getElem?_eq_some_iff.1 he).1 hx he).1⟩⟩
        clear hR hM hN
        go_wp2_with fail
        go_ret
        exact ⟨_, rfl, HO.out, HG.out⟩
end Go.Proofs.Ytcmfnokpbgfioaa
