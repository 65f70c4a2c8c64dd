/-
  DigestAlike walked.
-/
import Derived.Test.YtcbgnmolfdhnfaaRootsW
import Derived.Test.YtcbgnmolfdhnfaaU0
namespace Go.Proofs.Ytcbgnmolfdhnfaa
set_option linter.unusedVariables false
set_option linter.unusedSimpArgs false
open Go.RowKit Go.Joins

theorem step_catI {P : Program} {α : Type} {I : Lay α} {w : World} {B bytes : Nat} {v u zero : Value} {xs ys : List α} {ops : Array Oper} {o : Oper} {a : Act} {K : Act → World → Prop} {Q : Exit → Act → World → Prop} {E' : Prop} (hgd : o.guard = none) (s x : Operand) (T E : TypeId)
    (ho : o.op = .call { callee := .builtin .append, args := #[s, x], argTypes := #[T, T] })
    (hT : P.underlying T = some (.slice E)) (hinfo : (P.info? E).map (fun i => (i.zero, i.size, i.bytes)) = some (some zero, I.sz, bytes)) (hz : zero.cells.size = I.sz) (hsz : 0 < I.sz) (hb : bytes ≤ 65536)
    (hown : w.ownsRow B E I.sz v xs.length (I.all xs)) (hu : I.In w u ys) (hl : xs.length + ys.length ≤ 1073741825) (hB : B ≤ w.heap.size) (hs : a.eval s = v) (hx : a.eval x = u)
    (hk : ∀ v' w', w'.ownsRow B E I.sz v' (xs ++ ys).length (I.all (xs ++ ys)) → w.grownBy w' v.ownBlock → K (a.put o.dst v') w') : if Region.wanted o (yielded ops a.tmps) = true then Oper.wp P o a w K Q else E' := by
  have hw : Region.wanted o (yielded ops a.tmps) = true := by simp [Region.wanted, hgd]
  rw [if_pos hw]
  obtain ⟨i0, hi, hz0, hz1, hz2⟩ := info_parts hinfo
  have main : ∃ v' w', (Builtin.append_ #[T, T] o.type #[v, u]).run P w = .ok v' w' ∧ w'.ownsRow B E I.sz v' (xs ++ ys).length (I.all (xs ++ ys)) ∧ w.grownBy w' v.ownBlock := by
    obtain ⟨a', c, rfl, hc1, hc2, hu⟩ := hu
    by_cases hy : ys = []
    · subst hy
      refine ⟨v, w, ?_, by rw [List.append_nil]; exact hown, World.grownBy.refl w _⟩
      rcases hown.2 with ⟨rfl, hn⟩ | ⟨g, cap, cur, rfl, _, _, hnc, _⟩
      · cases a' <;> simp [Builtin.append_, run_underlying hT, sizeOf, typeInfo, hi, Builtin.lenOf, Builtin.firstCells, loadCellsFrom, loadCells]
      · cases a' <;> simp [Builtin.append_, run_underlying hT, sizeOf, typeInfo, hi, Builtin.lenOf, Builtin.firstCells, hnc, storeCells, loadCellsFrom, loadCells]
    · obtain ⟨g, off, rfl, _, hp⟩ := hu.resolve_left hy
      obtain ⟨v', w', hr, h2, h3, _, h5⟩ := run_append_own_at (P := P) w B T o.type E i0 zero I.sz bytes hT hi hz0 hz1 hz2 hz hsz v xs.length (I.all xs) hown ⟨g, off, none⟩ ys.length c (I.all ys) (Lay.all_len I ys) (lay_cells hp) (Lay.all_ones I ys) (by unfold maxLen; omega) (Nat.le_trans (Nat.mul_le_mul hl hb) (by decide)) hB
      exact ⟨v', w', hr, by rw [Lay.all_app, List.length_append]; exact h2, h3⟩
  obtain ⟨v', w', hr, h2, h3⟩ := main
  unfold Oper.wp execOp
  simp only [ho, resolve, invoke, builtin, Sem.run_bind, Sem.run_pure, Result.andThen_ok, List.map_toArray, List.map_cons, List.map_nil, hs, hx, hr]
  exact hk _ _ h2 h3
theorem eql_list (a : Option Addr) (n c : Nat) (W : World) : (binOp .eql 45 (.slice a n c) (.slice none 0 0)).run Try.prog W = .ok (.bool a.isNone) W := by
  cases a <;> kernel_rfl
set_option maxRecDepth 100000 in
set_option maxHeartbeats 1600000 in
theorem CloneL {w : World} {v : Value} {l : List Pr} (h : prL.In w v l) (hl : l.length ≤ 1000000) : Calls Try.prog 30 #[v] w fun e w' => ∃ u, e = .returned u ∧ Rw prL 27 w w' u l := by
  obtain ⟨a, c, rfl, _, _⟩ := h.slice
  have H := Lib.hid h
  cases a with
  | none =>
    have hn : l = [] := by
      obtain ⟨a', c', hv, _, _, h'⟩ := h
      rcases h' with e | ⟨g, off, e, _⟩
      · exact e
      · simp only [Value.slice.injEq] at hv
        rw [← hv.1] at e; cases e
    subst hn
    have e1 := fun W => eql_list none 0 c W
    clear h H
    go_enter Try.func30, Try.ntmps30
    go_wp2_with fail
    go_ret
    exact ⟨_, rfl, Rw.nil w⟩
  | some a =>
    have e1 := fun W => eql_list (some a) l.length c W
    have HB := Lib.hid (lay_alloc w (.cells #[] 27))
    have HI := Lib.hid (h.later HB.out)
    have HOwn : Hid ((w.alloc (.cells #[] 27)).ownsRow w.heap.size 27 prL.sz (.slice (some ⟨w.heap.size, 0, none⟩) 0 0) ([] : List Pr).length (prL.all [])) := World.ownsRow_made w #[] 0 (Nat.le_refl _) (by decide) rfl
    have HL : Hid (([] : List Pr).length + l.length ≤ 1073741825) := by show 0 + l.length ≤ _; omega
    clear h H hl
    go_enter Try.func30, Try.ntmps30
    go_wp2_with (at_builtin; refine wpList_catI (I := prL) rfl _ _ 45 27 rfl Try.underlying45 Try.infoPair rfl (by decide) (by decide) HOwn.out HI.out HL.out HB.out.size rfl rfl ?_; intro v2 w2 hown hgrow; have HO := Lib.hid hown; have HG := Lib.hid hgrow; clear hown hgrow)
    obtain ⟨va, vc, hv⟩ := row_slice5 HO.out
    subst hv
    go_ret
    exact ⟨_, rfl, HO.out, HB.out.trans ⟨HG.out.os, HG.out.tape, HG.out.output, HG.out.size, fun k hk => HG.out.block k (Nat.lt_of_lt_of_le hk HB.out.size) (fun e => by simp [Value.ownBlock] at e; omega)⟩⟩


theorem turn_in (t : Int) (n : Nat) (hn : 0 < n) (hb : n ≤ 1000000) : ∃ q : Nat, wrap64 ((IntKind.u64.wrap t).tmod (n : Int)) = (q : Int) ∧ q < n := by
  have h0 : 0 ≤ IntKind.u64.wrap t := by unfold IntKind.wrap; simp only [IntKind.bits, IntKind.signed]; simp; omega
  generalize IntKind.u64.wrap t = x at *
  have h1 : x.tmod (n : Int) = x % (n : Int) := Int.tmod_eq_emod_of_nonneg h0
  have h2 := Int.emod_nonneg x (show (n : Int) ≠ 0 by omega)
  have h3 := Int.emod_lt_of_pos x (show (0 : Int) < (n : Int) by omega)
  rw [h1]
  refine ⟨(x % (n : Int)).toNat, ?_, by omega⟩
  rw [IntWalk.wrap64_in _ (by omega)]
  omega
/-- Two lists of the same pairs, each key once: one map. -/
theorem lv_mem {X : List Pr} (hd : X.Pairwise fun p q => p.1 ≠ q.1) (k v : ByteArray) : lv X k = some v ↔ (k, v) ∈ X := by
  unfold lv
  constructor
  · intro h
    obtain ⟨q, hq, hv⟩ := Option.map_eq_some_iff.1 h
    have hm := List.mem_filter.1 (List.mem_of_getLast? hq)
    have hk : q.1 = k := by simpa using hm.2
    rw [← hk, ← hv]; exact hm.1
  · intro h
    have hf : X.filter (fun p => decide (p.1 = k)) = [(k, v)] := by
      revert hd h
      induction X with
      | nil => intro _ h; cases h
      | cons p X ih =>
        intro hd h
        have hp := List.pairwise_cons.1 hd
        rcases List.mem_cons.1 h with rfl | h
        · rw [List.filter_cons_of_pos (by simp)]
          congr 1
          refine List.filter_eq_nil_iff.2 fun q hq => ?_
          have := hp.1 q hq
          simp only [decide_eq_true_eq]
          exact fun e => this e.symm
        · rw [List.filter_cons_of_neg (by simp only [decide_eq_true_eq]; exact hp.1 _ h)]
          exact ih hp.2 h
    rw [hf]; rfl
theorem keys_pair {R : List Pr} (h : Sorted R) : R.Pairwise fun p q => p.1 ≠ q.1 := List.Pairwise.imp (fun h => klt_ne h) (sorted_pair h)
theorem un_turn {R : List Pr} (h : Sorted R) (d : Nat) : un [] (R.drop d ++ R.take d) = R := by
  refine sorted_ext (un_sorted _ trivial) h fun k => ?_
  rw [un_lv]
  have hp : (R.drop d ++ R.take d).Perm R := by
    have := List.perm_append_comm (l₁ := R.drop d) (l₂ := R.take d)
    rwa [List.take_append_drop] at this
  have hd : (R.drop d ++ R.take d).Pairwise fun p q => p.1 ≠ q.1 := (hp.pairwise_iff (fun {a b} e => Ne.symm e)).2 (keys_pair h)
  cases e : look R k with
  | some v => exact (lv_mem hd k v).2 (hp.mem_iff.2 (look_some e))
  | none =>
    cases e2 : lv (R.drop d ++ R.take d) k with
    | none => rfl
    | some v =>
      have := look_mem h (hp.mem_iff.1 ((lv_mem hd k v).1 e2))
      rw [e] at this; cases this
theorem talk_one (W : World) : (binOp .eql 51 (.agg #[.int .i64 1, .int .i64 0]) (.agg #[.int .i64 1, .int .i64 0])).run Try.prog W = .ok (.bool true) W := by kernel_rfl
theorem lists_two {W : World} {u v : Value} {l m : List Pr} (h : prL.In W u l) (h2 : prL.In W v m) : LsIn (W.alloc (.cells #[u, v] 29)) (.slice (some ⟨W.heap.size, 0, none⟩) 2 2) [l, m] := by
  refine ⟨_, 2, rfl, .inr ⟨W.heap.size, 0, rfl, fun i x hl => ?_⟩⟩
  rcases i with _ | _ | i
  · cases hl
    exact ⟨u, by go_simp, h.later (below_alloc _ _)⟩
  · cases hl
    exact ⟨v, by go_simp, h2.later (below_alloc _ _)⟩
  · simp at hl
/-- A list from a place on. -/
theorem in_drop {W : World} {g off n c : Nat} {l : List Pr} (h : prL.In W (.slice (some ⟨g, off, none⟩) n c) l) (d : Nat) (hd : d ≤ n) : prL.In W (.slice (if c = d then some ⟨g, off, none⟩ else some ⟨g, off + d * 2, none⟩) (n - d) (c - d)) (l.drop d) := by
  obtain ⟨a', c', hv, h1, h2, h⟩ := h
  simp only [Value.slice.injEq] at hv
  obtain ⟨rfl, rfl, rfl⟩ := hv
  refine ⟨_, c - d, by rw [List.length_drop], by rw [List.length_drop]; omega, by omega, ?_⟩
  by_cases hc : c = d
  · left
    exact List.drop_eq_nil_of_le (by omega)
  · rw [if_neg hc]
    rcases h with rfl | ⟨g', off', e, hg, hat⟩
    · left; simp
    · simp only [Option.some.injEq, Addr.mk.injEq] at e
      obtain ⟨rfl, rfl, _⟩ := e
      refine .inr ⟨g, off + d * 2, rfl, hg, fun i x hx j v hv => ?_⟩
      rw [List.getElem?_drop] at hx
      have := hat (d + i) x hx j v hv
      have e2 : prL.sz = 2 := rfl
      rw [e2] at this ⊢
      rw [← this]; congr 2; omega

theorem in_row {w : World} {B n : Nat} {v : Value} {l : List Pr} (h : w.ownsRow B 27 2 v n (prL.all l)) (hn : l.length = n) : prL.In w v l := Lay.in_own h hn.symm
theorem below_grow {w0 w w' : World} {v : Value} {l : List Pr} (h : Rw prL 27 w0 w v l) (hg : w.grownBy w' v.ownBlock) : Below w0.heap.size w0 w' :=
  h.grown.trans ⟨hg.os, hg.tape, hg.output, hg.size, fun k hk => hg.block k (Nat.lt_of_lt_of_le hk h.grown.size) fun e => by have := (h.lt k e.symm).1; omega⟩
def AlikeE (w : World) (e : Ending) (w' : World) : Prop := e = .returned (.bool true) ∧ Below w.heap.size w w'
set_option maxRecDepth 100000 in
set_option maxHeartbeats 6400000 in
theorem Alike_any {s : Sd} {w : World} {v : Value} {l : List Pr} {x : Int} (hs : s.Ok) (h : prL.In w v l) (hz : ∀ p ∈ l, PrSz p) (hx : -9223372036854775808 ≤ x ∧ x ≤ 9223372036854775807) :
    Calls Try.prog 6 #[.agg #[.int .u64 s.a, .int .u64 s.b], v, .int .i64 x] w (AlikeE w) := by
  have HI0 := Lib.hid h
  obtain ⟨a0, c0, rfl, _, _⟩ := h.slice
  have HS := Lib.hid hs
  have HZ := Lib.hid hz
  obtain ⟨n, hn⟩ : ∃ n, n = l.length := ⟨_, rfl⟩
  rw [← hn] at HI0 ⊢
  have HN := Lib.hid hn
  clear h hs hz hn
  go_enter Try.func6, Try.ntmps6
  go_upto_region 1 with fail
  have HB : Hid (Below w.heap.size w (w.alloc (.cells #[.int .u64 s.a, .int .u64 s.b] 24))) := Lib.hid (below_alloc _ _)
  have HF : Hid ((w.alloc (.cells #[.int .u64 s.a, .int .u64 s.b] 24)).cell? ⟨w.heap.size, 0, none⟩ = some (.int .u64 s.a) ∧ (w.alloc (.cells #[.int .u64 s.a, .int .u64 s.b] 24)).cell? ⟨w.heap.size, 1, none⟩ = some (.int .u64 s.b)) := by
    refine Lib.hid ⟨?_, ?_⟩ <;> go_simp
  have HI := Lib.hid (HI0.out.later HB.out)
  generalize w.alloc (.cells #[.int .u64 s.a, .int .u64 s.b] 24) = W at *
  obtain ⟨N, hN⟩ : ∃ N, N = w.heap.size := ⟨_, rfl⟩
  rw [← hN] at HF ⊢
  have HNw := Lib.hid hN
  clear hN HI0
  have HBL : Hid (Below W.heap.size W (W.alloc (.cells #[.slice a0 n c0, .slice a0 n c0] 29))) := Lib.hid (below_alloc _ _)
  have HSh := Lib.hid (short_any (lists_two HI.out HI.out) (by simp))
  go_wp2_with fail
  go_fit HSh.out
  rintro e w1 ⟨bb, rfl, hfine, hb1⟩
  have HFi := Lib.hid hfine
  have HB1 : Hid (Below W.heap.size W w1) := Lib.hid (HBL.out.trans (hb1.mono HBL.out.size))
  clear hfine hb1 HBL HSh
  cases bb
  · go_wp2_with fail
    go_fit (awake_any w1)
    rintro e w2 ⟨rfl, hb2⟩
    have HB2 : Hid (Below W.heap.size W w2) := Lib.hid (HB1.out.trans (hb2.mono HB1.out.size))
    clear hb2
    go_wp2_with fail
    go_ret
    exact ⟨rfl, HB.out.trans (HB2.out.mono HB.out.size)⟩
  · have hsl := fineL_slim (HFi.out rfl) (List.mem_cons_self ..) HZ.out
    have HSl := Lib.hid hsl
    have HUs : Hid (Slim (un [] l)) := Lib.hid fun p hp => hsl.1 p (un_mem hp)
    have hn60 : n ≤ 60 := by rw [HN.out]; exact hsl.2
    have HI1 := Lib.hid (HI.out.later HB1.out)
    have HRO := Lib.hid (ROf_any HI1.out (by omega))
    obtain ⟨R, hR⟩ : ∃ R, R = un [] l := ⟨_, rfl⟩
    rw [← hR] at HRO HUs
    have HRe := Lib.hid hR
    have hRl : R.length ≤ n := by have := un_len l []; rw [hR, HN.out]; simpa using this
    have hRs : Sorted R := by rw [hR]; exact un_sorted l trivial
    have HRs := Lib.hid hRs
    clear HFi hsl hR hRs
    go_wp2_with fail
    go_fit HRO.out
    rintro e w2 ⟨u, rfl, hr2⟩
    have HB2 : Hid (Below W.heap.size W w2) := Lib.hid (HB1.out.trans (hr2.grown.mono HB1.out.size))
    have HX2 := Lib.hid hr2.told
    obtain ⟨r, hr⟩ : ∃ r, r = R.length := ⟨_, rfl⟩
    obtain ⟨Y, hY, hYl⟩ := turn_in x (r + 1) (by omega) (by omega)
    have hY2 : wrap64 ((IntKind.u64.wrap x).tmod ((r : Int) + 1)) = (Y : Int) := by rw [← hY]; push_cast; rfl
    have ew : IntKind.u64.wrap ((r : Int) + 1) = (r : Int) + 1 := IntWalk.u64_in _ (by omega)
    have HRl : Hid (r = R.length) := Lib.hid hr
    have HI3 := Lib.hid (HI.out.later (below_drew HB2.out))
    have HOf := Lib.hid (Of_any HS.out (build_any HS.out 4 (by decide)) HI3.out (by have := HSl.out.2; omega) HSl.out.1)
    have y0 := cell_later HB2.out HF.out.1
    have y1 := cell_later HB2.out HF.out.2
    have hdl : (Y : Int) ≤ (r : Int) := by omega
    have hd0 : (0 : Int) ≤ (Y : Int) := by omega
    have HYr : Hid (Y ≤ r) := Lib.hid (by omega)
    have hLn : Hid ((R.drop Y ++ R.take Y).length = r) := Lib.hid (by rw [List.length_append, List.length_drop, List.length_take, ← hr]; omega)
    have HUt : Hid (un [] (R.drop Y ++ R.take Y) = R) := Lib.hid (un_turn HRs.out Y)
    have HSu : Hid (Slim (R.drop Y ++ R.take Y)) := Lib.hid fun p hp => HUs.out p ((List.mem_append.1 hp).elim (fun h => List.mem_of_mem_drop h) (fun h => List.mem_of_mem_take h))
    have hor := hr2.own.2
    obtain ⟨ua, uc, rfl, huc, _⟩ := hr2.slice
    rw [← hr] at hor HX2 huc ⊢
    have hYc : Y ≤ uc := by omega
    obtain ⟨D, hD⟩ : ∃ D, D = (R.drop Y).length := ⟨_, rfl⟩
    have HDl := Lib.hid hD
    clear hr2 HRO hD HI1 HB1 hY
    rcases hor with ⟨hv, h0⟩ | ⟨g, cap, cur, hv, _⟩
    · obtain ⟨rfl, rfl, rfl⟩ : ua = none ∧ r = 0 ∧ uc = 0 := by simpa using hv
      obtain rfl : Y = 0 := by omega
      have HDr : Hid (prL.In w2 (.slice none 0 0) (R.drop 0)) := Lib.hid (by have := HRl.out; rw [List.eq_nil_of_length_eq_zero (show R.length = 0 by omega)]; exact Lay.In.nil w2)
      have HTk : Hid (prL.In w2 (.slice none 0 0) (R.take 0)) := Lib.hid (by have := HRl.out; rw [List.eq_nil_of_length_eq_zero (show R.length = 0 by omega)]; exact Lay.In.nil w2)
      clear hv hr hYl
      have HCl : Hid (∀ V, Below w2.heap.size w2 V → Calls Try.prog 30 #[.slice none 0 0] V fun e w' => ∃ u, e = .returned u ∧ Rw prL 27 V w' u (R.drop 0)) := Lib.hid fun V hV => CloneL (HDr.out.later hV) (by rw [List.length_drop]; have := HRl.out; omega)
      have hdr := below_drew1 w2
      go_upto_region 5 with fail
      go_region_law
        (first
          | (go_simp; go_at_call 21; (with_reducible refine HOf.out.mono ?_); rintro e w3 ⟨tb, rfl, ht3, hb3⟩; have HT3 := Lib.hid ht3; have HB3 := Lib.hid (hdr.trans hb3); have z0 := cell_later HB3.out y0; have z1 := cell_later HB3.out y1; have HC3 := Lib.hid (HCl.out w3 HB3.out); clear ht3 hb3)
          | (go_simp; go_at_call 30; (with_reducible refine HC3.out.mono ?_); rintro e w4 ⟨u4, rfl, hr4⟩; have HB4 := Lib.hid (HB3.out.trans (hr4.grown.mono HB3.out.size)); have x0 := cell_later HB4.out y0; have x1 := cell_later HB4.out y1; (obtain ⟨ua4, uc4, rfl, _, _⟩ := hr4.slice); (rw [← HDl.out] at hr4 ⊢); have HR4 := Lib.hid hr4; have HK4 := Lib.hid (HTk.out.later HB4.out); clear hr4)
          | (refine step_catI (I := prL) (by rfl) _ _ 45 27 (by rfl) Try.underlying45 Try.infoPair rfl (by decide) (by decide) HR4.out.own HK4.out (by rw [List.length_drop, List.length_take]; have := HRl.out; omega) HR4.out.grown.size (by rfl) (by rfl) ?_; intro v5 w5 hown hgrow; (rw [hLn.out] at hown); (obtain ⟨va5, vc5, rfl⟩ := row_slice5 hown); have HI5 := Lib.hid (in_row hown hLn.out); have HB35 := Lib.hid (below_grow HR4.out hgrow); have HT5 := Lib.hid (HT3.out.later HB35.out); have HB5 := Lib.hid (HB3.out.trans (HB35.out.mono HB3.out.size)); have u0 := cell_later HB5.out y0; have u1 := cell_later HB5.out y1; have HC5 := Lib.hid (Of_any HS.out (build_any HS.out 4 (by decide)) HI5.out (by rw [hLn.out]; omega) HSu.out); clear hown hgrow)
          | (go_simp; go_at_call 21; (with_reducible refine HC5.out.mono ?_); rintro e w6 ⟨tb2, rfl, ht6, hb6⟩; have HT6 := Lib.hid (HT5.out.later hb6); have HU6 := Lib.hid ht6; have HB6 := Lib.hid (HB5.out.trans (hb6.mono HB5.out.size)); have t0 := cell_later HB6.out y0; have t1 := cell_later HB6.out y1; clear ht6 hb6))
      all_goals
        (try clear z0) ; (try clear z1) ; (try clear x0) ; (try clear x1) ; (try clear u0) ; (try clear u1) ; (try clear t0) ; (try clear t1)
        clear y0 y1
        have HB7 : Hid (Below w.heap.size w w6) := Lib.hid (HB.out.trans ((HB2.out.trans (HB6.out.mono HB2.out.size)).mono HB.out.size))
        obtain ⟨S, hS⟩ : ∃ S, S = s.place l := ⟨_, rfl⟩
        obtain ⟨T, hT⟩ : ∃ T, T = s.place (R.drop 0 ++ R.take 0) := ⟨_, rfl⟩
        have p1 := place_same HS.out l (by rw [isort_length, List.length_map])
        have p2 := place_same HS.out (R.drop 0 ++ R.take 0) (by rw [isort_length, List.length_map])
        rw [HUt.out, ← hT] at p2
        rw [← HRe.out, ← hS] at p1
        have htr : s.tr 4 S = s.tr 4 T := p1.1.trans p2.1.symm
        have hlen : S.length = T.length := p1.2.trans p2.2.symm
        have hvs := s.v_same htr
        have HSS : Hid (TrIn s w6 tb S) := Lib.hid (by rw [hS]; exact HT6.out)
        have HTT : Hid (TrIn s w6 tb2 T) := Lib.hid (by rw [hT]; exact HU6.out)
        have HUn := Lib.hid (Unlike_any HSS.out HTT.out (by have := p1.2; have := HRl.out; omega))
        have HV := Lib.hid hvs
        have HTr := Lib.hid htr
        have HLe := Lib.hid hlen
        clear hS hT p1 p2 htr hlen hvs HT6 HU6 HC3 HCl HOf HDr HTk HX2 HI3 HT3 HB3 HB4 HR4 HK4 HI5 HB35 HT5 HB5 HC5 HB2 HI
        go_simp
        go_wp2_with fail
        go_fit HUn.out
        rintro e w7 ⟨v7, rfl, hr7⟩
        rw [HV.out.2.1, HV.out.2.2]
        obtain ⟨a7, c7, rfl, _, _⟩ := hr7.slice
        have hk0 : (sortK (s.vk 4 S T)).length = 0 := by rw [sortK_len, HV.out.1]; rfl
        rw [hk0]
        have hb7 := below_alloc w7 (.cells #[.int .i64 1, .int .i64 0] 51)
        have HBA := Lib.hid (hr7.grown.trans (hb7.mono hr7.grown.size))
        have HS8 := Lib.hid (HSS.out.later HBA.out)
        have HT8 := Lib.hid (HTT.out.later HBA.out)
        have HB8 := Lib.hid (HB7.out.trans (HBA.out.mono HB7.out.size))
        have c0 : (w7.alloc (.cells #[.int .i64 1, .int .i64 0] 51)).cell? ⟨w7.heap.size, 0, none⟩ = some (.int .i64 1) := by go_simp
        have c1 : (w7.alloc (.cells #[.int .i64 1, .int .i64 0] 51)).cell? ⟨w7.heap.size, 1, none⟩ = some (.int .i64 0) := by go_simp
        clear hr7 hk0 hb7 HUn HSS HTT HBA HB7
        go_upto_region 7 with fail
        generalize w7.alloc (.cells #[.int .i64 1, .int .i64 0] 51) = w8 at *
        have HR1 := Lib.hid (Root_any HS8.out)
        have HR2 := Lib.hid (Root_any HT8.out)
        have HL1 := Lib.hid (Len_any HS8.out)
        have HL2 := Lib.hid (Len_any HT8.out)
        rw [← HTr.out] at HR2
        rw [← HLe.out] at HL2
        generalize s.tr 4 S = X at *
        obtain ⟨q, hq⟩ : ∃ q, q = S.length := ⟨_, rfl⟩
        rw [← hq] at HL1 HL2
        clear hq
        have ht := talk_one
        go_wp2_with fail
        go_fit HR1.out
        rintro e w' ⟨rfl, rfl⟩
        go_wp2_with fail
        go_fit HR2.out
        rintro e w' ⟨rfl, rfl⟩
        go_wp2_with fail
        go_fit HL1.out
        rintro e w' ⟨rfl, rfl⟩
        go_wp2_with fail
        go_fit HL2.out
        rintro e w' ⟨rfl, rfl⟩
        go_wp2_with fail
        go_fit (awake_any w8)
        rintro e w9 ⟨rfl, hb9⟩
        have HB9 := Lib.hid (HB8.out.trans (hb9.mono HB8.out.size))
        clear hb9 c0 c1
        go_wp2_with fail
        go_ret
        exact ⟨rfl, HB9.out⟩
    · simp only [Value.slice.injEq] at hv
      obtain ⟨rfl, _, rfl⟩ := hv
      have HDr : Hid (prL.In w2 (.slice (if uc = Y then some ⟨g, 0, none⟩ else some ⟨g, Y * 2, none⟩) (r - Y) (uc - Y)) (R.drop Y)) := Lib.hid (by have h := in_drop HX2.out Y HYr.out; rwa [Nat.zero_add] at h)
      have HTk := Lib.hid (HX2.out.take Y HYr.out)
      have hrb : (r : Int) + 1 ≤ 1000 := by omega
      clear hr hYl
      have HCl : Hid (∀ V, Below w2.heap.size w2 V → Calls Try.prog 30 #[.slice (if uc = Y then some ⟨g, 0, none⟩ else some ⟨g, Y * 2, none⟩) (r - Y) (uc - Y)] V fun e w' => ∃ u, e = .returned u ∧ Rw prL 27 V w' u (R.drop Y)) := Lib.hid fun V hV => CloneL (HDr.out.later hV) (by rw [List.length_drop]; have := HRl.out; omega)
      have hdr := below_drew1 w2
      go_upto_region 5 with fail
      go_region_law
        (first
          | (go_simp; go_at_call 21; (with_reducible refine HOf.out.mono ?_); rintro e w3 ⟨tb, rfl, ht3, hb3⟩; have HT3 := Lib.hid ht3; have HB3 := Lib.hid (hdr.trans hb3); have z0 := cell_later HB3.out y0; have z1 := cell_later HB3.out y1; have HC3 := Lib.hid (HCl.out w3 HB3.out); clear ht3 hb3)
          | (go_simp; go_at_call 30; (with_reducible refine HC3.out.mono ?_); rintro e w4 ⟨u4, rfl, hr4⟩; have HB4 := Lib.hid (HB3.out.trans (hr4.grown.mono HB3.out.size)); have x0 := cell_later HB4.out y0; have x1 := cell_later HB4.out y1; (obtain ⟨ua4, uc4, rfl, _, _⟩ := hr4.slice); (rw [← HDl.out] at hr4 ⊢); have HR4 := Lib.hid hr4; have HK4 := Lib.hid (HTk.out.later HB4.out); clear hr4)
          | (refine step_catI (I := prL) (by rfl) _ _ 45 27 (by rfl) Try.underlying45 Try.infoPair rfl (by decide) (by decide) HR4.out.own HK4.out (by rw [List.length_drop, List.length_take]; have := HRl.out; omega) HR4.out.grown.size (by rfl) (by rfl) ?_; intro v5 w5 hown hgrow; (rw [hLn.out] at hown); (obtain ⟨va5, vc5, rfl⟩ := row_slice5 hown); have HI5 := Lib.hid (in_row hown hLn.out); have HB35 := Lib.hid (below_grow HR4.out hgrow); have HT5 := Lib.hid (HT3.out.later HB35.out); have HB5 := Lib.hid (HB3.out.trans (HB35.out.mono HB3.out.size)); have u0 := cell_later HB5.out y0; have u1 := cell_later HB5.out y1; have HC5 := Lib.hid (Of_any HS.out (build_any HS.out 4 (by decide)) HI5.out (by rw [hLn.out]; omega) HSu.out); clear hown hgrow)
          | (go_simp; go_at_call 21; (with_reducible refine HC5.out.mono ?_); rintro e w6 ⟨tb2, rfl, ht6, hb6⟩; have HT6 := Lib.hid (HT5.out.later hb6); have HU6 := Lib.hid ht6; have HB6 := Lib.hid (HB5.out.trans (hb6.mono HB5.out.size)); have t0 := cell_later HB6.out y0; have t1 := cell_later HB6.out y1; clear ht6 hb6))
      all_goals
        (try clear z0) ; (try clear z1) ; (try clear x0) ; (try clear x1) ; (try clear u0) ; (try clear u1) ; (try clear t0) ; (try clear t1)
        clear y0 y1
        have HB7 : Hid (Below w.heap.size w w6) := Lib.hid (HB.out.trans ((HB2.out.trans (HB6.out.mono HB2.out.size)).mono HB.out.size))
        obtain ⟨S, hS⟩ : ∃ S, S = s.place l := ⟨_, rfl⟩
        obtain ⟨T, hT⟩ : ∃ T, T = s.place (R.drop Y ++ R.take Y) := ⟨_, rfl⟩
        have p1 := place_same HS.out l (by rw [isort_length, List.length_map])
        have p2 := place_same HS.out (R.drop Y ++ R.take Y) (by rw [isort_length, List.length_map])
        rw [HUt.out, ← hT] at p2
        rw [← HRe.out, ← hS] at p1
        have htr : s.tr 4 S = s.tr 4 T := p1.1.trans p2.1.symm
        have hlen : S.length = T.length := p1.2.trans p2.2.symm
        have hvs := s.v_same htr
        have HSS : Hid (TrIn s w6 tb S) := Lib.hid (by rw [hS]; exact HT6.out)
        have HTT : Hid (TrIn s w6 tb2 T) := Lib.hid (by rw [hT]; exact HU6.out)
        have HUn := Lib.hid (Unlike_any HSS.out HTT.out (by have := p1.2; have := HRl.out; omega))
        have HV := Lib.hid hvs
        have HTr := Lib.hid htr
        have HLe := Lib.hid hlen
        clear hS hT p1 p2 htr hlen hvs HT6 HU6 HC3 HCl HOf HDr HTk HX2 HI3 HT3 HB3 HB4 HR4 HK4 HI5 HB35 HT5 HB5 HC5 HB2 HI
        (try generalize (if uc = Y then (some ⟨g, 0, none⟩ : Option Addr) else some ⟨g, Y * 2, none⟩) = AA)
        go_simp
        (try generalize (if uc = Y then (some ⟨g, 0, none⟩ : Option Addr) else some ⟨g, Y * 2, none⟩) = AA)
        go_wp2_with fail
        go_fit HUn.out
        rintro e w7 ⟨v7, rfl, hr7⟩
        rw [HV.out.2.1, HV.out.2.2]
        obtain ⟨a7, c7, rfl, _, _⟩ := hr7.slice
        have hk0 : (sortK (s.vk 4 S T)).length = 0 := by rw [sortK_len, HV.out.1]; rfl
        rw [hk0]
        have hb7 := below_alloc w7 (.cells #[.int .i64 1, .int .i64 0] 51)
        have HBA := Lib.hid (hr7.grown.trans (hb7.mono hr7.grown.size))
        have HS8 := Lib.hid (HSS.out.later HBA.out)
        have HT8 := Lib.hid (HTT.out.later HBA.out)
        have HB8 := Lib.hid (HB7.out.trans (HBA.out.mono HB7.out.size))
        have c0 : (w7.alloc (.cells #[.int .i64 1, .int .i64 0] 51)).cell? ⟨w7.heap.size, 0, none⟩ = some (.int .i64 1) := by go_simp
        have c1 : (w7.alloc (.cells #[.int .i64 1, .int .i64 0] 51)).cell? ⟨w7.heap.size, 1, none⟩ = some (.int .i64 0) := by go_simp
        clear hr7 hk0 hb7 HUn HSS HTT HBA HB7
        go_upto_region 7 with fail
        generalize w7.alloc (.cells #[.int .i64 1, .int .i64 0] 51) = w8 at *
        have HR1 := Lib.hid (Root_any HS8.out)
        have HR2 := Lib.hid (Root_any HT8.out)
        have HL1 := Lib.hid (Len_any HS8.out)
        have HL2 := Lib.hid (Len_any HT8.out)
        rw [← HTr.out] at HR2
        rw [← HLe.out] at HL2
        generalize s.tr 4 S = X at *
        obtain ⟨q, hq⟩ : ∃ q, q = S.length := ⟨_, rfl⟩
        rw [← hq] at HL1 HL2
        clear hq
        have ht := talk_one
        go_wp2_with fail
        go_fit HR1.out
        rintro e w' ⟨rfl, rfl⟩
        go_wp2_with fail
        go_fit HR2.out
        rintro e w' ⟨rfl, rfl⟩
        go_wp2_with fail
        go_fit HL1.out
        rintro e w' ⟨rfl, rfl⟩
        go_wp2_with fail
        go_fit HL2.out
        rintro e w' ⟨rfl, rfl⟩
        go_wp2_with fail
        go_fit (awake_any w8)
        rintro e w9 ⟨rfl, hb9⟩
        have HB9 := Lib.hid (HB8.out.trans (hb9.mono HB8.out.size))
        clear hb9 c0 c1
        go_wp2_with fail
        go_ret
        exact ⟨rfl, HB9.out⟩
end Go.Proofs.Ytcbgnmolfdhnfaa
