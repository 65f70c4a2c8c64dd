/-
  slices.Clone of bytes, of any capacity.
-/
import Derived.Test.YtcbgnmolfdhnfaaSH
import Derived.Test.YtcbgnmolfdhnfaaLc
namespace Go.Proofs.Ytcbgnmolfdhnfaa
set_option linter.unusedVariables false
set_option linter.unusedSimpArgs false
open Go.RowKit

theorem Try.infoU8c : (Try.prog.info? 5).map (fun i => (i.zero, i.size, i.bytes)) = some (some (.int .u8 0), 1, 1) := by kernel_rfl
def byL : Lay Int := ⟨fun x => [.int .u8 x], 1, fun _ => rfl, by intro x u hu; simp at hu; subst hu; rfl⟩
theorem byL_all (xs : List Int) : byL.all xs = u8v xs := by
  unfold Lay.all u8v byL
  simp [List.flatMap_singleton']
  induction xs with
  | nil => rfl
  | cons x l ih => simp [ih]
theorem byL_at {w : World} {b o n : Nat} {xs : List Int} (hx : xs.length = n) (hc : ∀ i, i < n → w.cell? ⟨b, o + i, none⟩ = some (.int .u8 (xs.getD i 0))) : byL.At w b o xs := fun i x hi j u hu => by
  have hj : j = 0 := by
    have := (List.getElem?_eq_some_iff.1 hu).1
    simpa [byL] using this
  subst hj
  simp only [byL, List.getElem?_cons_zero, Option.some.injEq] at hu
  subst hu
  have hlt2 := (List.getElem?_eq_some_iff.1 hi).1
  have := hc i (by omega)
  have e : xs.getD i 0 = x := by rw [List.getD_eq_getElem?_getD, hi]; rfl
  rw [e] at this
  simpa [byL] using this
/-- 'append(l, more...)', l a row of one's own. -/
theorem wpList_catB {P : Program} {α : Type} {I : Lay α} {w : World} {B bytes : Nat} {v u zero : Value} {xs ys : List α} {ops : Array Oper} {rest : List Oper} {o : Oper} {a : Act} {Q : Exit → Act → World → Prop} (hgd : o.guard = none) (s x : Operand) (T E : TypeId)
    (ho : o.op = .call { callee := .builtin .append, args := #[s, x], argTypes := #[T, T] })
    (hT : P.underlying T = some (.slice E)) (hinfo : (P.info? E).map (fun i => (i.zero, i.size, i.bytes)) = some (some zero, I.sz, bytes)) (hz : zero.cells.size = I.sz) (hsz : 0 < I.sz)
    (hown : w.ownsRow B E I.sz v xs.length (I.all xs)) (hu : ∃ a' c', u = .slice a' ys.length c' ∧ (ys = [] ∨ ∃ g off, a' = some ⟨g, off, none⟩ ∧ I.At w g off ys)) (hl : xs.length + ys.length ≤ 140737488355328) (hlb : (xs.length + ys.length) * bytes ≤ 140737488355328) (hB : B ≤ w.heap.size) (hs : a.eval s = v) (hx : a.eval x = u)
    (hk : ∀ v' w', w'.ownsRow B E I.sz v' (xs ++ ys).length (I.all (xs ++ ys)) → w.grownBy w' v.ownBlock → wpList P ops Q rest (a.put o.dst v') w') : wpList P ops Q (o :: rest) a w := by
  refine wpList_plain hgd fun _ hK => ?_
  obtain ⟨i0, hi, hz0, hz1, hz2⟩ := info_parts hinfo
  have main : ∃ v' w', (Builtin.append_ #[T, T] o.type #[v, u]).run P w = .ok v' w' ∧ w'.ownsRow B E I.sz v' (xs ++ ys).length (I.all (xs ++ ys)) ∧ w.grownBy w' v.ownBlock := by
    obtain ⟨a', c, rfl, hu⟩ := hu
    by_cases hy : ys = []
    · subst hy
      refine ⟨v, w, ?_, by rw [List.append_nil]; exact hown, World.grownBy.refl w _⟩
      rcases hown.2 with ⟨rfl, hn⟩ | ⟨g, cap, cur, rfl, _, _, hnc, _⟩
      · cases a' <;> simp [Builtin.append_, run_underlying hT, sizeOf, typeInfo, hi, Builtin.lenOf, Builtin.firstCells, loadCellsFrom, loadCells]
      · cases a' <;> simp [Builtin.append_, run_underlying hT, sizeOf, typeInfo, hi, Builtin.lenOf, Builtin.firstCells, hnc, storeCells, loadCellsFrom, loadCells]
    · obtain ⟨g, off, rfl, hp⟩ := hu.resolve_left hy
      obtain ⟨v', w', hr, h2, h3, _, h5⟩ := run_append_own_at (P := P) w B T o.type E i0 zero I.sz bytes hT hi hz0 hz1 hz2 hz hsz v xs.length (I.all xs) hown ⟨g, off, none⟩ ys.length c (I.all ys) (Lay.all_len I ys) (lay_cells hp) (Lay.all_ones I ys) (by unfold maxLen; omega) (Nat.le_trans hlb (by decide)) hB
      exact ⟨v', w', hr, by rw [Lay.all_app, List.length_append]; exact h2, h3⟩
  obtain ⟨v', w', hr, h2, h3⟩ := main
  unfold Oper.wp execOp
  simp only [ho, resolve, invoke, builtin, Sem.run_bind, Sem.run_pure, Result.andThen_ok, List.map_toArray, List.map_cons, List.map_nil, hs, hx, hr]
  exact hK _ _ (hk v' w' h2 h3)
theorem eql_bytes (a : Option Addr) (n c : Nat) (W : World) : (binOp .eql 25 (.slice a n c) (.slice none 0 0)).run Try.prog W = .ok (.bool a.isNone) W := by
  cases a <;> kernel_rfl
theorem row_slice3 {w : World} {B n sz : Nat} {t : TypeId} {v : Value} {cs : List Value} (h : w.ownsRow B t sz v n cs) : ∃ a c, v = .slice a n c := by
  rcases h.2 with ⟨h0, h1⟩ | ⟨g', cap, cur, hv, _, _, hn, hm, _⟩
  · exact ⟨none, 0, by rw [h0, h1]⟩
  · exact ⟨_, cap, hv⟩
def CloP (xs : List Int) (n : Nat) (w : World) (e : Ending) (w' : World) : Prop := Below w.heap.size w w' ∧ ∃ a c, e = .returned (.slice a n c) ∧ Lib.BytesIn w' a n xs ∧ n ≤ c
set_option maxRecDepth 100000 in
set_option maxHeartbeats 1600000 in
theorem CloneU_any (p : Option Addr) (n c : Nat) (xs : List Int) (w : World) (hx : xs.length = n) (hb : Lib.BytesIn w p n xs) (hp : p = none → n = 0 ∧ c = 0) (hn : n ≤ 1000000) : Calls Try.prog 12 #[.slice p n c] w (CloP xs n w) := by
  cases p with
  | none =>
    obtain ⟨rfl, rfl⟩ := hp rfl
    have e1 := fun W => eql_bytes none 0 0 W
    have HB := Lib.hid hb
    clear hb hp
    go_enter Try.func12, Try.ntmps12
    go_wp2_with fail
    go_ret
    exact ⟨Below.refl _ _, none, 0, rfl, HB.out, Nat.le_refl _⟩
  | some a =>
    have e1 := fun W => eql_bytes (some a) n c W
    have hal := lay_alloc w (.cells #[] 5)
    have HB := Lib.hid hal
    have HI : Hid (∃ a' c', (Value.slice (some a) n c) = .slice a' xs.length c' ∧ (xs = [] ∨ ∃ g off, a' = some ⟨g, off, none⟩ ∧ byL.At (w.alloc (.cells #[] 5)) g off xs)) := by
      refine ⟨some a, c, by rw [hx], ?_⟩
      by_cases h0 : 0 < n
      · obtain ⟨b, o, hbo, hc⟩ := (Wi.later hb hal) h0
        exact .inr ⟨b, o, hbo, byL_at hx hc⟩
      · exact .inl (List.eq_nil_of_length_eq_zero (by omega))
    have HOwn : Hid ((w.alloc (.cells #[] 5)).ownsRow w.heap.size 5 byL.sz (.slice (some ⟨w.heap.size, 0, none⟩) 0 0) ([] : List Int).length (byL.all [])) := World.ownsRow_made w #[] 0 (Nat.le_refl _) (by decide) rfl
    have HL : Hid (([] : List Int).length + xs.length ≤ 140737488355328) := by show 0 + xs.length ≤ _; omega
    have HLb : Hid ((([] : List Int).length + xs.length) * 1 ≤ 140737488355328) := by show (0 + xs.length) * 1 ≤ _; omega
    have HX := Lib.hid hx
    clear hb hp hn hal hx
    go_enter Try.func12, Try.ntmps12
    go_wp2_with (at_builtin; refine wpList_catB (I := byL) rfl _ _ 25 5 rfl Try.underlying25 Try.infoU8c rfl (by decide) HOwn.out HI.out HL.out HLb.out HB.out.size rfl rfl ?_; intro v2 w2 hown hgrow; have HO := Lib.hid hown; have HG := Lib.hid hgrow; clear hown hgrow)
    obtain ⟨va, vc, hv⟩ := row_slice3 HO.out
    subst hv
    have HF : Hid (CloP xs n w (.returned (.slice va n vc)) w2) := by
      have ho := HO.out
      rw [byL_all, List.nil_append] at ho
      rw [show xs.length = n from HX.out] at ho
      refine ⟨HB.out.trans ⟨HG.out.os, HG.out.tape, HG.out.output, HG.out.size, fun k hk => HG.out.block k (Nat.lt_of_lt_of_le hk HB.out.size) (fun e => by simp [Value.ownBlock] at e; omega)⟩, va, vc, rfl, ?_⟩
      rcases ho.2 with ⟨h1, h2⟩ | ⟨g', cap, cur, hv, _⟩
      · simp only [Value.slice.injEq] at h1
        exact ⟨fun h => absurd h (by omega), by omega⟩
      · simp only [Value.slice.injEq, true_and] at hv
        obtain ⟨rfl, rfl⟩ := hv
        exact ⟨Wi.owns_in ho, owns_cap ho⟩
    have HF2 := HF.out
    rw [← HX.out] at HF2
    go_ret
    rw [← HX.out]
    exact HF2


set_option maxRecDepth 100000 in
set_option maxHeartbeats 3200000 in
/-- slices.Equal of two rows of bytes that read alike. -/
theorem EqS_any (p : Option Addr) (n c : Nat) (q : Option Addr) (d : Nat) (xs : List Int) (w : World) (hx : xs.length = n) (hn : n ≤ 1000000) (h1 : Lib.BytesIn w p n xs) (h2 : Lib.BytesIn w q n xs) :
    Calls Try.prog 19 #[.slice p n c, .slice q n d] w fun e w' => e = .returned (.bool true) ∧ Below w.heap.size w w' := by
  have H1 := Lib.hid h1
  have H2 := Lib.hid h2
  have HX := Lib.hid hx
  clear h1 h2 hx
  go_enter Try.func19, Try.ntmps19
  go_wp2_with fail
  have H0 : Hid (Below w.heap.size w w) := Lib.hid (Below.refl _ _)
  go_loopw [13] (fun v wr => ∃ i : Nat, v = .int .i64 i ∧ i ≤ n ∧ Hid (Below w.heap.size w wr)) (fun v _ => n - (intOf v).toNat)
  case atStart => exact ⟨0, rfl, Nat.zero_le _, H0⟩
  case round =>
    obtain ⟨i, rfl, hi, hst⟩ := hrel
    have ei : IntKind.i64.wrap ((i : Int) + 1) = (i : Int) + 1 := IntWalk.i64_in _ (by omega)
    by_cases hlt : i < n
    · obtain ⟨b, o, rfl, hc⟩ := H1.out (by omega)
      obtain ⟨b2, o2, rfl, hc2⟩ := H2.out (by omega)
      have d1 := cell_later hst.out (hc i hlt)
      have d2 := cell_later hst.out (hc2 i hlt)
      have hltI : (i : Int) < (n : Int) := by omega
      have h0I : (0 : Int) ≤ (i : Int) := by omega
      have etn : (i : Int).toNat = i := by omega
      generalize xs.getD i 0 = x at *
      clear hc hc2
      go_upto_region 6 with fail
      go_quiet (fail)
      go_wp2_with fail
      exact ⟨⟨i + 1, by push_cast; rfl, by omega, Lib.hid (below_drewN hst.out _)⟩, by simp [intOf]; omega⟩
    · obtain rfl : i = n := by omega
      go_wp2_with fail
      go_ret
      exact ⟨rfl, hst.out⟩
end Go.Proofs.Ytcbgnmolfdhnfaa
