/-
  Walks: a list of operations copied, and items of it exchanged.
-/
import Derived.Test.YtdfjnpnkfjcpcaaK11
import Derived.Test.YtdfjnpnkfjcpcaaK13
import Derived.Test.YtdfjnpnkfjcpcaaLc
namespace Go.Proofs.Ytdfjnpnkfjcpcaa
set_option linter.unusedVariables false
set_option linter.unusedSimpArgs false
open Go.RowKit

theorem eql_slice (a : Option Addr) (n c : Nat) (W : World) : (binOp .eql 28 (.slice a n c) (.slice none 0 0)).run Try.prog W = .ok (.bool a.isNone) W := by
  cases a <;> kernel_rfl
set_option maxRecDepth 100000 in
set_option maxHeartbeats 1600000 in
theorem CloneO {w : World} {v : Value} {l : List Kop} (h : opL.In w v l) (hl : l.length ≤ 1000000) : Calls Try.prog 16 #[v] w fun e w' => ∃ u, e = .returned u ∧ Rw opL 37 w w' u l := by
  obtain ⟨a, c, rfl, _, _⟩ := h.slice
  have H := Lib.hid h
  cases a with
  | none =>
    have hn : l = [] := by
      obtain ⟨a', c', hv, _, _, h'⟩ := h
      rcases h' with e | ⟨g, off, e, _⟩
      · exact e
      · simp only [Value.slice.injEq] at hv
        rw [← hv.1] at e; cases e
    subst hn
    have e1 := fun W => eql_slice none 0 c W
    clear h H
    go_enter Try.func16, Try.ntmps16
    go_wp2_with fail
    go_ret
    exact ⟨_, rfl, Rw.nil w⟩
  | some a =>
    have e1 := fun W => eql_slice (some a) l.length c W
    have HB := Lib.hid (lay_alloc w (.cells #[] 37))
    have HI := Lib.hid (h.later HB.out)
    have HOwn : Hid ((w.alloc (.cells #[] 37)).ownsRow w.heap.size 37 opL.sz (.slice (some ⟨w.heap.size, 0, none⟩) 0 0) ([] : List Kop).length (opL.all [])) := World.ownsRow_made w #[] 0 (Nat.le_refl _) (by decide) rfl
    have HL : Hid (([] : List Kop).length + l.length ≤ 1073741825) := by show 0 + l.length ≤ _; omega
    clear h H hl
    go_enter Try.func16, Try.ntmps16
    go_wp2_with (at_builtin; refine wpList_catI (I := opL) rfl _ _ 28 37 rfl Try.underlying28 Try.infoOp rfl (by decide) (by decide) HOwn.out HI.out HL.out HB.out.size rfl rfl ?_; intro v2 w2 hown hgrow; have HO := Lib.hid hown; have HG := Lib.hid hgrow; clear hown hgrow)
    obtain ⟨va, vc, hv⟩ := row_slice1 HO.out
    subst hv
    go_ret
    exact ⟨_, rfl, HO.out, HB.out.trans ⟨HG.out.os, HG.out.tape, HG.out.output, HG.out.size, fun k hk => HG.out.block k (Nat.lt_of_lt_of_le hk HB.out.size) (fun e => by simp [Value.ownBlock] at e; omega)⟩⟩

/-- Operations in a block that may be written. -/
structure ORow (w : World) (g : Nat) (xs : List Kop) : Prop where
  at' : opL.At w g 0 xs
  fz : ∀ i, w.frozen? ⟨g, i, none⟩ = false
  ty : ∃ cs, w.heap[g]? = some (.cells cs 37 (0, 0))
def putOp (w : World) (g i : Nat) (o : Kop) : World := ((w.setCell ⟨g, i * 3, none⟩ (.string o.key)).setCell ⟨g, i * 3 + 1, none⟩ (.bool o.has)).setCell ⟨g, i * 3 + 2, none⟩ (.string o.val)
theorem putOp_size (w : World) (g i : Nat) (o : Kop) : (putOp w g i o).heap.size = w.heap.size := by simp [putOp, World.setCell]
theorem grown_putOp (w : World) (g i : Nat) (o : Kop) : w.grownBy (putOp w g i o) (some g) :=
  ⟨rfl, rfl, rfl, by rw [putOp_size]; exact Nat.le_refl _, fun k _ hk => by
    have h : g ≠ k := fun e => hk (by rw [e])
    unfold putOp
    rw [Below.heap_setCell _ _ _ _ (by simpa using Ne.symm h), Below.heap_setCell _ _ _ _ (by simpa using Ne.symm h), Below.heap_setCell _ _ _ _ (by simpa using Ne.symm h)]⟩
theorem set_ty {w : World} {g o : Nat} {v : Value} {E : TypeId} (h : ∃ cs, w.heap[g]? = some (.cells cs E (0, 0))) : ∃ cs, (w.setCell ⟨g, o, none⟩ v).heap[g]? = some (.cells cs E (0, 0)) := by
  obtain ⟨cs, h⟩ := h
  simp only [World.setCell]
  rw [Array.getElem?_modify, if_pos rfl, h]
  exact ⟨_, rfl⟩
theorem ORow.put {w : World} {g i : Nat} {xs : List Kop} (h : ORow w g xs) (hi : i < xs.length) (o : Kop) : ORow (putOp w g i o) g (xs.set i o) := by
  have hx := fun j v hv => h.at' i _ (List.getElem?_eq_getElem hi) j v hv
  simp only [Nat.zero_add] at hx
  have x0 := hx 0 _ rfl
  have x1 := hx 1 _ rfl
  have x2 := hx 2 _ rfl
  refine ⟨fun k r hr j v hv => ?_, fun j => (World.frozen?_setCell _ _ _ _).trans ((World.frozen?_setCell _ _ _ _).trans ((World.frozen?_setCell _ _ _ _).trans (h.fz j))), set_ty (set_ty (set_ty h.ty))⟩
  simp only [Nat.zero_add]
  have hj : j < 3 := (List.getElem?_eq_some_iff.1 hv).1
  show (putOp w g i o).cell? ⟨g, k * 3 + j, none⟩ = some v
  unfold putOp
  by_cases hk : k = i
  · subst hk
    rw [List.getElem?_set_self hi] at hr
    obtain rfl : o = r := by simpa using hr
    have e0 : (w.setCell ⟨g, k * 3, none⟩ (.string o.key)).cell? ⟨g, k * 3, none⟩ = some (.string o.key) := World.cell?_setCell_same _ _ _ x0
    rcases (by omega : j = 0 ∨ j = 1 ∨ j = 2) with rfl | rfl | rfl
    · have : v = .string o.key := by cases hv; rfl
      subst this
      rw [World.cell?_setCell_other _ _ _ _ (by simp), World.cell?_setCell_other _ _ _ _ (by simp)]
      exact World.cell?_setCell_same _ _ _ x0
    · have : v = .bool o.has := by cases hv; rfl
      subst this
      rw [World.cell?_setCell_other _ _ _ _ (by simp)]
      exact World.cell?_setCell_same _ _ _ ((World.cell?_setCell_other _ _ _ _ (by simp)).trans x1)
    · have : v = .string o.val := by cases hv; rfl
      subst this
      exact World.cell?_setCell_same _ _ _ ((World.cell?_setCell_other _ _ _ _ (by simp)).trans ((World.cell?_setCell_other _ _ _ _ (by simp)).trans x2))
  · rw [List.getElem?_set_ne (Ne.symm hk)] at hr
    have := h.at' k r hr j v hv
    simp only [Nat.zero_add] at this
    rw [World.cell?_setCell_other _ _ _ _ (by simp <;> omega), World.cell?_setCell_other _ _ _ _ (by simp <;> omega), World.cell?_setCell_other _ _ _ _ (by simp <;> omega)]
    exact this
theorem rw_orow {w0 w : World} {v : Value} {l : List Kop} (h : Rw opL 37 w0 w v l) (hne : l ≠ []) : ∃ g c, v = .slice (some ⟨g, 0, none⟩) l.length c ∧ w0.heap.size ≤ g ∧ l.length ≤ c ∧ c ≤ 9223372036854775807 ∧ ORow w g l := by
  rcases h.own.2 with ⟨_, h0⟩ | ⟨g, cap, cur, hv, hg, hh, hn, hm, _⟩
  · exact absurd (List.eq_nil_of_length_eq_zero h0) hne
  · obtain ⟨a', c', hv', _, _, hat⟩ := h.told
    rw [hv] at hv'
    simp only [Value.slice.injEq] at hv'
    obtain ⟨rfl, _, rfl⟩ := hv'
    obtain ⟨g', off, he, _, hat⟩ := hat.resolve_left hne
    obtain ⟨rfl, rfl⟩ : g = g' ∧ 0 = off := by simpa using he
    exact ⟨g, cap, hv, hg, hn, by unfold maxLen at hm; exact hm, hat, fun i => frozen_of_row w g i _ _ hh, cur, hh⟩
theorem ORow.told {w : World} {g c n : Nat} {l : List Kop} (h : ORow w g l) (hn : l.length = n) (hc : n ≤ c) (hm : c ≤ 9223372036854775807) : opL.In w (.slice (some ⟨g, 0, none⟩) n c) l := by
  subst hn
  refine ⟨_, c, rfl, hc, hm, .inr ⟨g, 0, rfl, ?_, h.at'⟩⟩
  obtain ⟨cs, hh⟩ := h.ty
  by_cases e : g < w.heap.size
  · exact e
  · rw [Array.getElem?_eq_none (by omega)] at hh; cases hh
theorem ORow.drewN {w : World} {g : Nat} {l : List Kop} (h : ORow w g l) (n : Nat) : ORow (w.drewN n) g l := ⟨h.at', h.fz, h.ty⟩
theorem ORow.typed {w : World} {g : Nat} {l : List Kop} (h : ORow w g l) : Typed w (some g) := by
  intro k hk
  obtain rfl : g = k := by simpa using hk
  obtain ⟨cs, hh⟩ := h.ty
  exact ⟨cs, _, hh, by decide, by decide⟩

theorem swap_perm {l ys : List Kop} {p q : Nat} (hp : p < l.length) (hq : q < l.length) (h : l.Perm ys) : ((l.set p l[q]).set q l[p]).Perm ys := (List.set_set_perm hp hq).trans h
theorem grown_drew1 {w w' : World} {row : Option Nat} (h : w.grownBy w' row) : w.grownBy w'.drew row := ⟨h.os, h.tape, h.output, h.size, h.block⟩
theorem ORow.drew1 {w : World} {g : Nat} {l : List Kop} (h : ORow w g l) : ORow w.drew g l := ⟨h.at', h.fz, h.ty⟩
/-- Two operations exchanged. -/
theorem ORow.swap {w wq W : World} {g P Q : Nat} {ys ops : List Kop} {op oq : Kop} (h : ORow wq g ys) (hP : P < ys.length) (hQ : Q < ys.length) (ep : ys[P] = op) (eq : ys[Q] = oq) (hp : ys.Perm ops) (hg : w.grownBy wq (some g)) (hW : (putOp (putOp wq g P oq) g Q op).drew = W) :
    ORow W g ((ys.set P oq).set Q op) ∧ ((ys.set P oq).set Q op).length = ys.length ∧ ((ys.set P oq).set Q op).Perm ops ∧ w.grownBy W (some g) := by
  subst hW
  subst ep
  subst eq
  have hQ' : Q < (ys.set P ys[Q]).length := by rw [List.length_set]; exact hQ
  exact ⟨((h.put hP _).put hQ' _).drew1, by rw [List.length_set, List.length_set], swap_perm hP hQ hp, grown_drew1 (grown_then (grown_then hg (grown_putOp _ _ _ _)) (grown_putOp _ _ _ _))⟩
theorem turn_in (t : Int) (n : Nat) (hn : 0 < n) (hb : n ≤ 1000000) : ∃ q : Nat, wrap64 ((IntKind.u64.wrap t).tmod (n : Int)) = (q : Int) ∧ q < n := by
  have h0 : 0 ≤ IntKind.u64.wrap t := by unfold IntKind.wrap; simp only [IntKind.bits, IntKind.signed]; simp; omega
  generalize IntKind.u64.wrap t = x at *
  have h1 : x.tmod (n : Int) = x % (n : Int) := Int.tmod_eq_emod_of_nonneg h0
  have h2 := Int.emod_nonneg x (show (n : Int) ≠ 0 by omega)
  have h3 := Int.emod_lt_of_pos x (show (0 : Int) < (n : Int) by omega)
  rw [h1]
  refine ⟨(x % (n : Int)).toNat, ?_, by omega⟩
  rw [IntWalk.wrap64_in _ (by omega)]
  omega
def intL : Lay Int := ⟨fun x => [.int .i64 x], 1, fun _ => rfl, by intro o u hu; simp at hu; subst hu; rfl⟩
theorem fold_one_24 : ∀ (l : List Kop) {M : List Pr}, Sorted M → M.length ≤ 24 → Sorted (l.foldl one1 M) ∧ (l.foldl one1 M).length ≤ 24
  | [], _, h, hl => ⟨h, hl⟩
  | o :: l, _, h, hl => fold_one_24 l (one1_sorted h o) (doo_24 h hl _ _ _)
theorem fold_one_step (f : Kop → Bool) (M : List Pr) {l : List Kop} {i : Nat} {o : Kop} (h : l[i]? = some o) : ((l.take (i + 1)).filter f).foldl one1 M = if f o = true then one1 (((l.take i).filter f).foldl one1 M) o else ((l.take i).filter f).foldl one1 M := by
  rw [List.take_add_one, h, List.filter_append, List.foldl_append]
  cases hf : f o <;> simp [hf]
end Go.Proofs.Ytdfjnpnkfjcpcaa
