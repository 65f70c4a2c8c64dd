/-
  A tree asked; what two sides have told one another.
-/
import Derived.Test.YtcbgnmolfdhnfaaH7
namespace Go.Proofs.Ytcbgnmolfdhnfaa
set_option linter.unusedVariables false
set_option linter.unusedSimpArgs false
open Go.RowKit

set_option maxRecDepth 100000 in
set_option maxHeartbeats 800000 in
theorem ready_any {s : Sd} {w : World} {tb : Nat} {S : List Pl} (h : TrIn s w tb S) : Calls Try.prog 50 #[.pointer (some ⟨tb, 0, none⟩)] w fun e w' => e = .returned (.bool true) ∧ w = w' := by
  have hm := h.m
  clear h
  go_enter Try.func50, Try.ntmps50
  go_wp2_with fail
  go_ret
  exact ⟨rfl, rfl⟩
set_option maxRecDepth 100000 in
set_option maxHeartbeats 800000 in
theorem Root_any {s : Sd} {w : World} {tb : Nat} {S : List Pl} (h : TrIn s w tb S) : Calls Try.prog 23 #[.pointer (some ⟨tb, 0, none⟩)] w fun e w' => e = .returned (.int .u64 (s.tr 4 S : Nat)) ∧ w = w' := by
  have HR := Lib.hid (ready_any h)
  obtain ⟨q, hq, hp⟩ := h.q
  have HT := Lib.hid (told_any hp)
  clear h hp
  go_enter Try.func23, Try.ntmps23
  go_wp2_with fail
  go_fit HR.out
  rintro e w' ⟨rfl, rfl⟩
  go_wp2_with fail
  go_fit HT.out
  rintro e w' ⟨rfl, rfl⟩
  go_wp2_with fail
  go_ret
  exact ⟨rfl, rfl⟩
set_option maxRecDepth 100000 in
set_option maxHeartbeats 800000 in
theorem Len_any {s : Sd} {w : World} {tb : Nat} {S : List Pl} (h : TrIn s w tb S) : Calls Try.prog 25 #[.pointer (some ⟨tb, 0, none⟩)] w fun e w' => e = .returned (.int .i64 S.length) ∧ w = w' := by
  have HR := Lib.hid (ready_any h)
  obtain ⟨q, hq, hp⟩ := h.q
  have HT := Lib.hid (pairs_any hp)
  clear h hp
  go_enter Try.func25, Try.ntmps25
  go_wp2_with fail
  go_fit HR.out
  rintro e w' ⟨rfl, rfl⟩
  go_wp2_with fail
  go_fit HT.out
  rintro e w' ⟨v, rfl, rfl, hin⟩
  obtain ⟨a, c, rfl, _, _⟩ := hin.slice
  clear hin
  go_wp2_with fail
  go_ret
  exact ⟨rfl, rfl⟩

def strL : Lay ByteArray := ⟨fun s => [.string s], 1, fun _ => rfl, by intro q u hu; simp at hu; rw [hu]; rfl⟩
theorem Try.infoString : (Try.prog.info? 9).map (fun i => (i.zero, i.size, i.bytes)) = some (some (.string ByteArray.empty), 1, 16) := by kernel_rfl
/-- What two sides told one another, in memory. -/
structure Sz (w : World) (M sb dg pr : Nat) (kv : Value) (ks : List ByteArray) : Prop where
  d : w.cell? ⟨sb, 0, none⟩ = some (.int .i64 dg)
  p : w.cell? ⟨sb, 1, none⟩ = some (.int .i64 pr)
  k : w.cell? ⟨sb, 2, none⟩ = some kv
  z : ∀ j, w.frozen? ⟨sb, j, none⟩ = false
  own : w.ownsRow M 9 1 kv ks.length (strL.all ks)
  m : M ≤ sb
  ne : kv.ownBlock ≠ some sb
variable {w w' : World} {M sb dg pr : Nat} {kv : Value} {ks : List ByteArray}
theorem Sz.below (h : Sz w M sb dg pr kv ks) (hb : Below w.heap.size w w') : Sz w' M sb dg pr kv ks :=
  ⟨cell_later hb h.d, cell_later hb h.p, cell_later hb h.k, fun j => (hb.frozen (p := ⟨sb, j, none⟩) (show sb < w.heap.size from World.block_lt_of_cell? w ⟨sb, 0, none⟩ h.d)).trans (h.z j), row_below h.own hb, h.m, h.ne⟩
theorem Sz.lt (h : Sz w M sb dg pr kv ks) : sb < w.heap.size := World.block_lt_of_cell? w _ h.d
theorem row_set {w : World} {B size n b o : Nat} {E : TypeId} {v x : Value} {xs : List Value} (h : w.ownsRow B E size v n xs) (hn : v.ownBlock ≠ some b) : (w.setCell ⟨b, o, none⟩ x).ownsRow B E size v n xs :=
  h.kept (row := some b) ⟨rfl, rfl, rfl, by simp [World.setCell], fun k _ hk => heap_setCell_other _ _ _ _ (fun e => hk (by rw [e]))⟩ (.inr hn)
theorem Sz.setd (h : Sz w M sb dg pr kv ks) (x : Nat) : Sz (w.setCell ⟨sb, 0, none⟩ (.int .i64 x)) M sb x pr kv ks :=
  ⟨World.cell?_setCell_same _ _ _ h.d, (World.cell?_setCell_other _ _ _ _ (by simp)).trans h.p, (World.cell?_setCell_other _ _ _ _ (by simp)).trans h.k, fun j => (World.frozen?_setCell _ _ _ _).trans (h.z j), row_set h.own h.ne, h.m, h.ne⟩
theorem Sz.setp (h : Sz w M sb dg pr kv ks) (x : Nat) : Sz (w.setCell ⟨sb, 1, none⟩ (.int .i64 x)) M sb dg x kv ks :=
  ⟨(World.cell?_setCell_other _ _ _ _ (by simp)).trans h.d, World.cell?_setCell_same _ _ _ h.p, (World.cell?_setCell_other _ _ _ _ (by simp)).trans h.k, fun j => (World.frozen?_setCell _ _ _ _).trans (h.z j), row_set h.own h.ne, h.m, h.ne⟩
/-- One key more. -/
theorem Sz.push {w4 : World} {g4 c4 n : Nat} {x : ByteArray} (h : Sz w M sb dg pr kv ks) (hn : n = ks.length + 1) (hown : w4.ownsRow M 9 1 (.slice (some ⟨g4, 0, none⟩) n c4) n (strL.all ks ++ [.string x])) (hg : w.grownBy w4 kv.ownBlock) (hat : kv.ownBlock = some g4 ∨ w.heap.size ≤ g4) :
    Sz (w4.setCell ⟨sb, 2, none⟩ (.slice (some ⟨g4, 0, none⟩) n c4)) M sb dg pr (.slice (some ⟨g4, 0, none⟩) n c4) (ks ++ [x]) := by
  have hlt := h.lt
  have hs : w4.heap[sb]? = w.heap[sb]? := hg.block sb hlt (fun e => h.ne e.symm)
  have hne : (Value.slice (some ⟨g4, 0, none⟩) n c4).ownBlock ≠ some sb := fun e => by
    have e := Option.some.inj e
    simp only at e
    subst e
    rcases hat with e | e
    · exact h.ne e
    · omega
  refine ⟨(World.cell?_setCell_other _ _ _ _ (by simp)).trans ((World.cell?_of_block (a := ⟨sb, 0, none⟩) hs).trans h.d), (World.cell?_setCell_other _ _ _ _ (by simp)).trans ((World.cell?_of_block (a := ⟨sb, 1, none⟩) hs).trans h.p), World.cell?_setCell_same _ _ _ ((World.cell?_of_block (a := ⟨sb, 2, none⟩) hs).trans h.k), fun j => (World.frozen?_setCell _ _ _ _).trans ((World.frozen?_of_block (a := ⟨sb, j, none⟩) hs).trans (h.z j)), row_set ?_ hne, h.m, hne⟩
  have e : (ks ++ [x]).length = n := by rw [List.length_append, hn]; rfl
  rw [e, Lay.all_app, Lay.all_one]
  exact hown
theorem Sz.push_below {w4 : World} {g4 c4 n : Nat} (h : Sz w M sb dg pr kv ks) (hM : M ≤ w.heap.size) (hg : w.grownBy w4 kv.ownBlock) : Below M w (w4.setCell ⟨sb, 2, none⟩ (.slice (some ⟨g4, 0, none⟩) n c4)) :=
  (⟨hg.os, hg.tape, hg.output, hg.size, fun k hk => hg.block k (by omega) (fun e => by have := (h.own.lt k e.symm).1; omega)⟩ : Below M w w4).setCell h.m _
/-- 'append(s, nil...)'. -/
theorem wpList_cat0 {P : Program} {w : World} {bytes size : Nat} {zero : Value} {ops : Array Oper} {rest : List Oper} {o : Oper} {a : Act} {Q : Exit → Act → World → Prop} (hgd : o.guard = none) (s x : Operand) (T E : TypeId)
    (ho : o.op = .call { callee := .builtin .append, args := #[s, x], argTypes := #[T, T] })
    (hT : P.underlying T = some (.slice E)) (hinfo : (P.info? E).map (fun i => (i.zero, i.size, i.bytes)) = some (some zero, size, bytes))
    (ad : Addr) (n c : Nat) (hnc : n ≤ c) (hs : a.eval s = .slice (some ad) n c) (hx : a.eval x = .slice none 0 0)
    (hk : wpList P ops Q rest (a.put o.dst (.slice (some ad) n c)) w) : wpList P ops Q (o :: rest) a w := by
  refine wpList_plain hgd fun _ hK => ?_
  obtain ⟨i0, hi, hz0, hz1, hz2⟩ := info_parts hinfo
  have hr : (Builtin.append_ #[T, T] o.type #[.slice (some ad) n c, .slice none 0 0]).run P w = .ok (.slice (some ad) n c) w := by
    simp [Builtin.append_, run_underlying hT, sizeOf, typeInfo, hi, Builtin.lenOf, Builtin.firstCells, hnc, storeCells, loadCellsFrom, loadCells]
  unfold Oper.wp execOp
  simp only [ho, resolve, invoke, builtin, Sem.run_bind, Sem.run_pure, Result.andThen_ok, List.map_toArray, List.map_cons, List.map_nil, hs, hx, hr]
  exact hK _ _ hk
end Go.Proofs.Ytcbgnmolfdhnfaa
