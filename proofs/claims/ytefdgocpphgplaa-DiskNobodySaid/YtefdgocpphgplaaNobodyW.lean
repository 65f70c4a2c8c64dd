/-
  DiskNobody: the walk.
-/
import Derived.Test.YtefdgocpphgplaaG13
namespace Go.Proofs.Ytefdgocpphgplaa
set_option linter.unusedVariables false
set_option linter.unusedSimpArgs false
open Go.RowKit Go.Joins

def NK (op i k t : Int) (x : Value) : Obj := .cells #[.int .i64 op, .int .i64 i, .int .i64 k, .int .i64 t, x] 34
def ND : Obj := .cells #[.int .i64 0, .bool false, .slice none 0 0, .slice none 0 0, .slice none 0 0, .slice none 0 0, .slice none 0 0, .slice none 0 0, .slice none 0 0, .int .i64 0, .int .i64 0, .int .i64 0] 72
def NS (g : Nat) : Obj := .cells #[.pointer none, .pointer (some ⟨g, 0, none⟩)] 23

/-- What the law looks at. -/
structure Bn (w W : World) (op i k t : Int) (x : Value) : Prop where
  k0 : W.cell? ⟨w.heap.size, 0, none⟩ = some (.int .i64 op)
  k1 : W.cell? ⟨w.heap.size, 1, none⟩ = some (.int .i64 i)
  k2 : W.cell? ⟨w.heap.size, 2, none⟩ = some (.int .i64 k)
  k3 : W.cell? ⟨w.heap.size, 3, none⟩ = some (.int .i64 t)
  k4 : W.cell? ⟨w.heap.size, 4, none⟩ = some x
  s0 : W.cell? ⟨w.heap.size + 1 + 1, 0, none⟩ = some (.pointer none)
  s1 : W.cell? ⟨w.heap.size + 1 + 1, 1, none⟩ = some (.pointer (some ⟨w.heap.size + 1, 0, none⟩))
  d : NoD W (.pointer (some ⟨w.heap.size + 1, 0, none⟩))
  below : Below w.heap.size w W
theorem Bn.later {w W W' : World} {op i k t : Int} {x : Value} (h : Bn w W op i k t x) (hb : Below W.heap.size W W') : Bn w W' op i k t x :=
  ⟨cell_later hb h.k0, cell_later hb h.k1, cell_later hb h.k2, cell_later hb h.k3, cell_later hb h.k4, cell_later hb h.s0, cell_later hb h.s1, h.d.later hb, h.below.trans (hb.mono h.below.size)⟩
theorem bn_start (w : World) (op i k t : Int) (x : Value) : Bn w (((w.alloc (NK op i k t x)).alloc ND).alloc (NS (w.heap.size + 1))) op i k t x := by
  have b2 : Below ((w.alloc (NK op i k t x)).alloc ND).heap.size ((w.alloc (NK op i k t x)).alloc ND) (((w.alloc (NK op i k t x)).alloc ND).alloc (NS (w.heap.size + 1))) := (Below.refl _ _).alloc (Nat.le_refl _) _
  have b1 : Below (w.alloc (NK op i k t x)).heap.size (w.alloc (NK op i k t x)) (((w.alloc (NK op i k t x)).alloc ND).alloc (NS (w.heap.size + 1))) := ((Below.refl _ _).alloc (Nat.le_refl _) _).trans (b2.mono (by simp))
  have c1 : ∀ o, (w.alloc (NK op i k t x)).cell? ⟨w.heap.size, o, none⟩ = #[Value.int .i64 op, .int .i64 i, .int .i64 k, .int .i64 t, x][o]? := fun o => cell_alloc_mark_at w _ _ _ _ o rfl
  have c2 : ∀ o, ((w.alloc (NK op i k t x)).alloc ND).cell? ⟨w.heap.size + 1, o, none⟩ = #[Value.int .i64 0, .bool false, .slice none 0 0, .slice none 0 0, .slice none 0 0, .slice none 0 0, .slice none 0 0, .slice none 0 0, .slice none 0 0, .int .i64 0, .int .i64 0, .int .i64 0][o]? := fun o => cell_alloc_mark_at _ _ _ _ _ o (by simp)
  have c3 : ∀ o, (((w.alloc (NK op i k t x)).alloc ND).alloc (NS (w.heap.size + 1))).cell? ⟨w.heap.size + 1 + 1, o, none⟩ = #[Value.pointer none, .pointer (some ⟨w.heap.size + 1, 0, none⟩)][o]? := fun o => cell_alloc_mark_at _ _ _ _ _ o (by simp)
  exact ⟨cell_later b1 (by rw [c1]; rfl), cell_later b1 (by rw [c1]; rfl), cell_later b1 (by rw [c1]; rfl), cell_later b1 (by rw [c1]; rfl), cell_later b1 (by rw [c1]; rfl), by rw [c3]; rfl, by rw [c3]; rfl,
    .inr ⟨_, rfl, cell_later b2 (by rw [c2]; rfl), cell_later b2 (by rw [c2]; rfl), cell_later b2 (by rw [c2]; rfl), cell_later b2 (by rw [c2]; rfl)⟩, three w _ _ _⟩

set_option maxRecDepth 100000 in
set_option maxHeartbeats 6400000 in
theorem Nobody_walk (op i k t : Int) (a : Option Addr) (n c : Nat) (w : World) : Calls Try.prog 11 #[.agg #[.int .i64 op, .int .i64 i, .int .i64 k, .int .i64 t, .slice a n c]] w (Yes w) := by
  have HB := Lib.hid (bn_start w op i k t (.slice a n c))
  simp only [NK, ND, NS] at HB
  go_enter Try.func11, Try.ntmps11
  go_wp2_with fail
  generalize ((w.alloc _).alloc _).alloc _ = W at *
  refine wp_loop_rounds 3 ?_
  rw [rounds_succ]
  have y0 := HB.out.s0
  have y1 := HB.out.s1
  have y2 := HB.out.k1
  go_wp2_with fail
  go_fit (Look_no (.pointer none) i _ (.inl rfl))
  rintro e w1 ⟨rfl, rfl⟩
  go_wp2_with fail
  go_fit (Tape_no (.pointer none) _ (.inl rfl))
  rintro e w1 ⟨rfl, rfl⟩
  have z0 := HB.out.k0
  have z2 := HB.out.k2
  have z3 := HB.out.k3
  have z4 := HB.out.k4
  go_wp2_with fail
  go_fit (does_no (.pointer none) op i k t (.slice a n c) _ (.inl rfl))
  rintro e w1 ⟨rfl, hb⟩
  replace HB := Lib.hid (HB.out.later hb)
  clear hb y0 y1 y2 z0 z2 z3 z4
  go_wp2_with fail
  go_fit (Used_no (.pointer none) _ (.inl rfl))
  rintro e w1 ⟨rfl, hb⟩
  replace HB := Lib.hid (HB.out.later hb)
  clear hb
  go_wp2_with fail
  rw [rounds_succ]
  have y0 := HB.out.s0
  have y1 := HB.out.s1
  have y2 := HB.out.k1
  go_wp2_with fail
  go_fit (Look_no _ i _ HB.out.d)
  rintro e w1 ⟨rfl, rfl⟩
  go_wp2_with fail
  go_fit (Tape_no _ _ HB.out.d)
  rintro e w1 ⟨rfl, rfl⟩
  have z0 := HB.out.k0
  have z2 := HB.out.k2
  have z3 := HB.out.k3
  have z4 := HB.out.k4
  go_wp2_with fail
  go_fit (does_no _ op i k t (.slice a n c) _ HB.out.d)
  rintro e w1 ⟨rfl, hb⟩
  replace HB := Lib.hid (HB.out.later hb)
  clear hb y0 y1 y2 z0 z2 z3 z4
  go_wp2_with fail
  go_fit (Used_no _ _ HB.out.d)
  rintro e w1 ⟨rfl, hb⟩
  replace HB := Lib.hid (HB.out.later hb)
  clear hb
  go_wp2_with fail
  rw [rounds_succ]
  go_wp2_with fail
  go_fit (Clone_no (.pointer none) _ (.inl rfl))
  rintro e w9 ⟨rfl, rfl⟩
  go_wp2_with fail
  go_fit (awake_any _)
  rintro e w9 ⟨rfl, hb⟩
  have HB9 := Lib.hid (HB.out.below.trans (hb.mono HB.out.below.size))
  clear hb
  go_wp2_with fail
  go_ret
  exact ⟨rfl, HB9.out⟩
theorem Nobody_any (k : Kd) (a : Option Addr) (c : Nat) (w : World) : Calls Try.prog 11 #[.agg #[.int .i64 k.op, .int .i64 k.i, .int .i64 k.keep, .int .i64 k.tear, .slice a k.b.length c]] w (Yes w) := Nobody_walk _ _ _ _ _ _ _ w
end Go.Proofs.Ytefdgocpphgplaa
