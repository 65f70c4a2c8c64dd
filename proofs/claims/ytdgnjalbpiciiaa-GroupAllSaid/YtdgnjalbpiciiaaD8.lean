/-
  The document's digest of bytes, walked.
-/
import Derived.Test.YtdgnjalbpiciiaaD7
namespace Go.Proofs.Ytdgnjalbpiciiaa.Dg
open Go.Proofs.Ytdgnjalbpiciiaa
set_option linter.unusedVariables false
set_option linter.unusedSimpArgs false
open Go.RowKit Go.Joins

theorem At4.later {w0 w w' : World} {g : Nat} {s : W4} (h : At4 w0 w g s) (hb : Below w.heap.size w w') : At4 w' w' g s := by
  have hl : g < w.heap.size := World.block_lt_of_cell? w _ h.a
  exact ⟨(hb.cell (p := ⟨g, 0, none⟩) hl).trans h.a, (hb.cell (p := ⟨g, 1, none⟩) hl).trans h.b, (hb.cell (p := ⟨g, 2, none⟩) hl).trans h.c, (hb.cell (p := ⟨g, 3, none⟩) hl).trans h.d, fun i => (hb.frozen (p := ⟨g, i, none⟩) hl).trans (h.fz i), Below.refl _ _, fun _ _ => rfl⟩
theorem At4.lt {w0 w : World} {g : Nat} {s : W4} (h : At4 w0 w g s) : g < w.heap.size := World.block_lt_of_cell? w _ h.a
theorem At4.all {w0 w : World} {g : Nat} {s : W4} (h : At4 w0 w g s) (t : W4) : At4 w0 ((((w.setCell ⟨g, 0, none⟩ (.int .u64 t.a)).setCell ⟨g, 1, none⟩ (.int .u64 t.b)).setCell ⟨g, 2, none⟩ (.int .u64 t.c)).setCell ⟨g, 3, none⟩ (.int .u64 t.d)) g t :=
  (((h.puta t.a).putb t.b).putc t.c).putd t.d
theorem at4_zero {w : World} {g : Nat} (HR : w.heap[g]? = some (.cells #[.int .u64 0, .int .u64 0, .int .u64 0, .int .u64 0] 117)) : At4 w w g ⟨0, 0, 0, 0⟩ :=
  ⟨cell_of_block HR 0, cell_of_block HR 1, cell_of_block HR 2, cell_of_block HR 3, fun i => unfrozen_of_block HR i, Below.refl _ _, fun _ _ => rfl⟩
theorem At4.of_block {w w' : World} {g : Nat} {s : W4} (h : At4 w w g s) (hb : w'.heap[g]? = w.heap[g]?) : At4 w' w' g s :=
  ⟨(World.cell?_of_block (a := ⟨g, 0, none⟩) hb).trans h.a, (World.cell?_of_block (a := ⟨g, 1, none⟩) hb).trans h.b, (World.cell?_of_block (a := ⟨g, 2, none⟩) hb).trans h.c, (World.cell?_of_block (a := ⟨g, 3, none⟩) hb).trans h.d, fun i => (World.frozen?_of_block (a := ⟨g, i, none⟩) hb).trans (h.fz i), Below.refl _ _, fun _ _ => rfl⟩
theorem At4.other {w w1 : World} {g g' : Nat} {s t : W4} (h : At4 w w g s) (k : At4 w w1 g' t) (hn : g ≠ g') : At4 w1 w1 g s := h.of_block (k.ab g hn)

set_option maxRecDepth 100000 in
set_option maxHeartbeats 1600000 in
theorem eat_any {w : World} {s : W4} {m : Nat} (ho : s.Ok) (hm : m < 18446744073709551616) : Calls Try.prog 99 #[s.val, .int .u64 m] w fun e w' => e = .returned (s.take m).val ∧ Below w.heap.size w w' := by
  have HO := Lib.hid ho
  have HP := Lib.hid (ho.pre hm)
  have qx := Lib.hid (show bits .xor .u64 (s.d : Int) (m : Int) = (((s.pre m).d : Nat) : Int) from xorw ho.2.2.2 hm)
  have c1 := fun (w : World) => rmix_any (w := w) HP.out
  have c2 := fun (w : World) => rmix_any (w := w) HP.out.mix
  have qy := Lib.hid (show bits .xor .u64 ((s.pre m).mix.mix.a : Int) (m : Int) = (((s.take m).a : Nat) : Int) from xorw HP.out.mix.mix.1 hm)
  clear ho
  unfold W4.val at c1 c2 ⊢
  have C1 := Lib.hid c1
  have C2 := Lib.hid c2
  clear c1 c2
  go_enter Try.func99, Try.ntmps99
  go_upto_region 1 with fail
  have HA : Hid (At4 ((w.alloc (.cells #[.int .u64 s.a, .int .u64 s.b, .int .u64 s.c, .int .u64 s.d] 117)).alloc (.cells #[.int .u64 0, .int .u64 0, .int .u64 0, .int .u64 0] 117)) ((w.alloc (.cells #[.int .u64 s.a, .int .u64 s.b, .int .u64 s.c, .int .u64 s.d] 117)).alloc (.cells #[.int .u64 0, .int .u64 0, .int .u64 0, .int .u64 0] 117)) w.heap.size s) := by
    refine Lib.hid ⟨?_, ?_, ?_, ?_, ?_, Below.refl _ _, fun _ _ => rfl⟩
    all_goals first | (go_simp; done) | (intro i; go_simp)
  have HB : Hid (Below w.heap.size w ((w.alloc (.cells #[.int .u64 s.a, .int .u64 s.b, .int .u64 s.c, .int .u64 s.d] 117)).alloc (.cells #[.int .u64 0, .int .u64 0, .int .u64 0, .int .u64 0] 117))) := Lib.hid (((Below.refl _ _).alloc (Nat.le_refl _) _).alloc (by simp) _)
  have HR : Hid (((w.alloc (.cells #[.int .u64 s.a, .int .u64 s.b, .int .u64 s.c, .int .u64 s.d] 117)).alloc (.cells #[.int .u64 0, .int .u64 0, .int .u64 0, .int .u64 0] 117)).heap[w.heap.size + 1]? = some (.cells #[.int .u64 0, .int .u64 0, .int .u64 0, .int .u64 0] 117)) := Lib.hid (heap_alloc2 _ _ _)
  have HZ := Lib.hid (at4_zero HR.out)
  generalize (w.alloc (.cells #[.int .u64 s.a, .int .u64 s.b, .int .u64 s.c, .int .u64 s.d] 117)).alloc (.cells #[.int .u64 0, .int .u64 0, .int .u64 0, .int .u64 0] 117) = W at *
  generalize hg : w.heap.size = g at *
  clear HR
  have qd := HA.out.d
  have qz := HA.out.fz 3
  go_upto_region 2 with fail
  rw [qx.out]
  have H1 : Hid (At4 W (W.setCell ⟨g, 3, none⟩ (.int .u64 ((s.pre m).d : Nat))) g (s.pre m)) := Lib.hid (HA.out.putd _)
  have Z1 := Lib.hid (HZ.out.other H1.out (by omega))
  clear HA qd qz qx HZ
  generalize W.setCell ⟨g, 3, none⟩ (.int .u64 ((s.pre m).d : Nat)) = w1 at *
  have qa := H1.out.a; have qb := H1.out.b; have qc := H1.out.c; have qd := H1.out.d
  go_wp2_with fail
  go_fit (C1.out w1)
  rintro e w2 ⟨rfl, h2⟩
  have B2 := Lib.hid h2
  clear h2 qa qb qc qd
  go_wp2_with fail
  go_fit (C2.out w2)
  rintro e w3 ⟨rfl, h3⟩
  have B3 : Hid (Below w1.heap.size w1 w3) := Lib.hid (B2.out.trans (h3.mono B2.out.size))
  have H3 := Lib.hid (H1.out.later B3.out)
  have Z3 := Lib.hid (Z1.out.later B3.out)
  have qa := H3.out.a; have qb := H3.out.b; have qc := H3.out.c; have qd := H3.out.d
  have za := H3.out.fz 0; have zb := H3.out.fz 1; have zc := H3.out.fz 2; have zd := H3.out.fz 3
  clear h3 B2
  go_upto_region 3 with fail
  have H4 := Lib.hid (H3.out.all (s.pre m).mix.mix)
  have Z4 := Lib.hid (Z3.out.other H4.out (by omega))
  clear qa qb qc qd za zb zc zd
  generalize (((w3.setCell ⟨g, 0, none⟩ (.int .u64 (s.pre m).mix.mix.a)).setCell ⟨g, 1, none⟩ (.int .u64 (s.pre m).mix.mix.b)).setCell ⟨g, 2, none⟩ (.int .u64 (s.pre m).mix.mix.c)).setCell ⟨g, 3, none⟩ (.int .u64 (s.pre m).mix.mix.d) = w4 at *
  have qa := H4.out.a
  have za := H4.out.fz 0
  go_upto_region 4 with fail
  rw [qy.out]
  have H5 : Hid (At4 w3 (w4.setCell ⟨g, 0, none⟩ (.int .u64 ((s.take m).a : Nat))) g (s.take m)) := Lib.hid (H4.out.puta _)
  have Z5 := Lib.hid (Z4.out.other (H4.out.base.puta ((s.take m).a)) (by omega))
  clear Z4 H4 qa za
  generalize w4.setCell ⟨g, 0, none⟩ (.int .u64 ((s.take m).a : Nat)) = w5 at *
  have qa := H5.out.a; have qb := H5.out.b; have qc := H5.out.c; have qd := H5.out.d
  have ra := Z5.out.a; have rb := Z5.out.b; have rc := Z5.out.c; have rd := Z5.out.d
  have za := Z5.out.fz 0; have zb := Z5.out.fz 1; have zc := Z5.out.fz 2; have zd := Z5.out.fz 3
  have Z6 := Lib.hid (Z5.out.all (s.take m))
  have et : Hid ((s.pre m).mix.mix.b = (s.take m).b ∧ (s.pre m).mix.mix.c = (s.take m).c ∧ (s.pre m).mix.mix.d = (s.take m).d) := Lib.hid ⟨rfl, rfl, rfl⟩
  have HF := Lib.hid (((HB.out.trans H1.out.be).trans (B3.out.mono (by have := H1.out.lt; omega))).trans (H5.out.be.trans (Z6.out.be.mono (Nat.le_succ g))))
  clear H5 Z5 H1 Z1 HB B3 Z3 H3
  go_wp2_with fail
  generalize (((w5.setCell ⟨g + 1, 0, none⟩ (.int .u64 (s.take m).a)).setCell ⟨g + 1, 1, none⟩ (.int .u64 (s.take m).b)).setCell ⟨g + 1, 2, none⟩ (.int .u64 (s.take m).c)).setCell ⟨g + 1, 3, none⟩ (.int .u64 (s.take m).d) = WZ at *
  clear qa qb qc qd ra rb rc rd za zb zc zd
  have d0 := Z6.out.a; have d1 := Z6.out.b; have d2 := Z6.out.c; have d3 := Z6.out.d
  refine bodyPost_ret (v := .agg #[.int .u64 (s.take m).a, .int .u64 (s.take m).b, .int .u64 (s.take m).c, .int .u64 (s.take m).d]) ?_ rfl ?_
  · rw [results_cell rfl]
    go_simp
  · exact ⟨rfl, hg ▸ HF.out⟩
end Go.Proofs.Ytdgnjalbpiciiaa.Dg
