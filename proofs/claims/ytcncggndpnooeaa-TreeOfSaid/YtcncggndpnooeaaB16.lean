/-
  Walks: the calls of a tree that make trees, or tell pairs. (Written by gentree16.py.)
-/
import Derived.Test.YtcncggndpnooeaaB15
namespace Go.Proofs.Ytcncggndpnooeaa
set_option linter.unusedVariables false
set_option linter.unusedSimpArgs false
open Go.RowKit

set_option maxRecDepth 100000 in
set_option maxHeartbeats 1600000 in
theorem Put_any {w : World} {t : T} {v : Option Addr} (k x : ByteArray) (h : Tr w w.heap.size t v) (g : Good t 500000000) : Calls Try.prog 54 #[.pointer v, .string k, .string x] w (Grows w (T.IsPut t (k, x))) := by
  have H := Lib.hid h
  have G := Lib.hid g
  clear h g
  go_enter Try.func54, Try.ntmps54
  go_wp2_with fail
  go_fit (top_any H.out)
  rintro e w' ⟨⟨z, rfl, hk⟩, rfl⟩
  have K := Lib.hid hk
  clear hk
  go_wp2_with fail
  go_fit (put_any (k, x) G.out.bal G.out.sorted (by have := G.out.size; omega) w z K.out)
  rintro e w1 ⟨v1, t1, rfl, hq, hk1, hb1⟩
  have HE : Hid (Grows w (T.IsPut t (k, x)) (.returned (.pointer (some ⟨w1.heap.size, 0, none⟩))) (w1.alloc (.cells #[.pointer v1] 79))) := ⟨_, t1, rfl, hq, tree_made hk1, hb1.trans ((below_alloc w1 _).mono hb1.size)⟩
  clear hq hk1 hb1
  go_wp2_with fail
  go_ret
  exact HE.out

set_option maxRecDepth 100000 in
set_option maxHeartbeats 1600000 in
theorem Union_any {w : World} {a b : T} {u v : Option Addr} (h1 : Tr w w.heap.size a u) (h2 : Tr w w.heap.size b v) (g1 : Good a 500000000) (g2 : Good b 500000000) : Calls Try.prog 45 #[.pointer u, .pointer v] w (Grows w (fun t => T.Two T.fU a b t ∧ t.size ≤ a.size + b.size)) := by
  have H1 := Lib.hid h1
  have H2 := Lib.hid h2
  have G1 := Lib.hid g1
  have G2 := Lib.hid g2
  clear h1 h2 g1 g2
  go_enter Try.func45, Try.ntmps45
  go_wp2_with fail
  go_fit (top_any H1.out)
  rintro e w' ⟨⟨z1, rfl, hk⟩, rfl⟩
  have K1 := Lib.hid hk
  clear hk
  go_wp2_with fail
  go_fit (top_any H2.out)
  rintro e w' ⟨⟨z2, rfl, hk⟩, rfl⟩
  have K2 := Lib.hid hk
  clear hk
  go_wp2_with fail
  go_fit (union_any K1.out K2.out G1.out G2.out)
  rintro e w1 ⟨v1, t1, rfl, hq, hk1, hb1⟩
  have HE : Hid (Grows w (fun t => T.Two T.fU a b t ∧ t.size ≤ a.size + b.size) (.returned (.pointer (some ⟨w1.heap.size, 0, none⟩))) (w1.alloc (.cells #[.pointer v1] 79))) := ⟨_, t1, rfl, hq, tree_made hk1, hb1.trans ((below_alloc w1 _).mono hb1.size)⟩
  clear hq hk1 hb1
  go_wp2_with fail
  go_ret
  exact HE.out

set_option maxRecDepth 100000 in
set_option maxHeartbeats 1600000 in
theorem Minus_any {w : World} {a b : T} {u v : Option Addr} (h1 : Tr w w.heap.size a u) (h2 : Tr w w.heap.size b v) (g1 : Good a 500000000) (g2 : Good b 500000000) : Calls Try.prog 46 #[.pointer u, .pointer v] w (Grows w (fun t => T.Two T.fM a b t ∧ t.size ≤ a.size)) := by
  have H1 := Lib.hid h1
  have H2 := Lib.hid h2
  have G1 := Lib.hid g1
  have G2 := Lib.hid g2
  clear h1 h2 g1 g2
  go_enter Try.func46, Try.ntmps46
  go_wp2_with fail
  go_fit (top_any H1.out)
  rintro e w' ⟨⟨z1, rfl, hk⟩, rfl⟩
  have K1 := Lib.hid hk
  clear hk
  go_wp2_with fail
  go_fit (top_any H2.out)
  rintro e w' ⟨⟨z2, rfl, hk⟩, rfl⟩
  have K2 := Lib.hid hk
  clear hk
  go_wp2_with fail
  go_fit (minus_any K1.out K2.out G1.out G2.out)
  rintro e w1 ⟨v1, t1, rfl, hq, hk1, hb1⟩
  have HE : Hid (Grows w (fun t => T.Two T.fM a b t ∧ t.size ≤ a.size) (.returned (.pointer (some ⟨w1.heap.size, 0, none⟩))) (w1.alloc (.cells #[.pointer v1] 79))) := ⟨_, t1, rfl, hq, tree_made hk1, hb1.trans ((below_alloc w1 _).mono hb1.size)⟩
  clear hq hk1 hb1
  go_wp2_with fail
  go_ret
  exact HE.out

set_option maxRecDepth 100000 in
set_option maxHeartbeats 1600000 in
theorem Both_any {w : World} {a b : T} {u v : Option Addr} (h1 : Tr w w.heap.size a u) (h2 : Tr w w.heap.size b v) (g1 : Good a 500000000) (g2 : Good b 500000000) : Calls Try.prog 47 #[.pointer u, .pointer v] w (Grows w (fun t => T.Two T.fB a b t ∧ t.size ≤ a.size)) := by
  have H1 := Lib.hid h1
  have H2 := Lib.hid h2
  have G1 := Lib.hid g1
  have G2 := Lib.hid g2
  clear h1 h2 g1 g2
  go_enter Try.func47, Try.ntmps47
  go_wp2_with fail
  go_fit (top_any H1.out)
  rintro e w' ⟨⟨z1, rfl, hk⟩, rfl⟩
  have K1 := Lib.hid hk
  clear hk
  go_wp2_with fail
  go_fit (top_any H2.out)
  rintro e w' ⟨⟨z2, rfl, hk⟩, rfl⟩
  have K2 := Lib.hid hk
  clear hk
  go_wp2_with fail
  go_fit (both_any K1.out K2.out G1.out G2.out)
  rintro e w1 ⟨v1, t1, rfl, hq, hk1, hb1⟩
  have HE : Hid (Grows w (fun t => T.Two T.fB a b t ∧ t.size ≤ a.size) (.returned (.pointer (some ⟨w1.heap.size, 0, none⟩))) (w1.alloc (.cells #[.pointer v1] 79))) := ⟨_, t1, rfl, hq, tree_made hk1, hb1.trans ((below_alloc w1 _).mono hb1.size)⟩
  clear hq hk1 hb1
  go_wp2_with fail
  go_ret
  exact HE.out

set_option maxRecDepth 100000 in
set_option maxHeartbeats 1600000 in
theorem Diff_any {w : World} {a b : T} {u v : Option Addr} (h1 : Tr w w.heap.size a u) (h2 : Tr w w.heap.size b v) (g1 : Good a 500000000) (g2 : Good b 500000000) : Calls Try.prog 51 #[.pointer u, .pointer v] w (Diffs w.heap.size (.slice none 0 0) [] a b w) := by
  have H1 := Lib.hid h1
  have H2 := Lib.hid h2
  have G1 := Lib.hid g1
  have G2 := Lib.hid g2
  clear h1 h2 g1 g2
  go_enter Try.func51, Try.ntmps51
  go_wp2_with fail
  go_fit (top_any H1.out)
  rintro e w' ⟨⟨z1, rfl, hk⟩, rfl⟩
  have K1 := Lib.hid hk
  clear hk
  go_wp2_with fail
  go_fit (top_any H2.out)
  rintro e w' ⟨⟨z2, rfl, hk⟩, rfl⟩
  have K2 := Lib.hid hk
  clear hk
  go_wp2_with fail
  have HD := Lib.hid (diff_any w.heap.size G1.out w (.slice none 0 0) [] b _ _ (Nat.le_refl _) (World.ownsRow_nil _ _ _ _) K1.out K2.out G2.out (by have := G1.out.size; have := G2.out.size; simp only [List.length_nil]; omega))
  clear K1 K2 H1 H2 G1 G2
  go_fit HD.out
  rintro e w1 hd
  have HE := Lib.hid hd
  obtain ⟨v', ds, rfl, _⟩ := hd
  go_wp2_with fail
  go_ret
  exact HE.out

set_option maxRecDepth 100000 in
set_option maxHeartbeats 1600000 in
theorem Rank_any {w : World} {t : T} {v : Option Addr} (k : ByteArray) (h : Tr w w.heap.size t v) (g : Good t 500000000) : Calls Try.prog 36 #[.pointer v, .string k] w (fun e w' => e = .returned (.int .i64 (cnt t.list k : Nat)) ∧ Below w.heap.size w w') := by
  have H := Lib.hid h
  have G := Lib.hid g
  clear h g
  go_enter Try.func36, Try.ntmps36
  go_wp2_with fail
  go_fit (top_any H.out)
  rintro e w' ⟨⟨z, rfl, hk⟩, rfl⟩
  have K := Lib.hid hk
  clear hk
  go_wp2_with fail
  go_fit (rank_any k K.out (by have := G.out.size; omega) G.out.sorted)
  rintro e w1 ⟨rfl, hb⟩
  have HB := Lib.hid hb
  clear hb
  go_wp2_with fail
  go_ret
  exact ⟨rfl, HB.out⟩

/-- A pair, or that there is none. -/
def toldV (o : Option Pr) : Value := .tuple #[.agg #[.string (o.elim ByteArray.empty (·.1)), .string (o.elim ByteArray.empty (·.2))], .bool o.isSome]

set_option maxRecDepth 100000 in
set_option maxHeartbeats 1600000 in
theorem told_any {w : World} {h : Option Pr} {v : Option Addr} (H : Here w h v) : Calls Try.prog 66 #[.pointer v] w fun e w' => e = .returned (toldV h) ∧ Below w.heap.size w w' := by
  rcases H with ⟨rfl, rfl⟩ | ⟨p, a, c, rfl, hkn⟩
  · have HX := Lib.hid (box_alloc w { data := #[] } { data := #[] } 34)
    go_enter Try.func66, Try.ntmps66
    go_wp2_with fail
    have s0 := HX.out.c0
    have s1 := HX.out.c1
    (try simp only [Exit.inBlock, Exit.then])
    refine bodyPost_ret (v := toldV none) (by simp [results, Try.results66, go_sem, s0, s1, toldV]; rfl) rfl ?_
    exact ⟨rfl, below_alloc w _⟩
  · have HB := Lib.hid (below_alloc w (Obj.cells #[Value.string { data := #[] }, Value.string { data := #[] }] 34))
    have HX := Lib.hid (box_alloc w { data := #[] } { data := #[] } 34)
    obtain ⟨b, _, _, rfl, _, f0, f1, f2, f3, f4, f5, _, _⟩ := hkn.all HB.out
    clear f2 f3 f4 f5 hkn
    go_enter Try.func66, Try.ntmps66
    go_wp2_with fail
    generalize w.alloc (Obj.cells #[Value.string { data := #[] }, Value.string { data := #[] }] 34) = W at *
    go_wp2_with fail
    have x0 := HX.out.c0
    have x1 := HX.out.c1
    have x2 := HX.out.f0
    have x3 := HX.out.f1
    go_wp2_with fail
    first
      | (go_region_with (fail))
      | skip
    go_wp2_with fail
    all_goals
      have hsx := HX.out.store p.1 p.2
      have hsa := box_alloc w p.1 p.2 34
      have r0 := hsa.c0
      have r1 := hsa.c1
      have r0' : (w.alloc (Obj.cells #[Value.string p.1, Value.string p.2] 34)).drew.cell? ⟨w.heap.size, 0, none⟩ = some (.string p.1) := hsa.c0
      have r1' : (w.alloc (Obj.cells #[Value.string p.1, Value.string p.2] 34)).drew.cell? ⟨w.heap.size, 1, none⟩ = some (.string p.2) := hsa.c1
      have s0 := hsx.c0
      have s1 := hsx.c1
      (try simp only [Exit.inBlock, Exit.then])
      first
        | (refine bodyPost_ret (v := toldV (some p)) (by simp [results, Try.results66, go_sem, r0, r1, toldV]) rfl ?_; exact ⟨rfl, below_alloc w _⟩)
        | (refine bodyPost_ret (v := toldV (some p)) (by simp [results, Try.results66, go_sem, r0', r1', toldV]) rfl ?_; exact ⟨rfl, below_drew (below_alloc w _)⟩)
        | (refine bodyPost_ret (v := toldV (some p)) (by simp [results, Try.results66, go_sem, s0, s1, toldV]) rfl ?_; exact ⟨rfl, HB.out.trans (below_stored (Nat.le_refl _))⟩)
        | (have s0' : ((W.setCell ⟨w.heap.size, 0, none⟩ (.string p.1)).setCell ⟨w.heap.size, 1, none⟩ (.string p.2)).drew.cell? ⟨w.heap.size, 0, none⟩ = some (.string p.1) := hsx.c0; have s1' : ((W.setCell ⟨w.heap.size, 0, none⟩ (.string p.1)).setCell ⟨w.heap.size, 1, none⟩ (.string p.2)).drew.cell? ⟨w.heap.size, 1, none⟩ = some (.string p.2) := hsx.c1; refine bodyPost_ret (v := toldV (some p)) (by simp [results, Try.results66, go_sem, s0', s1', toldV]) rfl ?_; exact ⟨rfl, HB.out.trans (below_drew (below_stored (Nat.le_refl _)))⟩)

set_option maxRecDepth 100000 in
set_option maxHeartbeats 1600000 in
theorem At_any {w : World} {t : T} {v : Option Addr} (i : Int) (h : Tr w w.heap.size t v) (g : Good t 500000000) (hi : -9223372036854775808 ≤ i ∧ i ≤ 9223372036854775807) : Calls Try.prog 30 #[.pointer v, .int .i64 i] w (fun e w' => e = .returned (toldV (atI t i)) ∧ Below w.heap.size w w') := by
  have H := Lib.hid h
  have G := Lib.hid g
  have HI := Lib.hid hi
  clear h g hi
  have HA := Lib.hid (below_alloc w (Obj.cells #[Value.string { data := #[] }, Value.string { data := #[] }] 34))
  have HX := Lib.hid (box_alloc w { data := #[] } { data := #[] } 34)
  have H1 := Lib.hid (H.out.all HA.out)
  go_enter Try.func30, Try.ntmps30
  go_wp2_with fail
  generalize w.alloc (Obj.cells #[Value.string { data := #[] }, Value.string { data := #[] }] 34) = W at *
  go_fit (top_any H1.out)
  rintro e w' ⟨⟨z, rfl, hk⟩, rfl⟩
  have K := Lib.hid hk
  clear hk
  go_wp2_with fail
  go_fit (at_any i K.out (by have := G.out.size; omega) HI.out)
  rintro e w1 ⟨v1, rfl, hh, hb⟩
  have HB := Lib.hid hb
  have HT := Lib.hid (told_any hh)
  clear hb hh
  go_wp2_with fail
  go_fit HT.out
  rintro e w2 ⟨rfl, hb2⟩
  have HB2 := Lib.hid (HB.out.trans (hb2.mono HB.out.size))
  have HX2 := Lib.hid (HX.out.later HB2.out)
  clear hb2
  have x0 := HX2.out.c0
  have x1 := HX2.out.c1
  have x2 := HX2.out.f0
  have x3 := HX2.out.f1
  generalize htv : toldV (atI t i) = tv at *
  obtain ⟨a0, a1, a2, rfl⟩ : ∃ a0 a1 a2, tv = .tuple #[.agg #[.string a0, .string a1], .bool a2] := ⟨_, _, _, htv.symm⟩
  go_wp2_with fail
  have hsx := HX2.out.store a0 a1
  have s0 := hsx.c0
  have s1 := hsx.c1
  (try simp only [Exit.inBlock, Exit.then])
  refine bodyPost_ret (v := .tuple #[.agg #[.string a0, .string a1], .bool a2]) (by simp [results, Try.results30, go_sem, s0, s1]) rfl ?_
  exact ⟨by rw [htv], HA.out.trans ((HB2.out.mono HA.out.size).trans (below_stored (Nat.le_refl _)))⟩

set_option maxRecDepth 100000 in
set_option maxHeartbeats 1600000 in
theorem Floor_any {w : World} {t : T} {v : Option Addr} (k : ByteArray) (h : Tr w w.heap.size t v) (g : Good t 500000000)  : Calls Try.prog 32 #[.pointer v, .string k] w (fun e w' => e = .returned (toldV (flo t.list k)) ∧ Below w.heap.size w w') := by
  have H := Lib.hid h
  have G := Lib.hid g
  clear h g
  have HA := Lib.hid (below_alloc w (Obj.cells #[Value.string { data := #[] }, Value.string { data := #[] }] 34))
  have HX := Lib.hid (box_alloc w { data := #[] } { data := #[] } 34)
  have H1 := Lib.hid (H.out.all HA.out)
  go_enter Try.func32, Try.ntmps32
  go_wp2_with fail
  generalize w.alloc (Obj.cells #[Value.string { data := #[] }, Value.string { data := #[] }] 34) = W at *
  go_fit (top_any H1.out)
  rintro e w' ⟨⟨z, rfl, hk⟩, rfl⟩
  have K := Lib.hid hk
  clear hk
  go_wp2_with fail
  go_fit (floor_any k K.out G.out.sorted)
  rintro e w1 ⟨v1, rfl, hh, hb⟩
  have HB := Lib.hid hb
  have HT := Lib.hid (told_any hh)
  clear hb hh
  go_wp2_with fail
  go_fit HT.out
  rintro e w2 ⟨rfl, hb2⟩
  have HB2 := Lib.hid (HB.out.trans (hb2.mono HB.out.size))
  have HX2 := Lib.hid (HX.out.later HB2.out)
  clear hb2
  have x0 := HX2.out.c0
  have x1 := HX2.out.c1
  have x2 := HX2.out.f0
  have x3 := HX2.out.f1
  generalize htv : toldV (flo t.list k) = tv at *
  obtain ⟨a0, a1, a2, rfl⟩ : ∃ a0 a1 a2, tv = .tuple #[.agg #[.string a0, .string a1], .bool a2] := ⟨_, _, _, htv.symm⟩
  go_wp2_with fail
  have hsx := HX2.out.store a0 a1
  have s0 := hsx.c0
  have s1 := hsx.c1
  (try simp only [Exit.inBlock, Exit.then])
  refine bodyPost_ret (v := .tuple #[.agg #[.string a0, .string a1], .bool a2]) (by simp [results, Try.results32, go_sem, s0, s1]) rfl ?_
  exact ⟨by rw [htv], HA.out.trans ((HB2.out.mono HA.out.size).trans (below_stored (Nat.le_refl _)))⟩

set_option maxRecDepth 100000 in
set_option maxHeartbeats 1600000 in
theorem Ceil_any {w : World} {t : T} {v : Option Addr} (k : ByteArray) (h : Tr w w.heap.size t v) (g : Good t 500000000)  : Calls Try.prog 34 #[.pointer v, .string k] w (fun e w' => e = .returned (toldV (cei t.list k)) ∧ Below w.heap.size w w') := by
  have H := Lib.hid h
  have G := Lib.hid g
  clear h g
  have HA := Lib.hid (below_alloc w (Obj.cells #[Value.string { data := #[] }, Value.string { data := #[] }] 34))
  have HX := Lib.hid (box_alloc w { data := #[] } { data := #[] } 34)
  have H1 := Lib.hid (H.out.all HA.out)
  go_enter Try.func34, Try.ntmps34
  go_wp2_with fail
  generalize w.alloc (Obj.cells #[Value.string { data := #[] }, Value.string { data := #[] }] 34) = W at *
  go_fit (top_any H1.out)
  rintro e w' ⟨⟨z, rfl, hk⟩, rfl⟩
  have K := Lib.hid hk
  clear hk
  go_wp2_with fail
  go_fit (ceil_any k K.out G.out.sorted)
  rintro e w1 ⟨v1, rfl, hh, hb⟩
  have HB := Lib.hid hb
  have HT := Lib.hid (told_any hh)
  clear hb hh
  go_wp2_with fail
  go_fit HT.out
  rintro e w2 ⟨rfl, hb2⟩
  have HB2 := Lib.hid (HB.out.trans (hb2.mono HB.out.size))
  have HX2 := Lib.hid (HX.out.later HB2.out)
  clear hb2
  have x0 := HX2.out.c0
  have x1 := HX2.out.c1
  have x2 := HX2.out.f0
  have x3 := HX2.out.f1
  generalize htv : toldV (cei t.list k) = tv at *
  obtain ⟨a0, a1, a2, rfl⟩ : ∃ a0 a1 a2, tv = .tuple #[.agg #[.string a0, .string a1], .bool a2] := ⟨_, _, _, htv.symm⟩
  go_wp2_with fail
  have hsx := HX2.out.store a0 a1
  have s0 := hsx.c0
  have s1 := hsx.c1
  (try simp only [Exit.inBlock, Exit.then])
  refine bodyPost_ret (v := .tuple #[.agg #[.string a0, .string a1], .bool a2]) (by simp [results, Try.results34, go_sem, s0, s1]) rfl ?_
  exact ⟨by rw [htv], HA.out.trans ((HB2.out.mono HA.out.size).trans (below_stored (Nat.le_refl _)))⟩

end Go.Proofs.Ytcncggndpnooeaa
