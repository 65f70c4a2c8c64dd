/-
  Digests of pairs, of whatever length.
-/
import Derived.Test.YtcbgnmolfdhnfaaDA
import Derived.Lib.MinMax
namespace Go.Proofs.Ytcbgnmolfdhnfaa
set_option linter.unusedVariables false
set_option linter.unusedSimpArgs false
open Go.RowKit Go.Joins

theorem oct_pair_big {k v : ByteArray} (h : k.size + v.size + 18 ≤ 140737488355328) : Oct (pairB k v) :=
  oct_app (oct_app (oct_app (oct_app (fun x hx => by simp at hx) (oct_num (by omega))) (oct_sb k)) (oct_num (by omega))) (oct_sb v)
theorem text2_big {k : ByteArray} {n1 : Nat} (h : ([] ++ Wi.num k.size ++ Wi.sb k).length = n1) {v : ByteArray} (hkv : k.size + v.size + 18 ≤ 140737488355328) : n1 + v.size + 9 ≤ 140737488355328 := by
  have := Wi.num_le k.size (by omega)
  simp only [List.length_append, Wi.sb_length, List.length_nil] at h
  omega
theorem pair_big {k v : ByteArray} {n2 : Nat} (h : (([] ++ Wi.num k.size ++ Wi.sb k) ++ Wi.num v.size ++ Wi.sb v).length = n2) (hkv : k.size + v.size + 18 ≤ 140737488355328) : n2 ≤ 140737488355328 := by
  have h1 := Wi.num_le k.size (by omega)
  have h2 := Wi.num_le v.size (by omega)
  simp only [List.length_append, Wi.sb_length, List.length_nil] at h
  omega

set_option maxRecDepth 100000 in
set_option maxHeartbeats 3200000 in
theorem Pair_big {w : World} {a b : Nat} {k v : ByteArray} (ha : a < 18446744073709551616) (hb : b < 18446744073709551616) (hkv : k.size + v.size + 18 ≤ 140737488355328) :
    Calls Try.prog 17 #[.agg #[.int .u64 a, .int .u64 b], .agg #[.string k, .string v]] w fun e w' => e = .returned (.int .u64 (sumN a b (pairB k v) : Nat)) ∧ Below w.heap.size w w' := by
  go_enter Try.func17, Try.ntmps17
  go_upto_region 1 with fail
  have HB : Hid (Below w.heap.size w ((w.alloc (.cells #[.int .u64 a, .int .u64 b] 24)).alloc (.cells #[.string k, .string v] 27))) := Lib.hid (((Below.refl _ _).alloc (Nat.le_refl _) _).alloc (by simp) _)
  have HF : Hid (C4 ((w.alloc (.cells #[.int .u64 a, .int .u64 b] 24)).alloc (.cells #[.string k, .string v] 27)) w.heap.size a b k v) := by
    refine Lib.hid ⟨?_, ?_, ?_, ?_⟩ <;> go_simp
  generalize (w.alloc (.cells #[.int .u64 a, .int .u64 b] 24)).alloc (.cells #[.string k, .string v] 27) = W at *
  generalize hg : w.heap.size = g at *
  obtain ⟨hc0, hc1, hc2, hc3⟩ := HF.out
  have HB0 : Hid (Below W.heap.size W W.drew) := Lib.hid ⟨rfl, rfl, rfl, Nat.le_refl _, fun _ _ => rfl⟩
  have HF0 := Lib.hid (HF.out.later HB0.out)
  have HC1 := Lib.hid (Wi.Text_any none 0 0 [] k W.drew rfl (fun h => by cases h) (fun _ => ⟨rfl, rfl⟩) (by omega))
  go_region_held3 (fun V => V.cell? ⟨g, 0, none⟩ = some (.int .u64 a) ∧ V.cell? ⟨g, 1, none⟩ = some (.int .u64 b) ∧ V.cell? ⟨g + 1, 0, none⟩ = some (.string k) ∧ V.cell? ⟨g + 1, 1, none⟩ = some (.string v)) (go_keep)
    (first
      | (go_at_call 46; (with_reducible refine HC1.out.mono ?_); rintro e w1 ⟨g1, n1, c1, rfl, hown1, hb1⟩; have HL1 := Lib.hid (Wi.owns_len hown1); have HC2 := Lib.hid (Wi.Text_any (some ⟨g1, 0, none⟩) n1 c1 _ v w1 HL1.out (Wi.owns_in hown1) (fun h => by cases h) (text2_big HL1.out hkv)); have HF1 := Lib.hid (HF0.out.later hb1); have HB1 := Lib.hid hb1; obtain ⟨y0, y1, y2, y3⟩ := HF1.out; clear hown1 hb1)
      | (go_at_call 46; (with_reducible refine HC2.out.mono ?_); rintro e w2 ⟨g2, n2, c2, rfl, hown2, hb2⟩; have HL2 := Lib.hid (Wi.owns_len hown2); have HC3 := Lib.hid (Sum_any (xs := pairB k v) ha hb (Wi.owns_in hown2) HL2.out (oct_pair_big hkv) (owns_cap hown2) (pair_big HL2.out hkv)); have HF2 := Lib.hid (HF1.out.later hb2); have HB2 := Lib.hid hb2; obtain ⟨z0, z1, z2, z3⟩ := HF2.out; clear hown2 hb2)
      | (go_at_call 13; (with_reducible refine HC3.out.mono ?_); rintro e w3 ⟨rfl, hb3⟩; have HF3 := Lib.hid (HF2.out.later hb3); have HB3 := Lib.hid hb3; obtain ⟨x0, x1, x2, x3⟩ := HF3.out; clear hb3))
  all_goals
    subst hg
    go_wp2_with fail
    go_ret
    have h1 := HB.out.trans (HB0.out.mono HB.out.size)
    have h2 := h1.trans (HB1.out.mono h1.size)
    have h3 := h2.trans (HB2.out.mono h2.size)
    exact ⟨rfl, h3.trans (HB3.out.mono h3.size)⟩

set_option maxRecDepth 100000 in
set_option maxHeartbeats 3200000 in
theorem RPair_big {w : World} {a b : Nat} {k v : ByteArray} (ha : a < 18446744073709551616) (hb : b < 18446744073709551616) (hkv : k.size + v.size + 18 ≤ 140737488355328) :
    Calls Try.prog 18 #[.agg #[.int .u64 a, .int .u64 b], .agg #[.string k, .string v]] w fun e w' => e = .returned (.int .u64 (sumN a b (pairB k v) : Nat)) ∧ Below w.heap.size w w' := by
  go_enter Try.func18, Try.ntmps18
  go_upto_region 1 with fail
  have HB : Hid (Below w.heap.size w ((w.alloc (.cells #[.int .u64 a, .int .u64 b] 24)).alloc (.cells #[.string k, .string v] 27))) := Lib.hid (((Below.refl _ _).alloc (Nat.le_refl _) _).alloc (by simp) _)
  have HF : Hid (C4 ((w.alloc (.cells #[.int .u64 a, .int .u64 b] 24)).alloc (.cells #[.string k, .string v] 27)) w.heap.size a b k v) := by
    refine Lib.hid ⟨?_, ?_, ?_, ?_⟩ <;> go_simp
  generalize (w.alloc (.cells #[.int .u64 a, .int .u64 b] 24)).alloc (.cells #[.string k, .string v] 27) = W at *
  generalize hg : w.heap.size = g at *
  obtain ⟨hc0, hc1, hc2, hc3⟩ := HF.out
  have HB0 : Hid (Below W.heap.size W W.drew) := Lib.hid ⟨rfl, rfl, rfl, Nat.le_refl _, fun _ _ => rfl⟩
  have HF0 := Lib.hid (HF.out.later HB0.out)
  have HC1 := Lib.hid (Wi.RText_any none 0 0 [] k W.drew rfl (fun h => by cases h) (fun _ => ⟨rfl, rfl⟩) (by omega))
  go_region_held3 (fun V => V.cell? ⟨g, 0, none⟩ = some (.int .u64 a) ∧ V.cell? ⟨g, 1, none⟩ = some (.int .u64 b) ∧ V.cell? ⟨g + 1, 0, none⟩ = some (.string k) ∧ V.cell? ⟨g + 1, 1, none⟩ = some (.string v)) (go_keep)
    (first
      | (go_at_call 47; (with_reducible refine HC1.out.mono ?_); rintro e w1 ⟨g1, n1, c1, rfl, hown1, hb1⟩; have HL1 := Lib.hid (Wi.owns_len hown1); have HC2 := Lib.hid (Wi.RText_any (some ⟨g1, 0, none⟩) n1 c1 _ v w1 HL1.out (Wi.owns_in hown1) (fun h => by cases h) (text2_big HL1.out hkv)); have HF1 := Lib.hid (HF0.out.later hb1); have HB1 := Lib.hid hb1; obtain ⟨y0, y1, y2, y3⟩ := HF1.out; clear hown1 hb1)
      | (go_at_call 47; (with_reducible refine HC2.out.mono ?_); rintro e w2 ⟨g2, n2, c2, rfl, hown2, hb2⟩; have HL2 := Lib.hid (Wi.owns_len hown2); have HC3 := Lib.hid (RSum_any (c := c2) (xs := pairB k v) ha hb (Wi.owns_in hown2) HL2.out (oct_pair_big hkv) (pair_big HL2.out hkv)); have HF2 := Lib.hid (HF1.out.later hb2); have HB2 := Lib.hid hb2; obtain ⟨z0, z1, z2, z3⟩ := HF2.out; clear hown2 hb2)
      | (go_at_call 14; (with_reducible refine HC3.out.mono ?_); rintro e w3 ⟨rfl, hb3⟩; have HF3 := Lib.hid (HF2.out.later hb3); have HB3 := Lib.hid hb3; obtain ⟨x0, x1, x2, x3⟩ := HF3.out; clear hb3))
  all_goals
    subst hg
    go_wp2_with fail
    go_ret
    have h1 := HB.out.trans (HB0.out.mono HB.out.size)
    have h2 := h1.trans (HB1.out.mono h1.size)
    have h3 := h2.trans (HB2.out.mono h2.size)
    exact ⟨rfl, h3.trans (HB3.out.mono h3.size)⟩
end Go.Proofs.Ytcbgnmolfdhnfaa
