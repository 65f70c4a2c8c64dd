/-
  Places, and digests of pairs.
-/
import Derived.Test.YtdgnjalbpiciiaaD9
import Derived.Lib.ConvBytes
import Derived.Deep.RegionHeld3
namespace Go.Proofs.Ytdgnjalbpiciiaa.Dg
open Go.Proofs.Ytdgnjalbpiciiaa
set_option linter.unusedVariables false
set_option linter.unusedSimpArgs false
open Go.RowKit Go.Joins

theorem oct_sb (s : ByteArray) : Oct (Wi.sb s) := fun x hx => by
  unfold Wi.sb at hx
  obtain ⟨b, _, rfl⟩ := List.mem_map.1 hx
  have := b.toNat_lt
  omega
theorem conv_bytes (s : ByteArray) (W : World) : ∃ c W', (convert 9 66 (.string s)).run Try.prog W = .ok (.slice (some ⟨W.heap.size, 0, none⟩) s.size c) W' ∧ s.size ≤ c ∧ Lib.BytesIn W' (some ⟨W.heap.size, 0, none⟩) s.size (Wi.sb s) ∧ Below W.heap.size W W' := by
  refine ⟨_, _, Lib.run_convert_string_bytes W 9 66 5 s Try.underlying9 Try.underlying66 Try.underlying5, ?_, ?_, ?_⟩
  · exact grownCap_ge _ _ _ _
  · intro hn
    refine ⟨_, _, rfl, fun i hi => ?_⟩
    rw [Nat.zero_add, Lib.bytesWorld_cell W _ s i hi]
    simp [Wi.sb, hi]
  · refine ⟨rfl, rfl, rfl, by rw [Lib.bytesWorld_size]; omega, fun k hk => Lib.bytesWorld_at_old W _ s k hk⟩

set_option maxRecDepth 100000 in
set_option maxHeartbeats 1600000 in
theorem Place_any {w : World} {a b : Nat} {s : ByteArray} (ha : a < 18446744073709551616) (hb : b < 18446744073709551616) (hn : s.size ≤ 140737488355328) :
    Calls Try.prog 60 #[.agg #[.int .u64 a, .int .u64 b], .string s] w fun e w' => e = .returned (.int .u64 (sumN a b (Wi.sb s) : Nat)) ∧ Below w.heap.size w w' := by
  go_enter Try.func60, Try.ntmps60
  go_upto_region 1 with fail
  have HB : Hid (Below w.heap.size w (w.alloc (.cells #[.int .u64 a, .int .u64 b] 88))) := Lib.hid ((Below.refl _ _).alloc (Nat.le_refl _) _)
  have hc0 : (w.alloc (.cells #[.int .u64 a, .int .u64 b] 88)).cell? ⟨w.heap.size, 0, none⟩ = some (.int .u64 a) := by go_simp
  have hc1 : (w.alloc (.cells #[.int .u64 a, .int .u64 b] 88)).cell? ⟨w.heap.size, 1, none⟩ = some (.int .u64 b) := by go_simp
  generalize w.alloc (.cells #[.int .u64 a, .int .u64 b] 88) = W at *
  obtain ⟨c, W', hcv, hc, hin, hbl⟩ := conv_bytes s W
  have HC := Lib.hid hc
  have HI := Lib.hid hin
  have HL := Lib.hid hbl
  have HBW : Hid (Below w.heap.size w W') := Lib.hid (HB.out.trans (hbl.mono HB.out.size))
  clear hc hin hbl
  go_wp2_with fail
  go_fit (Sum_any ha hb HI.out (Wi.sb_length s) (oct_sb s) HC.out hn)
  rintro e w3 ⟨rfl, h3⟩
  go_wp2_with fail
  go_ret
  exact ⟨rfl, HBW.out.trans (h3.mono HBW.out.size)⟩
set_option maxRecDepth 100000 in
set_option maxHeartbeats 1600000 in
theorem RPlace_any {w : World} {a b : Nat} {s : ByteArray} (ha : a < 18446744073709551616) (hb : b < 18446744073709551616) (hn : s.size ≤ 140737488355328) :
    Calls Try.prog 61 #[.agg #[.int .u64 a, .int .u64 b], .string s] w fun e w' => e = .returned (.int .u64 (sumN a b (Wi.sb s) : Nat)) ∧ Below w.heap.size w w' := by
  go_enter Try.func61, Try.ntmps61
  go_upto_region 1 with fail
  have HB : Hid (Below w.heap.size w (w.alloc (.cells #[.int .u64 a, .int .u64 b] 88))) := Lib.hid ((Below.refl _ _).alloc (Nat.le_refl _) _)
  have hc0 : (w.alloc (.cells #[.int .u64 a, .int .u64 b] 88)).cell? ⟨w.heap.size, 0, none⟩ = some (.int .u64 a) := by go_simp
  have hc1 : (w.alloc (.cells #[.int .u64 a, .int .u64 b] 88)).cell? ⟨w.heap.size, 1, none⟩ = some (.int .u64 b) := by go_simp
  generalize w.alloc (.cells #[.int .u64 a, .int .u64 b] 88) = W at *
  obtain ⟨c, W', hcv, hc, hin, hbl⟩ := conv_bytes s W
  have HC := Lib.hid hc
  have HI := Lib.hid hin
  have HL := Lib.hid hbl
  have HBW : Hid (Below w.heap.size w W') := Lib.hid (HB.out.trans (hbl.mono HB.out.size))
  clear hc hin hbl
  go_wp2_with fail
  go_fit (RSum_any ha hb HI.out (Wi.sb_length s) (oct_sb s) hn)
  rintro e w3 ⟨rfl, h3⟩
  go_wp2_with fail
  go_ret
  exact ⟨rfl, HBW.out.trans (h3.mono HBW.out.size)⟩

/-- A pair's bytes. -/
def pairB (k v : ByteArray) : List Int := ([] ++ Wi.num k.size ++ Wi.sb k) ++ Wi.num v.size ++ Wi.sb v
theorem oct_num {u : Nat} (h : u ≤ 9223372036854775807) : Oct (Wi.num u) := Wi.num_byte u h
theorem oct_app {xs ys : List Int} (h : Oct xs) (g : Oct ys) : Oct (xs ++ ys) := fun x hx => (List.mem_append.1 hx).elim (h x) (g x)
theorem oct_pair {k v : ByteArray} (hk : k.size ≤ 1073741824) (hv : v.size ≤ 1073741824) : Oct (pairB k v) :=
  oct_app (oct_app (oct_app (oct_app (fun x hx => by simp at hx) (oct_num (by omega))) (oct_sb k)) (oct_num (by omega))) (oct_sb v)
theorem pairB_len {k v : ByteArray} (hk : k.size ≤ 1073741824) (hv : v.size ≤ 1073741824) : (pairB k v).length ≤ k.size + v.size + 18 := by
  have h1 := Wi.num_le k.size (by omega)
  have h2 := Wi.num_le v.size (by omega)
  unfold pairB
  simp only [List.length_append, Wi.sb_length, List.length_nil]
  omega

/-- A seed and a pair in their cells. -/
structure C4 (V : World) (g a b : Nat) (k v : ByteArray) : Prop where
  c0 : V.cell? ⟨g, 0, none⟩ = some (.int .u64 a)
  c1 : V.cell? ⟨g, 1, none⟩ = some (.int .u64 b)
  c2 : V.cell? ⟨g + 1, 0, none⟩ = some (.string k)
  c3 : V.cell? ⟨g + 1, 1, none⟩ = some (.string v)
theorem C4.later {V V' : World} {g a b : Nat} {k v : ByteArray} (h : C4 V g a b k v) (hb : Below V.heap.size V V') : C4 V' g a b k v :=
  ⟨(hb.cell (p := ⟨g, 0, none⟩) (World.block_lt_of_cell? V _ h.c0)).trans h.c0, (hb.cell (p := ⟨g, 1, none⟩) (World.block_lt_of_cell? V _ h.c1)).trans h.c1, (hb.cell (p := ⟨g + 1, 0, none⟩) (World.block_lt_of_cell? V _ h.c2)).trans h.c2, (hb.cell (p := ⟨g + 1, 1, none⟩) (World.block_lt_of_cell? V _ h.c3)).trans h.c3⟩
theorem text2_len {k : ByteArray} {n1 : Nat} (h : ([] ++ Wi.num k.size ++ Wi.sb k).length = n1) (hk : k.size ≤ 1073741824) {v : ByteArray} (hv : v.size ≤ 1073741824) : n1 + v.size + 9 ≤ 140737488355328 := by
  have := Wi.num_le k.size (by omega)
  simp only [List.length_append, Wi.sb_length, List.length_nil] at h
  omega
theorem pair_len {k v : ByteArray} {n2 : Nat} (h : (([] ++ Wi.num k.size ++ Wi.sb k) ++ Wi.num v.size ++ Wi.sb v).length = n2) (hk : k.size ≤ 1073741824) (hv : v.size ≤ 1073741824) : n2 ≤ 140737488355328 := by
  have := pairB_len hk hv
  unfold pairB at this
  omega
theorem owns_cap {w : World} {B n g c : Nat} {xs : List Value} (h : w.ownsRow B 5 1 (.slice (some ⟨g, 0, none⟩) n c) n xs) : n ≤ c := by
  rcases h.2 with ⟨h0, _⟩ | ⟨g', cap, cur, hv, _, _, hn, hm, _⟩
  · cases h0
  · simp only [Value.slice.injEq] at hv
    obtain ⟨_, _, rfl⟩ := hv
    exact hn

end Go.Proofs.Ytdgnjalbpiciiaa.Dg
