/-
  What a part that is not parted is the digest of, walked.
-/
import Derived.Test.YtcbgnmolfdhnfaaG2
namespace Go.Proofs.Ytcbgnmolfdhnfaa
set_option linter.unusedVariables false
set_option linter.unusedSimpArgs false
open Go.RowKit

def SlimP (S : List Pl) : Prop := ∀ p ∈ S, p.1.2.size + p.2.size + 18 ≤ 140737488355328
noncomputable def Sd.sums (s : Sd) (S : List Pl) : List Int := S.flatMap fun p => Wi.be (s.pair p.1.2 p.2) 8
noncomputable def Sd.leafB (s : Sd) (S : List Pl) : List Int := Wi.num S.length ++ s.sums S
theorem Sd.sums_len (s : Sd) : ∀ S : List Pl, (s.sums S).length = 8 * S.length
  | [] => rfl
  | p :: S => by
    have := Sd.sums_len s S
    unfold Sd.sums at this ⊢
    rw [List.flatMap_cons, List.length_append, this, Wi.be_length, List.length_cons]
    omega
theorem Sd.sums_step (s : Sd) {S : List Pl} {i : Nat} {p : Pl} (h : S[i]? = some p) : s.sums (S.take (i + 1)) = s.sums (S.take i) ++ Wi.be (s.pair p.1.2 p.2) 8 := by
  unfold Sd.sums
  rw [List.take_add_one, h, List.flatMap_append]
  simp
theorem oct_be (u k : Nat) : Oct (Wi.be u k) := Wi.be_byte u k
theorem Sd.oct_sums (s : Sd) (S : List Pl) : Oct (s.sums S) := fun x hx => by
  obtain ⟨p, _, hp⟩ := List.mem_flatMap.1 hx
  exact oct_be _ _ x hp
theorem Sd.oct_leaf (s : Sd) (S : List Pl) (h : S.length ≤ 100000) : Oct (s.leafB S) := oct_app (oct_num (by omega)) (s.oct_sums S)
theorem Sd.pair_lt {s : Sd} (h : s.Ok) {k v : ByteArray} (hkv : k.size + v.size + 18 ≤ 140737488355328) : s.pair k v < 18446744073709551616 := sumN_lt h.1 h.2 (oct_pair_big hkv)
/-- Bytes that are told. -/
def Bytes (xs : List Int) (w : World) (e : Ending) (w' : World) : Prop := ∃ a n c, e = .returned (.slice a n c) ∧ Lib.BytesIn w' a n xs ∧ xs.length = n ∧ n ≤ c ∧ Below w.heap.size w w'

set_option maxRecDepth 100000 in
set_option maxHeartbeats 6400000 in
theorem pairBytes_any {w : World} {s : Sd} {v : Value} {S : List Pl} (hs : s.Ok) (h : plL.In w v S) (hl : S.length ≤ 100000) (hsl : SlimP S) :
    Calls Try.prog 75 #[.agg #[.int .u64 s.a, .int .u64 s.b], v] w (Bytes (s.leafB S) w) := by
  have HS := Lib.hid hs
  have HIn := Lib.hid h
  have HSL := Lib.hid hsl
  obtain ⟨a, c, rfl, hc1, hc2, _⟩ := h
  obtain ⟨n, hn⟩ : ∃ n, n = S.length := ⟨_, rfl⟩
  rw [← hn] at HIn hl hc1 ⊢
  have HN := Lib.hid hn
  clear hs hsl hn
  have HB1 := Lib.hid (below_alloc w (.cells #[.int .u64 s.a, .int .u64 s.b] 24))
  have k0 : (w.alloc (.cells #[.int .u64 s.a, .int .u64 s.b] 24)).cell? ⟨w.heap.size, 0, none⟩ = some (.int .u64 s.a) := by go_simp
  have k1 : (w.alloc (.cells #[.int .u64 s.a, .int .u64 s.b] 24)).cell? ⟨w.heap.size, 1, none⟩ = some (.int .u64 s.b) := by go_simp
  go_enter Try.func75, Try.ntmps75
  go_upto_region 1 with fail
  generalize w.alloc (.cells #[.int .u64 s.a, .int .u64 s.b] 24) = w1 at *
  have HK := Lib.hid (show w1.cell? ⟨w.heap.size, 0, none⟩ = some (.int .u64 s.a) ∧ w1.cell? ⟨w.heap.size, 1, none⟩ = some (.int .u64 s.b) from ⟨k0, k1⟩)
  clear k0 k1
  have HC := Lib.hid (Wi.Number_any none 0 0 [] (n : Int) w1 rfl (fun h => by cases h) (fun _ => ⟨rfl, rfl⟩) (by omega) (by omega))
  go_wp2_with fail
  go_fit HC.out
  rintro e w2 ⟨g2, n2, c2, rfl, hown2, hb2⟩
  rw [List.nil_append, Int.toNat_natCast] at hown2
  have HRa : Hid (BRw w1 w2 (.slice (some ⟨g2, 0, none⟩) n2 c2) (Wi.num n ++ s.sums (S.take 0))) := by
    refine Lib.hid ⟨?_, hb2⟩
    have e0 : Wi.num n ++ s.sums (S.take 0) = Wi.num n := by simp [Sd.sums]
    rw [e0, Wi.owns_len hown2]; exact hown2
  clear hown2 hb2 HC
  go_wp2_with fail
  go_loopw [5, 13] (fun u v wr => ∃ (j : Nat), v = .int .i64 j ∧ j ≤ n ∧ Hid (BRw w1 wr u (Wi.num n ++ s.sums (S.take j)))) (fun _ v _ => n - (intOf v).toNat)
  case atStart => exact ⟨0, rfl, Nat.zero_le _, HRa⟩
  case round =>
    obtain ⟨j, rfl, hjn, hrow⟩ := hrel
    clear HRa
    have ej : IntKind.i64.wrap ((j : Int) + 1) = (j : Int) + 1 := IntWalk.i64_in _ (by omega)
    by_cases hlt : j < n
    · obtain ⟨p, hp⟩ : ∃ p, S[j]? = some p := ⟨S[j]'(by rw [← HN.out]; exact hlt), List.getElem?_eq_getElem _⟩
      obtain ⟨⟨d, k⟩, x⟩ := p
      have HP := Lib.hid (s.sums_step hp)
      have HSp := Lib.hid (HSL.out _ (List.mem_of_getElem? hp))
      have hbw := (HB1.out.trans (hrow.out.grown.mono HB1.out.size))
      obtain ⟨g, off, rfl, hnl, hat⟩ := (HIn.out.later hbw).cells hp
      have c0 : wr.cell? ⟨g, off + j * 3, none⟩ = some (.string k) := hat 0 _ rfl
      have c1 : wr.cell? ⟨g, off + j * 3 + 1, none⟩ = some (.string x) := hat 1 _ rfl
      have c2 : wr.cell? ⟨g, off + j * 3 + 2, none⟩ = some (.int .u64 d) := hat 2 _ rfl
      have k0 := cell_later (below_alloc wr (.cells #[.string k, .string x, .int .u64 d] 118)) (cell_later hrow.out.grown HK.out.1)
      have k1 := cell_later (below_alloc wr (.cells #[.string k, .string x, .int .u64 d] 118)) (cell_later hrow.out.grown HK.out.2)
      have HR2 := Lib.hid (hrow.out.below (below_alloc wr (.cells #[.string k, .string x, .int .u64 d] 118)))
      have f0 : (wr.alloc (.cells #[.string k, .string x, .int .u64 d] 118)).cell? ⟨wr.heap.size, 0, none⟩ = some (.string k) := by go_simp
      have f1 : (wr.alloc (.cells #[.string k, .string x, .int .u64 d] 118)).cell? ⟨wr.heap.size, 1, none⟩ = some (.string x) := by go_simp
      have HL : Hid ((Wi.num n ++ s.sums (S.take j)).length ≤ 1000000000) := by
        refine Lib.hid ?_
        have h1 := Wi.num_le n (by omega)
        have h2 : (S.take j).length ≤ j := List.length_take_le _ _
        rw [List.length_append, Sd.sums_len]
        omega
      have HPr := Lib.hid (fun W => Pair_big (w := W) (k := k) (v := x) HS.out.1 HS.out.2 HSp.out)
      have HPl := Lib.hid (Sd.pair_lt HS.out HSp.out)
      clear hp hat hnl hbw hrow
      go_upto_region 5 with fail
      clear c0 c1 c2
      generalize wr.alloc (.cells #[.string k, .string x, .int .u64 d] 118) = V at *
      go_wp2_with fail
      go_fit (HPr.out V)
      rintro e w3 ⟨rfl, hb3⟩
      have HR3 := Lib.hid (HR2.out.below hb3)
      clear hb3 k0 k1 f0 f1
      go_wp2_with fail
      go_fit (addDigest_any HR3.out HPl.out HL.out)
      rintro e w4 ⟨g4, c4, rfl, hr4, hg4⟩
      have HR4 : Hid (BRw w1 w4 (.slice (some ⟨g4, 0, none⟩) (Wi.num n ++ s.sums (S.take j) ++ Wi.be (s.pair k x) 8).length c4) (Wi.num n ++ s.sums (S.take (j + 1)))) := by
        refine Lib.hid ?_
        rw [HP.out, ← List.append_assoc]
        exact hr4
      clear hr4 hg4
      go_wp2_with fail
      exact ⟨⟨j + 1, by push_cast; rfl, by omega, by have h := HR4.out; simp only [List.length_append, Nat.add_assoc] at h; exact Lib.hid h⟩, by simp [intOf]; omega⟩
    · obtain rfl : j = n := by omega
      have hS : S.take j = S := List.take_of_length_le (by have := HN.out; omega)
      rw [hS] at hrow
      have HLf : Hid (Wi.num j ++ s.sums S = s.leafB S) := by refine Lib.hid ?_; unfold Sd.leafB; rw [HN.out]
      rw [HLf.out] at hrow
      obtain ⟨ua, uc, rfl, huc, _⟩ := hrow.out.slice
      go_wp2_with fail
      go_ret
      exact ⟨_, _, _, rfl, hrow.out.inn rfl, rfl, huc, HB1.out.trans (hrow.out.grown.mono HB1.out.size)⟩
end Go.Proofs.Ytcbgnmolfdhnfaa
