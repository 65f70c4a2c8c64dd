/-
  DigestSums walked.
-/
import Derived.Test.YtcbgnmolfdhnfaaCl
namespace Go.Proofs.Ytcbgnmolfdhnfaa
set_option linter.unusedVariables false
set_option linter.unusedSimpArgs false
open Go.RowKit Go.Joins

theorem fine_sum {k v : ByteArray} (hk : k.size ≤ 140737488351232) (hv : v.size ≤ 140737488351232) (h : Fine (k, v)) : k.size + v.size + 18 ≤ 140737488355328 := by
  have h' : min k.size 8192 + min v.size 8192 ≤ 8192 := h
  omega
theorem fine_of {k v : ByteArray} (h : FineL [[(k, v)]]) : Fine (k, v) := (h _ (List.mem_singleton.2 rfl)).2 _ (List.mem_singleton.2 rfl)
theorem one_lists (W : World) (k v : ByteArray) : LsIn ((W.alloc (.cells #[.string k, .string v] 27)).alloc (.cells #[.slice (some ⟨W.heap.size, 0, none⟩) 1 1] 29)) (.slice (some ⟨W.heap.size + 1, 0, none⟩) 1 1) [[(k, v)]] := by
  refine ⟨_, 1, rfl, .inr ⟨W.heap.size + 1, 0, rfl, fun i l hl => ?_⟩⟩
  rcases i with _ | i
  · cases hl
    refine ⟨.slice (some ⟨W.heap.size, 0, none⟩) 1 1, by go_simp, Lay.In.later (w := W.alloc (.cells #[.string k, .string v] 27)) ?_ (below_alloc _ _)⟩
    refine ⟨_, 1, rfl, Nat.le_refl _, by decide, .inr ⟨W.heap.size, 0, rfl, by simp, fun i x hx j u hu => ?_⟩⟩
    rcases i with _ | i
    · cases hx
      rcases j with _ | _ | j
      · cases hu; go_simp
      · cases hu; go_simp
      · simp [prL] at hu
    · simp at hx
  · simp at hl

set_option maxRecDepth 100000 in
set_option maxHeartbeats 6400000 in
theorem Sums_any {w : World} {a b : Nat} {p : Option Addr} {n c : Nat} {xs : List Int} {k v : ByteArray} (ha : a < 18446744073709551616) (hb : b < 18446744073709551616) (hi : Lib.BytesIn w p n xs) (hx : xs.length = n) (ho : Oct xs) (hp : p = none → n = 0 ∧ c = 0)
    (hk : k.size ≤ 140737488351232) (hv : v.size ≤ 140737488351232) :
    Calls Try.prog 3 #[.agg #[.int .u64 a, .int .u64 b], .slice p n c, .agg #[.string k, .string v]] w fun e w' => e = .returned (.bool true) ∧ Below w.heap.size w w' := by
  go_enter Try.func3, Try.ntmps3
  go_upto_region 1 with fail
  have HB : Hid (Below w.heap.size w ((w.alloc (.cells #[.int .u64 a, .int .u64 b] 24)).alloc (.cells #[.string k, .string v] 27))) := Lib.hid (((Below.refl _ _).alloc (Nat.le_refl _) _).alloc (by simp) _)
  have HF : Hid (C4 ((w.alloc (.cells #[.int .u64 a, .int .u64 b] 24)).alloc (.cells #[.string k, .string v] 27)) w.heap.size a b k v) := by
    refine Lib.hid ⟨?_, ?_, ?_, ?_⟩ <;> go_simp
  have HI := Lib.hid (in_later hi HB.out)
  have HO := Lib.hid ho
  have HX := Lib.hid hx
  have HP := Lib.hid hp
  clear hi ho hx hp
  generalize (w.alloc (.cells #[.int .u64 a, .int .u64 b] 24)).alloc (.cells #[.string k, .string v] 27) = W at *
  generalize hg : w.heap.size = g at *
  obtain ⟨hc0, hc1, hc2, hc3⟩ := HF.out
  by_cases hn : n ≤ 8192
  · have hnI : ¬ (8192 : Int) < (n : Int) := by omega
    have HL := Lib.hid (one_lists W k v)
    have HBL : Hid (Below W.heap.size W ((W.alloc (.cells #[.string k, .string v] 27)).alloc (.cells #[.slice (some ⟨W.heap.size, 0, none⟩) 1 1] 29))) := Lib.hid (((Below.refl _ _).alloc (Nat.le_refl _) _).alloc (by simp) _)
    have HSh := Lib.hid (short_any HL.out (by simp))
    clear HL
    go_wp2_with fail
    go_fit HSh.out
    rintro e w1 ⟨bb, rfl, hfine, hb1⟩
    have HFi := Lib.hid hfine
    have HB1 : Hid (Below W.heap.size W w1) := Lib.hid (HBL.out.trans (hb1.mono HBL.out.size))
    clear hfine hb1 HBL HSh
    cases bb
    · clear hc0 hc1 hc2 hc3
      go_wp2_with fail
      go_fit (awake_any w1)
      rintro e w2 ⟨rfl, hb2⟩
      have HB2 : Hid (Below W.heap.size W w2) := Lib.hid (HB1.out.trans (hb2.mono HB1.out.size))
      clear hb2
      go_wp2_with fail
      go_ret
      subst hg
      exact ⟨rfl, HB.out.trans (HB2.out.mono HB.out.size)⟩
    · have hkv := fine_sum hk hv (fine_of (HFi.out rfl))
      have HKV := Lib.hid hkv
      have HI1 := Lib.hid (in_later HI.out HB1.out)
      have HCl := Lib.hid (CloneU_any p n c xs w1 HX.out HI1.out HP.out (by omega))
      clear hkv HFi
      go_wp2_with fail
      go_fit HCl.out
      rintro e w2 ⟨hb2, a2, c2, rfl, hi2, hcap⟩
      have HB2 : Hid (Below W.heap.size W w2) := Lib.hid (HB1.out.trans (hb2.mono HB1.out.size))
      have hdr : Below w2.heap.size w2 w2.drew := ⟨rfl, rfl, rfl, Nat.le_refl _, fun _ _ => rfl⟩
      have HB3 : Hid (Below W.heap.size W w2.drew) := Lib.hid (HB2.out.trans (hdr.mono HB2.out.size))
      have hF2 := HF.out.later HB2.out
      obtain ⟨y0, y1, y2, y3⟩ := hF2
      have HF3 := Lib.hid (HF.out.later HB3.out)
      have HA3 := Lib.hid (in_later hi2 hdr)
      have HI3 := Lib.hid (in_later HI.out HB3.out)
      have HCap := Lib.hid hcap
      have HNN : Hid (n ≤ 140737488355328) := by show _ ≤ _; omega
      have HC1 := Lib.hid (Sum_any ha hb HA3.out HX.out HO.out hcap HNN.out)
      have HKK : Hid (k.size ≤ 140737488355328) := by show _ ≤ _; omega
      clear hb2 hi2 hdr HCl hc0 hc1 hc2 hc3 HI1 HB1 hcap
      go_upto_region 4 with fail
      go_region_held3 (fun V => V.cell? ⟨g, 0, none⟩ = some (.int .u64 a) ∧ V.cell? ⟨g, 1, none⟩ = some (.int .u64 b) ∧ V.cell? ⟨g + 1, 0, none⟩ = some (.string k) ∧ V.cell? ⟨g + 1, 1, none⟩ = some (.string v)) (go_keep)
        (first
          | (go_at_call 13; (with_reducible refine HC1.out.mono ?_); rintro e w3 ⟨rfl, hb3⟩; have HF4 := Lib.hid (HF3.out.later hb3); have HB4 := Lib.hid (HB3.out.trans (hb3.mono HB3.out.size)); have HI4 := Lib.hid (in_later HI3.out hb3); have HA4 := Lib.hid (in_later HA3.out hb3); have HC2 := Lib.hid (RSum_any (c := c) ha hb HI4.out HX.out HO.out HNN.out); obtain ⟨z0, z1, z2, z3⟩ := HF4.out; clear hb3)
          | (go_at_call 14; (with_reducible refine HC2.out.mono ?_); rintro e w4 ⟨rfl, hb4⟩; have HF5 := Lib.hid (HF4.out.later hb4); have HB5 := Lib.hid (HB4.out.trans (hb4.mono HB4.out.size)); have HI5 := Lib.hid (in_later HI4.out hb4); have HA5 := Lib.hid (in_later HA4.out hb4); have HC3 := Lib.hid (Place_any (w := w4) (s := k) ha hb HKK.out); clear z0 z1 z2 z3; obtain ⟨z0, z1, z2, z3⟩ := HF5.out; clear hb4)
          | (go_at_call 15; (with_reducible refine HC3.out.mono ?_); rintro e w5 ⟨rfl, hb5⟩; have HF6 := Lib.hid (HF5.out.later hb5); have HB6 := Lib.hid (HB5.out.trans (hb5.mono HB5.out.size)); have HI6 := Lib.hid (in_later HI5.out hb5); have HA6 := Lib.hid (in_later HA5.out hb5); have HC4 := Lib.hid (RPlace_any (w := w5) (s := k) ha hb HKK.out); clear z0 z1 z2 z3; obtain ⟨z0, z1, z2, z3⟩ := HF6.out; clear hb5)
          | (go_at_call 16; (with_reducible refine HC4.out.mono ?_); rintro e w6 ⟨rfl, hb6⟩; have HF7 := Lib.hid (HF6.out.later hb6); have HB7 := Lib.hid (HB6.out.trans (hb6.mono HB6.out.size)); have HI7 := Lib.hid (in_later HI6.out hb6); have HA7 := Lib.hid (in_later HA6.out hb6); have HC5 := Lib.hid (Pair_big (w := w6) ha hb HKV.out); clear z0 z1 z2 z3; obtain ⟨z0, z1, z2, z3⟩ := HF7.out; clear hb6)
          | (go_at_call 17; (with_reducible refine HC5.out.mono ?_); rintro e w7 ⟨rfl, hb7⟩; have HF8 := Lib.hid (HF7.out.later hb7); have HB8 := Lib.hid (HB7.out.trans (hb7.mono HB7.out.size)); have HI8 := Lib.hid (in_later HI7.out hb7); have HA8 := Lib.hid (in_later HA7.out hb7); have HC6 := Lib.hid (RPair_big (w := w7) ha hb HKV.out); clear z0 z1 z2 z3; obtain ⟨z0, z1, z2, z3⟩ := HF8.out; clear hb7)
          | (go_at_call 18; (with_reducible refine HC6.out.mono ?_); rintro e w8 ⟨rfl, hb8⟩; have HF9 := Lib.hid (HF8.out.later hb8); have HB9 := Lib.hid (HB8.out.trans (hb8.mono HB8.out.size)); have HI9 := Lib.hid (in_later HI8.out hb8); have HA9 := Lib.hid (in_later HA8.out hb8); have HC7 := Lib.hid (EqS_any a2 n c2 p c xs w8 HX.out (by omega) HA9.out HI9.out); clear z0 z1 z2 z3; obtain ⟨z0, z1, z2, z3⟩ := HF9.out; clear hb8)
          | (go_at_call 19; (with_reducible refine HC7.out.mono ?_); rintro e w9 ⟨rfl, hb9⟩; have HFA := Lib.hid (HF9.out.later hb9); have HBA := Lib.hid (HB9.out.trans (hb9.mono HB9.out.size)); clear z0 z1 z2 z3; obtain ⟨z0, z1, z2, z3⟩ := HFA.out; clear hb9)
          | (go_at_call 11; (with_reducible refine (awake_any _).mono ?_); rintro e wA ⟨rfl, hbA⟩; have HFB := Lib.hid (HFA.out.later hbA); have HBB := Lib.hid (HBA.out.trans (hbA.mono HBA.out.size)); clear z0 z1 z2 z3; obtain ⟨z0, z1, z2, z3⟩ := HFB.out; clear hbA))
      all_goals
        clear z0 z1 z2 z3 y0 y1 y2 y3
        go_wp2_with fail
        go_ret
        subst hg
        exact ⟨rfl, HB.out.trans (HBB.out.mono HB.out.size)⟩
  · have hnI : (8192 : Int) < (n : Int) := by omega
    clear hc0 hc1 hc2 hc3
    go_wp2_with fail
    go_fit (awake_any W)
    rintro e w2 ⟨rfl, hb2⟩
    have HB2 := Lib.hid hb2
    clear hb2
    go_wp2_with fail
    go_ret
    subst hg
    exact ⟨rfl, HB.out.trans (HB2.out.mono HB.out.size)⟩
end Go.Proofs.Ytcbgnmolfdhnfaa
