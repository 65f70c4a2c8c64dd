/-
  DigestParts walked. (Written by genpartsw.py.)
-/
import Derived.Test.YtcbgnmolfdhnfaaGreatPA
namespace Go.Proofs.YtcbgnmolfdhnfaaGreat
set_option linter.unusedVariables false
set_option linter.unusedSimpArgs false
open Go.RowKit Go.Joins

theorem pl_same {s : Sd} (hs : s.Ok) (l : List Pr) (p : List Int) : pl s p (subI 4 p (s.place l)) = pl s p (s.mp p (un [] l)) := by
  unfold pl
  by_cases hr : rightP p 3 = true
  · rw [if_pos hr, if_pos hr]
    have hr' := hr
    unfold rightP at hr'
    rw [Bool.and_eq_true, Bool.not_eq_true', decide_eq_true_eq] at hr'
    have hd := nods_dig hr'.2
    rw [mp_subI s _ p hd (by omega)]
    have h := LeafEq.subI p 4 (3 - p.length + 1) hd (by omega) (place_leaf hs l)
    unfold Sd.ts
    refine List.map_congr_left fun i hi => ?_
    exact (h.sub (List.mem_range.1 hi)).tr s
  · rw [if_neg hr, if_neg hr]
theorem pl_len (s : Sd) (p : List Int) (S : List Pl) : (pl s p S).length ≤ 16 := by
  unfold pl; split
  · rw [Sd.ts_len]; exact Nat.le_refl _
  · exact Nat.zero_le _
theorem prs_len (s : Sd) (p : List Int) (R : List Pr) : (prs s p (s.inR p R)).length ≤ R.length := by
  unfold prs; split
  · exact List.length_filter_le _ _
  · exact Nat.zero_le _
def ConW (w : World) (e : Ending) (w' : World) : Prop := e = .returned (.bool true) ∧ Below w.heap.size w w'
set_option maxRecDepth 100000 in
set_option maxHeartbeats 6400000 in
theorem LParts_any {s : Sd} {w : World} {v u : Value} {l : List Pr} {p : List Int} (hs : s.Ok) (h : prL.In w v l) (hz : ∀ x ∈ l, PrSz x) (hp : intL.In w u p) (hf : ∀ x ∈ p, -9223372036854775808 ≤ x ∧ x ≤ 9223372036854775807) :
    Calls Tryz.prog 3 #[.agg #[.int .u64 s.a, .int .u64 s.b], v, u] w (ConW w) := by
  have HI0 := Lib.hid h
  have HP0 := Lib.hid hp
  obtain ⟨a0, c0, rfl, _, _⟩ := h.slice
  obtain ⟨a1, c1, rfl, hpc, hpm⟩ := hp.slice
  have HS := Lib.hid hs
  have HZ := Lib.hid hz
  obtain ⟨n, hn⟩ : ∃ n, n = l.length := ⟨_, rfl⟩
  obtain ⟨k, hk⟩ : ∃ m, m = p.length := ⟨_, rfl⟩
  rw [← hn] at HI0 ⊢
  rw [← hk] at HP0 hpc ⊢
  have HN := Lib.hid hn
  have HK := Lib.hid hk
  clear h hs hz hn hp hf hk
  go_enter Tryz.func3, Tryz.ntmps3
  go_upto_region 1 with fail
  have HB : Hid (Below w.heap.size w (w.alloc (.cells #[.int .u64 s.a, .int .u64 s.b] 24))) := Lib.hid (below_alloc _ _)
  have HF : Hid ((w.alloc (.cells #[.int .u64 s.a, .int .u64 s.b] 24)).cell? ⟨w.heap.size, 0, none⟩ = some (.int .u64 s.a) ∧ (w.alloc (.cells #[.int .u64 s.a, .int .u64 s.b] 24)).cell? ⟨w.heap.size, 1, none⟩ = some (.int .u64 s.b)) := by
    refine Lib.hid ⟨?_, ?_⟩ <;> go_simp
  have HI := Lib.hid (HI0.out.later HB.out)
  have HP := Lib.hid (HP0.out.later HB.out)
  generalize w.alloc (.cells #[.int .u64 s.a, .int .u64 s.b] 24) = W at *
  obtain ⟨N, hN⟩ : ∃ N, N = w.heap.size := ⟨_, rfl⟩
  rw [← hN] at HF ⊢
  have HNw := Lib.hid hN
  clear hN HI0 HP0
  have HBL : Hid (Below W.heap.size W (W.alloc (.cells #[.slice a0 n c0] 25))) := Lib.hid (below_alloc _ _)
  have HSh := Lib.hid (short_any (lists_one HI.out) (by simp))
  go_wp2_with fail
  go_fit HSh.out
  rintro e w1 ⟨bb, rfl, hfine, hb1⟩
  have HFi := Lib.hid hfine
  have HB1 : Hid (Below W.heap.size W w1) := Lib.hid (HBL.out.trans (hb1.mono HBL.out.size))
  clear hfine hb1 HBL HSh
  cases bb
  · go_wp2_with fail
    go_fit (awake_any w1)
    rintro e w2 ⟨rfl, hb2⟩
    have HB2 : Hid (Below W.heap.size W w2) := Lib.hid (HB1.out.trans (hb2.mono HB1.out.size))
    clear hb2
    go_wp2_with fail
    go_ret
    exact ⟨rfl, HB.out.trans (HB2.out.mono HB.out.size)⟩
  · have hsl := fineL_slim (HFi.out rfl) (List.mem_singleton.2 rfl) HZ.out
    have HSl := Lib.hid hsl
    have HUs : Hid (Slim (un [] l)) := Lib.hid fun p hp => hsl.1 p (un_mem hp)
    clear HFi hsl
    by_cases h10 : k > 10
    · have h10i : (10 : Int) < (k : Int) := by omega
      go_wp2_with fail
      go_fit (awake_any w1)
      rintro e w2 ⟨rfl, hb2⟩
      have HB2 : Hid (Below W.heap.size W w2) := Lib.hid (HB1.out.trans (hb2.mono HB1.out.size))
      clear hb2
      go_wp2_with fail
      go_ret
      exact ⟨rfl, HB.out.trans (HB2.out.mono HB.out.size)⟩
    · have h10i : ¬ (10 : Int) < (k : Int) := by omega
      have HKp : Hid (p.length ≤ 10) := Lib.hid (by rw [← HK.out]; omega)
      have HLn : Hid (l.length ≤ 60 ∧ (un [] l).length ≤ 60 ∧ (s.place l).length ≤ 60) := Lib.hid (by
        have h1 := HSl.out.2
        have h2 := un_len l []
        have h3 := (place_same HS.out l (by rw [isort_length, List.length_map])).2
        simp only [List.length_nil, Nat.zero_add] at h2
        exact ⟨h1, by omega, by omega⟩)
      have HP1 := Lib.hid (HP.out.later HB1.out)
      have HOf := Lib.hid (Of_any HS.out (build_any HS.out 4 (by decide)) (HI.out.later (below_drew HB1.out)) (by have := HLn.out.1; omega) HSl.out.1)
      have HOf2 : Hid (∀ V, Below W.heap.size W V → Calls Tryz.prog 7 #[.agg #[.int .u64 s.a, .int .u64 s.b], .slice a0 n c0] V (MadeR s (un [] l) V)) := Lib.hid fun V hV => ROfT_at (HI.out.later hV) (by have := HLn.out.1; omega)
      have y0 := cell_later HB1.out HF.out.1
      have y1 := cell_later HB1.out HF.out.2
      clear HP h10
      go_upto_region 3 with fail
      go_region_held3 (fun V => V.cell? ⟨N, 0, none⟩ = some (.int .u64 s.a) ∧ V.cell? ⟨N, 1, none⟩ = some (.int .u64 s.b)) (go_keep)
        (first
          | (go_at_call 6; (with_reducible refine HOf.out.mono ?_); rintro e w3 ⟨tb, rfl, ht3, hb3⟩; have HT3 := Lib.hid ht3; have HB3 := Lib.hid ((below_drew HB1.out).trans (hb3.mono (below_drew HB1.out).size)); have HL3 := Lib.hid ((below_drew1 w1).trans hb3); have z0 := cell_later HB3.out HF.out.1; have z1 := cell_later HB3.out HF.out.2; have HC3 := Lib.hid (HOf2.out w3 HB3.out); clear ht3 hb3)
          | (go_at_call 7; (with_reducible refine HC3.out.mono ?_); rintro e w4 ⟨xb, rfl, ht4, hb4⟩; have HX4 := Lib.hid ht4.tr; have HT4 := Lib.hid (HT3.out.later hb4); have HB4 := Lib.hid (HB3.out.trans (hb4.mono HB3.out.size)); have HP4 := Lib.hid (HP1.out.later (HL3.out.trans (hb4.mono HL3.out.size))); have x0 := cell_later HB4.out HF.out.1; have x1 := cell_later HB4.out HF.out.2; clear ht4 hb4))
      all_goals
        clear x0 x1 y0 y1 HOf HOf2 HC3 HT3 HB3 HL3 HF HP1 HB1 HI
        have HBm : Hid (Below w.heap.size w w4) := Lib.hid (HB.out.trans (HB4.out.mono HB.out.size))
        have HC4 := Lib.hid (PartsU HT4.out HP4.out (by have := HKp.out; omega))
        rw [pl_same HS.out] at HC4
        have HD4 : Hid (∀ V, Below w4.heap.size w4 V → _) := Lib.hid fun (V : World) (hV : Below w4.heap.size w4 V) => RPartsU HS.out (HX4.out.later hV) (by have := HLn.out.2.1; omega) HUs.out (HP4.out.later hV) HKp.out
        have HE4 : Hid (∀ V, Below w4.heap.size w4 V → _) := Lib.hid fun (V : World) (hV : Below w4.heap.size w4 V) => PairsU (HT4.out.later hV) (by have := HLn.out.2.2; omega) (HP4.out.later hV) (by have := HKp.out; omega)
        have HF4 : Hid (∀ V, Below w4.heap.size w4 V → _) := Lib.hid fun (V : World) (hV : Below w4.heap.size w4 V) => RPairsU HS.out (HX4.out.later hV) (by have := HLn.out.2.1; omega) HUs.out (HP4.out.later hV) HKp.out
        have HLa : Hid ((pl s p (s.mp p (un [] l))).length ≤ 16 ∧ (prs s p (s.inR p (un [] l))).length ≤ 60) := Lib.hid ⟨pl_len _ _ _, by have h := prs_len s p (un [] l); have := HLn.out.2.1; omega⟩
        generalize pl s p (s.mp p (un [] l)) = A at *
        generalize prs s p (s.inR p (un [] l)) = C at *
        generalize er p 3 = E3 at *
        generalize er p 4 = E4 at *
        obtain ⟨m, hm⟩ : ∃ m, m = C.length := ⟨_, rfl⟩
        obtain ⟨q, hq⟩ : ∃ q, q = A.length := ⟨_, rfl⟩
        have hm60 : m ≤ 60 := by rw [hm]; exact HLa.out.2
        have HMq := Lib.hid (show _ ∧ _ from ⟨hm, hq⟩)
        clear HB4 HB hm hq
        go_wp2_with fail
        go_fit HC4.out
        rintro e w5 ⟨u5, rfl, hi5, hb5⟩
        have HI5 := Lib.hid hi5
        obtain ⟨a5, c5, rfl, _, _⟩ := hi5.slice
        rw [← HMq.out.2] at HI5 ⊢
        have HB5 := Lib.hid hb5
        have HC5 := Lib.hid (HD4.out w5 HB5.out)
        clear hi5 hb5 HC4 HD4
        go_wp2_with fail
        go_fit HC5.out
        rintro e w6 ⟨u6, rfl, hi6, hb6⟩
        have HI6 := Lib.hid hi6
        obtain ⟨a6, c6, rfl, _, _⟩ := hi6.slice
        rw [← HMq.out.2] at HI6 ⊢
        have HB6 := Lib.hid (HB5.out.trans (hb6.mono HB5.out.size))
        have HJ5 := Lib.hid (HI5.out.later hb6)
        have HC6 := Lib.hid (HE4.out w6 HB6.out)
        clear hi6 hb6 HC5 HE4 HI5 HB5
        go_wp2_with fail
        go_fit HC6.out
        rintro e w7 ⟨u7, rfl, hr7⟩
        obtain ⟨a7, c7, rfl, _, _⟩ := hr7.slice
        rw [← HMq.out.1] at hr7 ⊢
        have HR7 := Lib.hid hr7
        have HB7 := Lib.hid (HB6.out.trans (hr7.grown.mono HB6.out.size))
        have HG7 := Lib.hid (gv_of hr7 HMq.out.1)
        have HK5 := Lib.hid (HJ5.out.later hr7.grown)
        have HK6 := Lib.hid (HI6.out.later hr7.grown)
        have HC7 := Lib.hid (HF4.out w7 HB7.out)
        clear hr7 HC6 HF4 HJ5 HI6
        go_wp2_with fail
        go_fit HC7.out
        rintro e w8 ⟨u8, rfl, hi8, hb8⟩
        obtain ⟨a8, c8, rfl, _, _⟩ := hi8.slice
        rw [← HMq.out.1] at hi8 ⊢
        have HI8 := Lib.hid hi8
        have HJ7 := Lib.hid (HR7.out.told.later hb8)
        have HG8 := Lib.hid (HG7.out.later hb8)
        have HU8 : Hid (Below w6.heap.size w6 w8) := Lib.hid (HR7.out.grown.trans (hb8.mono HR7.out.grown.size))
        have HEq := Lib.hid (EqU_any (HK5.out.later hb8) (HK6.out.later hb8) (by have := HLa.out.1; omega))
        clear hi8 hb8 HC7 HG7 HK5 HK6 HR7 HB7
        go_wp2_with fail
        go_fit HEq.out
        rintro e w9 ⟨rfl, hb9⟩
        have HSm := Lib.hid (Same_any (HJ7.out.later hb9) (HI8.out.later hb9) (by have := HLa.out.2; omega))
        have HU9 : Hid (Below w6.heap.size w6 w9) := Lib.hid (HU8.out.trans (hb9.mono HU8.out.size))
        have HG9 := Lib.hid (HG8.out.later hb9)
        clear hb9 HEq HJ7 HI8 HU8 HG8
        go_wp2_with fail
        go_fit HSm.out
        rintro e w10 ⟨rfl, hb10⟩
        have HU10 : Hid (Below w6.heap.size w6 w10) := Lib.hid (HU9.out.trans (hb10.mono HU9.out.size))
        have HG10 := Lib.hid (HG9.out.later hb10)
        clear hb10 HSm HU9 HG9
        go_wp2_with fail
        go_loopw [79] (fun v wr => ∃ i : Nat, v = .int .i64 i ∧ i ≤ m ∧ Hid (Gv wr w6.heap.size w7.heap.size a7 m) ∧ Hid (Below w6.heap.size w6 wr)) (fun v _ => m - (intOf v).toNat)
        case atStart => exact ⟨0, rfl, Nat.zero_le _, HG10, HU10⟩
        case round =>
          obtain ⟨i, rfl, hin, hG, hBw⟩ := hrel
          clear HG10 HU10
          have ei : IntKind.i64.wrap ((i : Int) + 1) = (i : Int) + 1 := IntWalk.i64_in _ (by omega)
          by_cases hlt : i < m
          · obtain ⟨g, rfl, hlo, hgm, ⟨x, hx⟩, hz⟩ := hG.out i hlt
            have hz0 := hz (i * 2)
            have hI1 : (i : Int) < (m : Int) := by omega
            have hI2 : (0 : Int) ≤ (i : Int) := by omega
            have HG2 : Hid (Gv (wr.setCell ⟨g, i * 2, none⟩ (.string ⟨#[63]⟩)) w6.heap.size w7.heap.size (some ⟨g, 0, none⟩) m) := Lib.hid (hG.out.set rfl hlt)
            have HB2 : Hid (Below w6.heap.size w6 (wr.setCell ⟨g, i * 2, none⟩ (.string ⟨#[63]⟩))) := Lib.hid (hBw.out.setCell hlo _)
            clear hz hG hBw
            go_wp2_with fail
            exact ⟨⟨i + 1, by push_cast; rfl, by omega, HG2, HB2⟩, by simp [intOf]; omega⟩
          · obtain rfl : i = m := by omega
            have HBr := Lib.hid (HB6.out.trans (hBw.out.mono HB6.out.size))
            have HTr := Lib.hid (HT4.out.later HBr.out)
            have HXr := Lib.hid (HX4.out.later HBr.out)
            have HRt := Lib.hid (Root_any HTr.out)
            have hps := place_same HS.out l (by rw [isort_length, List.length_map])
            have hpm : s.mp [] (un [] l) = (un [] l).map s.mk' := by rw [mp_subI s _ [] (fun d hd => by cases hd) (by decide), subI_nil]
            have HDg : Hid (Calls Tryz.prog 15 #[.pointer (some ⟨xb, 0, none⟩), .slice none 0 0] wr fun e w' => e = .returned (.int .u64 (s.tr 4 (s.place l) : Nat)) ∧ Below wr.heap.size wr w') := Lib.hid (by
              have h := dig_any HS.out 4 (by decide) wr xb (un [] l) (.slice none 0 0) [] HXr.out (by have := HLn.out.2.1; omega) HUs.out (Lay.In.nil _) rfl
              rw [hpm, ← hps.1] at h
              exact h)
            generalize s.tr 4 (s.place l) = X at *
            clear hps hpm hG HTr HXr
            go_wp2_with fail
            go_fit HRt.out
            rintro e w' ⟨rfl, rfl⟩
            go_wp2_with fail
            go_fit HDg.out
            rintro e w11 ⟨rfl, hb11⟩
            have HB11 := Lib.hid (HBr.out.trans (hb11.mono HBr.out.size))
            clear hb11
            go_wp2_with fail
            go_fit (awake_any w11)
            rintro e w12 ⟨rfl, hb12⟩
            have HB12 := Lib.hid (HB11.out.trans (hb12.mono HB11.out.size))
            clear hb12
            go_wp2_with fail
            go_ret
            exact ⟨rfl, HBm.out.trans (HB12.out.mono HBm.out.size)⟩
end Go.Proofs.YtcbgnmolfdhnfaaGreat
