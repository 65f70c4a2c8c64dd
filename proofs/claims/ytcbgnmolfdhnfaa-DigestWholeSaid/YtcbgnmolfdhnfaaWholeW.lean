/-
  DigestWhole walked. (Written by genwhole.py.)
-/
import Derived.Test.YtcbgnmolfdhnfaaT3
import Derived.Test.YtcbgnmolfdhnfaaRootsW
import Derived.Laws.StructEq
namespace Go.Proofs.Ytcbgnmolfdhnfaa
set_option linter.unusedVariables false
set_option linter.unusedSimpArgs false
open Go.RowKit Go.Joins

theorem eql_ints (a : Option Addr) (n c : Nat) (W : World) : (binOp .eql 70 (.slice a n c) (.slice none 0 0)).run Try.prog W = .ok (.bool a.isNone) W := by
  cases a <;> kernel_rfl
set_option maxRecDepth 100000 in
set_option maxHeartbeats 1600000 in
theorem CloneI {w : World} {v : Value} {l : List Int} (h : intL.In w v l) (hl : l.length ≤ 1000000) : Calls Try.prog 38 #[v] w fun e w' => ∃ u, e = .returned u ∧ Rw intL 3 w w' u l := by
  obtain ⟨a, c, rfl, _, _⟩ := h.slice
  have H := Lib.hid h
  cases a with
  | none =>
    have hn : l = [] := by
      obtain ⟨a', c', hv, _, _, h'⟩ := h
      rcases h' with e | ⟨g, off, e, _⟩
      · exact e
      · simp only [Value.slice.injEq] at hv
        rw [← hv.1] at e; cases e
    subst hn
    have e1 := fun W => eql_ints none 0 c W
    clear h H
    go_enter Try.func38, Try.ntmps38
    go_wp2_with fail
    go_ret
    exact ⟨_, rfl, Rw.nil w⟩
  | some a =>
    have e1 := fun W => eql_ints (some a) l.length c W
    have HB := Lib.hid (lay_alloc w (.cells #[] 3))
    have HI := Lib.hid (h.later HB.out)
    have HOwn : Hid ((w.alloc (.cells #[] 3)).ownsRow w.heap.size 3 intL.sz (.slice (some ⟨w.heap.size, 0, none⟩) 0 0) ([] : List Int).length (intL.all [])) := World.ownsRow_made w #[] 0 (Nat.le_refl _) (by decide) rfl
    have HL : Hid (([] : List Int).length + l.length ≤ 1073741825) := by show 0 + l.length ≤ _; omega
    clear h H hl
    go_enter Try.func38, Try.ntmps38
    go_wp2_with (at_builtin; refine wpList_catI (I := intL) rfl _ _ 70 3 rfl Try.underlying70 Try.infoInt rfl (by decide) (by decide) HOwn.out HI.out HL.out HB.out.size rfl rfl ?_; intro v2 w2 hown hgrow; have HO := Lib.hid hown; have HG := Lib.hid hgrow; clear hown hgrow)
    obtain ⟨va, vc, hv⟩ := row_slice5 HO.out
    subst hv
    go_ret
    exact ⟨_, rfl, HO.out, HB.out.trans ⟨HG.out.os, HG.out.tape, HG.out.output, HG.out.size, fun k hk => HG.out.block k (Nat.lt_of_lt_of_le hk HB.out.size) (fun e => by simp [Value.ownBlock] at e; omega)⟩⟩


theorem Try.pairFields : (Try.prog.fieldsOf 27).toList.map (fun f => (f.name, f.type, f.offset)) = [("Key", 9, 0), ("Value", 9, 1)] := by kernel_rfl
theorem part_string (W : World) (cs : Array Value) (o : Nat) (s : ByteArray) (h : cs[o]? = some (.string s)) : (part 9 cs o).run Try.prog W = .ok (.string s) W := by
  simp [part, isAgg, run_underlying Try.underlying9, h]
theorem pairs_eql (W : World) (a b c d : ByteArray) : (binOp .eql 27 (.agg #[.string a, .string b]) (.agg #[.string c, .string d])).run Try.prog W = .ok (.bool (decide (a = c) && decide (b = d))) W := by
  have h : ∀ k : Nat, (Op.equalIn (k + 1 + 1) 27 (.agg #[.string a, .string b]) (.agg #[.string c, .string d])).run Try.prog W = .ok (decide (a = c) && decide (b = d)) W := fun k => by
    rw [run_equalIn_struct _ _ _ _ _ (by kernel_rfl) (by kernel_rfl)]
    obtain ⟨f1, l1, hl1, e1, hm1⟩ := List.map_eq_cons_iff.1 Try.pairFields
    obtain ⟨f2, l2, rfl, e2, hm2⟩ := List.map_eq_cons_iff.1 hm1
    obtain rfl := List.map_eq_nil_iff.1 hm2
    rw [hl1]
    simp only [Prod.mk.injEq] at e1 e2
    obtain ⟨n1, t1, o1⟩ := e1
    obtain ⟨n2, t2, o2⟩ := e2
    simp only [Op.eqFields, n1, n2, t1, t2, o1, o2]
    simp [part_string _ _ _ a, part_string, ba_eq, run_equalIn_string W k _ _ _ Try.underlying9]
    by_cases h1 : a = c <;> by_cases h2 : b = d <;> simp [h1, h2]
  rw [run_eql_struct, h 9998]
  rfl
def IdxW (b : Prop) (w : World) (e : Ending) (w' : World) : Prop := ∃ z : Int, e = .returned (.int .i64 z) ∧ (b → 0 ≤ z) ∧ Below w.heap.size w w'
set_option maxRecDepth 100000 in
set_option maxHeartbeats 3200000 in
theorem IndexPr_any {w : World} {v : Value} {l : List Pr} {k x : ByteArray} (h : prL.In w v l) (hl : l.length ≤ 1000000) : Calls Try.prog 70 #[v, .agg #[.string k, .string x]] w (IdxW ((k, x) ∈ l) w) := by
  obtain ⟨a, c, rfl, _, _⟩ := h.slice
  have HI0 := Lib.hid h
  clear h
  obtain ⟨n, hn⟩ : ∃ n, n = l.length := ⟨_, rfl⟩
  rw [← hn] at hl HI0 ⊢
  have HN := Lib.hid hn
  clear hn
  have hb := below_alloc w (.cells #[.string k, .string x] 27)
  have HI := Lib.hid (HI0.out.later hb)
  have f0 : (w.alloc (.cells #[.string k, .string x] 27)).cell? ⟨w.heap.size, 0, none⟩ = some (.string k) := by go_simp
  have f1 : (w.alloc (.cells #[.string k, .string x] 27)).cell? ⟨w.heap.size, 1, none⟩ = some (.string x) := by go_simp
  have HB := Lib.hid hb
  have HF := Lib.hid (show _ ∧ _ from ⟨f0, f1⟩)
  clear hb f0 f1 HI0
  go_enter Try.func70, Try.ntmps70
  go_upto_region 1 with fail
  generalize w.alloc (.cells #[.string k, .string x] 27) = W at *
  obtain ⟨N, hN⟩ : ∃ N, N = w.heap.size := ⟨_, rfl⟩
  rw [← hN] at HF ⊢
  have HNw := Lib.hid hN
  clear hN
  go_wp2_with fail
  go_loopw [8] (fun i wr => ∃ j : Nat, i = .int .i64 j ∧ j ≤ n ∧ Hid ((k, x) ∉ l.take j) ∧ Hid (Below W.heap.size W wr)) (fun i _ => n - (intOf i).toNat)
  case atStart => exact ⟨0, rfl, Nat.zero_le _, Lib.hid (by simp), Lib.hid (Below.refl _ _)⟩
  case round =>
    obtain ⟨j, rfl, hj, HL, HBw⟩ := hrel
    have ek : IntKind.i64.wrap ((j : Int) + 1) = (j : Int) + 1 := IntWalk.i64_in _ (by omega)
    by_cases hlt : j < n
    · obtain ⟨⟨k', x'⟩, hg⟩ : ∃ d, l[j]? = some d := ⟨l[j]'(by rw [← HN.out]; exact hlt), List.getElem?_eq_getElem _⟩
      obtain ⟨g, off, rfl, hcl, hat⟩ := (HI.out.later HBw.out).cells hg
      clear hcl
      have q0 : wr.cell? ⟨g, off + j * 2, none⟩ = some (.string k') := hat 0 _ rfl
      have q1 : wr.cell? ⟨g, off + j * 2 + 1, none⟩ = some (.string x') := hat 1 _ rfl
      have b0 := cell_later HBw.out HF.out.1
      have b1 := cell_later HBw.out HF.out.2
      have hq := fun V => pairs_eql V k x k' x'
      have hI1 : (j : Int) < (n : Int) := by omega
      have hI2 : (0 : Int) ≤ (j : Int) := by omega
      have HT : Hid (¬ (k = k' ∧ x = x') → (k, x) ∉ l.take (j + 1)) := Lib.hid fun hne hm => by
        rw [List.take_add_one, hg, Option.toList_some, List.mem_append] at hm
        rcases hm with hm | hm
        · exact HL.out hm
        · have : (k, x) = (k', x') := by simpa using hm
          exact hne ⟨congrArg Prod.fst this, congrArg Prod.snd this⟩
      clear hat hg
      by_cases hp : k = k' ∧ x = x'
      · have hd : (decide (k = k') && decide (x = x')) = true := by simp [hp.1, hp.2]
        have hq2 : ∀ V, (binOp .eql 27 (.agg #[.string k, .string x]) (.agg #[.string k', .string x'])).run Try.prog V = .ok (.bool true) V := fun V => by rw [hq, hd]
        clear hq hd hp
        go_wp2_with fail
        go_quiet (fail)
        clear q0 q1 b0 b1 hq2
        have HBq := Lib.hid (below_drewN HBw.out nq)
        generalize wr.drewN nq = V at *
        go_wp2_with fail
        go_ret
        exact ⟨(j : Int), rfl, fun _ => by omega, HB.out.trans (HBq.out.mono HB.out.size)⟩
      · have hd : (decide (k = k') && decide (x = x')) = false := by
          by_cases h1 : k = k'
          · have h2 : ¬ x = x' := fun e => hp ⟨h1, e⟩
            simp [h2]
          · simp [h1]
        have hq2 : ∀ V, (binOp .eql 27 (.agg #[.string k, .string x]) (.agg #[.string k', .string x'])).run Try.prog V = .ok (.bool false) V := fun V => by rw [hq, hd]
        have HT2 := Lib.hid (HT.out hp)
        clear hq hd hp
        go_wp2_with fail
        go_quiet (fail)
        clear q0 q1 b0 b1 hq2
        have HBq := Lib.hid (below_drewN HBw.out nq)
        generalize wr.drewN nq = V at *
        go_wp2_with fail
        exact ⟨⟨j + 1, by push_cast; rfl, by omega, HT2, HBq⟩, by simp [intOf]; omega⟩
    · obtain rfl : j = n := by omega
      have hL := HL.out
      rw [List.take_of_length_le (by rw [← HN.out]; exact Nat.le_refl _)] at hL
      have HLL := Lib.hid hL
      clear hL
      go_wp2_with fail
      go_ret
      exact ⟨-1, rfl, fun h => absurd h HLL.out, HB.out.trans (HBw.out.mono HB.out.size)⟩
def ConW (w : World) (e : Ending) (w' : World) : Prop := e = .returned (.bool true) ∧ Below w.heap.size w w'
set_option maxHeartbeats 1600000 in
theorem ConPr_any {w : World} {v : Value} {l : List Pr} {k x : ByteArray} (h : prL.In w v l) (hl : l.length ≤ 1000000) (hm : (k, x) ∈ l) : Calls Try.prog 39 #[v, .agg #[.string k, .string x]] w (ConW w) := by
  have hb := below_alloc w (.cells #[.string k, .string x] 27)
  have HI := Lib.hid (IndexPr_any (k := k) (x := x) (h.later hb) hl)
  obtain ⟨a, c, rfl, _, _⟩ := h.slice
  have f0 : (w.alloc (.cells #[.string k, .string x] 27)).cell? ⟨w.heap.size, 0, none⟩ = some (.string k) := by go_simp
  have f1 : (w.alloc (.cells #[.string k, .string x] 27)).cell? ⟨w.heap.size, 1, none⟩ = some (.string x) := by go_simp
  have HB := Lib.hid hb
  have HM := Lib.hid hm
  clear h hb hm
  go_enter Try.func39, Try.ntmps39
  go_upto_region 1 with fail
  generalize w.alloc (.cells #[.string k, .string x] 27) = W at *
  go_wp2_with fail
  go_fit HI.out
  rintro e w2 ⟨z, rfl, hz, hb2⟩
  have HZ := hz HM.out
  have HB2 := Lib.hid (HB.out.trans (hb2.mono HB.out.size))
  clear hz hb2 f0 f1
  go_wp2_with fail
  go_ret
  exact ⟨by first | rfl | (simp; omega), HB2.out⟩

/-- How many pairs the first parts of a part have. -/
def cntTo (n : Nat) (T : List Pl) (k : Nat) : Nat := ((List.range k).map fun i => (sub n i T).length).sum
theorem cntTo_step (n : Nat) (T : List Pl) (k : Nat) : cntTo n T (k + 1) = cntTo n T k + (sub n k T).length := by
  unfold cntTo
  rw [List.range_succ, List.map_append, List.sum_append]
  simp
theorem cntTo_le (n : Nat) (T : List Pl) {k : Nat} (hk : k ≤ 16) : cntTo n T k ≤ T.length := by
  unfold cntTo
  rw [sub_sum n T k hk]
  exact List.length_filter_le _ _
theorem cntTo_all (n : Nat) (T : List Pl) : cntTo n T 16 = T.length := sub_all n T
theorem right_app {p : List Int} {k : Nat} (h : nods p = false) (hp : p.length ≤ 3) (hk : k < 16) : rightP (p ++ [(k : Int)]) 4 = true := by
  have hn : nods (p ++ [(k : Int)]) = false := by
    unfold nods at h ⊢
    rw [List.any_append, h]
    simp [nod]
    omega
  unfold rightP
  rw [hn, decide_eq_true (by simp; omega)]
  rfl
theorem ts_get (s : Sd) (n : Nat) (T : List Pl) {k : Nat} (hk : k < 16) : (s.ts n T 16)[k]? = some (s.tr n (sub n k T)) := by
  unfold Sd.ts
  simp [hk]

set_option maxRecDepth 100000 in
set_option maxHeartbeats 6400000 in
theorem Whole_any {s : Sd} {w : World} {v u : Value} {l : List Pr} {p : List Int} (hs : s.Ok) (h : prL.In w v l) (hz : ∀ x ∈ l, PrSz x) (hp : intL.In w u p) (hf : ∀ x ∈ p, -9223372036854775808 ≤ x ∧ x ≤ 9223372036854775807) :
    Calls Try.prog 8 #[.agg #[.int .u64 s.a, .int .u64 s.b], v, u] w (ConW w) := by
  have HI0 := Lib.hid h
  have HP0 := Lib.hid hp
  obtain ⟨a0, c0, rfl, _, _⟩ := h.slice
  obtain ⟨a1, c1, rfl, _, _⟩ := hp.slice
  have HS := Lib.hid hs
  have HZ := Lib.hid hz
  obtain ⟨n, hn⟩ : ∃ n, n = l.length := ⟨_, rfl⟩
  obtain ⟨m, hm⟩ : ∃ m, m = p.length := ⟨_, rfl⟩
  rw [← hn] at HI0 ⊢
  rw [← hm] at HP0 ⊢
  have HN := Lib.hid hn
  have HMm := Lib.hid hm
  clear h hs hz hn hp hf hm
  go_enter Try.func8, Try.ntmps8
  go_upto_region 1 with fail
  have HB : Hid (Below w.heap.size w (w.alloc (.cells #[.int .u64 s.a, .int .u64 s.b] 24))) := Lib.hid (below_alloc _ _)
  have HF : Hid ((w.alloc (.cells #[.int .u64 s.a, .int .u64 s.b] 24)).cell? ⟨w.heap.size, 0, none⟩ = some (.int .u64 s.a) ∧ (w.alloc (.cells #[.int .u64 s.a, .int .u64 s.b] 24)).cell? ⟨w.heap.size, 1, none⟩ = some (.int .u64 s.b)) := by
    refine Lib.hid ⟨?_, ?_⟩ <;> go_simp
  have HI := Lib.hid (HI0.out.later HB.out)
  have HP := Lib.hid (HP0.out.later HB.out)
  generalize w.alloc (.cells #[.int .u64 s.a, .int .u64 s.b] 24) = W at *
  obtain ⟨N, hN⟩ : ∃ N, N = w.heap.size := ⟨_, rfl⟩
  rw [← hN] at HF ⊢
  have HNw := Lib.hid hN
  clear hN HI0 HP0
  have HBL : Hid (Below W.heap.size W (W.alloc (.cells #[.slice a0 n c0] 29))) := Lib.hid (below_alloc _ _)
  have HSh := Lib.hid (short_any (lists_one HI.out) (by simp))
  go_wp2_with fail
  go_fit HSh.out
  rintro e w1 ⟨bb, rfl, hfine, hb1⟩
  have HFi := Lib.hid hfine
  have HB1 : Hid (Below W.heap.size W w1) := Lib.hid (HBL.out.trans (hb1.mono HBL.out.size))
  clear hfine hb1 HBL HSh
  cases bb
  · go_wp2_with fail
    go_fit (awake_any w1)
    rintro e w2 ⟨rfl, hb2⟩
    have HB2 : Hid (Below W.heap.size W w2) := Lib.hid (HB1.out.trans (hb2.mono HB1.out.size))
    clear hb2
    go_wp2_with fail
    go_ret
    exact ⟨rfl, HB.out.trans (HB2.out.mono HB.out.size)⟩
  by_cases hm3 : 3 < m
  · have hm3I : (3 : Int) < (m : Int) := by omega
    go_wp2_with fail
    go_fit (awake_any w1)
    rintro e w2 ⟨rfl, hb2⟩
    have HB2 : Hid (Below W.heap.size W w2) := Lib.hid (HB1.out.trans (hb2.mono HB1.out.size))
    clear hb2
    go_wp2_with fail
    go_ret
    exact ⟨rfl, HB.out.trans (HB2.out.mono HB.out.size)⟩
  have hm3I : ¬ (3 : Int) < (m : Int) := by omega
  have hsl := fineL_slim (HFi.out rfl) (List.mem_singleton.2 rfl) HZ.out
  have HSl := Lib.hid hsl
  have hn60 : n ≤ 60 := by rw [HN.out]; exact hsl.2
  have HI1 := Lib.hid (HI.out.later HB1.out)
  have y0 := cell_later HB1.out HF.out.1
  have y1 := cell_later HB1.out HF.out.2
  have HOf := Lib.hid (Of_any HS.out (build_any HS.out 4 (by decide)) HI1.out (by omega) hsl.1)
  obtain ⟨S, hS⟩ : ∃ S, S = s.place l := ⟨_, rfl⟩
  rw [← hS] at HOf
  have HSS := Lib.hid hS
  have hSl : S.length ≤ 60 := by rw [hS]; exact Nat.le_trans (s.place_len l) hsl.2
  clear hsl hS HFi
  go_wp2_with fail
  go_fit HOf.out
  rintro e w2 ⟨tb, rfl, ht2, hb2⟩
  have HT2 := Lib.hid ht2
  have HB2 : Hid (Below W.heap.size W w2) := Lib.hid (HB1.out.trans (hb2.mono HB1.out.size))
  have HP2 := Lib.hid (HP.out.later HB2.out)
  clear ht2 hb2 HOf y0 y1 HI1 HB1
  have HPa := Lib.hid (Pairs_any HT2.out (by omega) HP2.out (by rw [← HMm.out]; omega))
  have hp3 : p.length ≤ 3 := by rw [← HMm.out]; omega
  have HP3 := Lib.hid hp3
  clear hp3
  go_wp2_with fail
  go_fit HPa.out
  rintro e w3 (⟨hr, rfl, hb3⟩ | ⟨hr, ua, r, rfl, hsr, hrw⟩)
  · have HB3 : Hid (Below W.heap.size W w3) := Lib.hid (HB2.out.trans (hb3.mono HB2.out.size))
    clear hr hb3
    go_wp2_with fail
    go_fit (awake_any w3)
    rintro e w4 ⟨rfl, hb4⟩
    have HB4 : Hid (Below W.heap.size W w4) := Lib.hid (HB3.out.trans (hb4.mono HB3.out.size))
    clear hb4
    go_wp2_with fail
    go_ret
    exact ⟨rfl, HB.out.trans (HB4.out.mono HB.out.size)⟩
  · have HB3 : Hid (Below W.heap.size W w3) := Lib.hid (HB2.out.trans (hrw.grown.mono HB2.out.size))
    have HA3 := Lib.hid hrw.told
    obtain ⟨aa, ac, rfl, _, _⟩ := hrw.slice
    obtain ⟨q, hq⟩ : ∃ q, q = r.length := ⟨_, rfl⟩
    rw [← hq] at HA3 ⊢
    have HQ := Lib.hid hq
    have HT3 := Lib.hid (HT2.out.later hrw.grown)
    have HP3w := Lib.hid (HP2.out.later hrw.grown)
    have HSr := Lib.hid hsr
    have hnod : nods p = false := by
      unfold rightP at hr
      rw [Bool.and_eq_true, Bool.not_eq_true'] at hr
      exact hr.2
    have hr3 : rightP p 3 = true := by unfold rightP; rw [hnod, decide_eq_true HP3.out]; rfl
    have HNod := Lib.hid hnod
    have HR3 := Lib.hid hr3
    have HPt := Lib.hid (Parts_any HT3.out HP3w.out (by rw [← HMm.out]; omega))
    clear hr hsr hrw hq hnod hr3 HPa HT2 HP2 HB2
    go_wp2_with fail
    go_fit HPt.out
    rintro e w4 (⟨hr, rfl, hb4⟩ | ⟨hr, ub, rfl, hrw⟩)
    · exact absurd (HR3.out.symm.trans hr) (by decide)
    obtain ⟨k3, hk3⟩ : ∃ k, k = 3 - p.length := ⟨_, rfl⟩
    obtain ⟨T, hT⟩ : ∃ T, T = subI 4 p S := ⟨_, rfl⟩
    rw [← hk3, ← hT] at hrw
    have HU4 := Lib.hid hrw.told
    obtain ⟨ba, bc, rfl, _, _⟩ := hrw.slice
    have ht16 := s.ts_len k3 T 16
    rw [ht16] at HU4 ⊢
    have hTl : T.length ≤ 60 := by rw [hT]; exact Nat.le_trans (subI_sub p 4 S).length_le hSl
    have HKT := Lib.hid (show k3 = 3 - p.length ∧ T = subI 4 p S from ⟨hk3, hT⟩)
    have HB4 : Hid (Below W.heap.size W w4) := Lib.hid (HB3.out.trans (hrw.grown.mono HB3.out.size))
    have HA4 := Lib.hid (HA3.out.later hrw.grown)
    have HT4 := Lib.hid (HT3.out.later hrw.grown)
    have HP4 := Lib.hid (HP3w.out.later hrw.grown)
    have HBw : Hid (Below w.heap.size w w4) := Lib.hid (HB.out.trans (HB4.out.mono HB.out.size))
    clear hr hrw hk3 hT ht16 HPt HT3 HP3w HA3 HB3 HB4 HI HP HF HB HR3
    go_wp2_with fail
    have HJ0 : Hid (Below w4.heap.size w4 w4) := Lib.hid (Below.refl _ _)
    have HC0 : Hid (0 = cntTo k3 T 0) := Lib.hid rfl
    go_loopw [12, 53] (fun c i wr => ∃ (k z : Nat), i = .int .i64 k ∧ k ≤ 16 ∧ c = .int .i64 z ∧ Hid (z = cntTo k3 T k) ∧ Hid (Below w4.heap.size w4 wr)) (fun _ i _ => 16 - (intOf i).toNat)
    case atStart => exact ⟨0, 0, rfl, Nat.zero_le _, rfl, HC0, HJ0⟩
    case round =>
      obtain ⟨k, z, rfl, hk, rfl, hz, hbw⟩ := hrel
      clear HJ0 HC0
      have ek : IntKind.i64.wrap ((k : Int) + 1) = (k : Int) + 1 := IntWalk.i64_in _ (by omega)
      have hz60 : z ≤ 60 := by rw [hz.out]; exact Nat.le_trans (cntTo_le k3 T hk) hTl
      by_cases hlt : k < 16
      · have hI1 : (k : Int) < 16 := by omega
        have hI2 : (0 : Int) ≤ (k : Int) := by omega
        have HPr := Lib.hid (HP4.out.later hbw.out)
        have HCl := Lib.hid (CloneI HPr.out (by rw [← HMm.out]; omega))
        go_wp2_with fail
        go_fit HCl.out
        rintro e w5 ⟨u5, rfl, hr5⟩
        obtain ⟨a5, c5, rfl, _, _⟩ := hr5.slice
        rw [← HMm.out]
        have HB5 : Hid (Below w4.heap.size w4 w5) := Lib.hid (hbw.out.trans (hr5.grown.mono hbw.out.size))
        have HO5 := Lib.hid (show w5.ownsRow wr.heap.size 3 1 (.slice a5 m c5) m (intL.all p) from by have h := hr5.own; rw [← HMm.out] at h; exact h)
        have HZ5 := Lib.hid hr5.grown.size
        have HG5 := Lib.hid hr5.grown
        have Hm1 : Hid (m + 1 ≤ 1073741825) := Lib.hid (by omega)
        clear hr5 HCl HPr
        go_wp2_with (at_builtin; (refine wpList_pushI rfl _ _ 70 3 _ 1 8 rfl Try.underlying70 Try.infoInt rfl (by decide) wr.heap.size m _ (intL.all p) rfl HO5.out #[.int .i64 k] rfl (by simp [Value.oneCell']) rfl Hm1.out (by decide) HZ5.out ?_; intro g6 c6 w6 hown6 hg6 hat6 hlt6; have HO6 := Lib.hid hown6; have HG6 := Lib.hid hg6; clear hown6 hg6 hat6 hlt6))
        have HB6 : Hid (Below w4.heap.size w4 w6) := Lib.hid (HB5.out.trans ⟨HG6.out.os, HG6.out.tape, HG6.out.output, HG6.out.size, fun j hj => HG6.out.block j (Nat.lt_of_lt_of_le hj HB5.out.size) (fun e => by have := (HO5.out.lt j e.symm).1; have := hbw.out.size; omega)⟩)
        have HI6 : Hid (intL.In w6 (.slice (some ⟨g6, 0, none⟩) (m + 1) c6) (p ++ [(k : Int)])) := Lib.hid (Lay.in_own (I := intL) (by have h := HO6.out; rw [Lay.all_app, Lay.all_one]; exact h) (by rw [List.length_append, HMm.out]; rfl))
        have HPd := Lib.hid (Pairs_any (HT4.out.later HB6.out) (by omega) HI6.out (by rw [List.length_append, ← HMm.out]; simp; omega))
        have hrt := right_app HNod.out HP3.out hlt
        have hsb : subI 4 (p ++ [(k : Int)]) S = sub k3 k T := by
          rw [subI_snoc (k : Int) p 4 S k3 (by have := HKT.out.1; have := HP3.out; omega), HKT.out.2]
          rfl
        have HRt := Lib.hid hrt
        have HSb := Lib.hid hsb
        clear hrt hsb HO5 HO6 HG6 HG5 HB5
        go_fit HPd.out
        rintro e w7 (⟨hr, rfl, hb7⟩ | ⟨hr, u7, r7, rfl, hsr7, hr7⟩)
        · exact absurd (HRt.out.symm.trans hr) (by decide)
        rw [HSb.out] at hsr7
        have HSr7 := Lib.hid hsr7
        have HB7 : Hid (Below w4.heap.size w4 w7) := Lib.hid (HB6.out.trans (hr7.grown.mono HB6.out.size))
        have HA7 := Lib.hid hr7.told
        obtain ⟨a7, c7, rfl, _, _⟩ := hr7.slice
        obtain ⟨q7, hq7⟩ : ∃ q, q = r7.length := ⟨_, rfl⟩
        rw [← hq7] at HA7 ⊢
        have hq7e : q7 = (sub k3 k T).length := by rw [hq7, hsr7.1.length_eq, List.length_map]
        have hq60 : q7 ≤ 60 := by rw [hq7e]; exact Nat.le_trans (sub_len k3 k T) hTl
        have HQ7 := Lib.hid (show q7 = r7.length ∧ q7 = (sub k3 k T).length from ⟨hq7, hq7e⟩)
        have HMem : Hid (∀ x ∈ r7, x ∈ r) := Lib.hid fun x hx => by
          have h1 := hsr7.1.mem_iff.1 hx
          obtain ⟨y, hy, rfl⟩ := List.mem_map.1 h1
          have h2 := HSr.out
          rw [← HKT.out.2] at h2
          exact h2.1.mem_iff.2 (List.mem_map.2 ⟨y, (List.mem_filter.1 hy).1, rfl⟩)
        have HAr := Lib.hid (HA4.out.later HB7.out)
        have HNx : Hid (z + q7 = cntTo k3 T (k + 1)) := Lib.hid (by rw [cntTo_step, ← hz.out, hq7e])
        obtain ⟨Y, hY⟩ : ∃ Y, Y = s.tr k3 (sub k3 k T) := ⟨_, rfl⟩
        obtain ⟨g8, off8, hba, hcl, hat8⟩ := (HU4.out.later HB7.out).cells (ts_get s k3 T hlt)
        subst hba
        clear hcl
        have t0 : w7.cell? ⟨g8, off8 + k, none⟩ = some (.int .u64 Y) := by
          have h := hat8 0 _ rfl
          rw [← hY] at h
          simpa [u64L] using h
        have hYz : q7 = 0 → Y = 0 := fun e => by
          rw [hY, List.eq_nil_of_length_eq_zero (hq7e.symm.trans e), s.tr_nil]
        clear hr hr7 hsr7 hq7 hq7e hY hat8 HPd HI6 HB6 hbw hz HRt HSb
        have eq7 : IntKind.i64.wrap ((z : Int) + (q7 : Int)) = (z : Int) + (q7 : Int) := IntWalk.i64_in _ (by omega)
        have HK0 : Hid (Below w7.heap.size w7 w7) := Lib.hid (Below.refl _ _)
        by_cases hq0 : q7 = 0
        · have hY0 := hYz hq0
          subst hY0
          subst hq0
          clear hYz
          have HNz : Hid (z = cntTo k3 T (k + 1)) := Lib.hid (by have := HNx.out; omega)
          go_wp2_with fail
          clear t0
          go_loopw [86] (fun i wr => i = .int .i64 0 ∧ Hid (Below w7.heap.size w7 wr)) (fun i _ => 0)
          case atStart => exact ⟨rfl, HK0⟩
          case round =>
            obtain ⟨rfl, hbj⟩ := hrel
            have HBn := Lib.hid (HB7.out.trans (hbj.out.mono HB7.out.size))
            go_wp2_with fail
            exact ⟨⟨k + 1, z, by push_cast; rfl, by omega, rfl, HNz, HBn⟩, by simp [intOf]; omega⟩
        · have hq0I : ¬ (q7 : Int) = 0 := by omega
          have hq0b : ((q7 : Int) == 0) = false := by simpa using hq0I
          clear hYz
          go_wp2_with fail
          clear t0
          go_loopw [86] (fun i wr => ∃ j : Nat, i = .int .i64 j ∧ j ≤ q7 ∧ Hid (Below w7.heap.size w7 wr)) (fun i _ => q7 - (intOf i).toNat)
          case atStart => exact ⟨0, rfl, Nat.zero_le _, HK0⟩
          case round =>
            obtain ⟨j, rfl, hj, hbj⟩ := hrel
            clear HK0
            have ej : IntKind.i64.wrap ((j : Int) + 1) = (j : Int) + 1 := IntWalk.i64_in _ (by omega)
            by_cases hlj : j < q7
            · obtain ⟨⟨ky, vl⟩, hx⟩ : ∃ x, r7[j]? = some x := ⟨r7[j]'(by rw [← HQ7.out.1]; exact hlj), List.getElem?_eq_getElem _⟩
              obtain ⟨g9, off9, rfl, hcl, hat⟩ := (HA7.out.later hbj.out).cells hx
              clear hcl
              have k0 : wr.cell? ⟨g9, off9 + j * 2, none⟩ = some (.string ky) := hat 0 _ rfl
              have k1 : wr.cell? ⟨g9, off9 + j * 2 + 1, none⟩ = some (.string vl) := hat 1 _ rfl
              have hJ1 : (j : Int) < (q7 : Int) := by omega
              have hJ2 : (0 : Int) ≤ (j : Int) := by omega
              have hba := below_alloc wr (.cells #[.string ky, .string vl] 27)
              have HCo := Lib.hid (ConPr_any (k := ky) (x := vl) ((HAr.out.later hbj.out).later hba) (by rw [← HQ.out, HQ.out, HSr.out.1.length_eq, List.length_map]; exact Nat.le_trans (subI_sub p 4 S).length_le (by omega)) (HMem.out _ (List.mem_of_getElem? hx)))
              have HBa := Lib.hid (hbj.out.trans (hba.mono hbj.out.size))
              have f0 : (wr.alloc (.cells #[.string ky, .string vl] 27)).cell? ⟨wr.heap.size, 0, none⟩ = some (.string ky) := by go_simp
              have f1 : (wr.alloc (.cells #[.string ky, .string vl] 27)).cell? ⟨wr.heap.size, 1, none⟩ = some (.string vl) := by go_simp
              clear hat hx hba
              go_upto_region 20 with fail
              clear k0 k1
              generalize wr.alloc (.cells #[.string ky, .string vl] 27) = w8 at *
              go_wp2_with fail
              go_fit HCo.out
              rintro e w9 ⟨rfl, hb9⟩
              have HB9 := Lib.hid (HBa.out.trans (hb9.mono HBa.out.size))
              clear hb9 f0 f1 HCo HBa
              go_wp2_with fail
              exact ⟨⟨j + 1, by push_cast; rfl, by omega, HB9⟩, by simp [intOf]; omega⟩
            · obtain rfl : j = q7 := by omega
              have HBn := Lib.hid (HB7.out.trans (hbj.out.mono HB7.out.size))
              go_wp2_with fail
              exact ⟨⟨k + 1, z + j, by push_cast; rfl, by omega, by push_cast; rfl, HNx, HBn⟩, by simp [intOf]; omega⟩
      · obtain rfl : k = 16 := by omega
        have hfin : z = q := by
          rw [hz.out, cntTo_all, HQ.out, HSr.out.1.length_eq, List.length_map, HKT.out.2]
        subst hfin
        go_wp2_with fail
        go_fit (awake_any wr)
        rintro e w8 ⟨rfl, hb8⟩
        have HBe := Lib.hid (HBw.out.trans ((hbw.out.trans (hb8.mono hbw.out.size)).mono HBw.out.size))
        clear hb8
        go_wp2_with fail
        go_ret
        exact ⟨rfl, HBe.out⟩
end Go.Proofs.Ytcbgnmolfdhnfaa
