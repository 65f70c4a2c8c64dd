/-
  QuorumMost walked.
-/
import Derived.Test.YticcmjiekopnbaaOneW
namespace Go.Proofs.Yticcmjiekopnbaa
set_option linter.unusedVariables false
set_option linter.unusedSimpArgs false
open Go.RowKit Go.Shelf

/-- The nodes below k that have reached as much, and those that have reached more. -/
def thr (F : Int → Int) (n : Int) (k : Nat) : List Int := ((List.range k).map fun (j : Nat) => (j : Int)).filter fun x => decide (n ≤ F x)
def mor (F : Int → Int) (n : Int) (k : Nat) : List Int := ((List.range k).map fun (j : Nat) => (j : Int)).filter fun x => decide (n < F x)
theorem thr_step (F : Int → Int) (n : Int) (k : Nat) : thr F n (k + 1) = thr F n k ++ if n ≤ F (k : Nat) then [((k : Nat) : Int)] else [] := by
  unfold thr
  rw [List.range_succ, List.map_append, List.filter_append]
  congr 1
  by_cases h : n ≤ F (k : Nat) <;> simp [h]
theorem mor_step (F : Int → Int) (n : Int) (k : Nat) : mor F n (k + 1) = mor F n k ++ if n < F (k : Nat) then [((k : Nat) : Int)] else [] := by
  unfold mor
  rw [List.range_succ, List.map_append, List.filter_append]
  congr 1
  by_cases h : n < F (k : Nat) <;> simp [h]
theorem thr_len (F : Int → Int) (n : Int) (k : Nat) : (thr F n k).length ≤ k := Nat.le_trans (List.length_filter_le _ _) (by simp)
theorem mor_len (F : Int → Int) (n : Int) (k : Nat) : (mor F n k).length ≤ k := Nat.le_trans (List.length_filter_le _ _) (by simp)
theorem five_mem (x : Int) : x ∈ ((List.range 5).map fun (j : Nat) => (j : Int)) ↔ inR x = true := by
  rw [inR_iff]
  simp only [List.mem_map, List.mem_range]
  constructor
  · rintro ⟨j, hj, rfl⟩; omega
  · intro h; exact ⟨x.toNat, by omega, by omega⟩
theorem thr_mem (F : Int → Int) (n x : Int) : x ∈ thr F n 5 ↔ inR x = true ∧ n ≤ F x := by
  unfold thr; rw [List.mem_filter, five_mem, decide_eq_true_eq]
theorem mor_mem (F : Int → Int) (n x : Int) : x ∈ mor F n 5 ↔ inR x = true ∧ n < F x := by
  unfold mor; rw [List.mem_filter, five_mem, decide_eq_true_eq]
theorem ok_all {vs ls : List Int} (h : okR vs ls = true) : vs.all inR = true ∧ vs ≠ [] := by
  obtain ⟨h1, h2⟩ := (okR_iff _ _).1 h
  refine ⟨List.all_eq_true.2 fun x hx => ((okAll_iff _).1 h1).2 x (List.mem_append_right _ hx), ?_⟩
  rintro rfl; simp at h2
theorem most_true {vs ls : List Int} (F : Int → Int) (h : okR vs ls = true) : majB vs (thr F (agrE vs F) 5) = true ∧ majB vs (mor F (agrE vs F) 5) = false := by
  obtain ⟨ha, hn⟩ := ok_all h
  have hA : agrE vs F = mid (vs.map F) := by unfold agrE; rw [if_pos ha]
  rw [hA]
  obtain ⟨h1, h2⟩ := mid_count (L := vs.map F) (by simpa using hn)
  rw [List.length_map, List.countP_map] at h1 h2
  have hin : ∀ x ∈ vs, inR x = true := List.all_eq_true.1 ha
  constructor
  · rw [majB_cnt, decide_eq_true_eq]
    have : cntI (thr F (mid (vs.map F)) 5) vs = List.countP ((fun y => decide (mid (vs.map F) ≤ y)) ∘ F) vs := by
      unfold cntI
      refine List.countP_congr fun x hx => ?_
      rw [hasI_iff, thr_mem]
      simp [hin x hx]
    omega
  · rw [majB_cnt, decide_eq_false_iff_not]
    have : cntI (mor F (mid (vs.map F)) 5) vs = List.countP ((fun y => decide (mid (vs.map F) < y)) ∘ F) vs := by
      unfold cntI
      refine List.countP_congr fun x hx => ?_
      rw [hasI_iff, mor_mem]
      simp [hin x hx]
    omega

/-- Two lists that are being written. -/
structure Two (w0 w : World) (u v : Value) (xs ys : List Int) : Prop where
  a : Rw intL 3 w0 w u xs
  b : Rw intL 3 w0 w v ys
  ne : ∀ g, u.ownBlock = some g → v.ownBlock ≠ some g
theorem Two.swap {w0 w : World} {u v : Value} {xs ys : List Int} (h : Two w0 w u v xs ys) : Two w0 w v u ys xs := ⟨h.b, h.a, fun g hg e => h.ne g e hg⟩
theorem Two.push {w0 w w2 : World} {u v : Value} {xs ys : List Int} {g c : Nat} (x : Int) (h : Two w0 w u v xs ys)
    (hown : w2.ownsRow w0.heap.size 3 1 (.slice (some ⟨g, 0, none⟩) (xs.length + 1) c) (xs.length + 1) (intL.all xs ++ [.int .i64 x])) (hg : w.grownBy w2 u.ownBlock) (hat : u.ownBlock = some g ∨ w.heap.size ≤ g) :
    Two w0 w2 (.slice (some ⟨g, 0, none⟩) (xs.length + 1) c) v (xs ++ [x]) ys := by
  have hne : ∀ k, v.ownBlock = some k → u.ownBlock ≠ some k := fun k hk e => h.ne k e hk
  refine ⟨h.a.push x hown hg, ⟨h.b.own.kept hg ?_, (h.a.push x hown hg).grown⟩, fun k hk e => ?_⟩
  · cases hv : v.ownBlock with
    | none => exact .inl rfl
    | some k => exact .inr fun e => hne k hv e.symm
  · obtain rfl : g = k := by simpa [Value.ownBlock] using hk
    rcases hat with hu | hu
    · exact h.ne g hu e
    · have := (h.b.lt g e).2; omega

set_option maxRecDepth 100000 in
set_option maxHeartbeats 6400000 in
theorem Most_law {w : World} {u v : Value} {vs ls : List Int} (h : RoCs w u v vs ls) (F : Int → Int) : Calls Try.prog 9 #[.agg #[u, v], .agg #[.int .i64 (F 0), .int .i64 (F 1), .int .i64 (F 2), .int .i64 (F 3), .int .i64 (F 4)]] w (BoolP true w) := by
  have hix : ∀ (k : Nat) (W : World), k < 5 → (Instr.index 38 (.agg #[.int .i64 (F 0), .int .i64 (F 1), .int .i64 (F 2), .int .i64 (F 3), .int .i64 (F 4)]) (.int .i64 (k : Nat))).run Try.prog W = .ok (.int .i64 (F (k : Nat))) W := by
    intro k W hk
    rcases (by omega : k = 0 ∨ k = 1 ∨ k = 2 ∨ k = 3 ∨ k = 4) with rfl | rfl | rfl | rfl | rfl <;> kernel_rfl
  have HIX := Lib.hid hix
  clear hix
  have hb0 := lay_alloc w (.cells #[u, v] 24)
  have hk := Go.heap_alloc_new w (.cells #[u, v] 24)
  have hsz : (w.alloc (.cells #[u, v] 24)).heap.size = w.heap.size + 1 := by simp
  have hI := h.later hb0
  obtain ⟨a1, c1, rfl, _, _⟩ := h.1.slice
  obtain ⟨a2, c2, rfl, _, _⟩ := h.2.slice
  clear h
  go_enter Try.func9, Try.ntmps9
  go_wp2_with fail
  generalize w.alloc _ = w00 at *
  have hr := row5_new w00 F
  have hb1 := lay_alloc w00 (.cells #[.int .i64 (F 0), .int .i64 (F 1), .int .i64 (F 2), .int .i64 (F 3), .int .i64 (F 4)] 38)
  have HI := Lib.hid (hI.later hb1)
  have HB := Lib.hid (hb0.trans (hb1.mono hb0.size))
  have hk := (hb1.block w.heap.size (by omega)).trans hk
  rw [hsz] at hr
  clear hb0 hb1 hI hsz
  generalize w00.alloc _ = w0 at *
  have c0 : w0.cell? ⟨w.heap.size, 0, none⟩ = .some (.slice a1 vs.length c1) := by rw [cell_of_row w0 _ _ _ _ _ hk]; rfl
  have c1' : w0.cell? ⟨w.heap.size, 1, none⟩ = .some (.slice a2 ls.length c2) := by rw [cell_of_row w0 _ _ _ _ _ hk]; rfl
  have f0 := hr.c0; have f1 := hr.c1; have f2 := hr.c2; have f3 := hr.c3; have f4 := hr.c4
  clear hk hr
  go_fit (Check_any HI.out)
  rintro e w1 ⟨rfl, hb1⟩
  have c0 := lay_later hb1 c0
  have c1' := lay_later hb1 c1'
  have f0 := lay_later hb1 f0; have f1 := lay_later hb1 f1; have f2 := lay_later hb1 f2; have f3 := lay_later hb1 f3; have f4 := lay_later hb1 f4
  have HI := Lib.hid (HI.out.later hb1)
  have HB := Lib.hid (HB.out.trans (hb1.mono HB.out.size))
  clear hb1
  by_cases hok : okR vs ls = true
  · have HOK := Lib.hid hok
    have hc : ckE vs ls = 0 := by unfold ckE; rw [if_pos hok]
    have hl1 : vs.length ≤ 100000 := by have := okR_len hok; omega
    rw [hc]
    clear hok hc
    go_wp2_with fail
    go_fit (Agreed_any HI.out F hl1)
    rintro e w2 ⟨rfl, hb2⟩
    have c0 := lay_later hb2 c0
    have c1' := lay_later hb2 c1'
    have f0 := lay_later hb2 f0; have f1 := lay_later hb2 f1; have f2 := lay_later hb2 f2; have f3 := lay_later hb2 f3; have f4 := lay_later hb2 f4
    have HI := Lib.hid (HI.out.later hb2)
    have HB := Lib.hid (HB.out.trans (hb2.mono HB.out.size))
    have HMT := Lib.hid (most_true F HOK.out)
    clear hb2
    generalize agrE vs F = n at *
    go_wp2_with fail
    clear f0 f1 f2 f3 f4
    go_loopw [6, 7, 18] (fun a b i wr => ∃ k : Nat, i = .int .i64 k ∧ k ≤ 5 ∧ Hid (Two w2 wr a b (thr F n k) (mor F n k))) (fun _ _ i _ => 5 - (intOf i).toNat)
    case atStart => exact ⟨0, rfl, by omega, ⟨Rw.nil w2, Rw.nil w2, fun g hg => by simp [Value.ownBlock] at hg⟩⟩
    case round =>
      obtain ⟨k, rfl, hk, HT⟩ := hrel
      obtain ⟨ua, uc, rfl, _, _⟩ := HT.out.a.slice
      obtain ⟨ub, ud, rfl, _, _⟩ := HT.out.b.slice
      by_cases hlt : k < 5
      · have ix := fun W => HIX.out k W hlt
        have HS1 := Lib.hid (thr_step F n k)
        have HS2 := Lib.hid (mor_step F n k)
        have HL1 := Lib.hid (thr_len F n k)
        have HL2 := Lib.hid (mor_len F n k)
        have HG : Hid (w2.heap.size ≤ wr.heap.size) := HT.out.a.grown.size
        generalize thr F n k = xs at *
        generalize mor F n k = ys at *
        generalize F ((k : Nat) : Int) = r at *
        by_cases h1 : n ≤ r
        · by_cases h2 : n < r
          · go_wp2_with (first
              | (at_builtin; refine wpList_pushI rfl _ _ 22 3 _ 1 8 rfl Try.underlying22 infoInt rfl (by decide) w2.heap.size xs.length _ (intL.all xs) rfl HT.out.a.own #[.int .i64 (k : Nat)] rfl (intL.one (k : Nat)) rfl (by have := HL1.out; omega) (by decide) HG.out ?_; intro g3 c3 w3 hown hgrow hat hlt3; have HT3 := Lib.hid (HT.out.push ((k : Nat) : Int) hown hgrow hat); have HG3 : Hid (w2.heap.size ≤ w3.heap.size) := HT3.out.a.grown.size; clear hown hgrow hat hlt3)
              | (at_builtin; refine wpList_pushI rfl _ _ 22 3 _ 1 8 rfl Try.underlying22 infoInt rfl (by decide) w2.heap.size ys.length _ (intL.all ys) rfl HT3.out.b.own #[.int .i64 (k : Nat)] rfl (intL.one (k : Nat)) rfl (by have := HL2.out; omega) (by decide) HG3.out ?_; intro g4 c4 w4 hown hgrow hat hlt4; have HT4 := Lib.hid (HT3.out.swap.push ((k : Nat) : Int) hown hgrow hat); clear hown hgrow hat hlt4))
            exact ⟨⟨k + 1, by go_num, by omega, by rw [HS1.out, HS2.out, if_pos h1, if_pos h2]; exact HT4.out.swap⟩, by simp [intOf]; omega⟩
          · go_wp2_with (at_builtin; refine wpList_pushI rfl _ _ 22 3 _ 1 8 rfl Try.underlying22 infoInt rfl (by decide) w2.heap.size xs.length _ (intL.all xs) rfl HT.out.a.own #[.int .i64 (k : Nat)] rfl (intL.one (k : Nat)) rfl (by have := HL1.out; omega) (by decide) HG.out ?_; intro g3 c3 w3 hown hgrow hat hlt3; have HT3 := Lib.hid (HT.out.push ((k : Nat) : Int) hown hgrow hat); clear hown hgrow hat hlt3)
            exact ⟨⟨k + 1, by go_num, by omega, by rw [HS1.out, HS2.out, if_pos h1, if_neg (by omega), List.append_nil]; exact HT3.out⟩, by simp [intOf]; omega⟩
        · have h2 : ¬ n < r := by omega
          go_wp2_with fail
          exact ⟨⟨k + 1, by go_num, by omega, by rw [HS1.out, HS2.out, if_neg (by omega), if_neg (by omega), List.append_nil, List.append_nil]; exact HT.out⟩, by simp [intOf]; omega⟩
      · obtain rfl : k = 5 := by omega
        have hg := HT.out.a.grown
        have e0 := lay_later hg c0
        have e1 := lay_later hg c1'
        have HI := Lib.hid (HI.out.later hg)
        have HB := Lib.hid (HB.out.trans (hg.mono HB.out.size))
        have HX := Lib.hid HT.out.a.told
        have HY := Lib.hid HT.out.b.told
        have HL1 := Lib.hid (thr_len F n 5)
        have HL2 := Lib.hid (mor_len F n 5)
        have m1 := HMT.out.1
        have m2 := HMT.out.2
        clear hg c0 c1' HT
        generalize thr F n 5 = xs at *
        generalize mor F n 5 = ys at *
        have HM1 := Majority_any HI.out HX.out hl1 (by have := HL1.out; omega)
        rw [m1] at HM1
        have HM1 := Lib.hid HM1
        have HMB := Lib.hid m2
        clear m1 m2
        go_wp2_with fail
        go_fit HM1.out
        rintro e w4 ⟨rfl, hb4⟩
        have e2 := lay_later hb4 e0
        have e3 := lay_later hb4 e1
        have HM2 := Majority_any (HI.out.later hb4) (HY.out.later hb4) hl1 (by have := HL2.out; omega)
        rw [HMB.out] at HM2
        have HM2 := Lib.hid HM2
        have HB := Lib.hid (HB.out.trans (hb4.mono HB.out.size))
        clear hb4 e0 e1 HM1
        go_wp2_with fail
        go_fit HM2.out
        rintro e w5 ⟨rfl, hb5⟩
        have HB := Lib.hid (HB.out.trans (hb5.mono HB.out.size))
        clear hb5
        go_wp2_with fail
        go_fit (awake_any w5)
        rintro e wz ⟨rfl, hbz⟩
        have HB := Lib.hid (HB.out.trans (hbz.mono HB.out.size))
        clear hbz
        go_wp2_with fail
        go_ret
        exact ⟨rfl, HB.out⟩
  · have hc : ckE vs ls = 110 := by unfold ckE; rw [if_neg hok]
    rw [hc]
    clear hok hc
    go_wp2_with fail
    go_fit (awake_any w1)
    rintro e wz ⟨rfl, hbz⟩
    have HB := Lib.hid (HB.out.trans (hbz.mono HB.out.size))
    clear hbz
    go_wp2_with fail
    go_ret
    exact ⟨rfl, HB.out⟩
end Go.Proofs.Yticcmjiekopnbaa
