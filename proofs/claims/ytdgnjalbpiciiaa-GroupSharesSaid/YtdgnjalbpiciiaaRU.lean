/-
  The document's Share walked: the walk.
-/
import Derived.Test.YtdgnjalbpiciiaaRS
namespace Go.Proofs.Ytdgnjalbpiciiaa
set_option linter.unusedVariables false
set_option linter.unusedSimpArgs false
open Go.RowKit Go.Shelf

theorem intL_cell' {w : World} {g off n c k : Nat} {l : List Int} {x : Int} (h : intL.In w (.slice (some ⟨g, off, none⟩) n c) l) (hx : l[k]? = some x) : w.cell? ⟨g, off + k, none⟩ = some (.int .i64 x) := by
  obtain ⟨g', off', e, _, hc⟩ := intL_at h hx
  cases e
  exact hc
theorem p1_leSngth (R : Int → Nat) (l : List Int) : (p1 R l).2.length = l.length := by
  refine revI (P := fun l => (p1 R l).2.length = l.length) rfl (fun l x ih => ?_) l
  rw [p1_snoc]; unfold st1
  split <;> simp [ih]
theorem p1_supp {o T : List Int} {z : Int} (l : List Int) (hz : z ∉ T) : (p1 (room o T) l).1 z = 0 := by
  refine revI (P := fun l => (p1 (room o T) l).1 z = 0) ?_ (fun l x ih => ?_) l
  · show room o T z = 0
    unfold room; rw [if_neg hz]
  · rw [p1_snoc]; unfold st1
    split
    · show dec _ x z = 0
      unfold dec; split <;> simp [ih]
    · exact ih
theorem p1_leS (R : Int → Nat) (z : Int) (l : List Int) : (p1 R l).1 z ≤ R z := by
  refine revI (P := fun l => (p1 R l).1 z ≤ R z) (Nat.le_refl _) (fun l x ih => ?_) l
  rw [p1_snoc]; unfold st1
  split
  · show dec _ x z ≤ R z
    unfold dec; split <;> omega
  · exact ih
theorem room_leS (o T : List Int) (h : o.length ≤ 1000) (z : Int) : room o T z ≤ 1001 := by
  have := Nat.div_le_self o.length T.length
  unfold room
  split
  · split <;> omega
  · omega
theorem nodup_take {T : List Int} (hn : T.Nodup) {j : Nat} {y : Int} (hy : T[j]? = some y) : y ∉ T.take j := fun h => by
  obtain ⟨i, hi⟩ := List.mem_iff_getElem?.1 h
  rw [List.getElem?_take] at hi
  split at hi
  · rename_i hlt
    have := (List.getElem?_inj (List.getElem?_eq_some_iff.1 hi).1 hn).1 (hi.trans hy.symm)
    omega
  · cases hi
theorem may_at {T : List Int} {j : Nat} {y : Int} (hy : T[j]? = some y) (R : Int → Nat) : (T.map fun z => ((R z : Nat) : Int))[j]? = some ((R y : Nat) : Int) := by
  rw [List.getElem?_map, hy]; rfl
theorem may_dec {T : List Int} (hn : T.Nodup) {j : Nat} {y : Int} (hy : T[j]? = some y) {R : Int → Nat} (h : 0 < R y) : (T.map fun z => ((R z : Nat) : Int)).set j (((R y : Nat) : Int) - 1) = T.map fun z => ((dec R y z : Nat) : Int) := by
  have hj := (List.getElem?_eq_some_iff.1 hy).1
  apply List.ext_getElem?
  intro i
  rw [List.getElem?_set, List.getElem?_map, List.getElem?_map, List.length_map]
  by_cases e : j = i
  · subst e
    rw [if_pos rfl, if_pos hj, hy]
    simp only [Option.map_some, Option.some.injEq, dec, if_true]
    omega
  · rw [if_neg e]
    cases hi : T[i]? with
    | none => rfl
    | some x =>
      have hne : x ≠ y := fun e' => by
        subst e'
        exact e ((List.getElem?_inj hj hn).1 (hy.trans hi.symm))
      simp [dec, hne]
theorem p2_length (T : List Int) (R : Int → Nat) (l : List Int) : (p2 T R l).2.length = l.length := by
  refine revI (P := fun l => (p2 T R l).2.length = l.length) rfl (fun l x ih => ?_) l
  rw [p2_snoc]; unfold st2
  split <;> simp [ih]
theorem p2_leS (T : List Int) (R : Int → Nat) (z : Int) (l : List Int) : (p2 T R l).1 z ≤ R z := by
  refine revI (P := fun l => (p2 T R l).1 z ≤ R z) (Nat.le_refl _) (fun l x ih => ?_) l
  rw [p2_snoc]; unfold st2
  split
  · exact ih
  · show dec _ (pick T (p2 T R l).1) z ≤ R z
    unfold dec; split <;> omega
theorem pick_zero {T : List Int} {R : Int → Nat} (h : ∀ z ∈ T, ¬ 0 < R z) : pick T R = 0 := by
  unfold pick
  rw [List.find?_eq_none.2 fun z hz => by simpa using h z hz]
  rfl
theorem pick_mem {T : List Int} {R : Int → Nat} {i : Nat} {z : Int} (hz : T[i]? = some z) (hp : 0 < R z) : pick T R ∈ T := by
  unfold pick
  cases h : T.find? (fun m => decide (0 < R m)) with
  | none =>
    have := List.find?_eq_none.1 h z (List.mem_of_getElem? hz)
    simp at this; omega
  | some q => exact List.mem_of_find?_eq_some h
theorem pick_first : ∀ {T : List Int} {R : Int → Nat} {j : Nat} {y : Int}, T[j]? = some y → 0 < R y → (∀ (i : Nat) (z : Int), i < j → T[i]? = some z → ¬ 0 < R z) → pick T R = y
  | [], R, j, y, h, _, _ => by simp at h
  | x :: T, R, 0, y, h, hp, _ => by
    obtain rfl : x = y := by simpa using h
    unfold pick
    rw [List.find?_cons_of_pos (by simpa using hp)]
    rfl
  | x :: T, R, j + 1, y, h, hp, hn => by
    have h0 := hn 0 x (by omega) rfl
    have ih := pick_first (T := T) (R := R) (j := j) (y := y) (by simpa using h) hp fun i z hi hz => hn (i + 1) z (by omega) (by simpa using hz)
    unfold pick at ih ⊢
    rw [List.find?_cons_of_neg (by simpa using h0)]
    exact ih
theorem quo_num (n t : Nat) (hn : n ≤ 1000) : wrap64 ((n : Int) / (t : Int)) = ((n / t : Nat) : Int) := by
  have := Nat.div_le_self n t
  have e : (n : Int) / (t : Int) = ((n / t : Nat) : Int) := rfl
  rw [e]
  generalize n / t = q at *
  exact IntWalk.wrap64_in _ (by omega)
set_option maxRecDepth 100000 in
set_option maxHeartbeats 6400000 in
theorem RShare_any {w : World} {vo vm : Value} {o m : List Int} (ho : intL.In w vo o) (hm : intL.In w vm m) (lo : o.length ≤ 1000) (lm : m.length ≤ 1000) : Calls Try.prog 30 #[vo, vm] w (RwP (share o (team m)) w) := by
  have HO := Lib.hid ho
  have HT := Lib.hid (RTeam_any hm (by omega))
  obtain ⟨a1, c1, rfl, _, _⟩ := ho.slice
  obtain ⟨a2, c2, rfl, _, _⟩ := hm.slice
  clear ho hm
  go_enter Try.func30, Try.ntmps30
  go_wp2_with fail
  go_fit HT.out
  rintro e w1 ⟨v1, rfl, hr1⟩
  have HB1 := Lib.hid hr1.grown
  have HO1 := Lib.hid (HO.out.later hr1.grown)
  have HTn := Lib.hid hr1.told
  have hTl : (team m).length ≤ 1000 := by have := team_len m; omega
  have HNd := Lib.hid (team_nodup m)
  have HAsc := Lib.hid (team_sorted m)
  have HPos := Lib.hid (team_pos m)
  obtain ⟨a3, c3, rfl, _, _⟩ := hr1.slice
  clear HT hr1 HO
  generalize team m = T at *
  have hmk := run_make_row' (P := Try.prog) 43 3 (.int .i64 0) 8 Try.underlying43 infoInt rfl .i64 .i64 o.length (by omega) (by omega)
  by_cases hT : T = []
  · subst hT
    have HE : Hid (share o [] = List.replicate o.length 0) := by show _ = _; unfold share; rw [if_pos rfl]
    have HR := Lib.hid (IRow.made w1 o.length)
    have HBa := Lib.hid (below_alloc w1 (.cells (madeCells #[.int .i64 0] o.length) 3))
    go_wp2_with fail
    go_ret
    rw [HE.out]
    have hown := IRow.own (w0 := w) HR.out HB1.out.size (HB1.out.trans (HBa.out.mono HB1.out.size)) (by rw [List.length_replicate]; omega)
    rw [List.length_replicate] at hown
    exact ⟨_, rfl, hown⟩
  · have hTp : 0 < T.length := List.length_pos_iff.2 hT
    have hTz : ¬ (T.length : Int) = 0 := by omega
    have hT00 : ((T.length : Int) == (0 : Int)) = false := by simp; exact hT
    have hmk2 := run_make_row' (P := Try.prog) 43 3 (.int .i64 0) 8 Try.underlying43 infoInt rfl .i64 .i64 T.length (by omega) (by omega)
    have hmk3 := run_make_row' (P := Try.prog) 84 4 (.bool false) 1 Try.underlying84 infoBool rfl .i64 .i64 T.length (by omega) (by omega)
    have HS0 := Lib.hid (SW.made w1 o.length T.length)
    go_wp2_with fail
    clear hmk hmk2 hmk3
    have hs1 : (((w1.alloc (.cells (madeCells #[.int .i64 0] o.length) 3)).alloc (.cells (madeCells #[.int .i64 0] T.length) 3)).alloc (.cells (madeCells #[.bool false] T.length) 4)).heap.size = w1.heap.size + 1 + 1 + 1 := by simp
    generalize ((w1.alloc _).alloc _).alloc _ = w2 at *
    try simp only [hT00]
    go_loopw [37] (fun iv wr => ∃ k : Nat, iv = .int .i64 k ∧ k ≤ T.length ∧ Hid (SW w1 wr (List.replicate o.length 0) (List.replicate k ((o.length / T.length : Nat) : Int) ++ List.replicate (T.length - k) 0) (List.replicate T.length false))) (fun iv _ => T.length - (intOf iv).toNat)
    case atStart => exact ⟨0, rfl, Nat.zero_le _, HS0.out⟩
    case round =>
      obtain ⟨k, rfl, hk, hS⟩ := hrel
      by_cases hlt : k < T.length
      · have hc := hS.out.may.cell (i := k) (x := 0) (by rw [List.getElem?_append_right (by simp), List.length_replicate, Nat.sub_self, List.getElem?_replicate, if_pos (by omega)])
        have hf := hS.out.may.fz k
        have hkT : (k : Int) < (T.length : Int) := by omega
        have HW := Lib.hid (quo_num o.length T.length lo)
        have HS2 := Lib.hid (hS.out.setMay k ((o.length / T.length : Nat) : Int))
        go_wp2_with fail
        refine ⟨⟨k + 1, by go_num, by omega, ?_⟩, by simp [intOf]; omega⟩
        rw [HW.out]
        have h := HS2.out
        rw [put_mid (by simp) hlt, ← List.replicate_succ'] at h
        exact h
      · obtain rfl : k = T.length := by omega
        have HS3 : Hid (SW w1 wr (List.replicate o.length 0) (mayR o T 0) (exR o T 0)) := by
          have h := hS.out
          rw [Nat.sub_self, List.replicate_zero, List.append_nil, ← mayR_zero, ← exR_zero] at h
          exact h
        clear hS HS0
        have hmod : o.length % T.length < T.length := Nat.mod_lt _ hTp
        have hmd : (o.length : Int) % (T.length : Int) = ((o.length % T.length : Nat) : Int) := rfl
        go_wp2_with fail
        simp only [hmd]
        go_loopw [54] (fun iv wx => ∃ k : Nat, iv = .int .i64 k ∧ k ≤ o.length % T.length ∧ Hid (SW w1 wx (List.replicate o.length 0) (mayR o T k) (exR o T k))) (fun iv _ => o.length % T.length - (intOf iv).toNat)
        case atStart => exact ⟨0, rfl, Nat.zero_le _, HS3.out⟩
        case round =>
          clear HS3
          obtain ⟨k, rfl, hk, hS⟩ := hrel
          by_cases hlt : k < o.length % T.length
          · have hlt' : (k : Int) < ((o.length % T.length : Nat) : Int) := by omega
            generalize hM : o.length % T.length = M at *
            go_wp2_with fail
            go_loopw [10, 58] (fun bv jv wx => ∃ (b : Int) (j : Nat), bv = .int .i64 b ∧ jv = .int .i64 j ∧ j ≤ T.length ∧ Hid (BestAt o T k j b) ∧ Hid (SW w1 wx (List.replicate o.length 0) (mayR o T k) (exR o T k))) (fun _ jv _ => T.length - (intOf jv).toNat)
            case atStart => exact ⟨-1, 0, rfl, rfl, Nat.zero_le _, best_none o T k, hS.out⟩
            case round =>
              clear hS
              obtain ⟨b, j, rfl, rfl, hj, hB, hS⟩ := hrel
              by_cases hjl : j < T.length
              · have hx : T[j]? = some T[j] := List.getElem?_eq_getElem hjl
                have hTr := HTn.out.later hS.out.bel
                obtain ⟨g, off, rfl, _, hc⟩ := intL_at hTr hx
                have HX := Lib.hid hx
                have HTr := Lib.hid hTr
                have HOr := Lib.hid (HO1.out.later hS.out.bel)
                have hec := hS.out.ex.cell (i := j) (x := decide (rank o T T[j] < k)) (by unfold exR; rw [List.getElem?_map, hx]; rfl)
                clear hx hTr
                generalize T[j] = x at *
                have hjT : (j : Int) < (T.length : Int) := by omega
                by_cases hr : rank o T x < k
                · rw [decide_eq_true hr] at hec
                  have HN := Lib.hid (best_skip hB.out HX.out hr)
                  go_wp2_with fail
                  go_quiet (fail)
                  go_wp2_with fail
                  exact ⟨⟨b, j + 1, rfl, by go_num, by omega, HN, hS.out.drewN _⟩, by simp [intOf]; omega⟩
                · rw [decide_eq_false hr] at hec
                  have hr' : k ≤ rank o T x := by omega
                  rcases hB.out with ⟨rfl, _⟩ | ⟨c, y, rfl, hcj, hy, _⟩
                  · have HN := Lib.hid (best_first hB.out HX.out hr')
                    go_wp2_with fail
                    go_quiet (fail)
                    go_wp2_with fail
                    exact ⟨⟨j, j + 1, rfl, by go_num, by omega, HN, hS.out.drewN _⟩, by simp [intOf]; omega⟩
                  · have hcy := intL_cell' HTr.out hy
                    have HC : Hid (∀ (q : Nat) (z : Int), Calls Try.prog 51 #[.slice a1 o.length c1, .int .i64 z] (wr.drewN q) fun e w' => e = .returned (.int .i64 (o.count z : Nat)) ∧ w' = wr.drewN q) := fun q z => (times_any (HOr.out.drewN q) z).mono fun e w' ⟨he, hw⟩ => ⟨he, hw.symm⟩
                    have hc0 : ¬ (c : Int) < 0 := by omega
                    have hcT : (c : Int) < (T.length : Int) := by omega
                    have d0 : decide ((c : Int) < 0) = false := decide_eq_false hc0
                    by_cases hb : o.count y < o.count x
                    · have HN := Lib.hid (best_new HAsc.out hB.out HX.out hr' hy hb)
                      have d1 : decide (o.count y < o.count x) = true := decide_eq_true hb
                      go_wp2_with fail
                      go_quiet ((go_at_call 51; exact Calls.quiet_of_same (HC.out _ _)))
                      go_wp2_with fail
                      exact ⟨⟨j, j + 1, rfl, by go_num, by omega, HN, hS.out.drewN _⟩, by simp [intOf]; omega⟩
                    · have HN := Lib.hid (best_old HAsc.out hB.out HX.out hy hb)
                      have d1 : decide (o.count y < o.count x) = false := decide_eq_false hb
                      go_wp2_with fail
                      go_quiet ((go_at_call 51; exact Calls.quiet_of_same (HC.out _ _)))
                      go_wp2_with fail
                      exact ⟨⟨c, j + 1, rfl, by go_num, by omega, HN, hS.out.drewN _⟩, by simp [intOf]; omega⟩
              · obtain rfl : j = T.length := by omega
                obtain ⟨c, y, rfl, hy, hry⟩ := best_end HNd.out hB.out (by omega)
                have hcT := (List.getElem?_eq_some_iff.1 hy).1
                have hcTi : (c : Int) < (T.length : Int) := by omega
                obtain ⟨hm1, hm2⟩ := mayR_step hy hry HNd.out
                have hx1 := exR_step hy hry HNd.out
                have HS4 := hS.out.setEx c true
                have ec := hS.out.ex.cell (i := c) (x := decide (rank o T y < k)) (by unfold exR; rw [List.getElem?_map, hy]; rfl)
                have ef := hS.out.ex.fz c
                have mc := HS4.may.cell hm2
                have mf := HS4.may.fz c
                have HS5 : Hid (SW w1 ((wr.setCell ⟨w1.heap.size + 1 + 1, c, none⟩ (.bool true)).setCell ⟨w1.heap.size + 1, c, none⟩ (.int .i64 (((o.length / T.length : Nat) : Int) + 1))) (List.replicate o.length 0) (mayR o T (k + 1)) (exR o T (k + 1))) := by
                  rw [hm1, hx1]
                  exact HS4.setMay c _
                have hql := Nat.div_le_self o.length T.length
                have HS5' := HS5
                generalize o.length / T.length = q0 at mc HS5 hql
                clear HS4 hm1 hm2 hx1 hB hS
                go_wp2_with fail
                exact ⟨⟨k + 1, by go_num, by omega, HS5⟩, by simp [intOf]; omega⟩
          · obtain rfl : k = o.length % T.length := by omega
            rw [mayR_end] at hS
            generalize exR o T (o.length % T.length) = EX at *
            have hmz : ¬ ((o.length % T.length : Nat) : Int) < ((o.length % T.length : Nat) : Int) := by omega
            generalize o.length % T.length = M at *
            have hp0 : p1 (room o T) (o.take 0) = (room o T, []) := rfl
            go_wp2_with fail
            go_loopw [98] (fun iv wx => ∃ p : Nat, iv = .int .i64 p ∧ p ≤ o.length ∧ Hid (SW w1 wx ((p1 (room o T) (o.take p)).2 ++ List.replicate (o.length - p) 0) (T.map fun x => (((p1 (room o T) (o.take p)).1 x : Nat) : Int)) EX)) (fun iv _ => o.length - (intOf iv).toNat)
            case atStart => exact ⟨0, rfl, Nat.zero_le _, by rw [hp0]; exact hS.out⟩
            case round =>
              clear hS hp0
              obtain ⟨p, rfl, hp, hS⟩ := hrel
              by_cases hpl : p < o.length
              · have hx : o[p]? = some o[p] := List.getElem?_eq_getElem hpl
                obtain ⟨g, off, rfl, _, hc⟩ := intL_at (HO1.out.later hS.out.bel) hx
                have HP := Lib.hid (p1_step (room o T) hx)
                have HLen : Hid ((p1 (room o T) (o.take p)).2.length = p) := by show _ = _; rw [p1_leSngth, List.length_take]; omega
                have HSup := Lib.hid (fun z => @p1_supp o T z (o.take p))
                have HRb : Hid (∀ z, (p1 (room o T) (o.take p)).1 z ≤ 1001) := fun z => Nat.le_trans (p1_leS (room o T) z (o.take p)) (room_leS o T lo z)
                clear hx
                generalize o[p] = x at *
                generalize p1 (room o T) (o.take p) = S at *
                have hpo : (p : Int) < (o.length : Int) := by omega
                have hS' := hS
                clear hS
                go_wp2_with fail
                go_loopw [105] (fun jv wx => ∃ (j : Nat) (d : Bool), jv = .int .i64 j ∧ j ≤ T.length ∧ Hid (d = true ↔ x ∈ T.take j ∧ 0 < S.1 x) ∧ Hid (SW w1 wx (if d = true then (S.2 ++ [x]) ++ List.replicate (o.length - (p + 1)) 0 else S.2 ++ List.replicate (o.length - p) 0) (if d = true then T.map fun z => ((dec S.1 x z : Nat) : Int) else T.map fun z => ((S.1 z : Nat) : Int)) EX)) (fun jv _ => T.length - (intOf jv).toNat)
                case atStart => exact ⟨0, false, rfl, Nat.zero_le _, by show _ ↔ _; simp, hS'.out⟩
                case round =>
                  clear hS'
                  obtain ⟨j, d, rfl, hj, hd, hS⟩ := hrel
                  by_cases hjl : j < T.length
                  · have hy : T[j]? = some T[j] := List.getElem?_eq_getElem hjl
                    obtain ⟨g2, off2, rfl, _, hc2⟩ := intL_at (HTn.out.later hS.out.bel) hy
                    have HTk : Hid (T.take (j + 1) = T.take j ++ [T[j]]) := by show _ = _; rw [List.take_add_one, hy]; rfl
                    have HY := Lib.hid hy
                    clear hy
                    generalize T[j] = y at *
                    have hjT : (j : Int) < (T.length : Int) := by omega
                    by_cases hyx : y = x
                    · subst hyx
                      have hnin : y ∉ T.take j := nodup_take HNd.out HY.out
                      have hd0 : d = false := by
                        cases d with
                        | false => rfl
                        | true => exact absurd (hd.out.1 rfl).1 hnin
                      subst hd0
                      have hS2 : SW w1 wr (S.2 ++ List.replicate (o.length - p) 0) (T.map fun z => ((S.1 z : Nat) : Int)) EX := hS.out
                      have mc := hS2.may.cell (may_at HY.out S.1)
                      have HR0 := Lib.hid (fun (h : 0 < S.1 y) => may_dec HNd.out HY.out h)
                      have HR1 := Lib.hid (put_mid (x := y) HLen.out hpl)
                      by_cases hpos : 0 < S.1 y
                      · have HN : Hid (true = true ↔ y ∈ T.take (j + 1) ∧ 0 < S.1 y) := by show _ ↔ _; rw [HTk.out]; simp [hpos]
                        have oc := hS2.out.cell (i := p) (x := 0) (by rw [List.getElem?_append_right (by have := HLen.out; omega), HLen.out, Nat.sub_self, List.getElem?_replicate, if_pos (by omega)])
                        have of' := hS2.out.fz p
                        have hS3 := hS2.setOut p y
                        rw [HR1.out] at hS3
                        have mc2 := hS3.may.cell (may_at HY.out S.1)
                        have mf2 := hS3.may.fz j
                        have hS4 := hS3.setMay j (((S.1 y : Nat) : Int) - 1)
                        rw [HR0.out hpos] at hS4
                        have HS4 := Lib.hid hS4
                        have hle : S.1 y ≤ 1001 := HRb.out y
                        clear hS2 hS3 hS4 hS hd hnin HR0 HR1 HTk
                        generalize S.1 y = ry at *
                        go_wp2_with fail
                        exact ⟨⟨j + 1, true, by go_num, by omega, HN, HS4⟩, by simp [intOf]; omega⟩
                      · have HN : Hid (false = true ↔ y ∈ T.take (j + 1) ∧ 0 < S.1 y) := by show _ ↔ _; simp [hpos]
                        clear hS2 hd hnin HR0 HR1 HTk
                        go_wp2_with fail
                        exact ⟨⟨j + 1, false, by go_num, by omega, HN, hS⟩, by simp [intOf]; omega⟩
                    · have HN : Hid (d = true ↔ x ∈ T.take (j + 1) ∧ 0 < S.1 x) := by
                        show _ ↔ _
                        rw [HTk.out, hd.out, List.mem_append, List.mem_singleton]
                        constructor
                        · rintro ⟨h1, h2⟩; exact ⟨.inl h1, h2⟩
                        · rintro ⟨h1 | h1, h2⟩
                          · exact ⟨h1, h2⟩
                          · exact absurd h1.symm hyx
                      clear HTk hd
                      go_wp2_with fail
                      exact ⟨⟨j + 1, d, by go_num, by omega, HN, hS⟩, by simp [intOf]; omega⟩
                  · obtain rfl : j = T.length := by omega
                    have HF : Hid (SW w1 wr ((p1 (room o T) (o.take (p + 1))).2 ++ List.replicate (o.length - (p + 1)) 0) (T.map fun z => (((p1 (room o T) (o.take (p + 1))).1 z : Nat) : Int)) EX) := by
                      show SW _ _ _ _ _
                      have h := hS.out
                      have hdd := hd.out
                      rw [List.take_length] at hdd
                      rw [HP.out]
                      unfold st1
                      by_cases hpos : 0 < S.1 x
                      · have hxT : x ∈ T := Classical.byContradiction fun hn => by have := HSup.out x hn; omega
                        have hd1 : d = true := hdd.2 ⟨hxT, hpos⟩
                        subst hd1
                        rw [if_pos hpos]
                        exact h
                      · have hd0 : d = false := by
                          cases d with
                          | false => rfl
                          | true => exact absurd (hdd.1 rfl).2 hpos
                        subst hd0
                        rw [if_neg hpos]
                        rw [if_neg (by decide), if_neg (by decide), zero_mid HLen.out hpl] at h
                        exact h
                    go_wp2_with fail
                    exact ⟨⟨p + 1, by go_num, by omega, HF⟩, by simp [intOf]; omega⟩
              · obtain rfl : p = o.length := by omega
                have hone := one_any (R := room o T) HNd.out HPos.out (fun x h => room_supp x h) o
                have HL0 := Lib.hid hone.len
                have HM0 := Lib.hid hone.mem
                have HE : Hid (share o T = (p2 T (p1 (room o T) o).1 (p1 (room o T) o).2).2) := by show _ = _; unfold share; rw [if_neg hT]
                have HRb : Hid (∀ z, (p1 (room o T) o).1 z ≤ 1001) := fun z => Nat.le_trans (p1_leS (room o T) z o) (room_leS o T lo z)
                rw [List.take_length, Nat.sub_self, List.replicate_zero, List.append_nil] at hS
                clear hone
                generalize p1 (room o T) o = P at *
                have HS9 : Hid (SW w1 wr ((p2 T P.1 (P.2.take 0)).2 ++ P.2.drop 0) (T.map fun z => (((p2 T P.1 (P.2.take 0)).1 z : Nat) : Int)) EX) := hS.out
                clear hS
                go_wp2_with fail
                go_loopw [134] (fun iv wx => ∃ p : Nat, iv = .int .i64 p ∧ p ≤ o.length ∧ Hid (SW w1 wx ((p2 T P.1 (P.2.take p)).2 ++ P.2.drop p) (T.map fun z => (((p2 T P.1 (P.2.take p)).1 z : Nat) : Int)) EX)) (fun iv _ => o.length - (intOf iv).toNat)
                case atStart => exact ⟨0, rfl, Nat.zero_le _, HS9.out⟩
                case round =>
                  clear HS9
                  obtain ⟨p, rfl, hp, hS⟩ := hrel
                  by_cases hpl : p < o.length
                  · have hpl' : p < P.2.length := by rw [HL0.out]; exact hpl
                    have hx : P.2[p]? = some P.2[p] := List.getElem?_eq_getElem hpl'
                    have HP := Lib.hid (p2_step T P.1 hx)
                    have HLen : Hid ((p2 T P.1 (P.2.take p)).2.length = p) := by show _ = _; rw [p2_length, List.length_take]; omega
                    have HRc : Hid (∀ z, (p2 T P.1 (P.2.take p)).1 z ≤ 1001) := fun z => Nat.le_trans (p2_leS T P.1 z (P.2.take p)) (HRb.out z)
                    have HXm := Lib.hid (HM0.out _ (List.getElem_mem hpl'))
                    have HX := Lib.hid hx
                    have HDr : Hid (P.2.drop p = P.2[p] :: P.2.drop (p + 1)) := List.drop_eq_getElem_cons hpl'
                    clear hx
                    generalize P.2[p] = x at *
                    generalize p2 T P.1 (P.2.take p) = S at *
                    have hpo : (p : Int) < (o.length : Int) := by omega
                    have hS' := hS
                    clear hS
                    go_wp2_with fail
                    go_loopw [139] (fun jv wx => ∃ (j : Nat) (d : Bool), jv = .int .i64 j ∧ j ≤ T.length ∧ Hid (d = true ↔ x = 0 ∧ ∃ (i : Nat) (y : Int), i < j ∧ T[i]? = some y ∧ 0 < S.1 y) ∧ Hid (SW w1 wx (if d = true then (S.2 ++ [pick T S.1]) ++ P.2.drop (p + 1) else S.2 ++ P.2.drop p) (if d = true then T.map fun z => ((dec S.1 (pick T S.1) z : Nat) : Int) else T.map fun z => ((S.1 z : Nat) : Int)) EX)) (fun jv _ => T.length - (intOf jv).toNat)
                    case atStart => exact ⟨0, false, rfl, Nat.zero_le _, by show _ ↔ _; simp, hS'.out⟩
                    case round =>
                      clear hS'
                      obtain ⟨j, d, rfl, hj, hd, hS⟩ := hrel
                      by_cases hjl : j < T.length
                      · have hy : T[j]? = some T[j] := List.getElem?_eq_getElem hjl
                        obtain ⟨g2, off2, rfl, _, hc2⟩ := intL_at (HTn.out.later hS.out.bel) hy
                        have HY := Lib.hid hy
                        clear hy
                        generalize T[j] = y at *
                        have hjT : (j : Int) < (T.length : Int) := by omega
                        cases d with
                        | true =>
                          obtain ⟨hx0, i, z, hi, hz, hzp⟩ := hd.out.1 rfl
                          have hpk : 0 < pick T S.1 := HPos.out _ (pick_mem hz hzp)
                          have oc := hS.out.out.cell (i := p) (x := pick T S.1) (by rw [if_pos rfl, List.append_assoc, List.getElem?_append_right (by have := HLen.out; omega), HLen.out, Nat.sub_self]; rfl)
                          have HN : Hid (true = true ↔ x = 0 ∧ ∃ (i : Nat) (y : Int), i < j + 1 ∧ T[i]? = some y ∧ 0 < S.1 y) := ⟨fun _ => ⟨hx0, i, z, by omega, hz, hzp⟩, fun _ => rfl⟩
                          have hpz : ¬ pick T S.1 = 0 := by omega
                          have HS3 := hS
                          clear hd hS hx0 hz hzp
                          generalize hpke : pick T S.1 = pk at *
                          clear hpke
                          go_wp2_with fail
                          exact ⟨⟨j + 1, true, by go_num, by omega, HN, HS3⟩, by simp [intOf]; omega⟩
                        | false =>
                          have hS2 : SW w1 wr (S.2 ++ P.2.drop p) (T.map fun z => ((S.1 z : Nat) : Int)) EX := hS.out
                          have oc := hS2.out.cell (i := p) (x := x) (by rw [List.getElem?_append_right (by have := HLen.out; omega), HLen.out, Nat.sub_self, HDr.out]; rfl)
                          have hnone : ¬ (x = 0 ∧ ∃ (i : Nat) (y : Int), i < j ∧ T[i]? = some y ∧ 0 < S.1 y) := fun h => by have := hd.out.2 h; cases this
                          have mc := hS2.may.cell (may_at HY.out S.1)
                          by_cases hx0 : x = 0
                          · subst hx0
                            by_cases hpos : 0 < S.1 y
                            · have HPk : Hid (pick T S.1 = y) := pick_first HY.out hpos fun i z hi hz hzp => hnone ⟨rfl, i, z, hi, hz, hzp⟩
                              have HN : Hid (true = true ↔ True ∧ ∃ (i : Nat) (y : Int), i < j + 1 ∧ T[i]? = some y ∧ 0 < S.1 y) := ⟨fun _ => ⟨trivial, j, y, by omega, HY.out, hpos⟩, fun _ => rfl⟩
                              have of' := hS2.out.fz p
                              have hS3 := hS2.setOut p y
                              rw [set_mid HLen.out HX.out] at hS3
                              have mc2 := hS3.may.cell (may_at HY.out S.1)
                              have mf2 := hS3.may.fz j
                              have hS4 := hS3.setMay j (((S.1 y : Nat) : Int) - 1)
                              rw [may_dec HNd.out HY.out hpos] at hS4
                              have HS4 : Hid (SW w1 ((wr.setCell ⟨w1.heap.size, p, none⟩ (.int .i64 y)).setCell ⟨w1.heap.size + 1, j, none⟩ (.int .i64 (((S.1 y : Nat) : Int) - 1))) (if true = true then (S.2 ++ [pick T S.1]) ++ P.2.drop (p + 1) else S.2 ++ P.2.drop p) (if true = true then T.map fun z => ((dec S.1 (pick T S.1) z : Nat) : Int) else T.map fun z => ((S.1 z : Nat) : Int)) EX) := by
                                rw [if_pos rfl, if_pos rfl, HPk.out]; exact hS4
                              have hle : S.1 y ≤ 1001 := HRc.out y
                              clear hS2 hS3 hS4 hS hd hnone HPk
                              generalize hry : S.1 y = ry at mc mc2 hpos hle HS4
                              clear hry
                              go_wp2_with fail
                              exact ⟨⟨j + 1, true, by go_num, by omega, HN, HS4⟩, by simp [intOf]; omega⟩
                            · have HN : Hid (false = true ↔ True ∧ ∃ (i : Nat) (y : Int), i < j + 1 ∧ T[i]? = some y ∧ 0 < S.1 y) := by
                                refine ⟨fun h => (by cases h), fun ⟨_, i, z, hi, hz, hzp⟩ => ?_⟩
                                by_cases e : i = j
                                · subst e; rw [HY.out] at hz; cases hz; exact absurd hzp hpos
                                · exact absurd ⟨rfl, i, z, by omega, hz, hzp⟩ hnone
                              have HS3 := hS
                              clear hS2 hd hnone hS
                              generalize hry : S.1 y = ry at mc hpos
                              clear hry
                              go_wp2_with fail
                              exact ⟨⟨j + 1, false, by go_num, by omega, HN, HS3⟩, by simp [intOf]; omega⟩
                          · have HN : Hid (false = true ↔ x = 0 ∧ ∃ (i : Nat) (y : Int), i < j + 1 ∧ T[i]? = some y ∧ 0 < S.1 y) := ⟨fun h => (by cases h), fun h => absurd h.1 hx0⟩
                            have HS3 := hS
                            clear hS2 hd hnone hS mc
                            go_wp2_with fail
                            exact ⟨⟨j + 1, false, by go_num, by omega, HN, HS3⟩, by simp [intOf]; omega⟩
                      · obtain rfl : j = T.length := by omega
                        have HF : Hid (SW w1 wr ((p2 T P.1 (P.2.take (p + 1))).2 ++ P.2.drop (p + 1)) (T.map fun z => (((p2 T P.1 (P.2.take (p + 1))).1 z : Nat) : Int)) EX) := by
                          show SW _ _ _ _ _
                          have h := hS.out
                          rw [HP.out]
                          unfold st2
                          cases d with
                          | true =>
                            have hx0 := (hd.out.1 rfl).1
                            rw [if_neg (by omega)]
                            exact h
                          | false =>
                            rw [if_neg (by decide), if_neg (by decide), HDr.out] at h
                            by_cases hx0 : x = 0
                            · have hno : ∀ z ∈ T, ¬ 0 < S.1 z := fun z hz hp => by
                                obtain ⟨i, hi⟩ := List.mem_iff_getElem?.1 hz
                                have := hd.out.2 ⟨hx0, i, z, (List.getElem?_eq_some_iff.1 hi).1, hi, hp⟩
                                cases this
                              rw [if_neg (by omega), pick_zero hno]
                              have hmm : (T.map fun z => ((dec S.1 0 z : Nat) : Int)) = T.map fun z => ((S.1 z : Nat) : Int) := List.map_congr_left fun z hz => by
                                have := HPos.out z hz
                                have hz0 : z ≠ 0 := by omega
                                simp [dec, hz0]
                              rw [hmm, List.append_assoc]
                              rw [hx0] at h
                              exact h
                            · have hxT := HXm.out.resolve_left hx0
                              have := HPos.out x hxT
                              rw [if_pos this, List.append_assoc]
                              exact h
                        clear hS hd
                        go_wp2_with fail
                        exact ⟨⟨p + 1, by go_num, by omega, HF⟩, by simp [intOf]; omega⟩
                  · obtain rfl : p = o.length := by omega
                    have hfin := hS.out
                    rw [List.take_of_length_le (by rw [HL0.out]; exact Nat.le_refl _), List.drop_of_length_le (by rw [HL0.out]; exact Nat.le_refl _), List.append_nil, ← HE.out] at hfin
                    have hlen : (share o T).length = o.length := share_len o HNd.out HPos.out
                    have HFin := Lib.hid (IRow.own (w0 := w) hfin.out HB1.out.size (HB1.out.trans (hfin.bel.mono HB1.out.size)) (by rw [hlen]; omega))
                    rw [hlen] at HFin
                    clear hS hfin
                    go_wp2_with fail
                    go_ret
                    exact ⟨_, rfl, HFin.out⟩
end Go.Proofs.Ytdgnjalbpiciiaa
