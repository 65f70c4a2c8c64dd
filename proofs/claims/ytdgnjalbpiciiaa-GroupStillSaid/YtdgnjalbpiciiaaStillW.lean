/-
  GroupStill walked.
-/
import Derived.Test.YtdgnjalbpiciiaaSy
import Derived.Test.YtdgnjalbpiciiaaEvenW
import Derived.Lib.MinMax
namespace Go.Proofs.Ytdgnjalbpiciiaa
set_option linter.unusedVariables false
set_option linter.unusedSimpArgs false
open Go.RowKit Go.Shelf

theorem mass_counts {t : List Int} (hn : t.Nodup) (l : List Int) : (∀ x ∈ l, x ∈ t) → mass (fun m => l.count m) t = l.length := by
  refine revI (P := fun l => (∀ x ∈ l, x ∈ t) → mass (fun m => l.count m) t = l.length) ?_ ?_ l
  · intro _
    have : mass (fun m => ([] : List Int).count m) t = mass (fun _ => 0) t := mass_eq fun x _ => by simp
    rw [this, mass_const]; simp
  · intro l x ih h
    have ih := ih fun y hy => h y (List.mem_append.2 (.inl hy))
    have hx := h x (by simp)
    have e : mass (fun m => (l ++ [x]).count m) t = mass (fun m => l.count m + (if decide (m = x) = true then 1 else 0)) t := mass_eq fun m _ => by
      rw [List.count_append, List.count_singleton]
      by_cases em : m = x
      · subst em; simp
      · have : ¬ x = m := fun h => em h.symm
        simp [em, this]
    rw [e, mass_add, ih, mass_ind, count_one hn hx]
    simp
theorem still_math {o m way : List Int} (hw : ∀ x ∈ way, x ∈ team m) (hl : way.length = o.length) (hne : team m ≠ []) (hev : ∀ x ∈ team m, ∀ y ∈ team m, way.count x ≤ way.count y + 1) : alike way o ≤ alike (share o (team m)) o :=
  Nat.le_trans (alike_le (team_nodup m) way o hw hl) (Nat.le_trans (even_best (team_nodup m) hne (fun x => way.count x) ((mass_counts (team_nodup m) way hw).trans hl) hev) (share_stays o (team_nodup m) hne (team_pos m)))

theorem wrap_at (x : Int) {n : Nat} (hn : 0 < n) (hn2 : n ≤ 100) : ∃ r : Nat, r < n ∧ wrap64 ((IntKind.u64.wrap x).tmod (n : Int)) = (r : Int) := by
  have h0 : 0 ≤ IntKind.u64.wrap x := by rw [IntKind.wrap_u64]; omega
  generalize IntKind.u64.wrap x = u at *
  have h2 := Int.emod_nonneg u (b := (n : Int)) (by omega)
  have h3 := Int.emod_lt_of_pos u (b := (n : Int)) (by omega)
  refine ⟨(u % (n : Int)).toNat, by omega, ?_⟩
  rw [Int.tmod_eq_emod_of_nonneg h0, IntWalk.wrap64_in _ (by omega)]
  omega
theorem intL_cell {w : World} {g off n c k : Nat} {l : List Int} {x : Int} (h : intL.In w (.slice (some ⟨g, off, none⟩) n c) l) (hx : l[k]? = some x) : w.cell? ⟨g, off + k, none⟩ = some (.int .i64 x) := by
  obtain ⟨g', off', e, _, hc⟩ := intL_at h hx
  cases e
  exact hc
theorem set_again {A : List Int} {k : Nat} (hA : A.length = k) (x y : Int) (l : List Int) : ((A ++ [x]) ++ l).set k y = (A ++ [y]) ++ l := by
  subst hA
  rw [List.append_assoc, List.set_append_right _ _ (Nat.le_refl _), Nat.sub_self, List.append_assoc]
  rfl
set_option maxRecDepth 100000 in
set_option maxHeartbeats 6400000 in
theorem Still_law {w : World} {u v z : Value} {o m t3 : List Int} (ho : intL.In w u o) (hm : intL.In w v m) (ht : intL.In w z t3) (hwo : ∀ x ∈ o, W64 x) (hwm : ∀ x ∈ m, W64 x) (hwt : ∀ x ∈ t3, W64 x) : Calls Try.prog 7 #[u, v, z] w (BoolP true w) := by
  have hb0 := below_alloc w (.cells #[u] 43)
  have D0 := Lib.hid (DC.alloc w [u] 43)
  have HO := Lib.hid (ho.later hb0)
  have HM := Lib.hid (hm.later hb0)
  have HT := Lib.hid (ht.later hb0)
  have HWO := Lib.hid hwo
  have HWM := Lib.hid hwm
  have HWT := Lib.hid hwt
  have HB := Lib.hid hb0
  obtain ⟨a1, c1, rfl, _, _⟩ := ho.slice
  obtain ⟨a2, c2, rfl, _, _⟩ := hm.slice
  obtain ⟨a3, c3, rfl, _, _⟩ := ht.slice
  have HA := Lib.hid (awake_then hb0)
  have hz : (w.alloc (.cells #[.slice a1 o.length c1] 43)).heap.size = w.heap.size + 1 := by simp
  clear ho hm ht hwo hwm hwt hb0
  go_enter Try.func7, Try.ntmps7
  by_cases l1 : (200 : Int) < (o.length : Int)
  · go_wp2_with fail
    go_fit HA.out
    rintro e w1 ⟨rfl, hb⟩
    go_wp2_with fail
    go_ret
    exact ⟨rfl, hb⟩
  · by_cases l2 : (100 : Int) < (m.length : Int)
    · go_wp2_with fail
      go_fit HA.out
      rintro e w1 ⟨rfl, hb⟩
      go_wp2_with fail
      go_ret
      exact ⟨rfl, hb⟩
    · by_cases l3 : t3.length < o.length
      · go_wp2_with fail
        go_fit HA.out
        rintro e w1 ⟨rfl, hb⟩
        go_wp2_with fail
        go_ret
        exact ⟨rfl, hb⟩
      · clear HA
        have HTm := Lib.hid (RTeam_any HM.out (by omega))
        go_wp2_with fail
        generalize w.alloc _ = w0 at *
        go_fit HTm.out
        rintro e w1 ⟨v2, rfl, hr2⟩
        have HTn := Lib.hid hr2.told
        have HB1 := Lib.hid (HB.out.trans (hr2.grown.mono HB.out.size))
        have D1 := Lib.hid (D0.out.below hr2.grown)
        have HO1 := Lib.hid (HO.out.later hr2.grown)
        have HM1 := Lib.hid (HM.out.later hr2.grown)
        have HT1 := Lib.hid (HT.out.later hr2.grown)
        have HZ : Hid (w.heap.size < w1.heap.size) := by show _ < _; have := hr2.grown.size; omega
        obtain ⟨a4, c4, rfl, _, _⟩ := hr2.slice
        have HA := Lib.hid (awake_then HB1.out)
        have HTl : Hid ((team m).length ≤ 100) := by show _ ≤ _; have := team_len m; omega
        have HTn0 := Lib.hid (team_nodup m)
        have HSM := Lib.hid (fun way => @still_math o m way)
        have HSl : Hid ((share o (team m)).length = o.length) := share_len o (team_nodup m) (team_pos m)
        clear HTm hr2 D0 HO HM HT HB hz
        have HSh := Lib.hid (fun (wx : World) (h1 : intL.In wx (.slice a1 o.length c1) o) (h2 : intL.In wx (.slice a2 m.length c2) m) => Share_any h1 h2 HWO.out HWM.out (by omega) (by omega))
        generalize team m = T at *
        by_cases hT : T = []
        · subst hT
          go_wp2_with fail
          go_fit HA.out
          rintro e w1 ⟨rfl, hb⟩
          go_wp2_with fail
          go_ret
          exact ⟨rfl, hb⟩
        · have hTp : 0 < T.length := List.length_pos_iff.2 hT
          have hTz : ¬ (T.length : Int) = 0 := by omega
          have hmk := run_make_row' (P := Try.prog) 43 3 (.int .i64 0) 8 Try.underlying43 infoInt rfl .i64 .i64 o.length (by omega) (by omega)
          have d1 := D1.out.cells 0 _ rfl
          have al := alloc_old w1 (.cells (madeCells #[.int .i64 0] o.length) 3) w.heap.size 0 HZ.out
          rw [d1] at al
          clear HA
          go_wp2_with fail
          have HR0 := Lib.hid (IRow.made w1 o.length)
          have HW0 := Lib.hid (below_alloc w1 (.cells (madeCells #[.int .i64 0] o.length) 3))
          clear hmk al d1
          have HBW : Hid (Below w1.heap.size w1 w1) := Below.refl _ _
          generalize w1.alloc _ = w2 at *
          have hT00 : ((T.length : Int) == (0 : Int)) = false := by simp; exact hT
          simp only [hT00]
          go_loopw [45] (fun iv wr => ∃ (k : Nat) (A : List Int), iv = .int .i64 k ∧ k ≤ o.length ∧ A.length = k ∧ Hid (∀ y ∈ A, y ∈ T) ∧ Hid (IRow wr w1.heap.size (A ++ List.replicate (o.length - k) 0)) ∧ Hid (Below w1.heap.size w1 wr)) (fun iv _ => o.length - (intOf iv).toNat)
          case atStart => exact ⟨0, [], rfl, Nat.zero_le _, rfl, fun y h => (by cases h), HR0.out, HW0.out⟩
          case round =>
            obtain ⟨k, A, rfl, hk, hAl, hA, hR, hb⟩ := hrel
            by_cases hlt : k < o.length
            · have hk3 : k < t3.length := by omega
              have h1 : o[k]? = some o[k] := List.getElem?_eq_getElem hlt
              have h3 : t3[k]? = some t3[k] := List.getElem?_eq_getElem hk3
              obtain ⟨g3, off3, rfl, _, q3⟩ := intL_at (HT1.out.later hb.out) h3
              have hw3 := HWT.out _ (List.getElem_mem hk3)
              have d2 := (D1.out.below hb.out).cells 0 _ rfl
              have fr := hR.out.fz k
              have cR := hR.out.cell (i := k) (x := 0) (by rw [List.getElem?_append_right (by omega), hAl, Nat.sub_self, List.getElem?_replicate, if_pos (by omega)])
              have h3' := Lib.hid h3
              have h1' := Lib.hid h1
              clear h3 h1
              generalize t3[k] = x at *
              generalize o[k] = z at *
              obtain ⟨r, hr, hrw⟩ := wrap_at x hTp HTl.out
              obtain ⟨g4, off4, rfl, _, q4⟩ := intL_at (HTn.out.later (HBW.out.trans (hb.out))) (List.getElem?_eq_getElem hr)
              have HyT : Hid (T[r] ∈ T) := List.getElem_mem hr
              generalize T[r] = y at *
              have hbV : Below w1.heap.size w1 (wr.setCell ⟨w1.heap.size, k, none⟩ (.int .i64 y)) := hb.out.setCell (p := ⟨w1.heap.size, k, none⟩) (Nat.le_refl _) _
              have HBV := Lib.hid hbV
              have dV := (D1.out.below hbV).cells 0 _ rfl
              obtain ⟨g1, off1, rfl, _, oV⟩ := intL_at (HO1.out.later hbV) h1'.out
              have tV := intL_cell (HT1.out.later hbV) h3'.out
              have hR1 := hR.out.set k y
              rw [put_mid hAl hlt] at hR1
              have frV := hR1.fz k
              have cV := hR1.cell (i := k) (x := y) (by rw [List.append_assoc, List.getElem?_append_right (by omega), hAl, Nat.sub_self]; rfl)
              have HR1 := Lib.hid hR1
              have HC := Lib.hid (Contains_any (HTn.out.later hbV) z)
              have HA1 : Hid (∀ v ∈ A ++ [y], v ∈ T) := fun v hv => (List.mem_append.1 hv).elim (hA.out v) fun h => by rw [List.mem_singleton.1 h]; exact HyT.out
              have HL1 : Hid ((A ++ [y]).length = k + 1) := by show _ = _; rw [List.length_append, hAl]; rfl
              have HL2 : Hid ((A ++ [z]).length = k + 1) := by show _ = _; rw [List.length_append, hAl]; rfl
              have hR2 := hR1.set k z
              rw [set_again hAl] at hR2
              have HR2 := Lib.hid hR2
              clear hbV hR1 hR2
              have hkn : (k : Int) < (o.length : Int) := by omega
              go_wp2_with fail
              go_fit HC.out
              cases hh : hasI T z with
              | false =>
                rintro e w3 ⟨rfl, rfl⟩
                clear HR2 HL2 hh
                go_wp2_with fail
                exact ⟨⟨k + 1, A ++ [y], by go_num, by omega, HL1.out, HA1, HR1, HBV⟩, by simp [intOf]; omega⟩
              | true =>
                have HA2 : Hid (∀ v ∈ A ++ [z], v ∈ T) := fun v hv => (List.mem_append.1 hv).elim (hA.out v) fun h => by rw [List.mem_singleton.1 h]; exact (hasI_iff _ _).1 hh
                have HBV2 : Hid (Below w1.heap.size w1 ((wr.setCell ⟨w1.heap.size, k, none⟩ (.int .i64 y)).setCell ⟨w1.heap.size, k, none⟩ (.int .i64 z))) := HBV.out.setCell (p := ⟨w1.heap.size, k, none⟩) (Nat.le_refl _) _
                rintro e w3 ⟨rfl, rfl⟩
                clear hh
                go_wp2_with fail
                · exact ⟨⟨k + 1, A ++ [z], by go_num, by omega, HL2.out, HA2, HR2, HBV2⟩, by simp [intOf]; omega⟩
                · exact ⟨⟨k + 1, A ++ [y], by go_num, by omega, HL1.out, HA1, HR1, HBV⟩, by simp [intOf]; omega⟩
            · obtain rfl : k = o.length := by omega
              have HRf : Hid (IRow wr w1.heap.size A) := by
                have h := hR.out
                rw [Nat.sub_self, List.replicate_zero, List.append_nil] at h
                exact h
              have HWay : Hid (intL.In wr (.slice (some ⟨w1.heap.size, 0, none⟩) o.length o.length) A) := by
                have h := (IRow.own (w0 := w1) HRf.out (Nat.le_refl _) hb.out (by omega)).told
                rw [hAl] at h
                exact h
              have HAl := Lib.hid hAl
              have dX := (D1.out.below hb.out).cells 0 _ rfl
              clear hR hAl
              go_wp2_with fail
              go_loopw [10, 11, 90] (fun lv mv iv wx => ∃ (least most : Int) (k : Nat), lv = .int .i64 least ∧ mv = .int .i64 most ∧ iv = .int .i64 k ∧ k ≤ T.length ∧ Hid (∀ x ∈ T.take k, least ≤ (A.count x : Nat) ∧ ((A.count x : Nat) : Int) ≤ most) ∧ 0 ≤ least ∧ least ≤ 200 ∧ 0 ≤ most ∧ most ≤ 200 ∧ Hid (wr = wx)) (fun _ _ iv _ => T.length - (intOf iv).toNat)
              case atStart => exact ⟨o.length, 0, 0, rfl, rfl, rfl, Nat.zero_le _, fun x h => (by cases h), (by omega), (by omega), (by omega), (by omega), rfl⟩
              case round =>
                obtain ⟨least, most, k, rfl, rfl, rfl, hk, hlm, b1, b2, b3, b4, hw⟩ := hrel
                obtain rfl := hw.out
                by_cases hlt : k < T.length
                · have hg : T[k]? = some T[k] := List.getElem?_eq_getElem hlt
                  obtain ⟨g, off, rfl, _, hc⟩ := intL_at (HTn.out.later hb.out) hg
                  have HX : Hid (T.take (k + 1) = T.take k ++ [T[k]]) := by show _ = _; rw [List.take_add_one, hg]; rfl
                  clear hg
                  generalize T[k] = x at *
                  go_wp2_with fail
                  go_loopw [14, 96] (fun nv jv wx => ∃ j : Nat, nv = .int .i64 ((A.take j).count x : Nat) ∧ jv = .int .i64 j ∧ j ≤ o.length ∧ Hid (wr = wx)) (fun _ jv _ => o.length - (intOf jv).toNat)
                  case atStart => exact ⟨0, rfl, rfl, Nat.zero_le _, rfl⟩
                  case round =>
                    obtain ⟨j, rfl, rfl, hj, hw2⟩ := hrel
                    obtain rfl := hw2.out
                    by_cases hjl : j < o.length
                    · have hjA : j < A.length := by have := HAl.out; omega
                      have hg : A[j]? = some A[j] := List.getElem?_eq_getElem hjA
                      have hc2 := HRf.out.cell hg
                      have HY : Hid ((A.take (j + 1)).count x = (A.take j).count x + if A[j] = x then 1 else 0) := by
                        show _ = _
                        rw [List.take_add_one, hg, Option.toList_some, List.count_append, List.count_singleton]
                        congr 1
                        by_cases e : A[j] = x <;> simp [e]
                      have hcl : (A.take j).count x ≤ 200 := Nat.le_trans List.count_le_length (by rw [List.length_take]; omega)
                      clear hg
                      generalize A[j] = y at *
                      generalize (A.take j).count x = q at *
                      by_cases hyx : y = x
                      · have HE : Hid ((A.take (j + 1)).count x = q + 1) := by show _ = _; rw [HY.out, if_pos hyx]
                        clear HY
                        go_wp2_with fail
                        exact ⟨⟨j + 1, by rw [HE.out]; go_num, by go_num, by omega, by first | exact trivial | rfl⟩, by simp [intOf]; omega⟩
                      · have HE : Hid ((A.take (j + 1)).count x = q) := by show _ = _; rw [HY.out, if_neg hyx]; rfl
                        clear HY
                        go_wp2_with fail
                        exact ⟨⟨j + 1, by rw [HE.out], by go_num, by omega, by first | exact trivial | rfl⟩, by simp [intOf]; omega⟩
                    · obtain rfl : j = o.length := by omega
                      rw [List.take_of_length_le (by have := HAl.out; omega)]
                      have hcl : A.count x ≤ 200 := Nat.le_trans List.count_le_length (by have := HAl.out; omega)
                      have HN : Hid (∀ u ∈ T.take (k + 1), min least (A.count x : Nat) ≤ (A.count u : Nat) ∧ ((A.count u : Nat) : Int) ≤ max most (A.count x : Nat)) := fun u hu => by
                        rw [HX.out] at hu
                        rcases List.mem_append.1 hu with hu | hu
                        · have := hlm.out u hu; omega
                        · rw [List.mem_singleton.1 hu]; omega
                      clear HX
                      generalize A.count x = q at *
                      go_wp2_with fail
                      exact ⟨⟨min least q, max most q, k + 1, rfl, rfl, by go_num, by omega, HN, by omega, by omega, by omega, by omega, by first | exact trivial | rfl⟩, by simp [intOf]; omega⟩
                · obtain rfl : k = T.length := by omega
                  have HAw := Lib.hid (awake_then (HB1.out.trans (hb.out.mono HB1.out.size)))
                  by_cases hbig : 1 < most - least
                  · go_wp2_with fail
                    go_fit HAw.out
                    rintro e w5 ⟨rfl, hb5⟩
                    go_wp2_with fail
                    go_ret
                    exact ⟨rfl, hb5⟩
                  · have HEv : Hid (alike A o ≤ alike (share o T) o) := by
                      refine HSM.out A hA.out HAl.out hT fun x hx y hy => ?_
                      have h := hlm.out
                      rw [List.take_length] at h
                      have h1 := h x hx
                      have h2 := h y hy
                      omega
                    have HS2 := Lib.hid (HSh.out wr (HO1.out.later hb.out) (HM1.out.later hb.out))
                    clear HAw
                    go_wp2_with fail
                    go_fit HS2.out
                    rintro e w5 ⟨v5, rfl, hr5⟩
                    have HD5 := Lib.hid (Stay_any hr5.told (cell_later hr5.grown dX) ((HO1.out.later hb.out).later hr5.grown) HSl.out (by omega))
                    have HD6 : Hid (∀ q, Calls Try.prog 38 #[.slice (some ⟨w1.heap.size, 0, none⟩) o.length o.length, .pointer (some ⟨w.heap.size, 0, none⟩)] (w5.drewN q) fun e w' => e = .returned (.int .i64 (alike A o : Nat)) ∧ Drawn (w5.drewN q) w') := fun q =>
                      Stay_any ((HWay.out.later hr5.grown).drewN q) (cell_later hr5.grown dX) (((HO1.out.later hb.out).later hr5.grown).drewN q) HAl.out (by omega)
                    have HB5 : Hid (Below w.heap.size w w5) := by
                      have h := HB1.out.trans (hb.out.mono HB1.out.size)
                      exact h.trans (hr5.grown.mono h.size)
                    have hev := HEv.out
                    obtain ⟨a5, c5, rfl, _, _⟩ := hr5.slice
                    generalize alike (share o T) o = p at *
                    generalize alike A o = q at *
                    have hev2 : (q : Int) ≤ (p : Int) := by omega
                    clear HS2 HEv hr5
                    go_wp2_with fail
                    go_fit HD5.out
                    rintro e w6 ⟨rfl, n6, rfl⟩
                    go_wp2_with fail
                    go_fit (HD6.out n6)
                    rintro e w7 ⟨rfl, hd7⟩
                    have HA7 := Lib.hid (awake_then (hd7.below (below_drewN HB5.out n6)))
                    go_wp2_with fail
                    go_fit HA7.out
                    rintro e w8 ⟨rfl, hb8⟩
                    go_wp2_with fail
                    go_ret
                    exact ⟨rfl, hb8⟩
end Go.Proofs.Ytdgnjalbpiciiaa
