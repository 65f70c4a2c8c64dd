/-
  QuorumOverlap walked.
-/
import Derived.Test.YticcmjiekopnbaaOv1
namespace Go.Proofs.Yticcmjiekopnbaa
set_option linter.unusedVariables false
set_option linter.unusedSimpArgs false
open Go.RowKit Go.Shelf

/-- What the closure looks at. -/
structure CF (w : World) (p7 p4 : Nat) (s u v : Value) (b vs ls : List Int) : Prop where
  c7 : w.cell? ⟨p7, 0, none⟩ = some s
  c0 : w.cell? ⟨p4, 0, none⟩ = some u
  c1 : w.cell? ⟨p4, 1, none⟩ = some v
  ib : intL.In w s b
  ro : RoCs w u v vs ls
theorem CF.later {w w' : World} {p7 p4 : Nat} {s u v : Value} {b vs ls : List Int} (h : CF w p7 p4 s u v b vs ls) (hb : Below w.heap.size w w') : CF w' p7 p4 s u v b vs ls :=
  ⟨lay_later hb h.c7, lay_later hb h.c0, lay_later hb h.c1, h.ib.later hb, h.ro.later hb⟩
set_option maxRecDepth 100000 in
set_option maxHeartbeats 1600000 in
theorem clo_any {w : World} {p7 p4 : Nat} {s u v : Value} {b vs ls : List Int} (h : CF w p7 p4 s u v b vs ls) (x : Int) : Calls Try.prog 32 #[.int .i64 x, .pointer (some ⟨p7, 0, none⟩), .pointer (some ⟨p4, 0, none⟩)] w (BoolP (hasI b x && hasI vs x) w) := by
  have HC := Lib.hid (Contains_any h.ib x)
  have HV := Lib.hid (Votes_any h.ro x)
  have d7 := h.c7; have d0 := h.c0; have d1 := h.c1
  obtain ⟨a1, c1, rfl, _, _⟩ := h.ro.1.slice
  obtain ⟨a2, c2, rfl, _, _⟩ := h.ro.2.slice
  obtain ⟨a3, c3, rfl, _, _⟩ := h.ib.slice
  clear h
  go_enter Try.func32, Try.ntmps32
  go_wp2_with fail
  go_fit HC.out
  rintro e w1 ⟨rfl, rfl⟩
  cases hx : hasI b x with
  | false =>
    have HX := Lib.hid hx
    clear hx
    go_wp2_with fail
    go_ret
    exact ⟨by first | rfl | (rw [HX.out]; rfl), Below.refl _ _⟩
  | true =>
    have HX := Lib.hid hx
    clear hx
    go_wp2_with fail
    go_fit HV.out
    rintro e w1 ⟨rfl, hb⟩
    have HB := Lib.hid hb
    clear hb
    go_wp2_with fail
    go_ret
    exact ⟨by first | rfl | (rw [HX.out]; rfl) | simp, HB.out⟩
set_option maxRecDepth 100000 in
set_option maxHeartbeats 3200000 in
theorem IndexB_any {w : World} {p7 p4 : Nat} {t s u v : Value} {a b vs ls : List Int} (h : CF w p7 p4 s u v b vs ls) (ha : intL.In w t a) : Calls Try.prog 51 #[t, .func (.func 32) #[] #[.pointer (some ⟨p7, 0, none⟩), .pointer (some ⟨p4, 0, none⟩)]] w (IdxP (bothB a b vs) w) := by
  have HC := Lib.hid h
  have HI := Lib.hid ha
  obtain ⟨a1, c1, rfl, _, _⟩ := ha.slice
  clear h ha
  go_enter Try.func51, Try.ntmps51
  go_wp2_with fail
  go_loopw [8] (fun i wr => ∃ k : Nat, i = .int .i64 k ∧ k ≤ a.length ∧ bothB (a.take k) b vs = false ∧ Below w.heap.size w wr) (fun i _ => a.length - (intOf i).toNat)
  case atStart => exact ⟨0, rfl, Nat.zero_le _, rfl, Below.refl _ _⟩
  case round =>
    obtain ⟨k, rfl, hk, hlo, hb⟩ := hrel
    have HB := Lib.hid hb
    have HL := Lib.hid hlo
    by_cases hlt : k < a.length
    · have hg : a[k]? = some a[k] := List.getElem?_eq_getElem hlt
      obtain ⟨g, off, rfl, hq, hc⟩ := intL_at (HI.out.later hb) hg
      have HT : Hid (bothB (a.take (k + 1)) b vs = (hasI b a[k] && hasI vs a[k])) := by
        show _ = _
        unfold bothB at hlo ⊢
        rw [List.take_add_one, hg, Option.toList_some, List.any_append, hlo]
        simp
      have HM : Hid ((hasI b a[k] && hasI vs a[k]) = true → bothB a b vs = true) := fun e => List.any_eq_true.2 ⟨_, List.getElem_mem hlt, e⟩
      have HN := Lib.hid (clo_any (HC.out.later hb) a[k])
      clear hg hq hb hlo
      generalize a[k] = x at *
      cases hp : (hasI b x && hasI vs x) with
      | true =>
        rw [hp] at HN
        have HP := Lib.hid hp
        clear hp
        go_wp2_with fail
        go_fit HN.out
        rintro e w2 ⟨rfl, hb2⟩
        have HB := Lib.hid (HB.out.trans (hb2.mono HB.out.size))
        clear hb2
        go_wp2_with fail
        go_ret
        exact ⟨(k : Int), rfl, ⟨fun _ => HM.out HP.out, fun _ => by omega⟩, HB.out⟩
      | false =>
        rw [hp] at HN
        have HP := Lib.hid hp
        clear hp
        go_wp2_with fail
        go_fit HN.out
        rintro e w2 ⟨rfl, hb2⟩
        have HB := Lib.hid (HB.out.trans (hb2.mono HB.out.size))
        clear hb2
        go_wp2_with fail
        exact ⟨⟨k + 1, by go_num, by omega, by rw [HT.out, HP.out], HB.out⟩, by simp [intOf]; omega⟩
    · obtain rfl : k = a.length := by omega
      rw [List.take_length] at HL
      clear hlo hb
      go_wp2_with fail
      go_ret
      exact ⟨-1, rfl, ⟨fun h => absurd h (by decide), fun h => by rw [HL.out] at h; cases h⟩, HB.out⟩
set_option maxHeartbeats 1600000 in
theorem ContB_any {w : World} {p7 p4 : Nat} {t s u v : Value} {a b vs ls : List Int} (h : CF w p7 p4 s u v b vs ls) (ha : intL.In w t a) : Calls Try.prog 31 #[t, .func (.func 32) #[] #[.pointer (some ⟨p7, 0, none⟩), .pointer (some ⟨p4, 0, none⟩)]] w (BoolP (bothB a b vs) w) := by
  have HI := Lib.hid (IndexB_any h ha)
  obtain ⟨a1, c1, rfl, _, _⟩ := ha.slice
  clear h ha
  go_enter Try.func31, Try.ntmps31
  go_wp2_with fail
  go_fit HI.out
  rintro e w2 ⟨z, rfl, hz, hb2⟩
  have HB := Lib.hid hb2
  have HZ := Lib.hid hz
  clear hb2 hz
  by_cases h0 : 0 ≤ z
  · have HL := Lib.hid (HZ.out.1 h0)
    go_wp2_with fail
    go_ret
    exact ⟨by rw [HL.out]; first | done | rfl, HB.out⟩
  · have HL : Hid (bothB a b vs = false) := by
      show _ = _
      cases e : bothB a b vs with
      | false => rfl
      | true => exact absurd (HZ.out.2 e) h0
    go_wp2_with fail
    go_ret
    exact ⟨by rw [HL.out]; first | done | rfl | (simp; omega), HB.out⟩

/-- How things stand within the law. -/
structure Ov (w wr : World) (G : Nat) (u v x y s : Value) (vs ls us ms b : List Int) : Prop where
  m : May2 w wr u v x y vs ls us ms
  d4 : wr.cell? ⟨w.heap.size + 1 + 1, 0, none⟩ = some s
  ib : intL.In wr s b
  g0 : wr.cell? ⟨G, 0, none⟩ = some u
  g1 : wr.cell? ⟨G, 1, none⟩ = some v
  g2 : wr.cell? ⟨G, 2, none⟩ = some x
  g3 : wr.cell? ⟨G, 3, none⟩ = some y
theorem Ov.later {w wr w' : World} {G : Nat} {u v x y s : Value} {vs ls us ms b : List Int} (h : Ov w wr G u v x y s vs ls us ms b) (hb : Below wr.heap.size wr w') : Ov w w' G u v x y s vs ls us ms b :=
  ⟨h.m.later hb, lay_later hb h.d4, h.ib.later hb, lay_later hb h.g0, lay_later hb h.g1, lay_later hb h.g2, lay_later hb h.g3⟩
theorem Ov.cf {w wr : World} {G : Nat} {u v x y s : Value} {vs ls us ms b : List Int} (h : Ov w wr G u v x y s vs ls us ms b) : CF wr (w.heap.size + 1 + 1) w.heap.size s u v b vs ls := ⟨h.d4, h.m.d0, h.m.d1, h.ib, h.m.r1⟩

set_option maxRecDepth 100000 in
set_option maxHeartbeats 6400000 in
theorem Overlap_law {w : World} {u v x y t s : Value} {vs ls us ms a b : List Int} (h : RoCs w u v vs ls) (h' : RoCs w x y us ms) (ha : intL.In w t a) (hb : intL.In w s b) : Calls Try.prog 8 #[.agg #[u, v], .agg #[x, y], t, s] w (BoolP true w) := by
  have HM := Lib.hid (may2_new h h')
  have HZ : ((w.alloc (.cells #[u, v] 24)).alloc (.cells #[x, y] 24)).heap.size = w.heap.size + 1 + 1 := by simp
  have hbb : Below w.heap.size w ((w.alloc (.cells #[u, v] 24)).alloc (.cells #[x, y] 24)) := ((Below.refl _ w).alloc (Nat.le_refl _) _).alloc (by simp) _
  have HA := Lib.hid (ha.later hbb)
  have HBs := Lib.hid (hb.later hbb)
  obtain ⟨a1, c1, rfl, _, _⟩ := h.1.slice
  obtain ⟨a2, c2, rfl, _, _⟩ := h.2.slice
  obtain ⟨a3, c3, rfl, _, _⟩ := h'.1.slice
  obtain ⟨a4, c4, rfl, _, _⟩ := h'.2.slice
  obtain ⟨a5, c5, rfl, _, _⟩ := ha.slice
  obtain ⟨a6, c6, rfl, _, _⟩ := hb.slice
  clear h h' ha hb hbb
  go_enter Try.func8, Try.ntmps8
  go_wp2_with fail
  generalize (w.alloc _).alloc _ = w00 at *
  have hk := Go.heap_alloc_new w00 (.cells #[.slice a6 b.length c6] 22)
  have hbx := lay_alloc w00 (.cells #[.slice a6 b.length c6] 22)
  have HZ2 : (w00.alloc (.cells #[.slice a6 b.length c6] 22)).heap.size = w.heap.size + 1 + 1 + 1 := by simp [HZ]
  rw [HZ] at hk
  have HM := Lib.hid (HM.out.later hbx)
  have HA := Lib.hid (HA.out.later hbx)
  have HBs := Lib.hid (HBs.out.later hbx)
  clear hbx HZ
  generalize w00.alloc _ = w0 at *
  have d4 : w0.cell? ⟨w.heap.size + 1 + 1, 0, none⟩ = .some (.slice a6 b.length c6) := by rw [cell_of_row w0 _ _ _ _ _ hk]; rfl
  clear hk
  have hz : w0.heap.size = w.heap.size + 1 + 1 + 1 := HZ2
  have HR := block_in roL w0 [((a1, vs.length, c1), (a2, ls.length, c2)), ((a3, us.length, c3), (a4, ms.length, c4))] #[.slice a1 vs.length c1, .slice a2 ls.length c2, .slice a3 us.length c3, .slice a4 ms.length c4] 24 2 rfl rfl (by decide)
  rw [hz] at HR
  have HR := Lib.hid HR
  have hb1 := lay_alloc w0 (.cells #[.slice a1 vs.length c1, .slice a2 ls.length c2, .slice a3 us.length c3, .slice a4 ms.length c4] 24)
  have HM := Lib.hid (HM.out.later hb1)
  have d4 := lay_later hb1 d4
  have HA := Lib.hid (HA.out.later hb1)
  have HBs := Lib.hid (HBs.out.later hb1)
  clear hb1 HZ2 hz
  generalize World.alloc _ _ = w1 at *
  have HLo := Lib.hid (long_any HR.out (by simp))
  go_fit HLo.out
  rintro e w2 ⟨rfl, hb2⟩
  have HM := Lib.hid (HM.out.later hb2)
  have d4 := lay_later hb2 d4
  have HA := Lib.hid (HA.out.later hb2)
  have HBs := Lib.hid (HBs.out.later hb2)
  clear hb2 HR HLo
  have d0 := HM.out.d0; have d1 := HM.out.d1; have d2 := HM.out.d2; have d3 := HM.out.d3
  cases hlo : longB [((a1, vs.length, c1), (a2, ls.length, c2)), ((a3, us.length, c3), (a4, ms.length, c4))] with
  | true =>
    go_wp2_with fail
    go_fit (awake_any w2)
    rintro e wz ⟨rfl, hbz⟩
    have HB := Lib.hid (HM.out.b.trans (hbz.mono HM.out.b.size))
    clear hbz
    go_wp2_with fail
    go_ret
    exact ⟨rfl, HB.out⟩
  | false =>
    by_cases h5 : 500 < a.length
    · have h5' : (500 : Int) < (a.length : Int) := by omega
      go_wp2_with fail
      go_fit (awake_any w2)
      rintro e wz ⟨rfl, hbz⟩
      have HB := Lib.hid (HM.out.b.trans (hbz.mono HM.out.b.size))
      clear hbz
      go_wp2_with fail
      go_ret
      exact ⟨rfl, HB.out⟩
    · have h5' : ¬ ((500 : Int) < (a.length : Int)) := by omega
      by_cases h6 : 500 < b.length
      · have h6' : (500 : Int) < (b.length : Int) := by omega
        go_wp2_with fail
        go_fit (awake_any w2)
        rintro e wz ⟨rfl, hbz⟩
        have HB := Lib.hid (HM.out.b.trans (hbz.mono HM.out.b.size))
        clear hbz
        go_wp2_with fail
        go_ret
        exact ⟨rfl, HB.out⟩
      · have h6' : ¬ ((500 : Int) < (b.length : Int)) := by omega
        have hl1 : vs.length ≤ 100000 := by have := short2 hlo; omega
        have hl3 : us.length ≤ 100000 := by have := short2 hlo; omega
        have ha5 : a.length ≤ 100000 := by omega
        have hb5 : b.length ≤ 100000 := by omega
        clear hlo h5 h6
        go_wp2_with fail
        go_fit (Check_any HM.out.r1)
        rintro e w3 ⟨rfl, hb3⟩
        have HM := Lib.hid (HM.out.later hb3)
        have d4 := lay_later hb3 d4
        have HA := Lib.hid (HA.out.later hb3)
        have HBs := Lib.hid (HBs.out.later hb3)
        clear hb3 d0 d1 d2 d3
        by_cases hok : okR vs ls = true
        · have hc : ckE vs ls = 0 := by unfold ckE; rw [if_pos hok]
          have HOK := Lib.hid hok
          rw [hc]
          have d0 := HM.out.d0; have d1 := HM.out.d1; have d2 := HM.out.d2; have d3 := HM.out.d3
          clear hok hc
          go_wp2_with fail
          have hk := Go.heap_alloc_new w3 (.cells #[.slice a1 vs.length c1, .slice a2 ls.length c2, .slice a3 us.length c3, .slice a4 ms.length c4] 24)
          have hbg := lay_alloc w3 (.cells #[.slice a1 vs.length c1, .slice a2 ls.length c2, .slice a3 us.length c3, .slice a4 ms.length c4] 24)
          have HM := HM.out.later hbg
          have d4 := lay_later hbg d4
          have HA := Lib.hid (HA.out.later hbg)
          have HBs := HBs.out.later hbg
          clear hbg d0 d1 d2 d3
          generalize w3.alloc _ = w4 at *
          generalize w3.heap.size = G at *
          have HO : Hid (Ov w w4 G (.slice a1 vs.length c1) (.slice a2 ls.length c2) (.slice a3 us.length c3) (.slice a4 ms.length c4) (.slice a6 b.length c6) vs ls us ms b) := ⟨HM, d4, HBs, by rw [cell_of_row w4 _ _ _ _ _ hk]; rfl, by rw [cell_of_row w4 _ _ _ _ _ hk]; rfl, by rw [cell_of_row w4 _ _ _ _ _ hk]; rfl, by rw [cell_of_row w4 _ _ _ _ _ hk]; rfl⟩
          clear HM d4 HBs hk
          go_loopw [35] (fun i wr => ∃ k : Nat, i = .int .i64 k ∧ k ≤ 2 ∧ intL.In wr (.slice a5 a.length c5) a ∧ Ov w wr G (.slice a1 vs.length c1) (.slice a2 ls.length c2) (.slice a3 us.length c3) (.slice a4 ms.length c4) (.slice a6 b.length c6) vs ls us ms b) (fun i _ => 2 - (intOf i).toNat)
          case atStart => exact ⟨0, rfl, by omega, HA.out, HO.out⟩
          case round =>
            clear HO HA
            obtain ⟨k, rfl, hk, ha, ho⟩ := hrel
            have HO := Lib.hid ho
            have HA := Lib.hid ha
            have d0 := ho.m.d0; have d1 := ho.m.d1; have d4 := ho.d4
            have g0 := ho.g0; have g1 := ho.g1; have g2 := ho.g2; have g3 := ho.g3
            clear ho ha
            rcases (by omega : k = 0 ∨ k = 1 ∨ k = 2) with rfl | rfl | rfl
            · have ht : Hid (Below wr.heap.size wr (wr.alloc (.cells #[(.slice a1 vs.length c1), (.slice a2 ls.length c2)] 24))) := lay_alloc _ _
              have hk2 := Go.heap_alloc_new wr (.cells #[(.slice a1 vs.length c1), (.slice a2 ls.length c2)] 24)
              have q0 : (wr.alloc (.cells #[(.slice a1 vs.length c1), (.slice a2 ls.length c2)] 24)).cell? ⟨wr.heap.size, 0, none⟩ = .some (.slice a1 vs.length c1) := by rw [cell_of_row _ _ _ _ _ _ hk2]; rfl
              have q1 : (wr.alloc (.cells #[(.slice a1 vs.length c1), (.slice a2 ls.length c2)] 24)).cell? ⟨wr.heap.size, 1, none⟩ = .some (.slice a2 ls.length c2) := by rw [cell_of_row _ _ _ _ _ _ hk2]; rfl
              have d0 := lay_later ht.out d0
              have d1 := lay_later ht.out d1
              have d4 := lay_later ht.out d4
              have HO := Lib.hid (HO.out.later ht.out)
              have HA := Lib.hid (HA.out.later ht.out)
              clear hk2 ht
              go_wp2_with fail
              generalize wr.alloc _ = w5 at *
              generalize wr.heap.size = G5 at *
              clear g0 g1 g2 g3
              go_fit (Equal_any HO.out.m.r1.1 HO.out.m.r1.1)
              rintro e w55 ⟨rfl, hD⟩
              have hbD := hD.below (Below.refl w5.heap.size w5)
              have HO := Lib.hid (HO.out.later hbD)
              have HA := Lib.hid (HA.out.later hbD)
              have d0 := HO.out.m.d0; have d1 := HO.out.m.d1; have d4 := HO.out.d4
              have q0 := lay_later hbD q0; have q1 := lay_later hbD q1
              clear hbD hD
              have he : (vs == vs) = true := beq_self_eq_true _
              rw [he]
              clear he
              cases hpa : majB vs a with
              | false =>
                have HJ := Majority_any HO.out.m.r1 HA.out hl1 ha5
                rw [hpa] at HJ
                clear hpa
                go_wp2_with fail
                go_fit HJ
                rintro e w6 ⟨rfl, hb6⟩
                have HO := Lib.hid (HO.out.later hb6)
                have HA := Lib.hid (HA.out.later hb6)
                have d0 := HO.out.m.d0; have d1 := HO.out.m.d1; have d4 := HO.out.d4
                have q0 := lay_later hb6 q0; have q1 := lay_later hb6 q1
                go_wp2_with fail
                exact ⟨⟨1, by simp, by omega, HA.out, HO.out⟩, by simp [intOf]⟩
              | true =>
                have HJ := Majority_any HO.out.m.r1 HA.out hl1 ha5
                rw [hpa] at HJ
                have HPA := Lib.hid hpa
                clear hpa
                go_wp2_with fail
                go_fit HJ
                rintro e w6 ⟨rfl, hb6⟩
                have HO := Lib.hid (HO.out.later hb6)
                have HA := Lib.hid (HA.out.later hb6)
                have d0 := HO.out.m.d0; have d1 := HO.out.m.d1; have d4 := HO.out.d4
                have q0 := lay_later hb6 q0; have q1 := lay_later hb6 q1
                clear hb6 HJ
                cases hpb : majB vs b with
                | false =>
                  have HJ := Majority_any HO.out.m.r1 HO.out.ib hl1 hb5
                  rw [hpb] at HJ
                  clear hpb
                  go_wp2_with fail
                  go_fit HJ
                  rintro e w7 ⟨rfl, hb7⟩
                  have HO := Lib.hid (HO.out.later hb7)
                  have HA := Lib.hid (HA.out.later hb7)
                  have d0 := HO.out.m.d0; have d1 := HO.out.m.d1; have d4 := HO.out.d4
                  have q0 := lay_later hb7 q0; have q1 := lay_later hb7 q1
                  go_wp2_with fail
                  exact ⟨⟨1, by simp, by omega, HA.out, HO.out⟩, by simp [intOf]⟩
                | true =>
                  have HJ := Majority_any HO.out.m.r1 HO.out.ib hl1 hb5
                  rw [hpb] at HJ
                  have HBO : Hid (bothB a b vs = true) := overlap_same HPA.out hpb
                  clear hpb
                  go_wp2_with fail
                  go_fit HJ
                  rintro e w7 ⟨rfl, hb7⟩
                  have HO := Lib.hid (HO.out.later hb7)
                  have HA := Lib.hid (HA.out.later hb7)
                  have d0 := HO.out.m.d0; have d1 := HO.out.m.d1; have d4 := HO.out.d4
                  have q0 := lay_later hb7 q0; have q1 := lay_later hb7 q1
                  clear hb7 HJ
                  have HK := ContB_any HO.out.cf HA.out
                  rw [HBO.out] at HK
                  go_wp2_with fail
                  go_fit HK
                  rintro e w8 ⟨rfl, hb8⟩
                  have HO := Lib.hid (HO.out.later hb8)
                  have HA := Lib.hid (HA.out.later hb8)
                  have d0 := HO.out.m.d0; have d1 := HO.out.m.d1; have d4 := HO.out.d4
                  have q0 := lay_later hb8 q0; have q1 := lay_later hb8 q1
                  go_wp2_with fail
                  exact ⟨⟨1, by simp, by omega, HA.out, HO.out⟩, by simp [intOf]⟩
            · have ht : Hid (Below wr.heap.size wr (wr.alloc (.cells #[(.slice a3 us.length c3), (.slice a4 ms.length c4)] 24))) := lay_alloc _ _
              have hk2 := Go.heap_alloc_new wr (.cells #[(.slice a3 us.length c3), (.slice a4 ms.length c4)] 24)
              have q0 : (wr.alloc (.cells #[(.slice a3 us.length c3), (.slice a4 ms.length c4)] 24)).cell? ⟨wr.heap.size, 0, none⟩ = .some (.slice a3 us.length c3) := by rw [cell_of_row _ _ _ _ _ _ hk2]; rfl
              have q1 : (wr.alloc (.cells #[(.slice a3 us.length c3), (.slice a4 ms.length c4)] 24)).cell? ⟨wr.heap.size, 1, none⟩ = .some (.slice a4 ms.length c4) := by rw [cell_of_row _ _ _ _ _ _ hk2]; rfl
              have d0 := lay_later ht.out d0
              have d1 := lay_later ht.out d1
              have d4 := lay_later ht.out d4
              have HO := Lib.hid (HO.out.later ht.out)
              have HA := Lib.hid (HA.out.later ht.out)
              clear hk2 ht
              go_wp2_with fail
              generalize wr.alloc _ = w5 at *
              generalize wr.heap.size = G5 at *
              clear g0 g1 g2 g3
              go_fit (Equal_any HO.out.m.r2.1 HO.out.m.r1.1)
              rintro e w55 ⟨rfl, hD⟩
              have hbD := hD.below (Below.refl w5.heap.size w5)
              have HO := Lib.hid (HO.out.later hbD)
              have HA := Lib.hid (HA.out.later hbD)
              have d0 := HO.out.m.d0; have d1 := HO.out.m.d1; have d4 := HO.out.d4
              have q0 := lay_later hbD q0; have q1 := lay_later hbD q1
              clear hbD hD
              cases he : (us == vs) with
              | true =>
                have HE : Hid (us = vs) := by show _ = _; simpa using he
                clear he
                cases hpa : majB vs a with
                | false =>
                  have HJ := Majority_any HO.out.m.r1 HA.out hl1 ha5
                  rw [hpa] at HJ
                  clear hpa
                  go_wp2_with fail
                  go_fit HJ
                  rintro e w6 ⟨rfl, hb6⟩
                  have HO := Lib.hid (HO.out.later hb6)
                  have HA := Lib.hid (HA.out.later hb6)
                  have d0 := HO.out.m.d0; have d1 := HO.out.m.d1; have d4 := HO.out.d4
                  have q0 := lay_later hb6 q0; have q1 := lay_later hb6 q1
                  go_wp2_with fail
                  exact ⟨⟨2, by simp, by omega, HA.out, HO.out⟩, by simp [intOf]⟩
                | true =>
                  have HJ := Majority_any HO.out.m.r1 HA.out hl1 ha5
                  rw [hpa] at HJ
                  have HPA := Lib.hid hpa
                  clear hpa
                  go_wp2_with fail
                  go_fit HJ
                  rintro e w6 ⟨rfl, hb6⟩
                  have HO := Lib.hid (HO.out.later hb6)
                  have HA := Lib.hid (HA.out.later hb6)
                  have d0 := HO.out.m.d0; have d1 := HO.out.m.d1; have d4 := HO.out.d4
                  have q0 := lay_later hb6 q0; have q1 := lay_later hb6 q1
                  clear hb6 HJ
                  cases hpb : majB us b with
                  | false =>
                    have HJ := Majority_any HO.out.m.r2 HO.out.ib hl3 hb5
                    rw [hpb] at HJ
                    clear hpb
                    go_wp2_with fail
                    go_fit HJ
                    rintro e w7 ⟨rfl, hb7⟩
                    have HO := Lib.hid (HO.out.later hb7)
                    have HA := Lib.hid (HA.out.later hb7)
                    have d0 := HO.out.m.d0; have d1 := HO.out.m.d1; have d4 := HO.out.d4
                    have q0 := lay_later hb7 q0; have q1 := lay_later hb7 q1
                    go_wp2_with fail
                    exact ⟨⟨2, by simp, by omega, HA.out, HO.out⟩, by simp [intOf]⟩
                  | true =>
                    have HJ := Majority_any HO.out.m.r2 HO.out.ib hl3 hb5
                    rw [hpb] at HJ
                    have HBO : Hid (bothB a b vs = true) := by show _ = _; rw [HE.out] at hpb; exact overlap_same HPA.out hpb
                    clear hpb
                    go_wp2_with fail
                    go_fit HJ
                    rintro e w7 ⟨rfl, hb7⟩
                    have HO := Lib.hid (HO.out.later hb7)
                    have HA := Lib.hid (HA.out.later hb7)
                    have d0 := HO.out.m.d0; have d1 := HO.out.m.d1; have d4 := HO.out.d4
                    have q0 := lay_later hb7 q0; have q1 := lay_later hb7 q1
                    clear hb7 HJ
                    have HK := ContB_any HO.out.cf HA.out
                    rw [HBO.out] at HK
                    go_wp2_with fail
                    go_fit HK
                    rintro e w8 ⟨rfl, hb8⟩
                    have HO := Lib.hid (HO.out.later hb8)
                    have HA := Lib.hid (HA.out.later hb8)
                    have d0 := HO.out.m.d0; have d1 := HO.out.m.d1; have d4 := HO.out.d4
                    have q0 := lay_later hb8 q0; have q1 := lay_later hb8 q1
                    go_wp2_with fail
                    exact ⟨⟨2, by simp, by omega, HA.out, HO.out⟩, by simp [intOf]⟩
              | false =>
                clear he
                go_wp2_with fail
                go_fit (May_any HO.out.m.r1 HO.out.m.r2)
                rintro e w56 ⟨rfl, hb56⟩
                have HO := Lib.hid (HO.out.later hb56)
                have HA := Lib.hid (HA.out.later hb56)
                have d0 := HO.out.m.d0; have d1 := HO.out.m.d1; have d4 := HO.out.d4
                have q0 := lay_later hb56 q0; have q1 := lay_later hb56 q1
                clear hb56
                by_cases hm : mayE vs ls us ms = 0
                · have HMM := Lib.hid hm
                  rw [hm]
                  clear hm
                  cases hpa : majB vs a with
                  | false =>
                    have HJ := Majority_any HO.out.m.r1 HA.out hl1 ha5
                    rw [hpa] at HJ
                    clear hpa
                    go_wp2_with fail
                    go_fit HJ
                    rintro e w6 ⟨rfl, hb6⟩
                    have HO := Lib.hid (HO.out.later hb6)
                    have HA := Lib.hid (HA.out.later hb6)
                    have d0 := HO.out.m.d0; have d1 := HO.out.m.d1; have d4 := HO.out.d4
                    have q0 := lay_later hb6 q0; have q1 := lay_later hb6 q1
                    go_wp2_with fail
                    exact ⟨⟨2, by simp, by omega, HA.out, HO.out⟩, by simp [intOf]⟩
                  | true =>
                    have HJ := Majority_any HO.out.m.r1 HA.out hl1 ha5
                    rw [hpa] at HJ
                    have HPA := Lib.hid hpa
                    clear hpa
                    go_wp2_with fail
                    go_fit HJ
                    rintro e w6 ⟨rfl, hb6⟩
                    have HO := Lib.hid (HO.out.later hb6)
                    have HA := Lib.hid (HA.out.later hb6)
                    have d0 := HO.out.m.d0; have d1 := HO.out.m.d1; have d4 := HO.out.d4
                    have q0 := lay_later hb6 q0; have q1 := lay_later hb6 q1
                    clear hb6 HJ
                    cases hpb : majB us b with
                    | false =>
                      have HJ := Majority_any HO.out.m.r2 HO.out.ib hl3 hb5
                      rw [hpb] at HJ
                      clear hpb
                      go_wp2_with fail
                      go_fit HJ
                      rintro e w7 ⟨rfl, hb7⟩
                      have HO := Lib.hid (HO.out.later hb7)
                      have HA := Lib.hid (HA.out.later hb7)
                      have d0 := HO.out.m.d0; have d1 := HO.out.m.d1; have d4 := HO.out.d4
                      have q0 := lay_later hb7 q0; have q1 := lay_later hb7 q1
                      go_wp2_with fail
                      exact ⟨⟨2, by simp, by omega, HA.out, HO.out⟩, by simp [intOf]⟩
                    | true =>
                      have HJ := Majority_any HO.out.m.r2 HO.out.ib hl3 hb5
                      rw [hpb] at HJ
                      have HBO : Hid (bothB a b vs = true) := overlap_next HMM.out HPA.out hpb
                      clear hpb
                      go_wp2_with fail
                      go_fit HJ
                      rintro e w7 ⟨rfl, hb7⟩
                      have HO := Lib.hid (HO.out.later hb7)
                      have HA := Lib.hid (HA.out.later hb7)
                      have d0 := HO.out.m.d0; have d1 := HO.out.m.d1; have d4 := HO.out.d4
                      have q0 := lay_later hb7 q0; have q1 := lay_later hb7 q1
                      clear hb7 HJ
                      have HK := ContB_any HO.out.cf HA.out
                      rw [HBO.out] at HK
                      go_wp2_with fail
                      go_fit HK
                      rintro e w8 ⟨rfl, hb8⟩
                      have HO := Lib.hid (HO.out.later hb8)
                      have HA := Lib.hid (HA.out.later hb8)
                      have d0 := HO.out.m.d0; have d1 := HO.out.m.d1; have d4 := HO.out.d4
                      have q0 := lay_later hb8 q0; have q1 := lay_later hb8 q1
                      go_wp2_with fail
                      exact ⟨⟨2, by simp, by omega, HA.out, HO.out⟩, by simp [intOf]⟩
                · generalize mayE vs ls us ms = m at *
                  have bm : (m == 0) = false := by rw [beq_eq_false_iff_ne]; exact hm
                  clear hm
                  go_wp2_with fail
                  exact ⟨⟨2, by simp, by omega, HA.out, HO.out⟩, by simp [intOf]⟩
            · clear d0 d1 d4 g0 g1 g2 g3
              go_wp2_with fail
              go_fit (awake_any wr)
              rintro e wz ⟨rfl, hbz⟩
              have HB := Lib.hid (HO.out.m.b.trans (hbz.mono HO.out.m.b.size))
              clear hbz
              go_wp2_with fail
              go_ret
              exact ⟨rfl, HB.out⟩
        · have hc : ckE vs ls = 110 := by unfold ckE; rw [if_neg hok]
          rw [hc]
          clear hok hc
          go_wp2_with fail
          go_fit (awake_any w3)
          rintro e wz ⟨rfl, hbz⟩
          have HB := Lib.hid (HM.out.b.trans (hbz.mono HM.out.b.size))
          clear hbz
          go_wp2_with fail
          go_ret
          exact ⟨rfl, HB.out⟩
end Go.Proofs.Yticcmjiekopnbaa
