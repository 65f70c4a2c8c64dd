/-
  The document's All walked.
-/
import Derived.Test.YticcmjiekopnbaaAllW
namespace Go.Proofs.Yticcmjiekopnbaa
set_option linter.unusedVariables false
set_option linter.unusedSimpArgs false
open Go.RowKit Go.Shelf

theorem sorted_uniq : ∀ {l m : List Int}, l.Pairwise (· < ·) → m.Pairwise (· < ·) → (∀ x, x ∈ l ↔ x ∈ m) → l = m
  | [], [], _, _, _ => rfl
  | [], y :: m, _, _, h => absurd ((h y).2 (by simp)) (by simp)
  | x :: l, [], _, _, h => absurd ((h x).1 (by simp)) (by simp)
  | x :: l, y :: m, h1, h2, h => by
    obtain ⟨hx, hl⟩ := List.pairwise_cons.1 h1
    obtain ⟨hy, hm⟩ := List.pairwise_cons.1 h2
    have e : x = y := by
      rcases List.mem_cons.1 ((h x).1 (by simp)) with e | hxm
      · exact e
      · rcases List.mem_cons.1 ((h y).2 (by simp)) with e | hyl
        · exact e.symm
        · have := hx y hyl; have := hy x hxm; omega
    subst e
    congr 1
    refine sorted_uniq hl hm fun z => ⟨fun hz => ?_, fun hz => ?_⟩
    · rcases List.mem_cons.1 ((h z).1 (List.mem_cons_of_mem _ hz)) with e | hzm
      · have := hx z hz; omega
      · exact hzm
    · rcases List.mem_cons.1 ((h z).2 (List.mem_cons_of_mem _ hz)) with e | hzm
      · have := hy z hz; omega
      · exact hzm
theorem allE_nil : allE [] = [] := sorted_uniq (allE_sorted _) (by simp) fun x => by rw [allE_mem]
/-- A number that is there already. -/
theorem allE_skip {l : List Int} {n : Int} (h : n ∈ allE l) : allE (l ++ [n]) = allE l := by
  refine sorted_uniq (allE_sorted _) (allE_sorted _) fun x => ?_
  rw [allE_mem, List.mem_append, allE_mem]
  rw [allE_mem] at h
  exact ⟨fun hx => hx.elim id fun e => by rw [List.mem_singleton.1 e]; exact h, .inl⟩
/-- A number that is put in its place. -/
theorem allE_put {l : List Int} {n : Int} (j : Nat) (hj : j ≤ (allE l).length) (hlo : ∀ i (hi : i < (allE l).length), i < j → (allE l)[i] < n) (hhi : ∀ (hi : j < (allE l).length), n < (allE l)[j]) :
    allE (l ++ [n]) = (allE l).take j ++ [n] ++ (allE l).drop j := by
  have hs := allE_sorted l
  have hm := allE_mem l
  generalize allE l = E at *
  have hlow : ∀ x ∈ E.take j, x < n := fun x hx => by
    obtain ⟨i, hi, rfl⟩ := List.getElem_of_mem hx
    rw [List.length_take] at hi
    rw [List.getElem_take]
    exact hlo i (by omega) (by omega)
  have hhigh : ∀ x ∈ E.drop j, n < x := fun x hx => by
    obtain ⟨i, hi, rfl⟩ := List.getElem_of_mem hx
    rw [List.length_drop] at hi
    rw [List.getElem_drop]
    have h0 := hhi (by omega)
    rcases Nat.eq_zero_or_pos i with rfl | hp
    · simpa using h0
    · have := List.pairwise_iff_getElem.1 hs j (j + i) (by omega) (by omega) (by omega)
      omega
  refine sorted_uniq (allE_sorted _) ?_ fun x => ?_
  · rw [List.append_assoc]
    refine List.pairwise_append.2 ⟨(hs.sublist (List.take_sublist _ _)), List.pairwise_append.2 ⟨by simp, hs.sublist (List.drop_sublist _ _), fun a ha b hb => ?_⟩, fun a ha b hb => ?_⟩
    · rw [List.mem_singleton.1 ha]; exact hhigh b hb
    · have := hlow a ha
      rcases List.mem_append.1 hb with hb | hb
      · rw [List.mem_singleton.1 hb]; exact this
      · have := hhigh b hb; omega
  · rw [allE_mem, List.mem_append, ← hm]
    conv => lhs; rw [← List.take_append_drop j E]
    simp only [List.mem_append, List.mem_singleton]
    exact ⟨fun h => h.elim (fun h => h.elim (fun h => .inl (.inl h)) .inr) (fun h => .inl (.inr h)), fun h => h.elim (fun h => h.elim (fun h => .inl (.inl h)) .inr) (fun h => .inl (.inr h))⟩

theorem Rw.cat {w0 w w2 : World} {v v2 : Value} {xs ys : List Int} (h : Rw intL 3 w0 w v xs) (ho : w2.ownsRow w0.heap.size 3 intL.sz v2 (xs ++ ys).length (intL.all (xs ++ ys))) (hg : w.grownBy w2 v.ownBlock) : Rw intL 3 w0 w2 v2 (xs ++ ys) :=
  ⟨ho, h.grown.trans ⟨hg.os, hg.tape, hg.output, hg.size, fun k hk => hg.block k (Nat.lt_of_lt_of_le hk h.grown.size) fun e => by have := (h.lt k e.symm).1; omega⟩⟩
/-- The end of a list. -/
theorem in_drop {w : World} {g off n c j : Nat} {l : List Int} (h : intL.In w (.slice (some ⟨g, off, none⟩) n c) l) (hj : j ≤ n) : intL.In w (.slice (some ⟨g, off + j, none⟩) (n - j) (c - j)) (l.drop j) := by
  obtain ⟨a', c', hv, h1, h2, h⟩ := h
  simp only [Value.slice.injEq] at hv
  obtain ⟨rfl, rfl, rfl⟩ := hv
  refine ⟨_, _, by rw [List.length_drop], by rw [List.length_drop]; omega, by omega, ?_⟩
  rcases h with rfl | ⟨g', off', ha, hg, h⟩
  · exact .inl (by simp)
  · simp only [Option.some.injEq, Addr.mk.injEq] at ha
    obtain ⟨rfl, rfl, _⟩ := ha
    refine .inr ⟨g, off + j, rfl, hg, fun i x hx k v hv => ?_⟩
    rw [List.getElem?_drop] at hx
    have := h (j + i) x hx k v hv
    simp only [show intL.sz = 1 from rfl, Nat.mul_one] at this ⊢
    rw [← this]; congr 2; omega

theorem rw_empty (wr : World) : Rw intL 3 wr (wr.alloc (.cells #[] 3)) (.slice (some ⟨wr.heap.size, 0, none⟩) 0 0) [] := by
  refine ⟨?_, lay_alloc wr _⟩
  have := World.ownsRow_lit (base := wr.heap.size) (e := 3) (size := 1) wr #[] 0 (Nat.le_refl _) (by decide) (by simp)
  show World.ownsRow _ _ _ 1 _ _ []
  simpa using this
def lst2 (vs ls : List Int) (i : Nat) : List Int := if i = 0 then [] else if i = 1 then vs else vs ++ ls
set_option maxRecDepth 100000 in
set_option maxHeartbeats 6400000 in
theorem RAll_any {w : World} {u v : Value} {vs ls : List Int} (h : RoCs w u v vs ls) (l1 : vs.length ≤ 100000) (l2 : ls.length ≤ 100000) : Calls Try.prog 22 #[.agg #[u, v]] w (RwP (allE (vs ++ ls)) w) := by
  have hb0 := lay_alloc w (.cells #[u, v] 24)
  have hsz : (w.alloc (.cells #[u, v] 24)).heap.size = w.heap.size + 1 := by simp
  have HI := Lib.hid (h.later hb0)
  obtain ⟨a1, c1, rfl, _, _⟩ := h.1.slice
  obtain ⟨a2, c2, rfl, _, _⟩ := h.2.slice
  clear h
  go_enter Try.func22, Try.ntmps22
  go_wp2_with fail
  generalize w.alloc _ = w0 at *
  have hk := Go.heap_alloc_new w0 (.cells #[.slice a1 vs.length c1, .slice a2 ls.length c2] 22)
  rw [hsz] at hk
  have hb1 := lay_alloc w0 (.cells #[.slice a1 vs.length c1, .slice a2 ls.length c2] 22)
  have HI := Lib.hid (HI.out.later hb1)
  have HB := Lib.hid (hb0.trans (hb1.mono hb0.size))
  clear hb0 hb1 hsz
  generalize World.alloc _ _ = w1 at *
  have d0 : w1.cell? ⟨w.heap.size + 1, 0, none⟩ = some (.slice a1 vs.length c1) := by rw [cell_of_row w1 _ _ _ _ _ hk]; rfl
  have d1 : w1.cell? ⟨w.heap.size + 1, 1, none⟩ = some (.slice a2 ls.length c2) := by rw [cell_of_row w1 _ _ _ _ _ hk]; rfl
  clear hk
  go_loopw [3, 16] (fun o i wr => ∃ (k : Nat) (z : Int), i = .int .i64 z ∧ z = k ∧ k ≤ 2 ∧ Hid (Rw intL 3 w1 wr o (allE (lst2 vs ls k)))) (fun _ i _ => 2 - (intOf i).toNat)
  case atStart => exact ⟨0, 0, rfl, rfl, by omega, by show Rw _ _ _ _ _ _; rw [show lst2 vs ls 0 = [] from rfl, allE_nil]; exact Rw.nil w1⟩
  case round =>
    obtain ⟨i, z, rfl, hz, hi, hR⟩ := hrel
    have q0 := lay_later hR.out.grown d0
    have q1 := lay_later hR.out.grown d1
    rcases (by omega : i = 0 ∨ i = 1 ∨ i = 2) with rfl | rfl | rfl
    · obtain rfl : z = 0 := hz
      obtain ⟨ao, co, rfl, _, _⟩ := hR.out.slice
      go_wp2_with fail
      clear q0 q1
      have HPre : Hid (lst2 vs ls 0 = ([] : List Int)) := by show _ = _; rfl
      rw [HPre.out] at hR
      go_loopw [3, 22] (fun o j wr => ∃ k : Nat, j = .int .i64 k ∧ k ≤ vs.length ∧ Hid (Rw intL 3 w1 wr o (allE (([] : List Int) ++ vs.take k)))) (fun _ j _ => vs.length - (intOf j).toNat)
      case atStart => exact ⟨0, rfl, Nat.zero_le _, by rw [List.take_zero, List.append_nil]; exact hR⟩
      case round =>
        clear hR
        obtain ⟨k, rfl, hk, hR⟩ := hrel
        obtain ⟨ao, co, rfl, hoc, hom⟩ := hR.out.slice
        by_cases hlt : k < vs.length
        · have hg : vs[k]? = some vs[k] := List.getElem?_eq_getElem hlt
          obtain ⟨gl, offl, rfl, hq, hc⟩ := intL_at (HI.out.1.later hR.out.grown) hg
          have HT : Hid (([] : List Int) ++ vs.take (k + 1) = ([] : List Int) ++ vs.take k ++ [vs[k]]) := by show _ = _; rw [List.take_add_one, hg, Option.toList_some, List.append_assoc]
          have HLen : Hid ((allE (([] : List Int) ++ vs.take k)).length ≤ 200000) := by
            show _ ≤ _
            have := allE_le (([] : List Int) ++ vs.take k)
            rw [List.length_append, List.length_take] at this
            have : ([] : List Int).length ≤ 100000 := by first | exact l1 | exact Nat.zero_le _
            omega
          have HSkip := Lib.hid (@allE_skip (([] : List Int) ++ vs.take k) vs[k])
          have HPut := Lib.hid (@allE_put (([] : List Int) ++ vs.take k) vs[k])
          rw [← HT.out] at HSkip HPut
          clear hg hq
          generalize vs[k] = x at *
          generalize hE' : allE (([] : List Int) ++ vs.take (k + 1)) = E' at *
          have HEq := Lib.hid hE'
          clear hE'
          generalize allE (([] : List Int) ++ vs.take k) = E at *
          go_wp2_with fail
          go_loop [8] (fun a => ∃ j : Nat, a = .int .i64 j ∧ j ≤ E.length ∧ ∀ i (hi : i < E.length), i < j → E[i] < x) (fun a => E.length - (intOf a).toNat)
          case atStart => exact ⟨0, rfl, Nat.zero_le _, fun i _ h => absurd h (Nat.not_lt_zero _)⟩
          case round =>
            obtain ⟨j, rfl, hj, hlo⟩ := hrel
            have HLO := Lib.hid hlo
            clear hlo
            by_cases hje : j < E.length
            · have hg : E[j]? = some E[j] := List.getElem?_eq_getElem hje
              obtain ⟨go, offo, rfl, hq, hco⟩ := intL_at hR.out.told hg
              have HE : Hid (∀ (hi : j < E.length), E[j] = E[j]) := fun _ => rfl
              have HM : Hid (E[j] ∈ E) := List.getElem_mem hje
              have HY : Hid (∀ y, E[j] = y → ∀ i (hi : i < E.length), i = j → E[i] = y) := fun y hy i hi e => by subst e; exact hy
              generalize hy : E[j] = y at *
              have HYY := Lib.hid (HY.out y rfl)
              clear hg hq HE hy HY
              have hlen := HLen.out
              by_cases hyx : y < x
              · go_wp2_with fail
                go_round
                case rel => exact ⟨j + 1, by go_num, by omega, fun i hi hij => by
                  rcases Nat.lt_or_eq_of_le (Nat.le_of_lt_succ hij) with h | h
                  · exact HLO.out i hi h
                  · rw [HYY.out i hi h]; exact hyx⟩
                case measure => simp [intOf]; omega
              · by_cases he : y = x
                · subst he
                  have HF : Hid (E' = E) := HSkip.out HM.out
                  go_wp2_with fail
                  exact ⟨⟨k + 1, by go_num, by omega, by rw [HEq.out, HF.out]; exact hR⟩, by simp [intOf]; omega⟩
                · have hxy : x < y := by omega
                  have HP : Hid (E' = E.take j ++ [x] ++ E.drop j) := HPut.out j hj HLO.out (fun hi => by rw [HYY.out j hi rfl]; exact hxy)
                  have be : (y == x) = false := by rw [beq_eq_false_iff_ne]; exact he
                  have HRT := Lib.hid hR.out.told
                  have hjc : j < co := by omega
                  clear he
                  have HR0 := Lib.hid (rw_empty wr)
                  have HTk : Hid (intL.In wr (.slice (some ⟨go, offo, none⟩) j co) (E.take j)) := hR.out.told.take j hj
                  have HDr : Hid (intL.In wr (.slice (some ⟨go, offo + j, none⟩) (E.length - j) (co - j)) (E.drop j)) := in_drop hR.out.told hj
                  have HT1 : Hid ((E.take j).length ≤ 200000) := by show _ ≤ _; rw [List.length_take]; omega
                  have HD1 : Hid ((E.drop j).length ≤ 200000) := by show _ ≤ _; rw [List.length_drop]; omega
                  have HGR : Hid (Below w1.heap.size w1 wr) := hR.out.grown
                  generalize E.take j = T1 at HP HTk HT1
                  generalize E.drop j = D1 at HP HDr HD1
                  clear hR HSkip HPut
                  go_wp2_with (first
                    | (at_builtin; refine wpList_catI (I := intL) rfl _ _ 22 3 rfl Try.underlying22 infoInt rfl (by decide) (by decide) HR0.out.own (HTk.out.later HR0.out.grown) (by have := HT1.out; simp; omega) HR0.out.grown.size rfl rfl ?_; intro v1 wA hown hgrow; have HA0 := HR0.out.cat hown hgrow; rw [List.nil_append] at HA0; obtain ⟨aA, cA, rfl, _, _⟩ := HA0.slice; have HA := Lib.hid HA0; have HGA : Hid (wr.heap.size ≤ wA.heap.size) := HA0.grown.size; clear hown hgrow HA0 HR0)
                    | (at_builtin; refine wpList_pushI rfl _ _ 22 3 _ 1 8 rfl Try.underlying22 infoInt rfl (by decide) wr.heap.size T1.length _ (intL.all T1) rfl HA.out.own #[.int .i64 x] rfl (intL.one x) rfl (by have := HT1.out; omega) (by decide) HGA.out ?_; intro g3 c3 wB hown hgrow hat hlt3; have HB3 := Lib.hid (HA.out.push x hown hgrow); have HLB : Hid ((T1 ++ [x]).length = T1.length + 1) := (by show _ = _; rw [List.length_append]; rfl); clear hown hgrow hat hlt3 HA)
                    | (at_builtin; refine wpList_catI (I := intL) (xs := T1 ++ [x]) rfl _ _ 22 3 rfl Try.underlying22 infoInt rfl (by decide) (by decide) HB3.out.own (HDr.out.later HB3.out.grown) (by have h1 := HT1.out; have h2 := HD1.out; rw [HLB.out]; omega) HB3.out.grown.size rfl rfl ?_; intro v4 wC hown hgrow; have HC := Lib.hid (HB3.out.cat hown hgrow); clear hown hgrow HB3))
                  exact ⟨⟨k + 1, by go_num, by omega, by rw [HEq.out, HP.out]; exact HC.out.base HGR.out⟩, by simp [intOf]; omega⟩
            · obtain rfl : j = E.length := by omega
              have HP : Hid (E' = E.take E.length ++ [x] ++ E.drop E.length) := HPut.out E.length hj HLO.out (fun hi => absurd hi (Nat.lt_irrefl _))
              have hlen := HLen.out
              rcases hR.out.own.2 with ⟨hv, hz0⟩ | ⟨go, cap, cur, hv, _⟩
              · obtain ⟨rfl, hl0, rfl⟩ : ao = none ∧ E.length = 0 ∧ co = 0 := by simpa using hv
                obtain rfl : E = [] := List.eq_nil_of_length_eq_zero hl0
                clear hv hz0 hl0 HLO
                have HR0 := Lib.hid (rw_empty wr)
                have HTk : Hid (intL.In wr (.slice none 0 0) (([] : List Int).take 0)) := by show intL.In _ _ _; exact Lay.In.nil wr
                have HDr : Hid (intL.In wr (.slice none 0 0) (([] : List Int).drop 0)) := by show intL.In _ _ _; exact Lay.In.nil wr
                have HT1 : Hid ((([] : List Int).take 0).length ≤ 200000) := by show _ ≤ _; rw [List.length_take]; omega
                have HD1 : Hid ((([] : List Int).drop 0).length ≤ 200000) := by show _ ≤ _; rw [List.length_drop]; omega
                have HGR : Hid (Below w1.heap.size w1 wr) := hR.out.grown
                generalize ([] : List Int).take 0 = T1 at HP HTk HT1
                generalize ([] : List Int).drop 0 = D1 at HP HDr HD1
                clear hR HSkip HPut
                go_wp2_with (first
                  | (at_builtin; refine wpList_catI (I := intL) rfl _ _ 22 3 rfl Try.underlying22 infoInt rfl (by decide) (by decide) HR0.out.own (HTk.out.later HR0.out.grown) (by have := HT1.out; simp; omega) HR0.out.grown.size rfl rfl ?_; intro v1 wA hown hgrow; have HA0 := HR0.out.cat hown hgrow; rw [List.nil_append] at HA0; obtain ⟨aA, cA, rfl, _, _⟩ := HA0.slice; have HA := Lib.hid HA0; have HGA : Hid (wr.heap.size ≤ wA.heap.size) := HA0.grown.size; clear hown hgrow HA0 HR0)
                  | (at_builtin; refine wpList_pushI rfl _ _ 22 3 _ 1 8 rfl Try.underlying22 infoInt rfl (by decide) wr.heap.size T1.length _ (intL.all T1) rfl HA.out.own #[.int .i64 x] rfl (intL.one x) rfl (by have := HT1.out; omega) (by decide) HGA.out ?_; intro g3 c3 wB hown hgrow hat hlt3; have HB3 := Lib.hid (HA.out.push x hown hgrow); have HLB : Hid ((T1 ++ [x]).length = T1.length + 1) := (by show _ = _; rw [List.length_append]; rfl); clear hown hgrow hat hlt3 HA)
                  | (at_builtin; refine wpList_catI (I := intL) (xs := T1 ++ [x]) rfl _ _ 22 3 rfl Try.underlying22 infoInt rfl (by decide) (by decide) HB3.out.own (HDr.out.later HB3.out.grown) (by have h1 := HT1.out; have h2 := HD1.out; rw [HLB.out]; omega) HB3.out.grown.size rfl rfl ?_; intro v4 wC hown hgrow; have HC := Lib.hid (HB3.out.cat hown hgrow); clear hown hgrow HB3))
                exact ⟨⟨k + 1, by go_num, by omega, by rw [HEq.out, HP.out]; exact HC.out.base HGR.out⟩, by simp [intOf]; omega⟩
              · obtain ⟨rfl, rfl⟩ : ao = some ⟨go, 0, none⟩ ∧ co = cap := by simpa using hv
                clear hv HLO
                have hel : E.length ≤ 200000 := hlen
                by_cases hcap : co = E.length
                · subst hcap
                  have HR0 := Lib.hid (rw_empty wr)
                  have HTk : Hid (intL.In wr (.slice (some ⟨go, 0, none⟩) E.length E.length) (E.take E.length)) := hR.out.told.take E.length (Nat.le_refl _)
                  have HDr : Hid (intL.In wr (.slice (some ⟨go, 0, none⟩) 0 0) (E.drop E.length)) := by show intL.In _ _ _; rw [List.drop_length]; exact ⟨_, 0, rfl, Nat.le_refl _, by decide, .inl rfl⟩
                  have HT1 : Hid ((E.take E.length).length ≤ 200000) := by show _ ≤ _; rw [List.length_take]; omega
                  have HD1 : Hid ((E.drop E.length).length ≤ 200000) := by show _ ≤ _; rw [List.length_drop]; omega
                  have HGR : Hid (Below w1.heap.size w1 wr) := hR.out.grown
                  generalize E.take E.length = T1 at HP HTk HT1
                  generalize E.drop E.length = D1 at HP HDr HD1
                  clear hR HSkip HPut
                  go_wp2_with (first
                    | (at_builtin; refine wpList_catI (I := intL) rfl _ _ 22 3 rfl Try.underlying22 infoInt rfl (by decide) (by decide) HR0.out.own (HTk.out.later HR0.out.grown) (by have := HT1.out; simp; omega) HR0.out.grown.size rfl rfl ?_; intro v1 wA hown hgrow; have HA0 := HR0.out.cat hown hgrow; rw [List.nil_append] at HA0; obtain ⟨aA, cA, rfl, _, _⟩ := HA0.slice; have HA := Lib.hid HA0; have HGA : Hid (wr.heap.size ≤ wA.heap.size) := HA0.grown.size; clear hown hgrow HA0 HR0)
                    | (at_builtin; refine wpList_pushI rfl _ _ 22 3 _ 1 8 rfl Try.underlying22 infoInt rfl (by decide) wr.heap.size T1.length _ (intL.all T1) rfl HA.out.own #[.int .i64 x] rfl (intL.one x) rfl (by have := HT1.out; omega) (by decide) HGA.out ?_; intro g3 c3 wB hown hgrow hat hlt3; have HB3 := Lib.hid (HA.out.push x hown hgrow); have HLB : Hid ((T1 ++ [x]).length = T1.length + 1) := (by show _ = _; rw [List.length_append]; rfl); clear hown hgrow hat hlt3 HA)
                    | (at_builtin; refine wpList_catI (I := intL) (xs := T1 ++ [x]) rfl _ _ 22 3 rfl Try.underlying22 infoInt rfl (by decide) (by decide) HB3.out.own (HDr.out.later HB3.out.grown) (by have h1 := HT1.out; have h2 := HD1.out; rw [HLB.out]; omega) HB3.out.grown.size rfl rfl ?_; intro v4 wC hown hgrow; have HC := Lib.hid (HB3.out.cat hown hgrow); clear hown hgrow HB3))
                  exact ⟨⟨k + 1, by go_num, by omega, by rw [HEq.out, HP.out]; exact HC.out.base HGR.out⟩, by simp [intOf]; omega⟩
                · have hjc : E.length < co := by omega
                  have HR0 := Lib.hid (rw_empty wr)
                  have HTk : Hid (intL.In wr (.slice (some ⟨go, 0, none⟩) E.length co) (E.take E.length)) := hR.out.told.take E.length (Nat.le_refl _)
                  have HDr : Hid (intL.In wr (.slice (some ⟨go, E.length, none⟩) 0 (co - E.length)) (E.drop E.length)) := by show intL.In _ _ _; rw [List.drop_length]; exact ⟨_, _, rfl, Nat.zero_le _, by omega, .inl rfl⟩
                  have HT1 : Hid ((E.take E.length).length ≤ 200000) := by show _ ≤ _; rw [List.length_take]; omega
                  have HD1 : Hid ((E.drop E.length).length ≤ 200000) := by show _ ≤ _; rw [List.length_drop]; omega
                  have HGR : Hid (Below w1.heap.size w1 wr) := hR.out.grown
                  generalize E.take E.length = T1 at HP HTk HT1
                  generalize E.drop E.length = D1 at HP HDr HD1
                  clear hR HSkip HPut
                  go_wp2_with (first
                    | (at_builtin; refine wpList_catI (I := intL) rfl _ _ 22 3 rfl Try.underlying22 infoInt rfl (by decide) (by decide) HR0.out.own (HTk.out.later HR0.out.grown) (by have := HT1.out; simp; omega) HR0.out.grown.size rfl rfl ?_; intro v1 wA hown hgrow; have HA0 := HR0.out.cat hown hgrow; rw [List.nil_append] at HA0; obtain ⟨aA, cA, rfl, _, _⟩ := HA0.slice; have HA := Lib.hid HA0; have HGA : Hid (wr.heap.size ≤ wA.heap.size) := HA0.grown.size; clear hown hgrow HA0 HR0)
                    | (at_builtin; refine wpList_pushI rfl _ _ 22 3 _ 1 8 rfl Try.underlying22 infoInt rfl (by decide) wr.heap.size T1.length _ (intL.all T1) rfl HA.out.own #[.int .i64 x] rfl (intL.one x) rfl (by have := HT1.out; omega) (by decide) HGA.out ?_; intro g3 c3 wB hown hgrow hat hlt3; have HB3 := Lib.hid (HA.out.push x hown hgrow); have HLB : Hid ((T1 ++ [x]).length = T1.length + 1) := (by show _ = _; rw [List.length_append]; rfl); clear hown hgrow hat hlt3 HA)
                    | (at_builtin; refine wpList_catI (I := intL) (xs := T1 ++ [x]) rfl _ _ 22 3 rfl Try.underlying22 infoInt rfl (by decide) (by decide) HB3.out.own (HDr.out.later HB3.out.grown) (by have h1 := HT1.out; have h2 := HD1.out; rw [HLB.out]; omega) HB3.out.grown.size rfl rfl ?_; intro v4 wC hown hgrow; have HC := Lib.hid (HB3.out.cat hown hgrow); clear hown hgrow HB3))
                  exact ⟨⟨k + 1, by go_num, by omega, by rw [HEq.out, HP.out]; exact HC.out.base HGR.out⟩, by simp [intOf]; omega⟩
        · obtain rfl : k = vs.length := by omega
          have HN : Hid (lst2 vs ls 1 = ([] : List Int) ++ vs.take vs.length) := by show _ = _; rw [List.take_length]; rfl
          go_wp2_with fail
          exact ⟨⟨1, _, rfl, by rfl, by omega, by rw [HN.out]; exact hR⟩, by simp [intOf]⟩
    · obtain rfl : z = 1 := hz
      obtain ⟨ao, co, rfl, _, _⟩ := hR.out.slice
      go_wp2_with fail
      clear q0 q1
      have HPre : Hid (lst2 vs ls 1 = vs) := by show _ = _; rfl
      rw [HPre.out] at hR
      go_loopw [3, 22] (fun o j wr => ∃ k : Nat, j = .int .i64 k ∧ k ≤ ls.length ∧ Hid (Rw intL 3 w1 wr o (allE (vs ++ ls.take k)))) (fun _ j _ => ls.length - (intOf j).toNat)
      case atStart => exact ⟨0, rfl, Nat.zero_le _, by rw [List.take_zero, List.append_nil]; exact hR⟩
      case round =>
        clear hR
        obtain ⟨k, rfl, hk, hR⟩ := hrel
        obtain ⟨ao, co, rfl, hoc, hom⟩ := hR.out.slice
        by_cases hlt : k < ls.length
        · have hg : ls[k]? = some ls[k] := List.getElem?_eq_getElem hlt
          obtain ⟨gl, offl, rfl, hq, hc⟩ := intL_at (HI.out.2.later hR.out.grown) hg
          have HT : Hid (vs ++ ls.take (k + 1) = vs ++ ls.take k ++ [ls[k]]) := by show _ = _; rw [List.take_add_one, hg, Option.toList_some, List.append_assoc]
          have HLen : Hid ((allE (vs ++ ls.take k)).length ≤ 200000) := by
            show _ ≤ _
            have := allE_le (vs ++ ls.take k)
            rw [List.length_append, List.length_take] at this
            have : vs.length ≤ 100000 := by first | exact l1 | exact Nat.zero_le _
            omega
          have HSkip := Lib.hid (@allE_skip (vs ++ ls.take k) ls[k])
          have HPut := Lib.hid (@allE_put (vs ++ ls.take k) ls[k])
          rw [← HT.out] at HSkip HPut
          clear hg hq
          generalize ls[k] = x at *
          generalize hE' : allE (vs ++ ls.take (k + 1)) = E' at *
          have HEq := Lib.hid hE'
          clear hE'
          generalize allE (vs ++ ls.take k) = E at *
          go_wp2_with fail
          go_loop [8] (fun a => ∃ j : Nat, a = .int .i64 j ∧ j ≤ E.length ∧ ∀ i (hi : i < E.length), i < j → E[i] < x) (fun a => E.length - (intOf a).toNat)
          case atStart => exact ⟨0, rfl, Nat.zero_le _, fun i _ h => absurd h (Nat.not_lt_zero _)⟩
          case round =>
            obtain ⟨j, rfl, hj, hlo⟩ := hrel
            have HLO := Lib.hid hlo
            clear hlo
            by_cases hje : j < E.length
            · have hg : E[j]? = some E[j] := List.getElem?_eq_getElem hje
              obtain ⟨go, offo, rfl, hq, hco⟩ := intL_at hR.out.told hg
              have HE : Hid (∀ (hi : j < E.length), E[j] = E[j]) := fun _ => rfl
              have HM : Hid (E[j] ∈ E) := List.getElem_mem hje
              have HY : Hid (∀ y, E[j] = y → ∀ i (hi : i < E.length), i = j → E[i] = y) := fun y hy i hi e => by subst e; exact hy
              generalize hy : E[j] = y at *
              have HYY := Lib.hid (HY.out y rfl)
              clear hg hq HE hy HY
              have hlen := HLen.out
              by_cases hyx : y < x
              · go_wp2_with fail
                go_round
                case rel => exact ⟨j + 1, by go_num, by omega, fun i hi hij => by
                  rcases Nat.lt_or_eq_of_le (Nat.le_of_lt_succ hij) with h | h
                  · exact HLO.out i hi h
                  · rw [HYY.out i hi h]; exact hyx⟩
                case measure => simp [intOf]; omega
              · by_cases he : y = x
                · subst he
                  have HF : Hid (E' = E) := HSkip.out HM.out
                  go_wp2_with fail
                  exact ⟨⟨k + 1, by go_num, by omega, by rw [HEq.out, HF.out]; exact hR⟩, by simp [intOf]; omega⟩
                · have hxy : x < y := by omega
                  have HP : Hid (E' = E.take j ++ [x] ++ E.drop j) := HPut.out j hj HLO.out (fun hi => by rw [HYY.out j hi rfl]; exact hxy)
                  have be : (y == x) = false := by rw [beq_eq_false_iff_ne]; exact he
                  have HRT := Lib.hid hR.out.told
                  have hjc : j < co := by omega
                  clear he
                  have HR0 := Lib.hid (rw_empty wr)
                  have HTk : Hid (intL.In wr (.slice (some ⟨go, offo, none⟩) j co) (E.take j)) := hR.out.told.take j hj
                  have HDr : Hid (intL.In wr (.slice (some ⟨go, offo + j, none⟩) (E.length - j) (co - j)) (E.drop j)) := in_drop hR.out.told hj
                  have HT1 : Hid ((E.take j).length ≤ 200000) := by show _ ≤ _; rw [List.length_take]; omega
                  have HD1 : Hid ((E.drop j).length ≤ 200000) := by show _ ≤ _; rw [List.length_drop]; omega
                  have HGR : Hid (Below w1.heap.size w1 wr) := hR.out.grown
                  generalize E.take j = T1 at HP HTk HT1
                  generalize E.drop j = D1 at HP HDr HD1
                  clear hR HSkip HPut
                  go_wp2_with (first
                    | (at_builtin; refine wpList_catI (I := intL) rfl _ _ 22 3 rfl Try.underlying22 infoInt rfl (by decide) (by decide) HR0.out.own (HTk.out.later HR0.out.grown) (by have := HT1.out; simp; omega) HR0.out.grown.size rfl rfl ?_; intro v1 wA hown hgrow; have HA0 := HR0.out.cat hown hgrow; rw [List.nil_append] at HA0; obtain ⟨aA, cA, rfl, _, _⟩ := HA0.slice; have HA := Lib.hid HA0; have HGA : Hid (wr.heap.size ≤ wA.heap.size) := HA0.grown.size; clear hown hgrow HA0 HR0)
                    | (at_builtin; refine wpList_pushI rfl _ _ 22 3 _ 1 8 rfl Try.underlying22 infoInt rfl (by decide) wr.heap.size T1.length _ (intL.all T1) rfl HA.out.own #[.int .i64 x] rfl (intL.one x) rfl (by have := HT1.out; omega) (by decide) HGA.out ?_; intro g3 c3 wB hown hgrow hat hlt3; have HB3 := Lib.hid (HA.out.push x hown hgrow); have HLB : Hid ((T1 ++ [x]).length = T1.length + 1) := (by show _ = _; rw [List.length_append]; rfl); clear hown hgrow hat hlt3 HA)
                    | (at_builtin; refine wpList_catI (I := intL) (xs := T1 ++ [x]) rfl _ _ 22 3 rfl Try.underlying22 infoInt rfl (by decide) (by decide) HB3.out.own (HDr.out.later HB3.out.grown) (by have h1 := HT1.out; have h2 := HD1.out; rw [HLB.out]; omega) HB3.out.grown.size rfl rfl ?_; intro v4 wC hown hgrow; have HC := Lib.hid (HB3.out.cat hown hgrow); clear hown hgrow HB3))
                  exact ⟨⟨k + 1, by go_num, by omega, by rw [HEq.out, HP.out]; exact HC.out.base HGR.out⟩, by simp [intOf]; omega⟩
            · obtain rfl : j = E.length := by omega
              have HP : Hid (E' = E.take E.length ++ [x] ++ E.drop E.length) := HPut.out E.length hj HLO.out (fun hi => absurd hi (Nat.lt_irrefl _))
              have hlen := HLen.out
              rcases hR.out.own.2 with ⟨hv, hz0⟩ | ⟨go, cap, cur, hv, _⟩
              · obtain ⟨rfl, hl0, rfl⟩ : ao = none ∧ E.length = 0 ∧ co = 0 := by simpa using hv
                obtain rfl : E = [] := List.eq_nil_of_length_eq_zero hl0
                clear hv hz0 hl0 HLO
                have HR0 := Lib.hid (rw_empty wr)
                have HTk : Hid (intL.In wr (.slice none 0 0) (([] : List Int).take 0)) := by show intL.In _ _ _; exact Lay.In.nil wr
                have HDr : Hid (intL.In wr (.slice none 0 0) (([] : List Int).drop 0)) := by show intL.In _ _ _; exact Lay.In.nil wr
                have HT1 : Hid ((([] : List Int).take 0).length ≤ 200000) := by show _ ≤ _; rw [List.length_take]; omega
                have HD1 : Hid ((([] : List Int).drop 0).length ≤ 200000) := by show _ ≤ _; rw [List.length_drop]; omega
                have HGR : Hid (Below w1.heap.size w1 wr) := hR.out.grown
                generalize ([] : List Int).take 0 = T1 at HP HTk HT1
                generalize ([] : List Int).drop 0 = D1 at HP HDr HD1
                clear hR HSkip HPut
                go_wp2_with (first
                  | (at_builtin; refine wpList_catI (I := intL) rfl _ _ 22 3 rfl Try.underlying22 infoInt rfl (by decide) (by decide) HR0.out.own (HTk.out.later HR0.out.grown) (by have := HT1.out; simp; omega) HR0.out.grown.size rfl rfl ?_; intro v1 wA hown hgrow; have HA0 := HR0.out.cat hown hgrow; rw [List.nil_append] at HA0; obtain ⟨aA, cA, rfl, _, _⟩ := HA0.slice; have HA := Lib.hid HA0; have HGA : Hid (wr.heap.size ≤ wA.heap.size) := HA0.grown.size; clear hown hgrow HA0 HR0)
                  | (at_builtin; refine wpList_pushI rfl _ _ 22 3 _ 1 8 rfl Try.underlying22 infoInt rfl (by decide) wr.heap.size T1.length _ (intL.all T1) rfl HA.out.own #[.int .i64 x] rfl (intL.one x) rfl (by have := HT1.out; omega) (by decide) HGA.out ?_; intro g3 c3 wB hown hgrow hat hlt3; have HB3 := Lib.hid (HA.out.push x hown hgrow); have HLB : Hid ((T1 ++ [x]).length = T1.length + 1) := (by show _ = _; rw [List.length_append]; rfl); clear hown hgrow hat hlt3 HA)
                  | (at_builtin; refine wpList_catI (I := intL) (xs := T1 ++ [x]) rfl _ _ 22 3 rfl Try.underlying22 infoInt rfl (by decide) (by decide) HB3.out.own (HDr.out.later HB3.out.grown) (by have h1 := HT1.out; have h2 := HD1.out; rw [HLB.out]; omega) HB3.out.grown.size rfl rfl ?_; intro v4 wC hown hgrow; have HC := Lib.hid (HB3.out.cat hown hgrow); clear hown hgrow HB3))
                exact ⟨⟨k + 1, by go_num, by omega, by rw [HEq.out, HP.out]; exact HC.out.base HGR.out⟩, by simp [intOf]; omega⟩
              · obtain ⟨rfl, rfl⟩ : ao = some ⟨go, 0, none⟩ ∧ co = cap := by simpa using hv
                clear hv HLO
                have hel : E.length ≤ 200000 := hlen
                by_cases hcap : co = E.length
                · subst hcap
                  have HR0 := Lib.hid (rw_empty wr)
                  have HTk : Hid (intL.In wr (.slice (some ⟨go, 0, none⟩) E.length E.length) (E.take E.length)) := hR.out.told.take E.length (Nat.le_refl _)
                  have HDr : Hid (intL.In wr (.slice (some ⟨go, 0, none⟩) 0 0) (E.drop E.length)) := by show intL.In _ _ _; rw [List.drop_length]; exact ⟨_, 0, rfl, Nat.le_refl _, by decide, .inl rfl⟩
                  have HT1 : Hid ((E.take E.length).length ≤ 200000) := by show _ ≤ _; rw [List.length_take]; omega
                  have HD1 : Hid ((E.drop E.length).length ≤ 200000) := by show _ ≤ _; rw [List.length_drop]; omega
                  have HGR : Hid (Below w1.heap.size w1 wr) := hR.out.grown
                  generalize E.take E.length = T1 at HP HTk HT1
                  generalize E.drop E.length = D1 at HP HDr HD1
                  clear hR HSkip HPut
                  go_wp2_with (first
                    | (at_builtin; refine wpList_catI (I := intL) rfl _ _ 22 3 rfl Try.underlying22 infoInt rfl (by decide) (by decide) HR0.out.own (HTk.out.later HR0.out.grown) (by have := HT1.out; simp; omega) HR0.out.grown.size rfl rfl ?_; intro v1 wA hown hgrow; have HA0 := HR0.out.cat hown hgrow; rw [List.nil_append] at HA0; obtain ⟨aA, cA, rfl, _, _⟩ := HA0.slice; have HA := Lib.hid HA0; have HGA : Hid (wr.heap.size ≤ wA.heap.size) := HA0.grown.size; clear hown hgrow HA0 HR0)
                    | (at_builtin; refine wpList_pushI rfl _ _ 22 3 _ 1 8 rfl Try.underlying22 infoInt rfl (by decide) wr.heap.size T1.length _ (intL.all T1) rfl HA.out.own #[.int .i64 x] rfl (intL.one x) rfl (by have := HT1.out; omega) (by decide) HGA.out ?_; intro g3 c3 wB hown hgrow hat hlt3; have HB3 := Lib.hid (HA.out.push x hown hgrow); have HLB : Hid ((T1 ++ [x]).length = T1.length + 1) := (by show _ = _; rw [List.length_append]; rfl); clear hown hgrow hat hlt3 HA)
                    | (at_builtin; refine wpList_catI (I := intL) (xs := T1 ++ [x]) rfl _ _ 22 3 rfl Try.underlying22 infoInt rfl (by decide) (by decide) HB3.out.own (HDr.out.later HB3.out.grown) (by have h1 := HT1.out; have h2 := HD1.out; rw [HLB.out]; omega) HB3.out.grown.size rfl rfl ?_; intro v4 wC hown hgrow; have HC := Lib.hid (HB3.out.cat hown hgrow); clear hown hgrow HB3))
                  exact ⟨⟨k + 1, by go_num, by omega, by rw [HEq.out, HP.out]; exact HC.out.base HGR.out⟩, by simp [intOf]; omega⟩
                · have hjc : E.length < co := by omega
                  have HR0 := Lib.hid (rw_empty wr)
                  have HTk : Hid (intL.In wr (.slice (some ⟨go, 0, none⟩) E.length co) (E.take E.length)) := hR.out.told.take E.length (Nat.le_refl _)
                  have HDr : Hid (intL.In wr (.slice (some ⟨go, E.length, none⟩) 0 (co - E.length)) (E.drop E.length)) := by show intL.In _ _ _; rw [List.drop_length]; exact ⟨_, _, rfl, Nat.zero_le _, by omega, .inl rfl⟩
                  have HT1 : Hid ((E.take E.length).length ≤ 200000) := by show _ ≤ _; rw [List.length_take]; omega
                  have HD1 : Hid ((E.drop E.length).length ≤ 200000) := by show _ ≤ _; rw [List.length_drop]; omega
                  have HGR : Hid (Below w1.heap.size w1 wr) := hR.out.grown
                  generalize E.take E.length = T1 at HP HTk HT1
                  generalize E.drop E.length = D1 at HP HDr HD1
                  clear hR HSkip HPut
                  go_wp2_with (first
                    | (at_builtin; refine wpList_catI (I := intL) rfl _ _ 22 3 rfl Try.underlying22 infoInt rfl (by decide) (by decide) HR0.out.own (HTk.out.later HR0.out.grown) (by have := HT1.out; simp; omega) HR0.out.grown.size rfl rfl ?_; intro v1 wA hown hgrow; have HA0 := HR0.out.cat hown hgrow; rw [List.nil_append] at HA0; obtain ⟨aA, cA, rfl, _, _⟩ := HA0.slice; have HA := Lib.hid HA0; have HGA : Hid (wr.heap.size ≤ wA.heap.size) := HA0.grown.size; clear hown hgrow HA0 HR0)
                    | (at_builtin; refine wpList_pushI rfl _ _ 22 3 _ 1 8 rfl Try.underlying22 infoInt rfl (by decide) wr.heap.size T1.length _ (intL.all T1) rfl HA.out.own #[.int .i64 x] rfl (intL.one x) rfl (by have := HT1.out; omega) (by decide) HGA.out ?_; intro g3 c3 wB hown hgrow hat hlt3; have HB3 := Lib.hid (HA.out.push x hown hgrow); have HLB : Hid ((T1 ++ [x]).length = T1.length + 1) := (by show _ = _; rw [List.length_append]; rfl); clear hown hgrow hat hlt3 HA)
                    | (at_builtin; refine wpList_catI (I := intL) (xs := T1 ++ [x]) rfl _ _ 22 3 rfl Try.underlying22 infoInt rfl (by decide) (by decide) HB3.out.own (HDr.out.later HB3.out.grown) (by have h1 := HT1.out; have h2 := HD1.out; rw [HLB.out]; omega) HB3.out.grown.size rfl rfl ?_; intro v4 wC hown hgrow; have HC := Lib.hid (HB3.out.cat hown hgrow); clear hown hgrow HB3))
                  exact ⟨⟨k + 1, by go_num, by omega, by rw [HEq.out, HP.out]; exact HC.out.base HGR.out⟩, by simp [intOf]; omega⟩
        · obtain rfl : k = ls.length := by omega
          have HN : Hid (lst2 vs ls 2 = vs ++ ls.take ls.length) := by show _ = _; rw [List.take_length]; rfl
          go_wp2_with fail
          exact ⟨⟨2, _, rfl, by rfl, by omega, by rw [HN.out]; exact hR⟩, by simp [intOf]⟩
    · obtain rfl : z = 2 := hz
      obtain ⟨ao, co, rfl, _, _⟩ := hR.out.slice
      clear q0 q1
      go_wp2_with fail
      go_ret
      have HF := hR.out.base HB.out
      exact ⟨_, rfl, by rw [show lst2 vs ls 2 = vs ++ ls from rfl] at HF; exact HF⟩
end Go.Proofs.Yticcmjiekopnbaa
