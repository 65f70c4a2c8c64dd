/-
  The document's Agreed walked.
-/
import Derived.Test.YticcmjiekopnbaaW7
namespace Go.Proofs.Yticcmjiekopnbaa
set_option linter.unusedVariables false
set_option linter.unusedSimpArgs false
open Go.RowKit Go.Shelf

def cgF (F : Int → Int) (x : Int) (l : List Int) : Nat := l.countP fun y => decide (x ≤ F y)
theorem cgF_step (F : Int → Int) (x : Int) {l : List Int} {k : Nat} {y : Int} (h : l[k]? = some y) : cgF F x (l.take (k + 1)) = cgF F x (l.take k) + if x ≤ F y then 1 else 0 := by
  unfold cgF
  rw [List.take_add_one, h, Option.toList_some, List.countP_append, List.countP_singleton]
  by_cases e : x ≤ F y <;> simp [e]
theorem cgF_le (F : Int → Int) (x : Int) (l : List Int) : cgF F x l ≤ l.length := List.countP_le_length
theorem qual_cg (F : Int → Int) (x : Int) (l : List Int) : qual (l.map F) x = decide (l.length < 2 * cgF F x l) := by
  unfold qual cgF
  rw [List.length_map, List.countP_map]
  rfl

set_option maxRecDepth 100000 in
set_option maxHeartbeats 6400000 in
theorem RAgreed_any {w : World} {u v : Value} {vs ls : List Int} (h : RoCs w u v vs ls) (F : Int → Int) (l1 : vs.length ≤ 100000) : Calls Try.prog 30 #[.agg #[u, v], .agg #[.int .i64 (F 0), .int .i64 (F 1), .int .i64 (F 2), .int .i64 (F 3), .int .i64 (F 4)]] w (IntP (agrE vs F) w) := by
  have hb0 := lay_alloc w (.cells #[u, v] 24)
  have hk := Go.heap_alloc_new w (.cells #[u, v] 24)
  have hsz : (w.alloc (.cells #[u, v] 24)).heap.size = w.heap.size + 1 := by simp
  have hI := h.1.later hb0
  obtain ⟨a1, c1, rfl, _, hv2⟩ := h.1.slice
  obtain ⟨a2, c2, rfl, _, _⟩ := h.2.slice
  clear h
  have HA : Hid (agrE vs F = if vs.all inR = true then mid (vs.map F) else 0) := by show _ = _; rfl
  go_enter Try.func30, Try.ntmps30
  go_wp2_with fail
  generalize w.alloc _ = w0 at *
  have hr := row5_new w0 F
  have hb1 := lay_alloc w0 (.cells #[.int .i64 (F 0), .int .i64 (F 1), .int .i64 (F 2), .int .i64 (F 3), .int .i64 (F 4)] 38)
  have hI := hI.later hb1
  have hB := hb0.trans (hb1.mono hb0.size)
  have hk := (hb1.block w.heap.size (by omega)).trans hk
  rw [hsz] at hr
  clear hb0 hb1
  generalize w0.alloc _ = w1 at *
  have d0 : w1.cell? ⟨w.heap.size, 0, none⟩ = .some (.slice a1 vs.length c1) := by rw [cell_of_row w1 _ _ _ _ _ hk]; rfl
  have HI := Lib.hid hI
  have HR := Lib.hid hr
  have HB := Lib.hid hB
  clear hI hr hB hsz hk
  go_loop [17] (fun i => ∃ k : Nat, i = .int .i64 k ∧ k ≤ vs.length ∧ (∀ x ∈ vs.take k, inR x = true)) (fun i => vs.length - (intOf i).toNat)
  case atStart => exact ⟨0, rfl, Nat.zero_le _, fun x hx => by simp at hx⟩
  case round =>
    obtain ⟨k, rfl, hk, hall⟩ := hrel
    by_cases hlt : k < vs.length
    · have hg : vs[k]? = .some vs[k] := List.getElem?_eq_getElem hlt
      obtain ⟨g, off, rfl, hq, hc⟩ := intL_at HI.out hg
      have HALL := Lib.hid hall
      have HT : Hid (vs.take (k + 1) = vs.take k ++ [vs[k]]) := by show _ = _; rw [List.take_add_one, hg, Option.toList_some]
      have HM : Hid (vs[k] ∈ vs) := List.getElem_mem hlt
      clear hg hq hall
      generalize vs[k] = x at *
      by_cases hx : 0 ≤ x ∧ x ≤ 4
      · have x0 := hx.1
        have x4 := hx.2
        have hn : ¬ x < 0 := by omega
        have hn4 : ¬ 4 < x := by omega
        have HX : Hid (inR x = true) := (inR_iff x).2 hx
        clear hx
        go_wp2_with fail
        go_round
        case rel =>
          refine ⟨k + 1, by go_num, by omega, fun y hy => ?_⟩
          rw [HT.out] at hy
          rcases List.mem_append.1 hy with hy | hy
          · exact HALL.out y hy
          · have : y = x := by simpa using hy
            subst this; exact HX.out
        case measure => simp [intOf]; omega
      · have HA : Hid (agrE vs F = 0) := by
          show _ = _
          rw [HA.out, if_neg]
          intro h
          exact hx ((inR_iff x).1 (List.all_eq_true.1 h x HM.out))
        by_cases hn : x < 0
        · clear hx
          go_wp2_with fail
          go_ret
          exact ⟨by rw [HA.out]; first | done | rfl, HB.out⟩
        · have hn4 : 4 < x := by omega
          clear hx
          go_wp2_with fail
          go_ret
          exact ⟨by rw [HA.out]; first | done | rfl, HB.out⟩
    · obtain rfl : k = vs.length := by omega
      rw [List.take_length] at hall
      have HALL := Lib.hid hall
      have HA : Hid (agrE vs F = mid (vs.map F)) := by
        show _ = _
        rw [HA.out, if_pos (List.all_eq_true.2 hall)]
      clear hall
      go_wp2_with fail
      go_loopw [7, 8, 31] (fun b f i wr => ∃ (k : Nat) (bb : Int) (ff : Bool), i = .int .i64 k ∧ k ≤ vs.length ∧ b = .int .i64 bb ∧ f = .bool ff ∧ Hid (Best (vs.map F) k bb ff) ∧ Drawn w1 wr) (fun _ _ i _ => vs.length - (intOf i).toNat)
      case atStart => exact ⟨0, 0, false, rfl, Nat.zero_le _, rfl, rfl, .inl ⟨rfl, rfl, fun x hx => by simp at hx⟩, Drawn.refl _⟩
      case round =>
        clear hk hlt
        obtain ⟨k, b, f, rfl, hk, rfl, rfl, HBest, hD⟩ := hrel
        by_cases hlt : k < vs.length
        · have hg : vs[k]? = .some vs[k] := List.getElem?_eq_getElem hlt
          obtain ⟨g, off, rfl, hq, hc⟩ := intL_at (hD.in' HI.out) hg
          have HXR : Hid (inR vs[k] = true) := HALL.out _ (List.getElem_mem hlt)
          have HG : Hid ((vs.map F)[k]? = .some (F vs[k])) := by show _ = _; rw [List.getElem?_map, hg]; rfl
          have d1 := hD.cell d0
          have HD := Lib.hid hD
          clear hg hq hD
          generalize vs[k] = x at *
          go_wp2_with fail
          go_loopw [11, 38] (fun c j wq => ∃ (m : Nat), j = .int .i64 m ∧ m ≤ vs.length ∧ c = .int .i64 ((cgF F (F x) (vs.take m) : Nat) : Int) ∧ Drawn w1 wq) (fun _ j _ => vs.length - (intOf j).toNat)
          case atStart => exact ⟨0, rfl, Nat.zero_le _, by simp [cgF], HD.out⟩
          case round =>
            obtain ⟨m, rfl, hm, rfl, hDq⟩ := hrel
            have hcl : cgF F (F x) (vs.take m) ≤ m := Nat.le_trans (cgF_le _ _ _) (List.length_take_le _ _)
            by_cases hmt : m < vs.length
            · have hg : vs[m]? = .some vs[m] := List.getElem?_eq_getElem hmt
              obtain ⟨g', off', he, hq, hc'⟩ := intL_at (hDq.in' HI.out) hg
              obtain ⟨rfl, rfl⟩ : g = g' ∧ off = off' := by simpa using he
              have HYR : Hid (inR vs[m] = true) := HALL.out _ (List.getElem_mem hmt)
              have HS := Lib.hid (cgF_step F (F x) hg)
              clear hg hq he
              generalize vs[m] = y at *
              have y0 := ((inR_iff y).1 HYR.out).1
              have y4 := ((inR_iff y).1 HYR.out).2
              have x0 := ((inR_iff x).1 HXR.out).1
              have x4 := ((inR_iff x).1 HXR.out).2
              have y5 : y < 5 := by omega
              have x5 : x < 5 := by omega
              have rx := hDq.cell (HR.out.at' x x0 x4)
              have ry := hDq.cell (HR.out.at' y y0 y4)
              have HDq := Lib.hid hDq
              clear hDq
              generalize cgF F (F x) (vs.take m) = q at *
              generalize hfx : F x = p at *
              generalize hfy : F y = r at *
              have e1 : IntKind.i64.wrap ((q : Int) + 1) = (q : Int) + 1 := IntWalk.i64_in _ (by omega)
              clear hfx hfy
              by_cases hpr : p ≤ r
              · go_wp2_with fail
                go_quiet (fail)
                go_wp2_with fail
                exact ⟨⟨m + 1, by go_num, by omega, by rw [HS.out, if_pos hpr]; go_num, HDq.out.next _⟩, by simp [intOf]; omega⟩
              · go_wp2_with fail
                go_quiet (fail)
                go_wp2_with fail
                exact ⟨⟨m + 1, by go_num, by omega, by rw [HS.out, if_neg (by omega)]; rfl, HDq.out.next _⟩, by simp [intOf]; omega⟩
            · obtain rfl : m = vs.length := by omega
              rw [List.take_length] at *
              have HQ : Hid (qual (vs.map F) (F x) = decide (vs.length < 2 * cgF F (F x) vs)) := qual_cg F (F x) vs
              have x0 := ((inR_iff x).1 HXR.out).1
              have x4 := ((inR_iff x).1 HXR.out).2
              have x5 : x < 5 := by omega
              have rx := hDq.cell (HR.out.at' x x0 x4)
              have d2 := hDq.cell d0
              have HDq := Lib.hid hDq
              clear hDq d1
              generalize cgF F (F x) vs = q at *
              generalize hfx : F x = p at *
              have e1 : IntKind.i64.wrap (2 * (q : Int)) = 2 * (q : Int) := IntWalk.i64_in _ (by omega)
              clear hfx
              by_cases h2 : vs.length < 2 * q
              · have HQT : Hid (qual (vs.map F) p = true) := by show _ = _; rw [HQ.out, decide_eq_true h2]
                have h2' : (vs.length : Int) < 2 * (q : Int) := by omega
                clear h2
                cases f with
                | false =>
                  go_wp2_with fail
                  exact ⟨⟨k + 1, p, true, by go_num, by omega, rfl, rfl, HBest.out.take' HG.out HQT.out (.inl rfl), HDq.out⟩, by simp [intOf]; omega⟩
                | true =>
                  by_cases hpb : b < p
                  · go_wp2_with fail
                    exact ⟨⟨k + 1, p, true, by go_num, by omega, rfl, rfl, HBest.out.take' HG.out HQT.out (.inr hpb), HDq.out⟩, by simp [intOf]; omega⟩
                  · have hpb' : p ≤ b := by omega
                    go_wp2_with fail
                    exact ⟨⟨k + 1, b, true, by go_num, by omega, rfl, rfl, HBest.out.skip HG.out (.inr ⟨rfl, hpb'⟩), HDq.out⟩, by simp [intOf]; omega⟩
              · have HQT : Hid (qual (vs.map F) p = false) := by show _ = _; rw [HQ.out, decide_eq_false h2]
                have h2' : ¬ ((vs.length : Int) < 2 * (q : Int)) := by omega
                clear h2
                go_wp2_with fail
                exact ⟨⟨k + 1, b, f, by go_num, by omega, rfl, rfl, HBest.out.skip HG.out (.inl HQT.out), HDq.out⟩, by simp [intOf]; omega⟩
        · obtain rfl : k = vs.length := by omega
          have HD := Lib.hid hD
          have HV : Hid (agrE vs F = b) := by
            show _ = _
            rw [HA.out]
            by_cases hn : vs = []
            · subst hn
              rw [List.map_nil, mid_nil]
              rcases HBest.out with ⟨_, hb, _⟩ | ⟨_, hb, _⟩
              · exact hb.symm
              · simp at hb
            · have hB := HBest.out
              rw [← List.length_map (f := F)] at hB
              exact (hB.end' (by simpa using hn)).symm
          clear hD
          go_wp2_with fail
          go_ret
          exact ⟨by rw [HV.out]; first | done | rfl, HD.out.below HB.out⟩
end Go.Proofs.Yticcmjiekopnbaa
