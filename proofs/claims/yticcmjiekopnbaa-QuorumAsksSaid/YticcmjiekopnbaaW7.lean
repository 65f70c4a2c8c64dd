/-
  Agreed walked; the document's.
-/
import Derived.Test.YticcmjiekopnbaaW6
namespace Go.Proofs.Yticcmjiekopnbaa
set_option linter.unusedVariables false
set_option linter.unusedSimpArgs false
open Go.RowKit Go.Shelf

def agrE (vs : List Int) (F : Int → Int) : Int := if vs.all inR = true then mid (vs.map F) else 0
theorem mid_nil : mid [] = 0 := by unfold mid; rw [List.mergeSort_nil]; rfl
/-- A cell of five. -/
theorem Row5.x {w w' : World} {g : Nat} {F : Int → Int} (h : Row5 w g F) (hk : w'.heap[g]? = w.heap[g]?) {x : Int} (hx : inR x = true) : w'.cell? ⟨g, x.toNat, none⟩ = some (.int .i64 (F x)) :=
  (h.later hk).at' x ((inR_iff x).1 hx).1 ((inR_iff x).1 hx).2

set_option maxRecDepth 100000 in
set_option maxHeartbeats 3200000 in
theorem Agreed_any {w : World} {u v : Value} {vs ls : List Int} (h : RoCs w u v vs ls) (F : Int → Int) (l1 : vs.length ≤ 100000) : Calls Try.prog 29 #[.agg #[u, v], .agg #[.int .i64 (F 0), .int .i64 (F 1), .int .i64 (F 2), .int .i64 (F 3), .int .i64 (F 4)]] w (IntP (agrE vs F) w) := by
  have hb0 := lay_alloc w (.cells #[u, v] 24)
  have hk := Go.heap_alloc_new w (.cells #[u, v] 24)
  have hsz : (w.alloc (.cells #[u, v] 24)).heap.size = w.heap.size + 1 := by simp
  have hI := h.1.later hb0
  obtain ⟨a1, c1, rfl, _, hv2⟩ := h.1.slice
  obtain ⟨a2, c2, rfl, _, _⟩ := h.2.slice
  clear h
  have HA : Hid (agrE vs F = if vs.all inR = true then mid (vs.map F) else 0) := by show _ = _; rfl
  go_enter Try.func29, Try.ntmps29
  go_wp2_with fail
  generalize w.alloc _ = w0 at *
  have hr := row5_new w0 F
  have hb1 := lay_alloc w0 (.cells #[.int .i64 (F 0), .int .i64 (F 1), .int .i64 (F 2), .int .i64 (F 3), .int .i64 (F 4)] 38)
  have hs1 : (w0.alloc (.cells #[.int .i64 (F 0), .int .i64 (F 1), .int .i64 (F 2), .int .i64 (F 3), .int .i64 (F 4)] 38)).heap.size = w0.heap.size + 1 := by simp
  have hI := hI.later hb1
  have hB := hb0.trans (hb1.mono hb0.size)
  have hk := (hb1.block w.heap.size (by omega)).trans hk
  rw [hsz] at hr hs1
  clear hb0 hb1
  generalize w0.alloc _ = w1 at *
  have d0 : w1.cell? ⟨w.heap.size, 0, none⟩ = .some (.slice a1 vs.length c1) := by rw [cell_of_row w1 _ _ _ _ _ hk]; rfl
  have HI := Lib.hid hI
  have HR := Lib.hid hr
  have HB := Lib.hid hB
  have HZ := Lib.hid hs1
  clear hI hr hB hs1 hsz hk
  go_loopw [5, 11] (fun a i wr => ∃ k : Nat, i = .int .i64 k ∧ k ≤ vs.length ∧ (∀ x ∈ vs.take k, inR x = true) ∧ Hid (Rw intL 3 w1 wr a ((vs.take k).map F))) (fun _ i _ => vs.length - (intOf i).toNat)
  case atStart => exact ⟨0, rfl, Nat.zero_le _, fun x hx => by simp at hx, Rw.nil w1⟩
  case round =>
    obtain ⟨k, rfl, hk, hall, hR⟩ := hrel
    obtain ⟨a5, c5, rfl, _, _⟩ := hR.out.slice
    have HL : Hid (((vs.take k).map F).length = k) := by show _ = _; rw [List.length_map, List.length_take]; omega
    have HALL := Lib.hid hall
    clear hall
    by_cases hlt : k < vs.length
    · have hg : vs[k]? = .some vs[k] := List.getElem?_eq_getElem hlt
      obtain ⟨g, off, rfl, _, hc⟩ := intL_at (HI.out.later hR.out.grown) hg
      have HT : Hid (vs.take (k + 1) = vs.take k ++ [vs[k]]) := by show _ = _; rw [List.take_add_one, hg, Option.toList_some]
      have HN := Lib.hid (fun W => node_any vs[k] W)
      have HM : Hid (vs[k] ∈ vs) := List.getElem_mem hlt
      clear hg
      generalize vs[k] = x at *
      cases hx : inR x with
      | false =>
        have HA : Hid (agrE vs F = 0) := by
          show _ = _
          rw [HA.out, if_neg]
          intro h
          have := List.all_eq_true.1 h x HM.out
          rw [hx] at this; cases this
        have HN := HN.out
        rw [hx] at HN
        clear hx
        go_wp2_with (go_at_call 50; refine (HN _).mono ?_; rintro e w' ⟨rfl, rfl⟩)
        go_ret
        exact ⟨by rw [HA.out]; first | done | rfl, HB.out.trans (hR.out.grown.mono HB.out.size)⟩
      | true =>
        have HX := Lib.hid hx
        have HN := HN.out
        rw [hx] at HN
        have x0 := ((inR_iff x).1 hx).1
        have x4 := ((inR_iff x).1 hx).2
        have x5 : x < 5 := by omega
        have hxc := HR.out.x (hR.out.grown.block _ (by have := HZ.out; omega)) hx
        clear hx
        have HG : Hid (w1.heap.size ≤ wr.heap.size) := hR.out.grown.size
        generalize hps : (vs.take k).map F = ps at *
        have HPS := Lib.hid hps
        clear hps
        go_wp2_with (first
          | (go_at_call 50; refine (HN _).mono ?_; rintro e w' ⟨rfl, rfl⟩)
          | (at_builtin; refine wpList_pushI rfl _ _ 22 3 _ 1 8 rfl Try.underlying22 infoInt rfl (by decide) w1.heap.size ps.length _ (intL.all ps) rfl hR.out.own #[.int .i64 (F x)] rfl (intL.one (F x)) rfl (by have := HL.out; omega) (by decide) HG.out ?_; intro g2 c3 w3 hown hgrow hat hlt3; have HR4 := Lib.hid (hR.out.push (F x) hown hgrow); clear hown hgrow hat hlt3))
        refine ⟨⟨k + 1, by go_num, by omega, ?_, ?_⟩, by simp [intOf]; omega⟩
        · intro y hy
          rw [HT.out] at hy
          rcases List.mem_append.1 hy with hy | hy
          · exact HALL.out y hy
          · have : y = x := by simpa using hy
            subst this; exact HX.out
        · show Rw _ _ _ _ _ _
          rw [HT.out, List.map_append, HPS.out]
          exact HR4.out
    · obtain rfl : k = vs.length := by omega
      rw [List.take_length] at *
      have HA : Hid (agrE vs F = mid (vs.map F)) := by
        show _ = _
        rw [HA.out, if_pos (List.all_eq_true.2 HALL.out)]
      clear HL
      generalize hps : vs.map F = ps at *
      have hpl : ps.length = vs.length := by rw [← hps, List.length_map]
      clear hps
      by_cases h0 : ps.length = 0
      · obtain rfl : ps = [] := List.eq_nil_of_length_eq_zero h0
        have HA : Hid (agrE vs F = 0) := by show _ = _; rw [HA.out, mid_nil]
        clear hpl h0
        go_wp2_with fail
        go_ret
        exact ⟨by rw [HA.out]; first | done | rfl, HB.out.trans (hR.out.grown.mono HB.out.size)⟩
      · have hpos : 0 < ps.length := by omega
        have HO : wr.ownsRow w1.heap.size 3 1 (.slice a5 ps.length c5) ps.length (ps.map (Value.int .i64)) := by have := hR.out.own; rw [intL_all] at this; exact this
        have HS := Lib.hid (Sort_any HO (by omega))
        have b : ((ps.length : Int) == 0) = false := by rw [beq_eq_false_iff_ne]; omega
        have HPL := Lib.hid hpl
        have hle : ps.length ≤ 100000 := by omega
        clear hpl h0 HO
        go_wp2_with fail
        go_fit HS.out
        rintro e w2 ⟨rfl, h1, h2⟩
        have HF := Lib.hid (hR.out.sorted (e := .returned (.tuple #[])) ⟨rfl, h1, h2⟩)
        have hmid : (ms ps)[(ps.length - 1) / 2]? = some (mid ps) := by
          have : (ps.length - 1) / 2 < (ms ps).length := by rw [ms_len]; omega
          have hd : mid ps = (ms ps).getD ((ps.length - 1) / 2) 0 := rfl
          rw [hd, List.getD_eq_getElem?_getD, List.getElem?_eq_getElem this]
          rfl
        have hto := HF.out.told
        obtain ⟨g, off, rfl, hq, hc⟩ := intL_at hto hmid
        have hml : (ps.length - 1) / 2 < ps.length := by omega
        have e0 : IntKind.i64.wrap ((ps.length : Int) - 1) = (ps.length : Int) - 1 := IntWalk.i64_in _ (by omega)
        have HBB := Lib.hid (HB.out.trans (HF.out.grown.mono HB.out.size))
        clear h1 h2 HS hmid hto hq
        go_wp2_with fail
        go_ret
        exact ⟨by rw [HA.out]; first | done | rfl, HBB.out⟩
end Go.Proofs.Yticcmjiekopnbaa
