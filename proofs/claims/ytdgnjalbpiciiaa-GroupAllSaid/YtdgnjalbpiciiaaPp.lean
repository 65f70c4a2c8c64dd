/-
  Which events pass.
-/
import Derived.Test.YtdgnjalbpiciiaaPt
namespace Go.Proofs.Ytdgnjalbpiciiaa
set_option linter.unusedVariables false
set_option linter.unusedSimpArgs false
open Go.RowKit Go.Shelf

noncomputable def passP (parts part : Int) (l : List Kev) : List Kev := l.filter fun e => decide (1 ≤ parts) && decide (partE parts e.key = part)
theorem pass_step {parts part : Int} {l : List Kev} {i : Nat} {e : Kev} (h : l[i]? = some e) : passP parts part (l.take (i + 1)) = passP parts part (l.take i) ++ (if (decide (1 ≤ parts) && decide (partE parts e.key = part)) = true then [e] else []) := by
  unfold passP
  rw [List.take_add_one, h, List.filter_append]
  simp only [Option.toList, List.filter_cons, List.filter_nil]
theorem pass_len (parts part : Int) (l : List Kev) (i : Nat) : (passP parts part (l.take i)).length ≤ i := Nat.le_trans (List.length_filter_le _ _) (List.length_take_le _ _)
theorem pass_none {parts : Int} (h : parts < 1) (part : Int) (l : List Kev) : passP parts part l = [] := by
  unfold passP
  rw [List.filter_eq_nil_iff]
  intro e _
  have : ¬ 1 ≤ parts := by omega
  simp [this]
set_option maxRecDepth 100000 in
set_option maxHeartbeats 3200000 in
theorem Pass_any {w : World} {v : Value} (parts part : Int) {l : List Kev} (hwp : W64 parts) (hwq : W64 part) (hv : evL.In w v l) (hll : l.length ≤ 1000000) (hs : ∀ e ∈ l, e.key.size ≤ 140737488355328) : Calls Try.prog 34 #[.int .i64 parts, .int .i64 part, v] w (PassP (passP parts part l) w) := by
  obtain ⟨va, vc, rfl, hvc1, hvc2⟩ := hv.slice
  have HV := Lib.hid hv
  have HS := Lib.hid hs
  have HWP := Lib.hid hwp
  clear hv hs
  go_enter Try.func34, Try.ntmps34
  by_cases h0 : parts < 1
  · have HE := Lib.hid (pass_none h0 part l)
    go_wp2_with fail
    go_ret
    rw [HE.out]
    exact ⟨_, rfl, Rw.nil w⟩
  · go_wp2_with fail
    go_loopw [7, 14] (fun lv iv wr => ∃ i : Nat, iv = .int .i64 i ∧ i ≤ l.length ∧ Hid (Rw evL 51 w wr lv (passP parts part (l.take i)))) (fun _ v _ => l.length - (intOf v).toNat)
    case atStart => exact ⟨0, rfl, Nat.zero_le _, ⟨World.ownsRow_nil _ _ _ _, Below.refl _ _⟩⟩
    case round =>
      obtain ⟨i, rfl, hin, hrw⟩ := hrel
      have hb : Hid (Below w.heap.size w wr) := hrw.out.grown
      by_cases hlt : i < l.length
      · obtain ⟨e, he⟩ : ∃ e, l[i]? = some e := ⟨l[i], List.getElem?_eq_getElem hlt⟩
        obtain ⟨g, off, rfl, _, hcell⟩ := (HV.out.later hb.out).cells he
        have k0 : wr.cell? ⟨g, off + i * 6, none⟩ = some (.int .i64 e.pos) := hcell 0 _ rfl
        have k1 : wr.cell? ⟨g, off + i * 6 + 1, none⟩ = some (.string e.key) := hcell 1 _ rfl
        have k2 : wr.cell? ⟨g, off + i * 6 + 2, none⟩ = some (.bool e.had) := hcell 2 _ rfl
        have k3 : wr.cell? ⟨g, off + i * 6 + 3, none⟩ = some (.string e.old) := hcell 3 _ rfl
        have k4 : wr.cell? ⟨g, off + i * 6 + 4, none⟩ = some (.bool e.has) := hcell 4 _ rfl
        have k5 : wr.cell? ⟨g, off + i * 6 + 5, none⟩ = some (.string e.now) := hcell 5 _ rfl
        have hI1 : (i : Int) < ((l.length : Nat) : Int) := by omega
        have hI2 : (0 : Int) ≤ (i : Int) := by omega
        have HD := Lib.hid (DC.alloc wr [.int .i64 e.pos, .string e.key, .bool e.had, .string e.old, .bool e.has, .string e.now] 51)
        have hC := Part_any (w := wr.alloc (.cells #[.int .i64 e.pos, .string e.key, .bool e.had, .string e.old, .bool e.has, .string e.now] 51)) parts e.key HWP.out (HS.out e (List.mem_of_getElem? he))
        have HC2 := Lib.hid hC
        have HST := Lib.hid (pass_step (parts := parts) (part := part) he)
        have HN : Hid ((passP parts part (l.take i)).length ≤ 1000000) := by show _ ≤ _; have := pass_len parts part l i; omega
        have HR1 := Lib.hid (hrw.out.alloc (.cells #[.int .i64 e.pos, .string e.key, .bool e.had, .string e.old, .bool e.has, .string e.now] 51))
        clear he hcell hC hrw hb
        have h1' : (1 : Int) ≤ parts := by omega
        go_wp2_with fail
        go_fit HC2.out
        rintro e' w3 ⟨rfl, hb3⟩
        have hR3 := HR1.out.below hb3
        have hD3 := HD.out.below hb3
        have d0 := hD3.cells 0 _ rfl
        have d1 := hD3.cells 1 _ rfl
        have d2 := hD3.cells 2 _ rfl
        have d3 := hD3.cells 3 _ rfl
        have d4 := hD3.cells 4 _ rfl
        have d5 := hD3.cells 5 _ rfl
        obtain ⟨ea, ec, hev, _, _⟩ := hR3.slice
        subst hev
        have HR3 := Lib.hid hR3
        have HA3 : Hid (w.heap.size ≤ w3.heap.size) := hR3.grown.size
        clear hb3 hR3 hD3 HR1 HC2 k0 k1 k2 k3 k4 k5 HD
        rw [decide_eq_true h1', Bool.true_and] at HST
        by_cases hh : partE parts e.key = part
        · have HE : Hid (passP parts part (l.take (i + 1)) = passP parts part (l.take i) ++ [e]) := by show _ = _; rw [HST.out, if_pos (decide_eq_true hh)]
          generalize hes : passP parts part (l.take i) = es at *
          clear hes HST
          go_wp2_with (at_builtin; refine wpList_pushI rfl _ _ 49 51 _ 6 72 rfl Try.underlying49 Try.infoEv rfl (by decide) w.heap.size es.length _ (evL.all es) rfl HR3.out.own #[.int .i64 e.pos, .string e.key, .bool e.had, .string e.old, .bool e.has, .string e.now] rfl (evL.one e) rfl (by have := HN.out; omega) (by decide) HA3.out ?_; intro g4 c4 w4 hown hgrow hat hlt4; have HR4 := Lib.hid (HR3.out.push e hown hgrow); clear hown hgrow hat hlt4)
          refine ⟨⟨i + 1, by go_num, by omega, ?_⟩, by simp [intOf]; omega⟩
          show Rw _ _ _ _ _ _
          rw [HE.out]; exact HR4.out
        · have HE : Hid (passP parts part (l.take (i + 1)) = passP parts part (l.take i)) := by show _ = _; rw [HST.out, if_neg (by simpa using hh)]; simp
          clear HST
          go_wp2_with fail
          refine ⟨⟨i + 1, by go_num, by omega, ?_⟩, by simp [intOf]; omega⟩
          show Rw _ _ _ _ _ _
          rw [HE.out]; exact HR3.out
      · obtain rfl : i = l.length := by omega
        obtain ⟨va2, vc2, rfl, _, _⟩ := hrw.out.slice
        have HF := hrw.out
        rw [List.take_length] at HF
        have HF2 := Lib.hid HF
        rw [List.take_length]
        clear HF hrw
        go_wp2_with fail
        go_ret
        exact ⟨_, rfl, HF2.out⟩
set_option maxRecDepth 100000 in
set_option maxHeartbeats 3200000 in
theorem RPass_any {w : World} {v : Value} (parts part : Int) {l : List Kev} (hwp : W64 parts) (hwq : W64 part) (hv : evL.In w v l) (hll : l.length ≤ 1000000) (hs : ∀ e ∈ l, e.key.size ≤ 140737488355328) : Calls Try.prog 35 #[.int .i64 parts, .int .i64 part, v] w (PassP (passP parts part l) w) := by
  obtain ⟨va, vc, rfl, hvc1, hvc2⟩ := hv.slice
  have HV := Lib.hid hv
  have HS := Lib.hid hs
  have HWP := Lib.hid hwp
  clear hv hs
  go_enter Try.func35, Try.ntmps35
  go_wp2_with fail
  by_cases h0 : parts < 1
  · have HE := Lib.hid (pass_none h0 part l)
    go_loopw [7, 12] (fun lv iv wr => ∃ i : Nat, iv = .int .i64 i ∧ i ≤ l.length ∧ lv = .slice none 0 0 ∧ Hid (Below w.heap.size w wr)) (fun _ v _ => l.length - (intOf v).toNat)
    case atStart => exact ⟨0, rfl, Nat.zero_le _, rfl, Below.refl _ _⟩
    case round =>
      obtain ⟨i, rfl, hin, rfl, hb⟩ := hrel
      by_cases hlt : i < l.length
      · obtain ⟨e, he⟩ : ∃ e, l[i]? = some e := ⟨l[i], List.getElem?_eq_getElem hlt⟩
        obtain ⟨g, off, rfl, _, hcell⟩ := (HV.out.later hb.out).cells he
        have k0 : wr.cell? ⟨g, off + i * 6, none⟩ = some (.int .i64 e.pos) := hcell 0 _ rfl
        have k1 : wr.cell? ⟨g, off + i * 6 + 1, none⟩ = some (.string e.key) := hcell 1 _ rfl
        have k2 : wr.cell? ⟨g, off + i * 6 + 2, none⟩ = some (.bool e.had) := hcell 2 _ rfl
        have k3 : wr.cell? ⟨g, off + i * 6 + 3, none⟩ = some (.string e.old) := hcell 3 _ rfl
        have k4 : wr.cell? ⟨g, off + i * 6 + 4, none⟩ = some (.bool e.has) := hcell 4 _ rfl
        have k5 : wr.cell? ⟨g, off + i * 6 + 5, none⟩ = some (.string e.now) := hcell 5 _ rfl
        have HB2 : Hid (Below w.heap.size w (wr.alloc (.cells #[.int .i64 e.pos, .string e.key, .bool e.had, .string e.old, .bool e.has, .string e.now] 51))) := hb.out.alloc hb.out.size _
        clear he hcell
        go_wp2_with fail
        exact ⟨⟨i + 1, by go_num, by omega, rfl, HB2⟩, by simp [intOf]; omega⟩
      · obtain rfl : i = l.length := by omega
        go_wp2_with fail
        go_ret
        rw [HE.out]
        exact ⟨_, rfl, ⟨World.ownsRow_nil _ _ _ _, hb.out⟩⟩
  · have h1 : (1 : Int) ≤ parts := by omega
    go_loopw [7, 12] (fun lv iv wr => ∃ i : Nat, iv = .int .i64 i ∧ i ≤ l.length ∧ Hid (Rw evL 51 w wr lv (passP parts part (l.take i)))) (fun _ v _ => l.length - (intOf v).toNat)
    case atStart => exact ⟨0, rfl, Nat.zero_le _, ⟨World.ownsRow_nil _ _ _ _, Below.refl _ _⟩⟩
    case round =>
      obtain ⟨i, rfl, hin, hrw⟩ := hrel
      have hb : Hid (Below w.heap.size w wr) := hrw.out.grown
      by_cases hlt : i < l.length
      · obtain ⟨e, he⟩ : ∃ e, l[i]? = some e := ⟨l[i], List.getElem?_eq_getElem hlt⟩
        obtain ⟨g, off, rfl, _, hcell⟩ := (HV.out.later hb.out).cells he
        have k0 : wr.cell? ⟨g, off + i * 6, none⟩ = some (.int .i64 e.pos) := hcell 0 _ rfl
        have k1 : wr.cell? ⟨g, off + i * 6 + 1, none⟩ = some (.string e.key) := hcell 1 _ rfl
        have k2 : wr.cell? ⟨g, off + i * 6 + 2, none⟩ = some (.bool e.had) := hcell 2 _ rfl
        have k3 : wr.cell? ⟨g, off + i * 6 + 3, none⟩ = some (.string e.old) := hcell 3 _ rfl
        have k4 : wr.cell? ⟨g, off + i * 6 + 4, none⟩ = some (.bool e.has) := hcell 4 _ rfl
        have k5 : wr.cell? ⟨g, off + i * 6 + 5, none⟩ = some (.string e.now) := hcell 5 _ rfl
        have hI1 : (i : Int) < ((l.length : Nat) : Int) := by omega
        have hI2 : (0 : Int) ≤ (i : Int) := by omega
        have HD := Lib.hid (DC.alloc wr [.int .i64 e.pos, .string e.key, .bool e.had, .string e.old, .bool e.has, .string e.now] 51)
        have hC := RPart_any (w := wr.alloc (.cells #[.int .i64 e.pos, .string e.key, .bool e.had, .string e.old, .bool e.has, .string e.now] 51)) parts e.key HWP.out (HS.out e (List.mem_of_getElem? he))
        have HC2 := Lib.hid hC
        have HST := Lib.hid (pass_step (parts := parts) (part := part) he)
        have HN : Hid ((passP parts part (l.take i)).length ≤ 1000000) := by show _ ≤ _; have := pass_len parts part l i; omega
        have HR1 := Lib.hid (hrw.out.alloc (.cells #[.int .i64 e.pos, .string e.key, .bool e.had, .string e.old, .bool e.has, .string e.now] 51))
        clear he hcell hC hrw hb
        have h1' : (1 : Int) ≤ parts := by omega
        go_wp2_with fail
        go_fit HC2.out
        rintro e' w3 ⟨rfl, hb3⟩
        have hR3 := HR1.out.below hb3
        have hD3 := HD.out.below hb3
        have d0 := hD3.cells 0 _ rfl
        have d1 := hD3.cells 1 _ rfl
        have d2 := hD3.cells 2 _ rfl
        have d3 := hD3.cells 3 _ rfl
        have d4 := hD3.cells 4 _ rfl
        have d5 := hD3.cells 5 _ rfl
        obtain ⟨ea, ec, hev, _, _⟩ := hR3.slice
        subst hev
        have HR3 := Lib.hid hR3
        have HA3 : Hid (w.heap.size ≤ w3.heap.size) := hR3.grown.size
        clear hb3 hR3 hD3 HR1 HC2 k0 k1 k2 k3 k4 k5 HD
        rw [decide_eq_true h1', Bool.true_and] at HST
        by_cases hh : partE parts e.key = part
        · have HE : Hid (passP parts part (l.take (i + 1)) = passP parts part (l.take i) ++ [e]) := by show _ = _; rw [HST.out, if_pos (decide_eq_true hh)]
          generalize hes : passP parts part (l.take i) = es at *
          clear hes HST
          go_wp2_with (at_builtin; refine wpList_pushI rfl _ _ 49 51 _ 6 72 rfl Try.underlying49 Try.infoEv rfl (by decide) w.heap.size es.length _ (evL.all es) rfl HR3.out.own #[.int .i64 e.pos, .string e.key, .bool e.had, .string e.old, .bool e.has, .string e.now] rfl (evL.one e) rfl (by have := HN.out; omega) (by decide) HA3.out ?_; intro g4 c4 w4 hown hgrow hat hlt4; have HR4 := Lib.hid (HR3.out.push e hown hgrow); clear hown hgrow hat hlt4)
          refine ⟨⟨i + 1, by go_num, by omega, ?_⟩, by simp [intOf]; omega⟩
          show Rw _ _ _ _ _ _
          rw [HE.out]; exact HR4.out
        · have HE : Hid (passP parts part (l.take (i + 1)) = passP parts part (l.take i)) := by show _ = _; rw [HST.out, if_neg (by simpa using hh)]; simp
          clear HST
          go_wp2_with fail
          refine ⟨⟨i + 1, by go_num, by omega, ?_⟩, by simp [intOf]; omega⟩
          show Rw _ _ _ _ _ _
          rw [HE.out]; exact HR3.out
      · obtain rfl : i = l.length := by omega
        obtain ⟨va2, vc2, rfl, _, _⟩ := hrw.out.slice
        have HF := hrw.out
        rw [List.take_length] at HF
        have HF2 := Lib.hid HF
        rw [List.take_length]
        clear HF hrw
        go_wp2_with fail
        go_ret
        exact ⟨_, rfl, HF2.out⟩
end Go.Proofs.Ytdgnjalbpiciiaa
