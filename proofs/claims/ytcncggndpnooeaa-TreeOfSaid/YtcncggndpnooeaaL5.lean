/-
  The document's lists, walked: the pairs between two keys, as many as are asked for. (Written by genl.py.)
-/
import Derived.Test.YtcncggndpnooeaaLB
namespace Go.Proofs.Ytcncggndpnooeaa
set_option linter.unusedVariables false
set_option linter.unusedSimpArgs false
open Go.RowKit

set_option maxRecDepth 100000 in
set_option maxHeartbeats 3200000 in
theorem RScan_any {w : World} {v : Value} {xs : List Pr} (ka kb : ByteArray) (m : Int) (h : PairsIn w v xs) (hl : xs.length ≤ 1073741824) :
    Calls Try.prog 39 #[v, .string ka, .string kb, .int .i64 m] w (Lists (scn xs ka kb m.toNat) w) := by
  obtain ⟨a, c, rfl, hx⟩ := h
  have HX := Lib.hid hx
  clear hx
  go_enter Try.func39, Try.ntmps39
  go_wp2_with fail
  go_loopw [9, 14] (fun u v wr => ∃ (i : Nat) (ys : List Pr), v = .int .i64 i ∧ i ≤ xs.length ∧ Hid (ys = scn (xs.take i) ka kb m.toNat) ∧ Hid (ys.length ≤ i) ∧ Hid (Row w wr u ys))
    (fun _ v _ => xs.length - (intOf v).toNat)
  case atStart => exact ⟨0, [], rfl, Nat.zero_le _, by show _ = _; simp [scn], Nat.le_refl _, Row.nil w⟩
  case round =>
    obtain ⟨i, ys, rfl, hin, hys, hyl, hR⟩ := hrel
    have ei : IntKind.i64.wrap ((i : Int) + 1) = (i : Int) + 1 := IntWalk.i64_in _ (by omega)
    obtain ⟨ad, cc, hu⟩ := hR.out.slice
    subst hu
    by_cases hlt : i < xs.length
    · obtain ⟨p, hp1⟩ : ∃ p, xs[i]? = some p := ⟨xs[i], List.getElem?_eq_getElem hlt⟩
      obtain ⟨g2, off2, rfl, hpa⟩ := HX.out.resolve_left (fun e => by rw [e] at hp1; simp at hp1)
      obtain ⟨k0, k1⟩ := hpa i p hp1
      have k0 := cell_later hR.out.below k0
      have k1 := cell_later hR.out.below k1
      have hI1 : (i : Int) < ((xs.length : Nat) : Int) := by omega
      have hI2 : (0 : Int) ≤ (i : Int) := by omega
      have HW1 := Lib.hid (hR.out.alloc (Obj.cells #[Value.string p.1, .string p.2] 34))
      have HSZ : Hid ((wr.alloc (Obj.cells #[Value.string p.1, .string p.2] 34)).heap.size = wr.heap.size + 1) := by show _ = _; simp
      have HST := Lib.hid (scn_step (a := ka) (b := kb) (m := m.toNat) hp1)
      rw [← hys.out] at HST
      have Hlen : Hid (ys.length + 1 ≤ 1073741825) := by show _ ≤ _; have := hyl.out; omega
      have Hyl0 : Hid (ys.length ≤ i + 1) := by show _ ≤ _; have := hyl.out; omega
      have Hyl1 : Hid ((ys ++ [p]).length ≤ i + 1) := by show _ ≤ _; have := hyl.out; simp; omega
      clear hpa hp1 hys hyl hR
      have hcase : klt p.1 ka = true ∨ (klt p.1 ka = false ∧ (kb.toList = [] ∨ (¬ kb.toList = [] ∧ klt p.1 kb = true) ∨ (¬ kb.toList = [] ∧ klt p.1 kb = false))) := by
        cases klt p.1 ka
        · refine .inr ⟨rfl, ?_⟩
          by_cases e : kb.toList = []
          · exact .inl e
          · cases klt p.1 kb
            · exact .inr (.inr ⟨e, rfl⟩)
            · exact .inr (.inl ⟨e, rfl⟩)
        · exact .inl rfl
      have hempty : decide (kb = ByteArray.empty) = decide (kb.toList = []) := by
        congr 1
        exact propext ⟨fun e => by rw [e]; exact ba_list _, fun e => ba_inj (by rw [e, ba_list]; rfl)⟩
      have Hempty := Lib.hid hempty
      clear hempty
      rcases hcase with ha | ⟨ha, hb | ⟨hb, hbl⟩ | ⟨hb, hbl⟩⟩
      · have HY : Hid (ys = scn (xs.take (i + 1)) ka kb m.toNat) := by show _ = _; rw [HST.out, within, ha]; rfl
        have he : Go.Op.bytesLess p.1.toList ka.toList = true := ha
        clear ha
        go_wp2_with fail
        exact ⟨⟨i + 1, ys, by simp, hlt, HY, Hyl0, Lib.hid (HW1.out)⟩, by show xs.length - ((i : Int) + 1).toNat < xs.length - ((i : Int)).toNat; omega⟩
      · have ha' : Go.Op.bytesLess p.1.toList ka.toList = false := ha
        have HWi : Hid (within ka kb p = true) := by show _ = _; rw [within, ha, Hempty.out, hb]; rfl
        have hb2 : kb.toList.isEmpty = true := by simp [hb]
        clear ha
        by_cases hfull : (ys.length : Int) < m
        · have HY : Hid (ys ++ [p] = scn (xs.take (i + 1)) ka kb m.toNat) := by show _ = _; rw [HST.out, HWi.out, if_pos (by simp; omega)]
          go_wp2_with (at_builtin; go_loud (refine wpList_pushs rfl _ _ 28 34 _ 2 32 rfl Try.underlying28 Try.infoPair rfl (by decide) w.heap.size _ _ _ rfl HW1.out.own #[.string p.1, .string p.2] rfl (by simp [Value.oneCell']) (by rw [HSZ.out]; rfl) Hlen.out (by decide) HW1.out.grown.size ?_; intro g2 cap2 w2 hown2 hg2 hat2 hlt2; have HR2 := Lib.hid (Row.push p HW1.out hown2 hg2 hat2); clear hown2 hg2 hat2 hlt2 ))
          exact ⟨⟨i + 1, ys ++ [p], by simp, hlt, HY, Hyl1, HR2⟩, by show xs.length - ((i : Int) + 1).toNat < xs.length - ((i : Int)).toNat; omega⟩
        · have HY : Hid (ys = scn (xs.take (i + 1)) ka kb m.toNat) := by show _ = _; rw [HST.out, HWi.out, if_neg (by simp; omega)]
          have hfull' : m ≤ (ys.length : Int) := by omega
          go_wp2_with fail
          exact ⟨⟨i + 1, ys, by simp, hlt, HY, Hyl0, Lib.hid (HW1.out)⟩, by show xs.length - ((i : Int) + 1).toNat < xs.length - ((i : Int)).toNat; omega⟩
      · have ha' : Go.Op.bytesLess p.1.toList ka.toList = false := ha
        have HWi : Hid (within ka kb p = true) := by show _ = _; rw [within, ha, hbl]; simp
        have hbe2 : kb.toList.isEmpty = false := by simpa using hb
        have hbl' : Go.Op.bytesLess p.1.toList kb.toList = true := hbl
        clear ha hbl
        by_cases hfull : (ys.length : Int) < m
        · have HY : Hid (ys ++ [p] = scn (xs.take (i + 1)) ka kb m.toNat) := by show _ = _; rw [HST.out, HWi.out, if_pos (by simp; omega)]
          go_wp2_with (at_builtin; go_loud (refine wpList_pushs rfl _ _ 28 34 _ 2 32 rfl Try.underlying28 Try.infoPair rfl (by decide) w.heap.size _ _ _ rfl HW1.out.own #[.string p.1, .string p.2] rfl (by simp [Value.oneCell']) (by rw [HSZ.out]; rfl) Hlen.out (by decide) HW1.out.grown.size ?_; intro g2 cap2 w2 hown2 hg2 hat2 hlt2; have HR2 := Lib.hid (Row.push p HW1.out hown2 hg2 hat2); clear hown2 hg2 hat2 hlt2 ))
          exact ⟨⟨i + 1, ys ++ [p], by simp, hlt, HY, Hyl1, HR2⟩, by show xs.length - ((i : Int) + 1).toNat < xs.length - ((i : Int)).toNat; omega⟩
        · have HY : Hid (ys = scn (xs.take (i + 1)) ka kb m.toNat) := by show _ = _; rw [HST.out, HWi.out, if_neg (by simp; omega)]
          have hfull' : m ≤ (ys.length : Int) := by omega
          go_wp2_with fail
          exact ⟨⟨i + 1, ys, by simp, hlt, HY, Hyl0, Lib.hid (HW1.out)⟩, by show xs.length - ((i : Int) + 1).toNat < xs.length - ((i : Int)).toNat; omega⟩
      · have ha' : Go.Op.bytesLess p.1.toList ka.toList = false := ha
        have HY : Hid (ys = scn (xs.take (i + 1)) ka kb m.toNat) := by show _ = _; rw [HST.out, within, Hempty.out, hbl]; simp [hb]
        have hbe2 : kb.toList.isEmpty = false := by simpa using hb
        have hbl' : Go.Op.bytesLess p.1.toList kb.toList = false := hbl
        clear ha hbl
        go_wp2_with fail
        exact ⟨⟨i + 1, ys, by simp, hlt, HY, Hyl0, Lib.hid (HW1.out)⟩, by show xs.length - ((i : Int) + 1).toNat < xs.length - ((i : Int)).toNat; omega⟩
    · obtain rfl : i = xs.length := by omega
      have h2 := hys.out
      rw [List.take_length] at h2
      have HF := Lib.hid h2
      clear h2 hys
      go_wp2_with fail
      go_ret
      rw [← HF.out]
      exact hR.out.lists
end Go.Proofs.Ytcncggndpnooeaa
