/-
  The document's lists, walked: a list with a pair. (Written by genl.py.)
-/
import Derived.Test.YtcncggndpnooeaaLB
namespace Go.Proofs.Ytcncggndpnooeaa
set_option linter.unusedVariables false
set_option linter.unusedSimpArgs false
open Go.RowKit

set_option maxRecDepth 100000 in
set_option maxHeartbeats 3200000 in
theorem With_any {w : World} {v : Value} {xs : List Pr} (p : Pr) (h : PairsIn w v xs) (hs : Sorted xs) (hl : xs.length ≤ 1073741822) :
    Calls Try.prog 19 #[v, .agg #[.string p.1, .string p.2]] w (Lists (wi xs p) w) := by
  have H := Lib.hid h
  have HP := Lib.hid (box_alloc w p.1 p.2 34)
  have hA := below_alloc w (Obj.cells #[Value.string p.1, .string p.2] 34)
  have HA := Lib.hid hA
  have HW := Lib.hid (Without_any p.1 (h.later hA) (by omega))
  have HZ : Hid (wi (wo xs p.1) p = wi xs p) := wi_wo xs p
  have HS := Lib.hid (wo_sorted hs p.1)
  have HK := Lib.hid (wo_not (xs := xs) (k := p.1))
  have HL : Hid ((wo xs p.1).length ≤ 1073741822) := Nat.le_trans (wo_len xs p.1) hl
  obtain ⟨a, c, rfl, hx⟩ := h
  clear hx hA H hs
  go_enter Try.func19, Try.ntmps19
  go_wp2_with fail
  have x0 := HP.out.c0
  go_wp2_with fail
  go_fit HW.out
  rintro e w1 hsc
  obtain ⟨v1, rfl, hp1, hb1⟩ := hsc.lists
  generalize hzs : wo xs p.1 = zs at *
  clear hzs hsc HW x0
  obtain ⟨a1, c1, rfl, hx1⟩ := hp1
  have HX := Lib.hid hx1
  have HB1 := Lib.hid (HA.out.trans (hb1.mono HA.out.size))
  have HP1 := Lib.hid (HP.out.later hb1)
  have hl1 := HL.out
  clear hx1 hb1 HA HP hl
  go_wp2_with fail
  generalize hPB : w.heap.size = PB at *
  have HPB := Lib.hid hPB
  clear hPB
  go_loopw [5, 6, 14] (fun u d v wr => ∃ (i : Nat) (b : Bool) (ys : List Pr), v = .int .i64 i ∧ d = .bool b ∧ i ≤ zs.length ∧ Hid (b = wst (zs.take i) p) ∧ Hid (ys = wm (zs.take i) p) ∧ Hid (Row w1 wr u ys))
    (fun _ _ v _ => zs.length - (intOf v).toNat)
  case atStart => exact ⟨0, false, [], rfl, rfl, Nat.zero_le _, rfl, rfl, Row.nil w1⟩
  case round =>
    obtain ⟨i, b, ys, rfl, rfl, hin, hbb, hys, hR⟩ := hrel
    have ei : IntKind.i64.wrap ((i : Int) + 1) = (i : Int) + 1 := IntWalk.i64_in _ (by omega)
    obtain ⟨ad, cc, hu⟩ := hR.out.slice
    subst hu
    have Hlen : Hid (ys.length + 1 ≤ 1073741825) := by show _ ≤ _; have := wm_len (zs.take i) p; have := List.length_take_le i zs; rw [hys.out]; omega
    have Hlen2 : Hid (ys.length + 1 + 1 ≤ 1073741825) := by show _ ≤ _; have := wm_len (zs.take i) p; have := List.length_take_le i zs; rw [hys.out]; omega
    have hp0 := (HP1.out.later hR.out.below).c0
    have hp1 := (HP1.out.later hR.out.below).c1
    by_cases hlt : i < zs.length
    · obtain ⟨x, hx1⟩ : ∃ x, zs[i]? = some x := ⟨zs[i], List.getElem?_eq_getElem hlt⟩
      obtain ⟨g2, off2, rfl, hpa⟩ := HX.out.resolve_left (fun e => by rw [e] at hx1; simp at hx1)
      obtain ⟨k0, k1⟩ := hpa i x hx1
      have k0 := cell_later hR.out.below k0
      have k1 := cell_later hR.out.below k1
      have hI1 : (i : Int) < ((zs.length : Nat) : Int) := by omega
      have hI2 : (0 : Int) ≤ (i : Int) := by omega
      have HW1 := Lib.hid (hR.out.alloc (Obj.cells #[Value.string x.1, .string x.2] 34))
      have hba := below_alloc wr (Obj.cells #[Value.string x.1, .string x.2] 34)
      have hp0 := cell_later hba hp0
      have hp1 := cell_later hba hp1
      have HSZ : Hid ((wr.alloc (Obj.cells #[Value.string x.1, .string x.2] 34)).heap.size = wr.heap.size + 1) := by show _ = _; simp
      have HST := Lib.hid (wst_step (p := p) hx1)
      have HWM := Lib.hid (wm_step (p := p) HS.out hx1 HK.out)
      have HNE := Lib.hid (hR.out.ne_new (Nat.le_refl _))
      have HNP := Lib.hid (HW1.out.ne_old HP1.out.lt)
      have HBX := Lib.hid (box_alloc wr x.1 x.2 34)
      clear hpa hx1 hba
      rw [← hbb.out] at HST HWM
      rw [← hys.out] at HWM
      clear hbb hys hR
      cases b with
      | true =>
        have Hs : Hid (true = wst (zs.take (i + 1)) p) := by show _ = _; rw [HST.out]; rfl
        have Hy : Hid (ys ++ [x] = wm (zs.take (i + 1)) p) := by show _ = _; rw [HWM.out]; simp
        clear hp0 hp1
        go_wp2_with (at_builtin; go_loud (refine wpList_pushs rfl _ _ 28 34 _ 2 32 rfl Try.underlying28 Try.infoPair rfl (by decide) w1.heap.size _ _ _ rfl HW1.out.own #[.string x.1, .string x.2] rfl (by simp [Value.oneCell']) (by rw [HSZ.out]; rfl) Hlen.out (by decide) HW1.out.grown.size ?_; intro g2 cap2 w2 hown2 hg2 hat2 hlt2; have HR2 := Lib.hid (Row.push x HW1.out hown2 hg2 hat2); clear hown2 hg2 hat2 hlt2 ))
        exact ⟨⟨i + 1, true, ys ++ [x], by simp, rfl, hlt, Hs, Hy, HR2⟩, by show zs.length - ((i : Int) + 1).toNat < zs.length - ((i : Int)).toNat; omega⟩
      | false =>
        by_cases hk : klt p.1 x.1 = true
        · have Hs : Hid (true = wst (zs.take (i + 1)) p) := by show _ = _; rw [HST.out, hk]; rfl
          have Hy : Hid (ys ++ [p] ++ [x] = wm (zs.take (i + 1)) p) := by show _ = _; rw [HWM.out, hk]; simp
          have he : Go.Op.bytesLess p.1.toList x.1.toList = true := hk
          clear hk
          have Hlen3 : Hid ((ys ++ [p]).length + 1 ≤ 1073741825) := by have := Hlen2.out; show _ ≤ _; simp; omega
          go_wp2_with (first | (at_builtin; go_loud (refine wpList_pushs rfl _ _ 28 34 _ 2 32 rfl Try.underlying28 Try.infoPair rfl (by decide) w1.heap.size _ _ _ rfl HW1.out.own #[.string p.1, .string p.2] rfl (by simp [Value.oneCell']) (by rw [HSZ.out]; rfl) Hlen.out (by decide) HW1.out.grown.size ?_; intro g2 cap2 w2 hown2 hg2 hat2 hlt2; have HR2 := Lib.hid (Row.push p HW1.out hown2 hg2 hat2); have q0 := hg2.cell HBX.out.c0 HNE.out; have q1 := hg2.cell HBX.out.c1 HNE.out; clear hown2 hg2 hat2 hlt2 hp0 hp1)) | (at_builtin; go_loud (refine wpList_pushs rfl _ _ 28 34 _ 2 32 rfl Try.underlying28 Try.infoPair rfl (by decide) w1.heap.size _ _ _ rfl HR2.out.own #[.string x.1, .string x.2] rfl (by simp [Value.oneCell']) rfl Hlen3.out (by decide) HR2.out.grown.size ?_; intro g2 cap2 w2 hown2 hg2 hat2 hlt2; have HR3 := Lib.hid (Row.push x HR2.out hown2 hg2 hat2); clear hown2 hg2 hat2 hlt2 )))
          exact ⟨⟨i + 1, true, ys ++ [p] ++ [x], by simp, rfl, hlt, Hs, Hy, (by have h := HR3; rw [show (ys ++ [p]).length = ys.length + 1 from by simp] at h; exact h)⟩, by show zs.length - ((i : Int) + 1).toNat < zs.length - ((i : Int)).toNat; omega⟩
        · have Hs : Hid (false = wst (zs.take (i + 1)) p) := by show _ = _; rw [HST.out]; simp [hk]
          have Hy : Hid (ys ++ [x] = wm (zs.take (i + 1)) p) := by show _ = _; rw [HWM.out]; simp [hk]
          have he : Go.Op.bytesLess p.1.toList x.1.toList = false := by simpa [klt] using hk
          clear hk
          go_wp2_with (at_builtin; go_loud (refine wpList_pushs rfl _ _ 28 34 _ 2 32 rfl Try.underlying28 Try.infoPair rfl (by decide) w1.heap.size _ _ _ rfl HW1.out.own #[.string x.1, .string x.2] rfl (by simp [Value.oneCell']) (by rw [HSZ.out]; rfl) Hlen.out (by decide) HW1.out.grown.size ?_; intro g2 cap2 w2 hown2 hg2 hat2 hlt2; have HR2 := Lib.hid (Row.push x HW1.out hown2 hg2 hat2); clear hown2 hg2 hat2 hlt2 ))
          exact ⟨⟨i + 1, false, ys ++ [x], by simp, rfl, hlt, Hs, Hy, HR2⟩, by show zs.length - ((i : Int) + 1).toNat < zs.length - ((i : Int)).toNat; omega⟩
    · obtain rfl : i = zs.length := by omega
      have HE := Lib.hid (wm_end HK.out)
      have h1 := hbb.out
      have h2 := hys.out
      rw [List.take_length] at h1 h2
      rw [← h1, ← h2, HZ.out] at HE
      clear h1 h2 hbb hys
      cases b with
      | true =>
        have HF : Hid (ys = wi xs p) := by show _ = _; have := HE.out; simpa using this
        go_wp2_with fail
        go_ret
        rw [← HF.out]
        exact hR.out.lists.behind (by rw [HPB.out]; exact HB1.out)
      | false =>
        have HF : Hid (ys ++ [p] = wi xs p) := by show _ = _; have := HE.out; simpa using this
        go_wp2_with (at_builtin; go_loud (refine wpList_pushs rfl _ _ 28 34 _ 2 32 rfl Try.underlying28 Try.infoPair rfl (by decide) w1.heap.size _ _ _ rfl hR.out.own #[.string p.1, .string p.2] rfl (by simp [Value.oneCell']) rfl Hlen.out (by decide) hR.out.grown.size ?_; intro g2 cap2 w2 hown2 hg2 hat2 hlt2; have HR2 := Lib.hid (Row.push p hR.out hown2 hg2 hat2); clear hown2 hg2 hat2 hlt2 ))
        go_ret
        rw [← HF.out]
        exact HR2.out.lists.behind (by rw [HPB.out]; exact HB1.out)
end Go.Proofs.Ytcncggndpnooeaa
