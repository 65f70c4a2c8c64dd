/-
  The document's With and Of, with the row that they make; pairs without order made a tree, plainly. (Written by gens10.py.)
-/
import Derived.Test.YtcncggndpnooeaaS9
import Derived.Test.YtcncggndpnooeaaW2
namespace Go.Proofs.Ytcncggndpnooeaa
set_option linter.unusedVariables false
set_option linter.unusedSimpArgs false
open Go.RowKit

theorem grown_none {w w1 : World} (h : Below w.heap.size w w1) : w.grownBy w1 none := ⟨h.os, h.tape, h.output, h.size, fun k hk _ => h.block k hk⟩
set_option maxRecDepth 100000 in
set_option maxHeartbeats 3200000 in
theorem With_row {w : World} {v : Value} {xs : List Pr} (p : Pr) (h : PairsIn w v xs) (hs : Sorted xs) (hl : xs.length ≤ 1073741822) :
    Calls Try.prog 19 #[v, .agg #[.string p.1, .string p.2]] w (fun e w' => ∃ v, e = .returned v ∧ Row w w' v (wi xs p)) := by
  have H := Lib.hid h
  have HP := Lib.hid (box_alloc w p.1 p.2 34)
  have hA := below_alloc w (Obj.cells #[Value.string p.1, .string p.2] 34)
  have HA := Lib.hid hA
  have HW := Lib.hid (Without_any p.1 (h.later hA) (by omega))
  have HZ : Hid (wi (wo xs p.1) p = wi xs p) := wi_wo xs p
  have HS := Lib.hid (wo_sorted hs p.1)
  have HK := Lib.hid (wo_not (xs := xs) (k := p.1))
  have HL : Hid ((wo xs p.1).length ≤ 1073741822) := Nat.le_trans (wo_len xs p.1) hl
  obtain ⟨a, c, rfl, hx⟩ := h
  clear hx hA H hs
  go_enter Try.func19, Try.ntmps19
  go_wp2_with fail
  have x0 := HP.out.c0
  go_wp2_with fail
  go_fit HW.out
  rintro e w1 hsc
  obtain ⟨v1, rfl, hp1, hb1⟩ := hsc.lists
  generalize hzs : wo xs p.1 = zs at *
  clear hzs hsc HW x0
  obtain ⟨a1, c1, rfl, hx1⟩ := hp1
  have HX := Lib.hid hx1
  have HB1 := Lib.hid (HA.out.trans (hb1.mono HA.out.size))
  have HP1 := Lib.hid (HP.out.later hb1)
  have hl1 := HL.out
  clear hx1 hb1 HA HP hl
  go_wp2_with fail
  generalize hPB : w.heap.size = PB at *
  have HPB := Lib.hid hPB
  clear hPB
  go_loopw [5, 6, 14] (fun u d v wr => ∃ (i : Nat) (b : Bool) (ys : List Pr), v = .int .i64 i ∧ d = .bool b ∧ i ≤ zs.length ∧ Hid (b = wst (zs.take i) p) ∧ Hid (ys = wm (zs.take i) p) ∧ Hid (Row w1 wr u ys))
    (fun _ _ v _ => zs.length - (intOf v).toNat)
  case atStart => exact ⟨0, false, [], rfl, rfl, Nat.zero_le _, rfl, rfl, Row.nil w1⟩
  case round =>
    obtain ⟨i, b, ys, rfl, rfl, hin, hbb, hys, hR⟩ := hrel
    have ei : IntKind.i64.wrap ((i : Int) + 1) = (i : Int) + 1 := IntWalk.i64_in _ (by omega)
    obtain ⟨ad, cc, hu⟩ := hR.out.slice
    subst hu
    have Hlen : Hid (ys.length + 1 ≤ 1073741825) := by show _ ≤ _; have := wm_len (zs.take i) p; have := List.length_take_le i zs; rw [hys.out]; omega
    have Hlen2 : Hid (ys.length + 1 + 1 ≤ 1073741825) := by show _ ≤ _; have := wm_len (zs.take i) p; have := List.length_take_le i zs; rw [hys.out]; omega
    have hp0 := (HP1.out.later hR.out.below).c0
    have hp1 := (HP1.out.later hR.out.below).c1
    by_cases hlt : i < zs.length
    · obtain ⟨x, hx1⟩ : ∃ x, zs[i]? = some x := ⟨zs[i], List.getElem?_eq_getElem hlt⟩
      obtain ⟨g2, off2, rfl, hpa⟩ := HX.out.resolve_left (fun e => by rw [e] at hx1; simp at hx1)
      obtain ⟨k0, k1⟩ := hpa i x hx1
      have k0 := cell_later hR.out.below k0
      have k1 := cell_later hR.out.below k1
      have hI1 : (i : Int) < ((zs.length : Nat) : Int) := by omega
      have hI2 : (0 : Int) ≤ (i : Int) := by omega
      have HW1 := Lib.hid (hR.out.alloc (Obj.cells #[Value.string x.1, .string x.2] 34))
      have hba := below_alloc wr (Obj.cells #[Value.string x.1, .string x.2] 34)
      have hp0 := cell_later hba hp0
      have hp1 := cell_later hba hp1
      have HSZ : Hid ((wr.alloc (Obj.cells #[Value.string x.1, .string x.2] 34)).heap.size = wr.heap.size + 1) := by show _ = _; simp
      have HST := Lib.hid (wst_step (p := p) hx1)
      have HWM := Lib.hid (wm_step (p := p) HS.out hx1 HK.out)
      have HNE := Lib.hid (hR.out.ne_new (Nat.le_refl _))
      have HNP := Lib.hid (HW1.out.ne_old HP1.out.lt)
      have HBX := Lib.hid (box_alloc wr x.1 x.2 34)
      clear hpa hx1 hba
      rw [← hbb.out] at HST HWM
      rw [← hys.out] at HWM
      clear hbb hys hR
      cases b with
      | true =>
        have Hs : Hid (true = wst (zs.take (i + 1)) p) := by show _ = _; rw [HST.out]; rfl
        have Hy : Hid (ys ++ [x] = wm (zs.take (i + 1)) p) := by show _ = _; rw [HWM.out]; simp
        clear hp0 hp1
        go_wp2_with (at_builtin; go_loud (refine wpList_pushs rfl _ _ 28 34 _ 2 32 rfl Try.underlying28 Try.infoPair rfl (by decide) w1.heap.size _ _ _ rfl HW1.out.own #[.string x.1, .string x.2] rfl (by simp [Value.oneCell']) (by rw [HSZ.out]; rfl) Hlen.out (by decide) HW1.out.grown.size ?_; intro g2 cap2 w2 hown2 hg2 hat2 hlt2; have HR2 := Lib.hid (Row.push x HW1.out hown2 hg2 hat2); clear hown2 hg2 hat2 hlt2 ))
        exact ⟨⟨i + 1, true, ys ++ [x], by simp, rfl, hlt, Hs, Hy, HR2⟩, by show zs.length - ((i : Int) + 1).toNat < zs.length - ((i : Int)).toNat; omega⟩
      | false =>
        by_cases hk : klt p.1 x.1 = true
        · have Hs : Hid (true = wst (zs.take (i + 1)) p) := by show _ = _; rw [HST.out, hk]; rfl
          have Hy : Hid (ys ++ [p] ++ [x] = wm (zs.take (i + 1)) p) := by show _ = _; rw [HWM.out, hk]; simp
          have he : Go.Op.bytesLess p.1.toList x.1.toList = true := hk
          clear hk
          have Hlen3 : Hid ((ys ++ [p]).length + 1 ≤ 1073741825) := by have := Hlen2.out; show _ ≤ _; simp; omega
          go_wp2_with (first | (at_builtin; go_loud (refine wpList_pushs rfl _ _ 28 34 _ 2 32 rfl Try.underlying28 Try.infoPair rfl (by decide) w1.heap.size _ _ _ rfl HW1.out.own #[.string p.1, .string p.2] rfl (by simp [Value.oneCell']) (by rw [HSZ.out]; rfl) Hlen.out (by decide) HW1.out.grown.size ?_; intro g2 cap2 w2 hown2 hg2 hat2 hlt2; have HR2 := Lib.hid (Row.push p HW1.out hown2 hg2 hat2); have q0 := hg2.cell HBX.out.c0 HNE.out; have q1 := hg2.cell HBX.out.c1 HNE.out; clear hown2 hg2 hat2 hlt2 hp0 hp1)) | (at_builtin; go_loud (refine wpList_pushs rfl _ _ 28 34 _ 2 32 rfl Try.underlying28 Try.infoPair rfl (by decide) w1.heap.size _ _ _ rfl HR2.out.own #[.string x.1, .string x.2] rfl (by simp [Value.oneCell']) rfl Hlen3.out (by decide) HR2.out.grown.size ?_; intro g2 cap2 w2 hown2 hg2 hat2 hlt2; have HR3 := Lib.hid (Row.push x HR2.out hown2 hg2 hat2); clear hown2 hg2 hat2 hlt2 )))
          exact ⟨⟨i + 1, true, ys ++ [p] ++ [x], by simp, rfl, hlt, Hs, Hy, (by have h := HR3; rw [show (ys ++ [p]).length = ys.length + 1 from by simp] at h; exact h)⟩, by show zs.length - ((i : Int) + 1).toNat < zs.length - ((i : Int)).toNat; omega⟩
        · have Hs : Hid (false = wst (zs.take (i + 1)) p) := by show _ = _; rw [HST.out]; simp [hk]
          have Hy : Hid (ys ++ [x] = wm (zs.take (i + 1)) p) := by show _ = _; rw [HWM.out]; simp [hk]
          have he : Go.Op.bytesLess p.1.toList x.1.toList = false := by simpa [klt] using hk
          clear hk
          go_wp2_with (at_builtin; go_loud (refine wpList_pushs rfl _ _ 28 34 _ 2 32 rfl Try.underlying28 Try.infoPair rfl (by decide) w1.heap.size _ _ _ rfl HW1.out.own #[.string x.1, .string x.2] rfl (by simp [Value.oneCell']) (by rw [HSZ.out]; rfl) Hlen.out (by decide) HW1.out.grown.size ?_; intro g2 cap2 w2 hown2 hg2 hat2 hlt2; have HR2 := Lib.hid (Row.push x HW1.out hown2 hg2 hat2); clear hown2 hg2 hat2 hlt2 ))
          exact ⟨⟨i + 1, false, ys ++ [x], by simp, rfl, hlt, Hs, Hy, HR2⟩, by show zs.length - ((i : Int) + 1).toNat < zs.length - ((i : Int)).toNat; omega⟩
    · obtain rfl : i = zs.length := by omega
      have HE := Lib.hid (wm_end HK.out)
      have h1 := hbb.out
      have h2 := hys.out
      rw [List.take_length] at h1 h2
      rw [← h1, ← h2, HZ.out] at HE
      clear h1 h2 hbb hys
      cases b with
      | true =>
        have HF : Hid (ys = wi xs p) := by show _ = _; have := HE.out; simpa using this
        go_wp2_with fail
        go_ret
        rw [← HF.out]
        exact ⟨_, rfl, hR.out.base (grown_none (by rw [HPB.out]; exact HB1.out))⟩
      | false =>
        have HF : Hid (ys ++ [p] = wi xs p) := by show _ = _; have := HE.out; simpa using this
        go_wp2_with (at_builtin; go_loud (refine wpList_pushs rfl _ _ 28 34 _ 2 32 rfl Try.underlying28 Try.infoPair rfl (by decide) w1.heap.size _ _ _ rfl hR.out.own #[.string p.1, .string p.2] rfl (by simp [Value.oneCell']) rfl Hlen.out (by decide) hR.out.grown.size ?_; intro g2 cap2 w2 hown2 hg2 hat2 hlt2; have HR2 := Lib.hid (Row.push p hR.out hown2 hg2 hat2); clear hown2 hg2 hat2 hlt2 ))
        go_ret
        rw [← HF.out]
        exact ⟨_, rfl, HR2.out.base (grown_none (by rw [HPB.out]; exact HB1.out))⟩

theorem Row.later {w0 w w' : World} {v : Value} {ys : List Pr} (h : Row w0 w v ys) (hb : Below w.heap.size w w') : Row w0 w' v ys :=
  ⟨h.own.kept (row := none) (grown_none hb) (by cases v.ownBlock <;> simp), grown_seq h.grown (grown_none hb) (.inl rfl), h.new⟩
set_option maxRecDepth 100000 in
set_option maxHeartbeats 3200000 in
theorem ROf_any {w : World} {v : Value} {xs : List Pr} (h : PairsIn w v xs) (hl : xs.length ≤ 1000000) :
    Calls Try.prog 28 #[v] w fun e w' => ∃ u, e = .returned u ∧ Row w w' u (un [] xs) := by
  obtain ⟨a, c, rfl, hx⟩ := h
  have HX := Lib.hid hx
  clear hx
  go_enter Try.func28, Try.ntmps28
  go_wp2_with fail
  go_loopw [3, 8] (fun u v wr => ∃ (i : Nat), v = .int .i64 i ∧ i ≤ xs.length ∧ Hid (Row w wr u (un [] (xs.take i))))
    (fun _ v _ => xs.length - (intOf v).toNat)
  case atStart => exact ⟨0, rfl, Nat.zero_le _, Row.nil w⟩
  case round =>
    obtain ⟨i, rfl, hin, hR⟩ := hrel
    have ei : IntKind.i64.wrap ((i : Int) + 1) = (i : Int) + 1 := IntWalk.i64_in _ (by omega)
    by_cases hlt : i < xs.length
    · obtain ⟨p, hp1⟩ : ∃ p, xs[i]? = some p := ⟨xs[i], List.getElem?_eq_getElem hlt⟩
      obtain ⟨g2, off2, rfl, hpa⟩ := HX.out.resolve_left (fun e => by rw [e] at hp1; simp at hp1)
      obtain ⟨k0, k1⟩ := hpa i p hp1
      have k0 := cell_later hR.out.below k0
      have k1 := cell_later hR.out.below k1
      have hI1 : (i : Int) < ((xs.length : Nat) : Int) := by omega
      have hI2 : (0 : Int) ≤ (i : Int) := by omega
      have HRA := Lib.hid (hR.out.alloc (Obj.cells #[Value.string p.1, .string p.2] 34))
      have HB := Lib.hid (box_alloc wr p.1 p.2 34)
      have HSt := Lib.hid (un_step [] hp1)
      have HLn : Hid ((un [] (xs.take i)).length ≤ 1073741822) := by show _ ≤ _; have := un_len (xs.take i) []; rw [List.length_take] at this; simp at this; omega
      clear hpa hp1 hR
      have x0 := HB.out.c0
      have x1 := HB.out.c1
      obtain ⟨ua, uc, hu⟩ := HRA.out.slice
      subst hu
      go_wp2_with fail
      go_fit (With_row p HRA.out.pairs (un_sorted _ trivial) HLn.out)
      rintro e w2 ⟨u2, rfl, hr2⟩
      have H2 : Hid (Row w w2 u2 (un [] (xs.take (i + 1)))) := by show Row _ _ _ _; rw [HSt.out]; exact hr2.base HRA.out.grown
      clear hr2 HRA HB x0 x1
      go_wp2_with fail
      exact ⟨⟨i + 1, by simp, hlt, H2⟩, by show xs.length - ((i : Int) + 1).toNat < xs.length - ((i : Int)).toNat; omega⟩
    · obtain rfl : i = xs.length := by omega
      have HF : Hid (Row w wr (u3) (un [] xs)) := by show Row _ _ _ _; have h := hR.out; rw [List.take_length] at h; exact h
      clear hR
      go_wp2_with fail
      go_ret
      exact ⟨_, rfl, HF.out⟩

/-! pairs sorted, of one key the last one: what With makes of them one by one -/
/-- What the last pair of a key has. -/
def lv (l : List Pr) (k : ByteArray) : Option ByteArray := (kf k l).getLast?.map (·.2)
theorem lv_snoc (l : List Pr) (p : Pr) (k : ByteArray) : lv (l ++ [p]) k = if k = p.1 then some p.2 else lv l k := by
  unfold lv
  rw [kf_app, kf_cons]
  by_cases h : p.1 = k
  · rw [if_pos h, if_pos h.symm]
    have : kf k [] = [] := rfl
    rw [this]; simp
  · rw [if_neg h, if_neg (fun e => h e.symm)]
    have : kf k [] = [] := rfl
    rw [this]; simp
theorem un_lv (l : List Pr) (k : ByteArray) : look (un [] l) k = lv l k := by
  have h : ∀ n, ∀ l : List Pr, l.length = n → look (un [] l) k = lv l k := by
    intro n
    induction n with
    | zero =>
      intro l hl
      obtain rfl := List.eq_nil_of_length_eq_zero hl
      rfl
    | succ n ih =>
      intro l hl
      obtain ⟨m, p, rfl⟩ : ∃ m p, l = m ++ [p] := ⟨l.dropLast, l.getLast (fun e => by rw [e] at hl; simp at hl), (List.dropLast_concat_getLast _).symm⟩
      have e : un [] (m ++ [p]) = wi (un [] m) p := by simp [un, List.foldl_append]
      rw [e, wi_look (un_sorted m (a := []) trivial), lv_snoc, ih m (by simpa using hl)]
  exact h _ l rfl
theorem dd_facts (n : Nat) : ∀ l : List Pr, l.length = n → SortedW l → Sorted (dd l) ∧ (∀ k, look (dd l) k = lv l k) ∧ (dd l).getLast?.map (·.1) = l.getLast?.map (·.1) := by
  induction n with
  | zero =>
    intro l hl _
    obtain rfl := List.eq_nil_of_length_eq_zero hl
    exact ⟨trivial, fun _ => rfl, rfl⟩
  | succ n ih =>
    intro l hl hs
    obtain ⟨m, p, rfl⟩ : ∃ m p, l = m ++ [p] := ⟨l.dropLast, l.getLast (fun e => by rw [e] at hl; simp at hl), (List.dropLast_concat_getLast _).symm⟩
    obtain ⟨s1, _, s3⟩ := sortedW_app.1 hs
    obtain ⟨h1, h2, h3⟩ := ih m (by simpa using hl) s1
    have e : dd (m ++ [p]) = dd1 (dd m) p := by simp [dd, List.foldl_append]
    rw [e]
    unfold dd1
    cases hD : (dd m).getLast? with
    | none =>
      have hdm : dd m = [] := List.getLast?_eq_none_iff.1 hD
      rw [hD] at h3
      have hm : m = [] := by
        cases hm : m.getLast? with
        | none => exact List.getLast?_eq_none_iff.1 hm
        | some q => rw [hm] at h3; simp at h3
      subst hm
      refine ⟨⟨(fun q hq => by simp at hq), trivial⟩, fun k => ?_, by simp⟩
      rw [lv_snoc]
      show look [p] k = _
      unfold look
      by_cases hk : p.1 = k
      · rw [if_pos hk, if_pos hk.symm]
      · rw [if_neg hk, if_neg (fun e => hk e.symm)]; rfl
    | some q =>
      obtain ⟨D, hDq⟩ : ∃ D, dd m = D ++ [q] := ⟨(dd m).dropLast, by
        have hne : dd m ≠ [] := fun e => by rw [e] at hD; simp at hD
        have := List.dropLast_concat_getLast hne
        rw [List.getLast?_eq_some_getLast hne] at hD
        rw [← Option.some.inj hD]; exact this.symm⟩
      obtain ⟨q', hq', hqm⟩ : ∃ q', m.getLast? = some q' ∧ q'.1 = q.1 := by
        rw [hD] at h3
        cases hm : m.getLast? with
        | none => rw [hm] at h3; simp at h3
        | some q' => rw [hm] at h3; exact ⟨q', rfl, by simpa using h3.symm⟩
      have hle : klt p.1 q.1 = false := by rw [← hqm]; exact s3 q' (List.mem_of_getLast? hq') p (by simp)
      rw [hDq] at h1 h2 ⊢
      obtain ⟨g1, _, g3, _⟩ := (sorted_mid D q []).1 h1
      by_cases hqp : q.1 = p.1
      · simp only [hqp, if_true, List.dropLast_concat]
        refine ⟨(sorted_mid D p []).2 ⟨g1, trivial, by rw [← hqp]; exact g3, (fun x hx => by simp at hx)⟩, fun k => ?_, by simp⟩
        rw [lv_snoc, ← h2 k, look_app, look_app]
        by_cases hk : k = p.1
        · rw [if_pos hk, look_under (by rw [← hqp] at *; exact g3) (by rw [hk, hqp]; exact klt_irr _)]
          simp [look, hk]
        · rw [if_neg hk]
          have e1 : look [p] k = none := look_none (fun x hx => by simp at hx; rw [hx]; exact fun e => hk e.symm)
          have e2 : look [q] k = none := look_none (fun x hx => by simp at hx; rw [hx, hqp]; exact fun e => hk e.symm)
          rw [e1, e2]
      · have hlt : klt q.1 p.1 = true := by
          rcases klt_tri q.1 p.1 with h | h | h
          · exact h
          · exact absurd h hqp
          · rw [hle] at h; cases h
        simp only [hqp, if_false]
        have hU : Under (D ++ [q]) p.1 := fun x hx => by
          rcases List.mem_append.1 hx with hx | hx
          · exact klt_trans (g3 x hx) hlt
          · simp at hx; rw [hx]; exact hlt
        refine ⟨(sorted_mid (D ++ [q]) p []).2 ⟨h1, trivial, hU, (fun x hx => by simp at hx)⟩, fun k => ?_, by simp⟩
        rw [lv_snoc, look_app]
        by_cases hk : k = p.1
        · rw [if_pos hk, look_under hU (by rw [hk]; exact klt_irr _)]
          simp [look, hk]
        · rw [if_neg hk, h2 k]
          have e1 : look [p] k = none := look_none (fun x hx => by simp at hx; rw [hx]; exact fun e => hk e.symm)
          rw [e1]; simp
theorem dd_un (l : List Pr) : dd (isort l) = un [] l := by
  obtain ⟨h1, h2, _⟩ := dd_facts _ (isort l) rfl (isort_sortedW l)
  refine sorted_ext h1 (un_sorted l (a := []) trivial) (fun k => ?_)
  rw [h2, un_lv]
  unfold lv
  rw [isort_kf]
end Go.Proofs.Ytcncggndpnooeaa
