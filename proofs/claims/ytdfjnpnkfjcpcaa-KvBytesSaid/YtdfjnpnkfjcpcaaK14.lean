/-
  Walks: the document's tests of operations.
-/
import Derived.Test.YtdfjnpnkfjcpcaaK13
namespace Go.Proofs.Ytdfjnpnkfjcpcaa
set_option linter.unusedVariables false
set_option linter.unusedSimpArgs false
open Go.RowKit

theorem rkey_c {s : ByteArray} {b : Bool} (h : keyOk s = b) (w : World) (hs : s.size ≤ 1073741824) : Calls Try.prog 69 #[.string s] w fun e w' => e = .returned (.int .i64 (if b = true then 0 else 20)) ∧ Below w.heap.size w w' := by
  subst h
  exact Tx.rKey_any s w hs
theorem rval_c {s : ByteArray} {b : Bool} (h : valOk s = b) (w : World) (hs : s.size ≤ 1073741824) : Calls Try.prog 70 #[.string s] w fun e w' => e = .returned (.int .i64 (if b = true then 0 else 21)) ∧ Below w.heap.size w w' := by
  subst h
  exact Tx.rValue_any s w hs
theorem rkey_yes {s : ByteArray} (h : keyOk s = true) (w : World) (hs : s.size ≤ 1073741824) : Calls Try.prog 69 #[.string s] w fun e w' => e = .returned (.int .i64 0) ∧ Below w.heap.size w w' := rkey_c h w hs
theorem rkey_no {s : ByteArray} (h : keyOk s = false) (w : World) (hs : s.size ≤ 1073741824) : Calls Try.prog 69 #[.string s] w fun e w' => e = .returned (.int .i64 20) ∧ Below w.heap.size w w' := rkey_c h w hs
theorem rval_yes {s : ByteArray} (h : valOk s = true) (w : World) (hs : s.size ≤ 1073741824) : Calls Try.prog 70 #[.string s] w fun e w' => e = .returned (.int .i64 0) ∧ Below w.heap.size w w' := rval_c h w hs
theorem rval_no {s : ByteArray} (h : valOk s = false) (w : World) (hs : s.size ≤ 1073741824) : Calls Try.prog 70 #[.string s] w fun e w' => e = .returned (.int .i64 21) ∧ Below w.heap.size w w' := rval_c h w hs

theorem hasK_take_false {l : List Kop} {i : Nat} (hi : i ≤ l.length) {k : ByteArray} (h : hasK ((l.take i).take i) k = false) : hasK (l.take i) k = false := by
  rw [List.take_take, Nat.min_self] at h
  exact h
theorem hasK_take_step {l : List Kop} {i j : Nat} {o : Kop} (hj : j < i) (h : l[j]? = some o) {k : ByteArray} (hn : hasK (l.take j) k = false) (e : o.key ≠ k) : hasK (l.take (j + 1)) k = false := by
  rw [hasK_step h, hn]
  simpa using e
theorem hasK_take_hit {l : List Kop} {i j : Nat} {o : Kop} (hj : j < i) (h : l[j]? = some o) {k : ByteArray} (e : o.key = k) : hasK (l.take i) k = true := by
  refine hasK_hit (i := j) (o := o) ?_ e
  rw [List.getElem?_take, if_pos hj]
  exact h

set_option maxRecDepth 100000 in
set_option maxHeartbeats 6400000 in
theorem rRight_any {w : World} {v : Value} {l : List Kop} (h : opL.In w v l) (hs : Small l) (hlen : l.length ≤ 1073741824) : Calls Try.prog 41 #[v] w (MayP l w) := by
  obtain ⟨a, c, rfl, hc1, hc2⟩ := h.slice
  have HD := Lib.hid h
  have HS := Lib.hid hs
  clear h hs
  go_enter Try.func41, Try.ntmps41
  go_wp2_with fail
  go_loopw [8] (fun v wr => ∃ i : Nat, v = .int .i64 i ∧ i ≤ l.length ∧ Hid (mayGo (l.take i) (l.drop i) = mayE l) ∧ Hid (Below w.heap.size w wr))
    (fun v _ => l.length - (intOf v).toNat)
  case atStart => exact ⟨0, rfl, Nat.zero_le _, rfl, Below.refl _ _⟩
  case round =>
    obtain ⟨i, rfl, hin, hT, hbw⟩ := hrel
    have ei : IntKind.i64.wrap ((i : Int) + 1) = (i : Int) + 1 := IntWalk.i64_in _ (by omega)
    by_cases hlt : i < l.length
    · obtain ⟨o, ho⟩ : ∃ o, l[i]? = some o := ⟨l[i], List.getElem?_eq_getElem hlt⟩
      obtain ⟨g, off, rfl, _, hcell⟩ := HD.out.cells ho
      have c0 : wr.cell? ⟨g, off + i * 3, none⟩ = some (.string o.key) := lay_later hbw.out (hcell 0 _ rfl)
      have c1 : wr.cell? ⟨g, off + i * 3 + 1, none⟩ = some (.bool o.has) := lay_later hbw.out (hcell 1 _ rfl)
      have c2 : wr.cell? ⟨g, off + i * 3 + 2, none⟩ = some (.string o.val) := lay_later hbw.out (hcell 2 _ rfl)
      have hI1 : (i : Int) < ((l.length : Nat) : Int) := by omega
      have hI0 : (0 : Int) ≤ (i : Int) := by omega
      have HB := Lib.hid (below_of hbw.out (lay_alloc wr (.cells #[.string o.key, .bool o.has, .string o.val] 37)))
      have HC0 := Lib.hid (box_cell wr #[.string o.key, .bool o.has, .string o.val] 37 0)
      have HC1 := Lib.hid (box_cell wr #[.string o.key, .bool o.has, .string o.val] 37 1)
      have HC2 := Lib.hid (box_cell wr #[.string o.key, .bool o.has, .string o.val] 37 2)
      have HO := Lib.hid ho
      have HZ := Lib.hid (HS.out o (List.mem_of_getElem? ho))
      clear hcell ho hbw
      cases hk : keyOk o.key with
      | false =>
        have HK := Lib.hid (fun W => rkey_no hk W HZ.out.1)
        have HE : Hid (mayE l = 20) := may_mid HO.out hT.out (by unfold may1; rw [if_pos hk]) (by decide)
        clear hk
        go_wp2_with fail
        go_fit (HK.out _)
        rintro e w2 ⟨rfl, hb2⟩
        have HB2 := Lib.hid (below_of HB.out hb2)
        clear hb2
        go_wp2_with fail
        go_ret
        exact MayP.of HE.out HB2.out
      | true =>
        have HK := Lib.hid (fun W => rkey_yes hk W HZ.out.1)
        have Hk := Lib.hid hk
        clear hk
        cases hh : o.has with
        | true =>
          cases hv : valOk o.val with
          | false =>
            have HV := Lib.hid (fun W => rval_no hv W HZ.out.2)
            have HE : Hid (mayE l = 21) := may_mid HO.out hT.out (by unfold may1; rw [if_neg (by rw [Hk.out]; simp), if_pos (by rw [hh, hv]; rfl)]) (by decide)
            rw [hh] at c1 HB HC0 HC1 HC2
            clear hv hh
            go_wp2_with fail
            go_fit (HK.out _)
            rintro e w2 ⟨rfl, hb2⟩
            have HB2 := Lib.hid (below_of HB.out hb2)
            have d0 := lay_later hb2 HC0.out
            have d1 := lay_later hb2 HC1.out
            have d2 := lay_later hb2 HC2.out
            clear hb2
            go_wp2_with fail
            go_fit (HV.out _)
            rintro e w3 ⟨rfl, hb3⟩
            have HB3 := Lib.hid (below_of HB2.out hb3)
            clear hb3
            go_wp2_with fail
            go_ret
            exact MayP.of HE.out HB3.out
          | true =>
            have HV := Lib.hid (fun W => rval_yes hv W HZ.out.2)
            have HM : Hid (may1 (l.take i) o = if hasK (l.take i) o.key = true then 61 else 0) := by show _ = _; unfold may1; rw [if_neg (by rw [Hk.out]; simp), if_neg (by rw [hh, hv]; simp)]
            rw [hh] at c1 HB HC0 HC1 HC2
            clear hv hh
            go_wp2_with fail
            go_fit (HK.out _)
            rintro e w2 ⟨rfl, hb2⟩
            have HB2 := Lib.hid (below_of HB.out hb2)
            have d0 := lay_later hb2 HC0.out
            have d1 := lay_later hb2 HC1.out
            have d2 := lay_later hb2 HC2.out
            clear hb2
            go_wp2_with fail
            go_fit (HV.out _)
            rintro e w3 ⟨rfl, hb3⟩
            have HB3 := Lib.hid (below_of HB2.out hb3)
            have HD0 : Hid (w3.cell? ⟨wr.heap.size, 0, none⟩ = some (.string o.key)) := lay_later hb3 d0
            have d1 := lay_later hb3 d1
            have d2 := lay_later hb3 d2
            clear hb3 HB HB2 HK HV c0 c1 c2 HC0 HC1 HC2 d0
            generalize wr.heap.size = R at *
            go_wp2_with fail
            clear d1 d2
            go_loopw [36] (fun v wr => ∃ (j : Nat), v = .int .i64 j ∧ j ≤ i ∧ Hid (hasK (l.take j) o.key = false) ∧ Hid (∃ m, wr = w3.drewN m))
              (fun v _ => i - (intOf v).toNat)
            case atStart => exact ⟨0, rfl, Nat.zero_le _, rfl, 0, rfl⟩
            case round =>
              obtain ⟨j, rfl, hjn, hjk, hq⟩ := hrel
              have ej : IntKind.i64.wrap ((j : Int) + 1) = (j : Int) + 1 := IntWalk.i64_in _ (by omega)
              by_cases hjt : j < i
              · obtain ⟨p, hp⟩ : ∃ p, l[j]? = some p := ⟨l[j], List.getElem?_eq_getElem (by omega)⟩
                obtain ⟨g2, off2, he, _, hcell⟩ := HD.out.cells hp
                obtain ⟨rfl, rfl⟩ : g = g2 ∧ off = off2 := by simpa using he
                have q0 : wr.cell? ⟨g, off + j * 3, none⟩ = some (.string p.key) := drew_cell hq.out (lay_later HB3.out (hcell 0 _ rfl))
                have q1 : wr.cell? ⟨R, 0, none⟩ = some (.string o.key) := drew_cell hq.out HD0.out
                have hJ1 : (j : Int) < ((l.length : Nat) : Int) := by omega
                have hJ2 : (j : Int) < (i : Int) := by omega
                have hJ0 : (0 : Int) ≤ (j : Int) := by omega
                by_cases hk : p.key = o.key
                · have hkb : (p.key.toList == o.key.toList) = true := by rw [ba_eq]; simpa using hk
                  have hkl : p.key.toList = o.key.toList := by rw [hk]
                  have HE : Hid (mayE l = 61) := may_mid HO.out hT.out (by rw [HM.out, if_pos (hasK_take_hit hjt hp hk)]) (by decide)
                  clear hcell hp hk he
                  go_wp2_with fail
                  go_quiet (fail)
                  go_wp2_with fail
                  go_ret
                  refine MayP.of HE.out ?_
                  obtain ⟨m, hm⟩ := hq.out
                  rw [hm]
                  exact below_drewN (below_drewN HB3.out _) _
                · have hkb : (p.key.toList == o.key.toList) = false := by rw [ba_eq]; simpa using hk
                  have hkl : ¬ p.key.toList = o.key.toList := fun e => hk (ba_inj e)
                  have HN : Hid (hasK (l.take (j + 1)) o.key = false) := hasK_take_step hjt hp hjk.out hk
                  clear hcell hp hk he hjk
                  go_wp2_with fail
                  go_quiet (fail)
                  go_wp2_with fail
                  refine ⟨⟨j + 1, by simp, by omega, HN, ?_⟩, by show i - ((j : Int) + 1).toNat < i - ((j : Int)).toNat; omega⟩
                  obtain ⟨m, hm⟩ := hq.out
                  exact ⟨_, by rw [hm, World.drewN_drewN]⟩
              · obtain rfl : j = i := by omega
                have HN : Hid (mayGo (l.take (j + 1)) (l.drop (j + 1)) = mayE l) := (may_step HO.out hT.out).1 (by rw [HM.out, if_neg (by rw [hjk.out]; simp)])
                have HBz : Hid (Below w.heap.size w wr) := by obtain ⟨m, hm⟩ := hq.out; rw [hm]; exact below_drewN HB3.out _
                clear hjk hT hq
                go_wp2_with fail
                exact ⟨⟨j + 1, by simp, hlt, HN, HBz⟩, by show l.length - ((j : Int) + 1).toNat < l.length - ((j : Int)).toNat; omega⟩
        | false =>
          by_cases hv : o.val = ByteArray.empty
          · have hv1 : o.val.toList.isEmpty = true := by rw [ba_emp]; simpa using hv
            have hv2 : o.val.toList = [] := by rw [hv, emp_toList]
            have HM : Hid (may1 (l.take i) o = if hasK (l.take i) o.key = true then 61 else 0) := by show _ = _; unfold may1; rw [if_neg (by rw [Hk.out]; simp), if_neg (by rw [hh]; simp [hv])]
            rw [hh] at c1 HB HC0 HC1 HC2
            clear hv hh
            go_wp2_with fail
            go_fit (HK.out _)
            rintro e w3 ⟨rfl, hb3⟩
            have HB3 := Lib.hid (below_of HB.out hb3)
            have HD0 : Hid (w3.cell? ⟨wr.heap.size, 0, none⟩ = some (.string o.key)) := lay_later hb3 HC0.out
            have d1 := lay_later hb3 HC1.out
            have d2 := lay_later hb3 HC2.out
            clear hb3 HB HK c0 c1 c2 HC0 HC1 HC2
            generalize wr.heap.size = R at *
            go_wp2_with fail
            clear d1 d2
            go_loopw [36] (fun v wr => ∃ (j : Nat), v = .int .i64 j ∧ j ≤ i ∧ Hid (hasK (l.take j) o.key = false) ∧ Hid (∃ m, wr = w3.drewN m))
              (fun v _ => i - (intOf v).toNat)
            case atStart => exact ⟨0, rfl, Nat.zero_le _, rfl, 0, rfl⟩
            case round =>
              obtain ⟨j, rfl, hjn, hjk, hq⟩ := hrel
              have ej : IntKind.i64.wrap ((j : Int) + 1) = (j : Int) + 1 := IntWalk.i64_in _ (by omega)
              by_cases hjt : j < i
              · obtain ⟨p, hp⟩ : ∃ p, l[j]? = some p := ⟨l[j], List.getElem?_eq_getElem (by omega)⟩
                obtain ⟨g2, off2, he, _, hcell⟩ := HD.out.cells hp
                obtain ⟨rfl, rfl⟩ : g = g2 ∧ off = off2 := by simpa using he
                have q0 : wr.cell? ⟨g, off + j * 3, none⟩ = some (.string p.key) := drew_cell hq.out (lay_later HB3.out (hcell 0 _ rfl))
                have q1 : wr.cell? ⟨R, 0, none⟩ = some (.string o.key) := drew_cell hq.out HD0.out
                have hJ1 : (j : Int) < ((l.length : Nat) : Int) := by omega
                have hJ2 : (j : Int) < (i : Int) := by omega
                have hJ0 : (0 : Int) ≤ (j : Int) := by omega
                by_cases hk : p.key = o.key
                · have hkb : (p.key.toList == o.key.toList) = true := by rw [ba_eq]; simpa using hk
                  have hkl : p.key.toList = o.key.toList := by rw [hk]
                  have HE : Hid (mayE l = 61) := may_mid HO.out hT.out (by rw [HM.out, if_pos (hasK_take_hit hjt hp hk)]) (by decide)
                  clear hcell hp hk he
                  go_wp2_with fail
                  go_quiet (fail)
                  go_wp2_with fail
                  go_ret
                  refine MayP.of HE.out ?_
                  obtain ⟨m, hm⟩ := hq.out
                  rw [hm]
                  exact below_drewN (below_drewN HB3.out _) _
                · have hkb : (p.key.toList == o.key.toList) = false := by rw [ba_eq]; simpa using hk
                  have hkl : ¬ p.key.toList = o.key.toList := fun e => hk (ba_inj e)
                  have HN : Hid (hasK (l.take (j + 1)) o.key = false) := hasK_take_step hjt hp hjk.out hk
                  clear hcell hp hk he hjk
                  go_wp2_with fail
                  go_quiet (fail)
                  go_wp2_with fail
                  refine ⟨⟨j + 1, by simp, by omega, HN, ?_⟩, by show i - ((j : Int) + 1).toNat < i - ((j : Int)).toNat; omega⟩
                  obtain ⟨m, hm⟩ := hq.out
                  exact ⟨_, by rw [hm, World.drewN_drewN]⟩
              · obtain rfl : j = i := by omega
                have HN : Hid (mayGo (l.take (j + 1)) (l.drop (j + 1)) = mayE l) := (may_step HO.out hT.out).1 (by rw [HM.out, if_neg (by rw [hjk.out]; simp)])
                have HBz : Hid (Below w.heap.size w wr) := by obtain ⟨m, hm⟩ := hq.out; rw [hm]; exact below_drewN HB3.out _
                clear hjk hT hq
                go_wp2_with fail
                exact ⟨⟨j + 1, by simp, hlt, HN, HBz⟩, by show l.length - ((j : Int) + 1).toNat < l.length - ((j : Int)).toNat; omega⟩
          · have hv1 : o.val.toList.isEmpty = false := by rw [ba_emp]; simpa using hv
            have hv2 : ¬ o.val.toList = [] := fun h => hv (ba_inj (by rw [h, emp_toList]))
            have HE : Hid (mayE l = 21) := may_mid HO.out hT.out (by unfold may1; rw [if_neg (by rw [Hk.out]; simp), if_pos (by rw [hh]; simp [hv])]) (by decide)
            rw [hh] at c1 HB HC0 HC1 HC2
            clear hv hh
            go_wp2_with fail
            go_fit (HK.out _)
            rintro e w2 ⟨rfl, hb2⟩
            have HB2 := Lib.hid (below_of HB.out hb2)
            have d0 := lay_later hb2 HC0.out
            have d1 := lay_later hb2 HC1.out
            have d2 := lay_later hb2 HC2.out
            clear hb2
            go_wp2_with fail
            go_ret
            exact MayP.of HE.out HB2.out
    · obtain rfl : i = l.length := by omega
      have HN : Hid (mayE l = 0) := may_end hT.out
      go_wp2_with fail
      go_ret
      exact MayP.of HN.out hbw.out

set_option maxRecDepth 100000 in
set_option maxHeartbeats 1600000 in
theorem rCheck_any {w : World} {u v : Value} {conds ops : List Kop} (hc : opL.In w u conds) (ho : opL.In w v ops) (sc : Small conds) (so : Small ops) (lc : conds.length ≤ 1073741824) (lo : ops.length ≤ 1073741824) :
    Calls Try.prog 34 #[u, v] w (CkP conds ops w) := by
  have HC := Lib.hid (rRight_any hc sc lc)
  have HO := Lib.hid (fun w' (hb : Below w.heap.size w w') => rRight_any (ho.later hb) so lo)
  obtain ⟨a, c, rfl, _, _⟩ := hc.slice
  obtain ⟨a', c', rfl, _, _⟩ := ho.slice
  clear hc ho sc so
  by_cases h0 : ops.length = 0
  · have HE : Hid (ckE conds ops = 61) := by show _ = _; unfold ckE; rw [if_pos (by simp [h0])]
    have g0 : ((ops.length : Nat) : Int) < 1 := by omega
    have HL1 := Lib.hid h0
    clear h0
    go_enter Try.func34, Try.ntmps34
    go_wp2_with fail
    go_ret
    exact CkP.of HE.out (Below.refl _ _)
  · by_cases h1 : 6 < ops.length
    · have HE : Hid (ckE conds ops = 61) := by show _ = _; unfold ckE; rw [if_pos (by simp [h1])]
      have hI0 : ¬ ((ops.length : Nat) : Int) < 1 := by omega
      have hI1 : (6 : Int) < ((ops.length : Nat) : Int) := by omega
      go_enter Try.func34, Try.ntmps34
      go_wp2_with fail
      go_ret
      exact CkP.of HE.out (Below.refl _ _)
    · by_cases h2 : 6 < conds.length
      · have HE : Hid (ckE conds ops = 61) := by show _ = _; unfold ckE; rw [if_pos (by simp [h2])]
        have hI0 : ¬ ((ops.length : Nat) : Int) < 1 := by omega
        have hI1 : ¬ (6 : Int) < ((ops.length : Nat) : Int) := by omega
        have hI2 : (6 : Int) < ((conds.length : Nat) : Int) := by omega
        go_enter Try.func34, Try.ntmps34
        go_wp2_with fail
        go_ret
        exact CkP.of HE.out (Below.refl _ _)
      · have hI0 : ¬ ((ops.length : Nat) : Int) < 1 := by omega
        have hI1 : ¬ (6 : Int) < ((ops.length : Nat) : Int) := by omega
        have hI2 : ¬ (6 : Int) < ((conds.length : Nat) : Int) := by omega
        have hne : ¬ (decide (ops.length = 0) || decide (6 < ops.length) || decide (6 < conds.length)) = true := by simp only [Bool.or_eq_true, decide_eq_true_eq, not_or]; exact ⟨⟨h0, h1⟩, h2⟩
        by_cases hm : mayE conds = 0
        · have HE : Hid (ckE conds ops = mayE ops) := by show _ = _; unfold ckE; rw [if_neg hne, if_pos hm]
          have HC' : Hid (Calls Try.prog 41 #[.slice a conds.length c] w fun e w' => e = .returned (.int .i64 0) ∧ Below w.heap.size w w') := by show Calls _ _ _ _ _; have h := HC.out; unfold MayP at h; rw [hm] at h; exact h
          clear hm hne HC
          go_enter Try.func34, Try.ntmps34
          go_wp2_with fail
          go_fit HC'.out
          rintro e w1 ⟨rfl, hb1⟩
          have HB1 := Lib.hid hb1
          have HO' := Lib.hid (HO.out w1 hb1)
          clear hb1 HO
          go_wp2_with fail
          go_fit HO'.out
          rintro e w2 ⟨rfl, hb2⟩
          have HB2 := Lib.hid (below_of HB1.out hb2)
          clear hb2
          go_wp2_with fail
          go_ret
          exact CkP.of HE.out HB2.out
        · have HE : Hid (ckE conds ops = mayE conds) := by show _ = _; unfold ckE; rw [if_neg hne, if_neg hm]
          obtain ⟨n, hn⟩ : ∃ n, n = mayE conds := ⟨_, rfl⟩
          have HC' : Hid (Calls Try.prog 41 #[.slice a conds.length c] w fun e w' => e = .returned (.int .i64 n) ∧ Below w.heap.size w w') := by show Calls _ _ _ _ _; have h := HC.out; unfold MayP at h; rw [← hn] at h; exact h
          have HE' : Hid (ckE conds ops = n) := by show _ = _; rw [HE.out, hn]
          rw [← hn] at hm
          have hm2 : (n == 0) = false := by simpa using hm
          clear hne HC HE hn
          go_enter Try.func34, Try.ntmps34
          go_wp2_with fail
          go_fit HC'.out
          rintro e w1 ⟨rfl, hb1⟩
          have HB1 := Lib.hid hb1
          clear hb1 HO
          go_wp2_with fail
          go_ret
          exact CkP.of HE'.out HB1.out
end Go.Proofs.Ytdfjnpnkfjcpcaa
