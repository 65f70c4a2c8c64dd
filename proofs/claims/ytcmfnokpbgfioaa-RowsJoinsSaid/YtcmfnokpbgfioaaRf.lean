/-
  The document's On, Check, Last. (Written by genon.py.)
-/
import Derived.Test.YtcmfnokpbgfioaaE2
namespace Go.Proofs.Ytcmfnokpbgfioaa
set_option linter.unusedVariables false
set_option linter.unusedSimpArgs false
open Go.RowKit

def FitI (es : List Er) : Prop := ∀ e ∈ es, -9223372036854775808 ≤ e.i ∧ e.i ≤ 9223372036854775807
def OnS (i t : Int) (es : List Er) : Nat → Int → Int → Prop
  | 0, p, q => p = i ∧ q = t
  | m + 1, _, _ => ∃ x, es[m]? = some x ∧ (0 ≤ x.i ∧ x.i ≤ 1099511627776) ∧ goOnR i t es = goR x.i x.t (es.drop (m + 1))
theorem near_yes {n lo : Int} (h : lo ≤ n ∧ n ≤ 1099511627776) (w : World) : Calls Try.prog 36 #[.int .i64 n, .int .i64 lo] w fun e w' => e = .returned (.bool true) ∧ w = w' := by
  have := near_any n lo w
  rw [(nearB_iff n lo).2 h] at this
  exact this
theorem near_no {n lo : Int} (h : ¬ (lo ≤ n ∧ n ≤ 1099511627776)) (w : World) : Calls Try.prog 36 #[.int .i64 n, .int .i64 lo] w fun e w' => e = .returned (.bool false) ∧ w = w' := by
  have := near_any n lo w
  have e : nearB n lo = false := by
    cases hc : nearB n lo with
    | false => rfl
    | true => exact absurd ((nearB_iff n lo).1 hc) h
  rw [e] at this
  exact this
theorem wrap_pred {y p : Int} (h : -9223372036854775808 ≤ y ∧ y ≤ 9223372036854775807) (hp : 0 ≤ p ∧ p ≤ 1099511627776) : (IntKind.i64.wrap (y - 1) != p) = !(decide (y = p + 1)) := by
  by_cases e : y = p + 1
  · subst e
    rw [decide_eq_true rfl, show (p + 1 - 1 : Int) = p by omega, IntWalk.i64_in p (by omega)]
    simp
  · rw [decide_eq_false e]
    by_cases h0 : y = -9223372036854775808
    · subst h0
      have : IntKind.i64.wrap (-9223372036854775808 - 1) = 9223372036854775807 := by decide
      rw [this]
      simp only [Bool.not_false, bne_iff_ne]
      omega
    · rw [IntWalk.i64_in (y - 1) (by omega)]
      simp only [Bool.not_false, bne_iff_ne]
      omega

set_option maxRecDepth 100000 in
set_option maxHeartbeats 12800000 in
theorem On_any {w : World} {v : Value} {es : List Er} (h : EIn w v es) (hf : FitI es) (i t : Int) : Calls Try.prog 37 #[.int .i64 i, .int .i64 t, v] w (BoolP (goOnR i t es) w) := by
  obtain ⟨a, c, rfl, _, _⟩ := h.slice
  have HE := Lib.hid h
  have HFi := Lib.hid hf
  clear h hf
  go_enter Try.func37, Try.ntmps37
  go_wp2_with fail
  go_loopw [0, 1, 11] (fun x y j wr => ∃ (k : Nat) (p q : Int), x = .int .i64 p ∧ y = .int .i64 q ∧ j = .int .i64 k ∧ k ≤ es.length ∧ Hid (OnS i t es k p q) ∧ Hid (Below w.heap.size w wr)) (fun _ _ j _ => es.length - (intOf j).toNat)
  case atStart => exact ⟨0, i, t, rfl, rfl, rfl, Nat.zero_le _, ⟨rfl, rfl⟩, (by show Below _ _ _; exact Below.refl _ _)⟩
  case round =>
    obtain ⟨k, p, q, rfl, rfl, rfl, hk, hS, hB⟩ := hrel
    by_cases hlt : k < es.length
    · have he : es[k]? = some es[k] := List.getElem?_eq_getElem hlt
      have HDr : Hid (es.drop k = es[k] :: es.drop (k + 1)) := by show _ = _; exact List.drop_eq_getElem_cons hlt
      have hfi := HFi.out es[k] (List.getElem_mem hlt)
      generalize es[k] = y at *
      obtain ⟨yi, yt, yd⟩ := y
      obtain ⟨g, off, pp, c', rfl, k0, k1, k2, _⟩ := (HE.out.later hB.out).at he
      have hkk : (k : Int) < (es.length : Int) := by omega
      have hal := lay_alloc wr (.cells #[.int .i64 yi, .int .i64 yt, .slice pp yd.length c'] 44)
      have HD := Lib.hid (DC.alloc wr [.int .i64 yi, .int .i64 yt, .slice pp yd.length c'] 44)
      have HB2 := Lib.hid (hB.out.trans (hal.mono hB.out.size))
      have HY := Lib.hid he
      have HFy := Lib.hid hfi
      clear hal he hfi
      cases k with
      | zero =>
        obtain ⟨rfl, rfl⟩ := hS.out
        have z0 : ((0 : Nat) : Int) = 0 := rfl
        have z1 : ¬ ((0 : Int) < 0) := by omega
        simp only [Nat.zero_mul, Nat.add_zero] at k0 k1 k2
        by_cases hi : 0 ≤ p ∧ p ≤ 1099511627776
        · have HPb := Lib.hid hi
          have HG : Hid (goOnR p q es = (okR p q ⟨yi, yt, yd⟩ && goR yi yt (es.drop 1))) := by
            show _ = _
            have hd := HDr.out
            rw [List.drop_zero] at hd
            have him : inM' p = true := by unfold inM'; rw [decide_eq_true hi]
            rw [goOnR_log him, hd]
            rfl
          have HOK : Hid (okR p q ⟨yi, yt, yd⟩ = decide (yi = p + 1 ∧ yi ≤ 1099511627776 ∧ max q 1 ≤ yt ∧ yt ≤ 1099511627776 ∧ yd.length ≤ 8192)) := by show _ = _; rfl
          go_wp2_with fail
          generalize wr.alloc _ = W6 at *
          clear k0 k1 k2
          have HW := Lib.hid (wrap_pred (y := yi) (p := p) HFy.out HPb.out)
          go_fit (near_yes (lo := 0) HPb.out W6)
          rintro e1 w' ⟨rfl, rfl⟩
          have x0 := HD.out.cells 0 _ rfl
          have x1 := HD.out.cells 1 _ rfl
          have x2 := HD.out.cells 2 _ rfl
          by_cases c1 : yi = p + 1
          · have hw : IntKind.i64.wrap (yi - 1) = p := by have h := HW.out; rw [decide_eq_true c1] at h; simpa using h
            have HC1 := Lib.hid c1
            clear c1
            by_cases c2 : q ≤ yt
            · have b2 : ¬ (yt < q) := by omega
              by_cases c3 : 1 ≤ yt ∧ yt ≤ 1099511627776
              · go_wp2_with fail
                go_fit (near_yes (lo := 1) c3 W6)
                rintro e2 w' ⟨rfl, rfl⟩
                by_cases c4 : 1 ≤ yi ∧ yi ≤ 1099511627776
                · go_wp2_with fail
                  go_fit (near_yes (lo := 1) c4 W6)
                  rintro e3 w' ⟨rfl, rfl⟩
                  by_cases c5 : (yd.length : Int) ≤ 8192
                  · have b5 : ¬ ((8192 : Int) < (yd.length : Int)) := by omega
                    have HS2 : Hid (OnS p q es (0 + 1) p q) := by
                      refine ⟨_, HY.out, ⟨by show 0 ≤ yi; omega, c4.2⟩, ?_⟩
                      rw [HG.out, HOK.out, decide_eq_true ⟨HC1.out, c4.2, by omega, c3.2, by omega⟩, Bool.true_and]
                    clear hw
                    go_wp2_with fail
                    exact ⟨⟨0 + 1, _, _, rfl, rfl, by go_num, hlt, HS2, HB2.out⟩, by simp only [intOf]; omega⟩
                  · have b5 : (8192 : Int) < (yd.length : Int) := by omega
                    have HF : Hid (goOnR p q es = false) := by show _ = _; rw [HG.out, HOK.out, decide_eq_false (fun hc => c5 (by have := hc.2.2.2.2; omega)), Bool.false_and]
                    go_wp2_with fail
                    go_ret
                    exact ⟨by rw [HF.out]; first | done | rfl, HB2.out⟩
                · go_wp2_with fail
                  go_fit (near_no (lo := 1) c4 W6)
                  rintro e3 w' ⟨rfl, rfl⟩
                  have HF : Hid (goOnR p q es = false) := by show _ = _; rw [HG.out, HOK.out, decide_eq_false (fun hc => c4 ⟨by have := HPb.out; have := HC1.out; omega, hc.2.1⟩), Bool.false_and]
                  go_wp2_with fail
                  go_ret
                  exact ⟨by rw [HF.out]; first | done | rfl, HB2.out⟩
              · go_wp2_with fail
                go_fit (near_no (lo := 1) c3 W6)
                rintro e2 w' ⟨rfl, rfl⟩
                have HF : Hid (goOnR p q es = false) := by show _ = _; rw [HG.out, HOK.out, decide_eq_false (fun hc => c3 ⟨by have := hc.2.2.1; omega, hc.2.2.2.1⟩), Bool.false_and]
                go_wp2_with fail
                go_ret
                exact ⟨by rw [HF.out]; first | done | rfl, HB2.out⟩
            · have b2 : yt < q := by omega
              have HF : Hid (goOnR p q es = false) := by show _ = _; rw [HG.out, HOK.out, decide_eq_false (fun hc => c2 (by have := hc.2.2.1; omega)), Bool.false_and]
              go_wp2_with fail
              go_ret
              exact ⟨by rw [HF.out]; first | done | rfl, HB2.out⟩
          · have hw0 : (IntKind.i64.wrap (yi - 1) != p) = true := by rw [HW.out, decide_eq_false c1]; rfl
            obtain ⟨z, hz⟩ : ∃ z, IntKind.i64.wrap (yi - 1) = z := ⟨_, rfl⟩
            rw [hz] at hw0
            clear HW
            have HF : Hid (goOnR p q es = false) := by show _ = _; rw [HG.out, HOK.out, decide_eq_false (fun hc => c1 hc.1), Bool.false_and]
            go_wp2_with fail
            go_ret
            exact ⟨by rw [HF.out]; first | done | rfl, HB2.out⟩
        · have HF : Hid (goOnR p q es = false) := by
            show _ = _
            have him : inM' p = false := by unfold inM'; rw [decide_eq_false hi]
            unfold goOnR
            rw [him, decide_eq_false (by omega)]; rfl
          go_wp2_with fail
          generalize wr.alloc _ = W6 at *
          go_fit (near_no (lo := 0) hi W6)
          rintro e1 w' ⟨rfl, rfl⟩
          go_wp2_with fail
          go_ret
          exact ⟨by rw [HF.out]; first | done | rfl, HB2.out⟩
      | succ m =>
        obtain ⟨x, hx, hxb, hgo⟩ := hS.out
        obtain ⟨xi, xt, xd⟩ := x
        have hpos : (0 : Int) < ((m + 1 : Nat) : Int) := by omega
        have em : IntKind.i64.wrap (((m + 1 : Nat) : Int) - 1) = (m : Int) := (IntWalk.i64_in _ (by omega)).trans (by omega)
        have hmm : (m : Int) < (es.length : Int) := by omega
        obtain ⟨g', off', pp', c2, hga, m0, m1, m2, _⟩ := (HE.out.later HB2.out).at hx
        simp only [Option.some.injEq, Addr.mk.injEq, and_true] at hga
        obtain ⟨rfl, rfl⟩ := hga
        have HPb : Hid (0 ≤ xi ∧ xi ≤ 1099511627776) := hxb
        have HG : Hid (goOnR i t es = (okR xi xt ⟨yi, yt, yd⟩ && goR yi yt (es.drop (m + 1 + 1)))) := by
          show _ = _
          rw [hgo, HDr.out]
          rfl
        have HOK : Hid (okR xi xt ⟨yi, yt, yd⟩ = decide (yi = xi + 1 ∧ yi ≤ 1099511627776 ∧ max xt 1 ≤ yt ∧ yt ≤ 1099511627776 ∧ yd.length ≤ 8192)) := by show _ = _; rfl
        clear hS hx hxb hgo m2
        go_wp2_with fail
        generalize wr.alloc _ = W6 at *
        clear k0 k1 k2 m0 m1
        have HW := Lib.hid (wrap_pred (y := yi) (p := xi) HFy.out HPb.out)
        go_fit (near_yes (lo := 0) HPb.out W6)
        rintro e1 w' ⟨rfl, rfl⟩
        have x0 := HD.out.cells 0 _ rfl
        have x1 := HD.out.cells 1 _ rfl
        have x2 := HD.out.cells 2 _ rfl
        by_cases c1 : yi = xi + 1
        · have hw : IntKind.i64.wrap (yi - 1) = xi := by have h := HW.out; rw [decide_eq_true c1] at h; simpa using h
          have HC1 := Lib.hid c1
          clear c1
          by_cases c2 : xt ≤ yt
          · have b2 : ¬ (yt < xt) := by omega
            by_cases c3 : 1 ≤ yt ∧ yt ≤ 1099511627776
            · go_wp2_with fail
              go_fit (near_yes (lo := 1) c3 W6)
              rintro e2 w' ⟨rfl, rfl⟩
              by_cases c4 : 1 ≤ yi ∧ yi ≤ 1099511627776
              · go_wp2_with fail
                go_fit (near_yes (lo := 1) c4 W6)
                rintro e3 w' ⟨rfl, rfl⟩
                by_cases c5 : (yd.length : Int) ≤ 8192
                · have b5 : ¬ ((8192 : Int) < (yd.length : Int)) := by omega
                  have HS2 : Hid (OnS i t es ((m + 1) + 1) xi xt) := by
                    refine ⟨_, HY.out, ⟨by show 0 ≤ yi; omega, c4.2⟩, ?_⟩
                    rw [HG.out, HOK.out, decide_eq_true ⟨HC1.out, c4.2, by omega, c3.2, by omega⟩, Bool.true_and]
                  clear hw
                  go_wp2_with fail
                  exact ⟨⟨(m + 1) + 1, _, _, rfl, rfl, by go_num, hlt, HS2, HB2.out⟩, by simp only [intOf]; omega⟩
                · have b5 : (8192 : Int) < (yd.length : Int) := by omega
                  have HF : Hid (goOnR i t es = false) := by show _ = _; rw [HG.out, HOK.out, decide_eq_false (fun hc => c5 (by have := hc.2.2.2.2; omega)), Bool.false_and]
                  go_wp2_with fail
                  go_ret
                  exact ⟨by rw [HF.out]; first | done | rfl, HB2.out⟩
              · go_wp2_with fail
                go_fit (near_no (lo := 1) c4 W6)
                rintro e3 w' ⟨rfl, rfl⟩
                have HF : Hid (goOnR i t es = false) := by show _ = _; rw [HG.out, HOK.out, decide_eq_false (fun hc => c4 ⟨by have := HPb.out; have := HC1.out; omega, hc.2.1⟩), Bool.false_and]
                go_wp2_with fail
                go_ret
                exact ⟨by rw [HF.out]; first | done | rfl, HB2.out⟩
            · go_wp2_with fail
              go_fit (near_no (lo := 1) c3 W6)
              rintro e2 w' ⟨rfl, rfl⟩
              have HF : Hid (goOnR i t es = false) := by show _ = _; rw [HG.out, HOK.out, decide_eq_false (fun hc => c3 ⟨by have := hc.2.2.1; omega, hc.2.2.2.1⟩), Bool.false_and]
              go_wp2_with fail
              go_ret
              exact ⟨by rw [HF.out]; first | done | rfl, HB2.out⟩
          · have b2 : yt < xt := by omega
            have HF : Hid (goOnR i t es = false) := by show _ = _; rw [HG.out, HOK.out, decide_eq_false (fun hc => c2 (by have := hc.2.2.1; omega)), Bool.false_and]
            go_wp2_with fail
            go_ret
            exact ⟨by rw [HF.out]; first | done | rfl, HB2.out⟩
        · have hw0 : (IntKind.i64.wrap (yi - 1) != xi) = true := by rw [HW.out, decide_eq_false c1]; rfl
          obtain ⟨z, hz⟩ : ∃ z, IntKind.i64.wrap (yi - 1) = z := ⟨_, rfl⟩
          rw [hz] at hw0
          clear HW
          have HF : Hid (goOnR i t es = false) := by show _ = _; rw [HG.out, HOK.out, decide_eq_false (fun hc => c1 hc.1), Bool.false_and]
          go_wp2_with fail
          go_ret
          exact ⟨by rw [HF.out]; first | done | rfl, HB2.out⟩
    · obtain rfl : k = es.length := by omega
      have HF : Hid (goOnR i t es = true) := by
        show _ = _
        cases hn : es.length with
        | zero =>
          obtain rfl := List.eq_nil_of_length_eq_zero hn
          rfl
        | succ m =>
          have hS2 := hS.out
          rw [hn] at hS2
          obtain ⟨x, hx, hxb, hgo⟩ := hS2
          rw [hgo, ← hn, List.drop_length]; rfl
      go_wp2_with fail
      go_ret
      exact ⟨by rw [HF.out]; first | done | rfl, hB.out⟩
end Go.Proofs.Ytcmfnokpbgfioaa
