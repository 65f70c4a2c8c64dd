/-
  rows.From; the document's From, of a log that may be.
-/
import Derived.Test.YtcmfnokpbgfioaaRi
import Derived.Lib.MinMax
namespace Go.Proofs.Ytcmfnokpbgfioaa
set_option linter.unusedVariables false
set_option linter.unusedSimpArgs false
open Go.RowKit

def fromL (i t : Int) (es : List Er) (x m : Int) : List Er := if okL i t es && decide (i < x) then (es.drop (x - i - 1).toNat).take m.toNat else []
theorem fromL_far {i t x m : Int} {es : List Er} (h : rowB i es.length x = false) : fromL i t es x m = [] := by
  unfold fromL
  split
  · rename_i hb
    simp only [Bool.and_eq_true, decide_eq_true_eq] at hb
    unfold rowB at h
    simp only [decide_eq_false_iff_not] at h
    rw [List.drop_eq_nil_of_le (by omega)]
    simp
  · rfl
theorem fromL_none {i t x m : Int} {es : List Er} (h : m < 1) : fromL i t es x m = [] := by
  unfold fromL
  split
  · rw [show m.toNat = 0 by omega]; simp
  · rfl
theorem fromL_some {i t x m : Int} {es : List Er} {k q : Nat} (hok : okL i t es = true) (hx : x = i + k + 1) (hq : q = min m.toNat (es.length - k)) : fromL i t es x m = (es.drop k).take q := by
  unfold fromL
  rw [hok, decide_eq_true (by omega), show (x - i - 1).toNat = k by omega]
  simp only [Bool.and_self, if_true]
  rw [hq, List.take_eq_take_min, List.length_drop]

set_option maxRecDepth 100000 in
set_option maxHeartbeats 6400000 in
theorem From_any {w : World} {v : Value} {es : List Er} (h : EIn w v es) (i t x m : Int) (l1 : es.length ≤ 50000) : Calls Try.prog 18 #[.agg #[.int .i64 i, .int .i64 t, v], .int .i64 x, .int .i64 m] w (OwnP (fromL i t es x m) w) := by
  obtain ⟨a, c, rfl, _, _⟩ := h.slice
  have hal := lay_alloc w (.cells #[.int .i64 i, .int .i64 t, .slice a es.length c] 24)
  have HB0 := Lib.hid hal
  have HE0 := Lib.hid (h.later hal)
  have HK := Lib.hid (known_any (h.later hal) i t)
  clear hal h
  cases hok : okL i t es with
  | false =>
    have HR : Hid (fromL i t es x m = []) := by show _ = _; unfold fromL; rw [hok]; rfl
    rw [hok] at HK
    go_enter Try.func18, Try.ntmps18
    go_wp2_with fail
    go_fit HK.out
    rintro e w1 ⟨rfl, hb⟩
    have hal := lay_alloc w1 (.cells #[.int .i64 i, .int .i64 t, .slice a es.length c] 63)
    have HB1 := Lib.hid ((HB0.out.trans (hb.mono HB0.out.size)).trans (hal.mono (HB0.out.trans (hb.mono HB0.out.size)).size))
    clear hb hal HB0 HE0 HK
    go_wp2_with fail
    go_ret
    exact ⟨_, rfl, by rw [HR.out]; exact EInB.nil _ _, HB1.out⟩
  | true =>
    have hi : 0 ≤ i ∧ i + es.length ≤ 1099511627776 := ⟨(okL_iff.1 hok).1.1, okL_end hok⟩
    have HI := Lib.hid hi
    have HS := Lib.hid (goR_short (okL_iff.1 hok).2.2)
    have HOK := Lib.hid hok
    rw [hok] at HK
    clear hok
    go_enter Try.func18, Try.ntmps18
    go_wp2_with fail
    go_fit HK.out
    rintro e w1 ⟨rfl, hb⟩
    have HV := Lib.hid (Kv.new (i := i) (t := t) (HE0.out.later hb) (HB0.out.trans (hb.mono HB0.out.size)) 63)
    clear hb HE0 HB0 HK
    go_wp2_with fail
    generalize w1.alloc _ = W at *
    have HRo := Lib.hid (rowed_any W i t a es.length c x hi)
    cases hro : rowB i es.length x with
    | false =>
      have HR : Hid (fromL i t es x m = []) := fromL_far hro
      rw [hro] at HRo
      have d0 := HV.out.d0
      have d1 := HV.out.d1
      have d2 := HV.out.d2
      go_wp2_with fail
      go_fit HRo.out
      rintro e w2 ⟨rfl, hb⟩
      have HV2 := Lib.hid (HV.out.later hb)
      clear hb HV HRo d0 d1 d2
      go_wp2_with fail
      go_ret
      exact ⟨_, rfl, by rw [HR.out]; exact EInB.nil _ _, HV2.out.b⟩
    | true =>
      have hx : i < x ∧ x ≤ i + es.length := by unfold rowB at hro; simpa using hro
      rw [hro] at HRo
      have d0 := HV.out.d0
      have d1 := HV.out.d1
      have d2 := HV.out.d2
      clear hro
      by_cases hm : m < 1
      · have HR : Hid (fromL i t es x m = []) := fromL_none hm
        go_wp2_with fail
        go_fit HRo.out
        rintro e w2 ⟨rfl, hb⟩
        have HV2 := Lib.hid (HV.out.later hb)
        clear hb HV HRo d0 d1 d2
        go_wp2_with fail
        go_ret
        exact ⟨_, rfl, by rw [HR.out]; exact EInB.nil _ _, HV2.out.b⟩
      · obtain ⟨k, hk⟩ : ∃ k : Nat, x = i + (k : Int) + 1 := ⟨(x - i - 1).toNat, by omega⟩
        obtain ⟨q, hq⟩ : ∃ q : Nat, q = min m.toNat (es.length - k) := ⟨_, rfl⟩
        have HR : Hid (fromL i t es x m = (es.drop k).take q) := fromL_some HOK.out hk hq
        have hkl : k ≤ es.length := by omega
        have ew : IntKind.i64.wrap (x - 1) = i + k := by rw [hk]; rw [show i + (k : Int) + 1 - 1 = i + k by omega]; exact IntWalk.i64_in _ (by omega)
        have HQ : Hid (q ≤ (es.drop k).length ∧ (min m ((es.drop k).length : Int)) = (q : Int)) := by show _ ∧ _; rw [List.length_drop]; omega
        clear hk hq hx
        go_wp2_with fail
        go_fit HRo.out
        rintro e w2 ⟨rfl, hb⟩
        have HV2 := Lib.hid (HV.out.later hb)
        clear hb HV HRo d0 d1 d2
        have d0 := HV2.out.d0
        have d1 := HV2.out.d1
        have d2 := HV2.out.d2
        have HBe := Lib.hid (behind_any HV2.out.e i t k hkl hi)
        go_wp2_with fail
        go_fit HBe.out
        rintro e w3 ⟨u3, rfl, hu3, hb⟩
        have HV3 := Lib.hid (HV2.out.later hb)
        obtain ⟨a3, c3, rfl, _, _⟩ := hu3.slice
        have HO := Lib.hid (own_any (hu3.take q HQ.out.1) (by rw [List.length_take]; have := HQ.out.1; rw [List.length_drop] at this; omega) (fun y hy => HS.out y (List.mem_of_mem_drop (List.mem_of_mem_take hy))))
        generalize (es.drop k).length = N at *
        have hmn : ∀ ts ty W, (Builtin.min_ ts ty #[.int .i64 m, .int .i64 (N : Int)]).run Try.prog W = .ok (.int .i64 (q : Int)) W := fun ts ty W => by
          rw [Go.Lib.run_min_ints, HQ.out.2]
        have hql : (q : Int) ≤ (N : Int) := by have := HQ.out.1; omega
        clear hb HV2 HBe hu3 d0 d1 d2 ew
        go_wp2_with fail
        go_fit HO.out
        rintro e w4 ⟨v4, rfl, hv4, hb⟩
        have HB4 := Lib.hid (HV3.out.b.trans (hb.mono HV3.out.b.size))
        have HE4 := Lib.hid (hv4.keep (B' := w.heap.size) HV3.out.b.size (Nat.le_refl _) (fun _ _ _ => rfl))
        clear hb hv4 HO
        go_wp2_with fail
        go_ret
        exact ⟨_, rfl, by rw [HR.out]; exact HE4.out, HB4.out⟩

/-- What the document's From has put so far. -/
def frN (b : Bool) (K M : Nat) (ls : List En) (k : Nat) : List En := (putN b K ls k).take M
theorem frN_len {b : Bool} {K M : Nat} {ls : List En} {k : Nat} (hk : k ≤ ls.length) : (frN b K M ls k).length ≤ k := by
  have := putN_len b K ls k hk
  unfold frN
  rw [List.length_take]; omega
theorem frN_skip {b : Bool} {K M : Nat} {ls : List En} {k : Nat} {x : En} (hx : ls[k]? = some x) (h : b = false ∨ k < K ∨ M ≤ (frN b K M ls k).length) : frN b K M ls (k + 1) = frN b K M ls k := by
  unfold frN at *
  by_cases e : b = false ∨ k < K
  · rw [putN_skip e]
  · have hb : b = true := by cases b <;> simp_all
    have hK : K ≤ k := by omega
    subst hb
    rw [putN_step hK hx]
    have hM : M ≤ (putN true K ls k).length := by
      rcases h with h | h | h
      · cases h
      · omega
      · rw [List.length_take] at h; omega
    rw [List.take_append_of_le_length hM]
theorem frN_step {K M : Nat} {ls : List En} {k : Nat} {x : En} (hx : ls[k]? = some x) (hK : K ≤ k) (h : (frN true K M ls k).length < M) : frN true K M ls (k + 1) = frN true K M ls k ++ [x] := by
  unfold frN at *
  rw [putN_step hK hx]
  rw [List.length_take] at h
  have hM : (putN true K ls k).length < M := by omega
  rw [List.take_of_length_le (by simp; omega), List.take_of_length_le (by omega)]

set_option maxRecDepth 100000 in
set_option maxHeartbeats 6400000 in
theorem rFrom_any {w : World} {v : Value} {es : List Er} (h : EIn w v es) (i t x m : Int) (hok : okL i t es = true) (hl : es.length ≤ 1000) : Calls Try.prog 21 #[.agg #[.int .i64 i, .int .i64 t, v], .int .i64 x, .int .i64 m] w fun e w' => ∃ v', e = .returned v' ∧ EIn w' v' (fromL i t es x m) ∧ Below w.heap.size w w' := by
  obtain ⟨ls, hls, hm⟩ := h.mat
  obtain ⟨a, c, rfl, _, _⟩ := h.slice
  have hV := Kv.new (w0 := w) (i := i) (t := t) h (Below.refl _ _) 27
  have HV := Lib.hid hV
  have HLs := Lib.hid (hls.later (lay_alloc w (.cells #[.int .i64 i, .int .i64 t, .slice a es.length c] 27)))
  have HM := Lib.hid (hm.below (lay_alloc w (.cells #[.int .i64 i, .int .i64 t, .slice a es.length c] 27)))
  have HNl : Hid (ls.length = es.length) := hm.len
  have HG := Lib.hid (okL_iff.1 hok).2.2
  have HI := Lib.hid (okL_iff.1 hok).1
  have HF : Hid (fromL i t es x m = if decide (i < x) then (es.drop (x - i - 1).toNat).take m.toNat else []) := by show _ = _; unfold fromL; rw [hok, Bool.true_and]
  have d2 := hV.d2
  have hs1 : w.heap.size < (w.alloc (.cells #[.int .i64 i, .int .i64 t, .slice a es.length c] 27)).heap.size := by simp
  have HS1 := Lib.hid hs1
  clear h hls hm hV hok hs1
  generalize hK : (x - i - 1).toNat = K at *
  generalize hMm : m.toNat = M at *
  have HKK := Lib.hid hK
  have HMM := Lib.hid hMm
  clear hK hMm
  go_enter Try.func21, Try.ntmps21
  go_wp2_with fail
  generalize w.alloc _ = W at *
  clear d2
  go_loopw [7, 13] (fun v' j wr => ∃ (k : Nat), j = .int .i64 k ∧ k ≤ es.length ∧ Hid (wr.ownsRow W.heap.size 44 enL.sz v' (frN (decide (i < x)) K M ls k).length (enL.all (frN (decide (i < x)) K M ls k))) ∧ Hid (Below W.heap.size W wr)) (fun _ j _ => es.length - (intOf j).toNat)
  case atStart => exact ⟨0, rfl, Nat.zero_le _, (by show World.ownsRow _ _ _ _ _ _ _; rw [show frN (decide (i < x)) K M ls 0 = [] from by simp [frN, putN]]; exact World.ownsRow_nil _ _ _ _), Below.refl _ _⟩
  case round =>
    obtain ⟨k, rfl, hk, hO, hB⟩ := hrel
    obtain ⟨va, vc, rfl⟩ := row_slice1 hO.out
    by_cases hlt : k < es.length
    · have hkl : k < ls.length := by have := HNl.out; omega
      have hg : ls[k]? = some (ls[k]'hkl) := List.getElem?_eq_getElem hkl
      have he : es[k]? = some es[k] := List.getElem?_eq_getElem hlt
      have hxi := (HM.out.each k _ _ hg he).1
      have hei := (goR_get HG.out he).1
      generalize es[k] = ye at *
      generalize hy : ls[k]'hkl = y at *
      obtain ⟨yi, yt, p, pn, pc⟩ := y
      obtain ⟨g, off, rfl, k0, k1, k2⟩ := en_at (HLs.out.later hB.out) hg
      have hkk : (k : Int) < (es.length : Int) := by omega
      have hyi : yi = i + k + 1 := by simp only at hxi; omega
      have hal := lay_alloc wr (.cells #[.int .i64 yi, .int .i64 yt, .slice p pn pc] 44)
      have HB2 := Lib.hid (hB.out.trans (hal.mono hB.out.size))
      have HO2 := Lib.hid (hO.out.alloc (.cells #[.int .i64 yi, .int .i64 yt, .slice p pn pc] 44))
      have HD := Lib.hid (DC.alloc wr [.int .i64 yi, .int .i64 yt, .slice p pn pc] 44)
      have HV2 := Lib.hid ((HV.out.later hB.out).later hal)
      have hfl := frN_len (b := decide (i < x)) (K := K) (M := M) (ls := ls) (k := k) (by omega)
      have HSKs : Hid ((decide (i < x) = false ∨ k < K ∨ M ≤ (frN (decide (i < x)) K M ls k).length) → frN (decide (i < x)) K M ls (k + 1) = frN (decide (i < x)) K M ls k) := fun h => frN_skip hg h
      have HSTs : Hid (decide (i < x) = true → K ≤ k → (frN (decide (i < x)) K M ls k).length < M → frN (decide (i < x)) K M ls (k + 1) = frN (decide (i < x)) K M ls k ++ [⟨yi, yt, (p, pn, pc)⟩]) := fun h1 h2 h3 => by rw [h1] at h3 ⊢; exact frN_step hg h2 h3
      generalize hN1 : frN (decide (i < x)) K M ls (k + 1) = P1 at *
      have HN1 := Lib.hid hN1
      generalize frN (decide (i < x)) K M ls k = P at *
      have HPL := Lib.hid hfl
      have HYI := Lib.hid hyi
      clear hg he hxi hei hy hal hO hfl hN1 hyi
      have d0 := HV2.out.d0
      have m0 := HD.out.cells 0 _ rfl
      by_cases c1 : x ≤ yi
      · by_cases c2 : i < x
        · by_cases c3 : (P.length : Int) < m
          · have HP := Lib.hid (HSTs.out (decide_eq_true c2) (by have := HKK.out; have := HYI.out; omega) (by have := HMM.out; omega))
            clear HSKs HSTs
            go_upto_region 6 with fail
            generalize wr.alloc _ = W6 at *
            have m1 := HD.out.cells 1 _ rfl
            have m2 := HD.out.cells 2 _ rfl
            clear k0 k1 k2 d0
            go_wp2_with (at_builtin; refine wpList_pushI rfl _ _ 22 44 _ 3 40 rfl Try.underlying22 Try.infoEn rfl (by decide) W.heap.size P.length _ (enL.all P) rfl HO2.out #[.int .i64 yi, .int .i64 yt, .slice p pn pc] rfl (enL.one ⟨yi, yt, (p, pn, pc)⟩) rfl (by have := HPL.out; omega) (by decide) HB2.out.size ?_; intro g4 c4 w4 hown hgrow hat2 hlt4; have HO4 := Lib.hid hown; have HB4 : Hid (Below W.heap.size W w4) := ⟨hgrow.os.trans HB2.out.os, hgrow.tape.trans HB2.out.tape, hgrow.output.trans HB2.out.output, Nat.le_trans HB2.out.size hgrow.size, fun j hj => (hgrow.block j (Nat.lt_of_lt_of_le hj HB2.out.size) (fun e => by have := (HO2.out.lt _ e.symm).1; omega)).trans (HB2.out.block j hj)⟩; clear hown hgrow hat2)
            exact ⟨⟨k + 1, by go_num, hlt, (by show World.ownsRow _ _ _ _ _ _ _; rw [HN1.out, HP.out, Lay.all_app, Lay.all_one, List.length_append]; exact HO4.out), HB4⟩, by show es.length - ((k : Int) + 1).toNat < es.length - (k : Int).toNat; omega⟩
          · have c3b := decide_eq_false c3
            have HP := Lib.hid (HSKs.out (.inr (.inr (by have := HMM.out; omega))))
            clear HSKs HSTs
            go_wp2_with fail
            exact ⟨⟨k + 1, by go_num, hlt, (by show World.ownsRow _ _ _ _ _ _ _; rw [HN1.out, HP.out]; exact HO2.out), HB2⟩, by show es.length - ((k : Int) + 1).toNat < es.length - (k : Int).toNat; omega⟩
        · have c2b := decide_eq_false c2
          have HP := Lib.hid (HSKs.out (.inl c2b))
          clear HSKs HSTs
          go_wp2_with fail
          exact ⟨⟨k + 1, by go_num, hlt, (by show World.ownsRow _ _ _ _ _ _ _; rw [HN1.out, HP.out]; exact HO2.out), HB2⟩, by show es.length - ((k : Int) + 1).toNat < es.length - (k : Int).toNat; omega⟩
      · have c1b := decide_eq_false c1
        have HP := Lib.hid (HSKs.out (by by_cases c2 : i < x; exact .inr (.inl (by have := HKK.out; have := HYI.out; omega)); exact .inl (decide_eq_false c2)))
        clear HSKs HSTs
        go_wp2_with fail
        exact ⟨⟨k + 1, by go_num, hlt, (by show World.ownsRow _ _ _ _ _ _ _; rw [HN1.out, HP.out]; exact HO2.out), HB2⟩, by show es.length - ((k : Int) + 1).toNat < es.length - (k : Int).toNat; omega⟩
    · obtain rfl : k = es.length := by omega
      have HR : Hid (Mat W [] (frN (decide (i < x)) K M ls es.length) (fromL i t es x m)) := by
        show Mat _ _ _ _
        rw [HF.out]
        unfold frN putN
        rw [← HNl.out, List.take_length]
        cases decide (i < x) with
        | false => exact ⟨by simp, fun k x e hx => by simp at hx⟩
        | true => exact (HM.out.drop K).take M
      have HE := Lib.hid ((HR.out.below hB.out).ein (Lay.in_own hO.out rfl))
      have HBB := Lib.hid ((HV.out.b).trans (hB.out.mono (by have := HS1.out; omega)))
      generalize (frN (decide (i < x)) K M ls es.length).length = q at *
      clear hO HR
      go_wp2_with fail
      go_ret
      exact ⟨.slice va q vc, rfl, HE.out, HBB.out⟩
end Go.Proofs.Ytcmfnokpbgfioaa
