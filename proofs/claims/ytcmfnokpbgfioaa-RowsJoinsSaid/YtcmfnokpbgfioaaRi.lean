/-
  The document's Cut, of a log that may be.
-/
import Derived.Test.YtcmfnokpbgfioaaRg
import Derived.Test.YtcmfnokpbgfioaaE5
import Derived.Test.YtcmfnokpbgfioaaA0
import Derived.Deep.CutRange
namespace Go.Proofs.Ytcmfnokpbgfioaa
set_option linter.unusedVariables false
set_option linter.unusedSimpArgs false
open Go.RowKit

theorem atL_some' {i t x y : Int} {es : List Er} (h : atL i t es x = some y) : ∃ k : Nat, x = i + k ∧ k ≤ es.length ∧ y = tm t es k := by
  unfold atL at h
  split at h
  · rename_i hx
    refine ⟨(x - i).toNat, by omega, by omega, ?_⟩
    cases h; rfl
  · cases h
theorem Mat.take {w : World} {L : List Nat} {ls : List En} {es : List Er} (h : Mat w L ls es) (n : Nat) : Mat w L (ls.take n) (es.take n) := by
  refine ⟨by rw [List.length_take, List.length_take, h.len], fun k x e hx he => ?_⟩
  rw [List.getElem?_take] at hx he
  split at hx
  · rename_i hk; rw [if_pos hk] at he; exact h.each k x e hx he
  · cases hx
theorem Mat.drop {w : World} {L : List Nat} {ls : List En} {es : List Er} (h : Mat w L ls es) (n : Nat) : Mat w L (ls.drop n) (es.drop n) := by
  refine ⟨by rw [List.length_drop, List.length_drop, h.len], fun k x e hx he => ?_⟩
  rw [List.getElem?_drop] at hx he
  exact h.each (n + k) x e hx he
/-- What has been put so far. -/
def putN (b : Bool) (K : Nat) (ls : List En) (k : Nat) : List En := if b then (ls.take k).drop K else []
theorem putN_len (b : Bool) (K : Nat) (ls : List En) (k : Nat) (hk : k ≤ ls.length) : (putN b K ls k).length ≤ k := by
  unfold putN
  split
  · rw [List.length_drop, List.length_take]; omega
  · simp
theorem putN_skip {b : Bool} {K : Nat} {ls : List En} {k : Nat} (h : b = false ∨ k < K) : putN b K ls (k + 1) = putN b K ls k := by
  unfold putN
  rcases h with rfl | h
  · rfl
  · cases b with
    | false => rfl
    | true =>
      rw [if_pos rfl, if_pos rfl, List.drop_eq_nil_of_le (by rw [List.length_take]; omega), List.drop_eq_nil_of_le (by rw [List.length_take]; omega)]
theorem putN_step {K : Nat} {ls : List En} {k : Nat} {x : En} (hK : K ≤ k) (hx : ls[k]? = some x) : putN true K ls (k + 1) = putN true K ls k ++ [x] := by
  unfold putN
  rw [if_pos rfl, if_pos rfl, List.take_add_one, hx]
  have hl : k < ls.length := (List.getElem?_eq_some_iff.1 hx).1
  rw [List.drop_append_of_le_length (by rw [List.length_take]; omega)]
  rfl
set_option maxRecDepth 100000 in
set_option maxHeartbeats 6400000 in
theorem rCut_any {w : World} {v : Value} {es : List Er} (h : EIn w v es) (i t x u : Int) (hok : okL i t es = true) (hl : es.length ≤ 1000) : Calls Try.prog 28 #[.agg #[.int .i64 i, .int .i64 t, v], .int .i64 x, .int .i64 u] w fun e w' => ∃ v', e = .returned (.agg #[.int .i64 x, .int .i64 u, v']) ∧ EIn w' v' (cutL i t es x u) ∧ Below w.heap.size w w' := by
  obtain ⟨ls, hls, hm⟩ := h.mat
  obtain ⟨a, c, rfl, _, _⟩ := h.slice
  have hV0 := Kv.new (w0 := w) (i := i) (t := t) h (Below.refl _ _) 27
  have a2 := lay_alloc (w.alloc (.cells #[.int .i64 i, .int .i64 t, .slice a es.length c] 27)) (.cells #[.int .i64 0, .int .i64 0, .slice none 0 0] 27)
  have a3 := lay_alloc ((w.alloc (.cells #[.int .i64 i, .int .i64 t, .slice a es.length c] 27)).alloc (.cells #[.int .i64 0, .int .i64 0, .slice none 0 0] 27)) (.cells #[.int .i64 x, .int .i64 u, .slice none 0 0] 27)
  have s1 : (w.alloc (.cells #[.int .i64 i, .int .i64 t, .slice a es.length c] 27)).heap.size = w.heap.size + 1 := by simp
  have s2 : ((w.alloc (.cells #[.int .i64 i, .int .i64 t, .slice a es.length c] 27)).alloc (.cells #[.int .i64 0, .int .i64 0, .slice none 0 0] 27)).heap.size = w.heap.size + 1 + 1 := by simp
  have s3 : (((w.alloc (.cells #[.int .i64 i, .int .i64 t, .slice a es.length c] 27)).alloc (.cells #[.int .i64 0, .int .i64 0, .slice none 0 0] 27)).alloc (.cells #[.int .i64 x, .int .i64 u, .slice none 0 0] 27)).heap.size = w.heap.size + 3 := by simp
  have hr := (DC.alloc (w.alloc (.cells #[.int .i64 i, .int .i64 t, .slice a es.length c] 27)) [.int .i64 0, .int .i64 0, .slice none 0 0] 27).below a3
  have ho := DC.alloc ((w.alloc (.cells #[.int .i64 i, .int .i64 t, .slice a es.length c] 27)).alloc (.cells #[.int .i64 0, .int .i64 0, .slice none 0 0] 27)) [.int .i64 x, .int .i64 u, .slice none 0 0] 27
  rw [s1] at hr
  rw [s2] at ho
  have hV := (hV0.later a2).later a3
  have HV := Lib.hid hV
  have HR := Lib.hid hr
  have HO := Lib.hid ho
  have HS := Lib.hid s3
  have HLs := Lib.hid hls
  have HM := Lib.hid hm
  have HAt := Lib.hid (At_any hV.e i t x hok)
  have HK := Lib.hid hok
  have d0 := hV.d0
  have d1 := hV.d1
  have d2 := hV.d2
  clear h hls hm hV0 hV a2 a3 s1 s2 s3 hr ho hok
  go_enter Try.func28, Try.ntmps28
  go_wp2_with fail
  generalize ((w.alloc _).alloc _).alloc _ = W at *
  go_fit HAt.out
  rintro e1 w1 ⟨rfl, hb⟩
  have HV1 := Lib.hid (HV.out.later hb)
  have HR1 := Lib.hid (HR.out.below hb)
  have HO1 := Lib.hid (HO.out.below hb)
  have HS1 : Hid (w.heap.size + 3 ≤ w1.heap.size) := by show _ ≤ _; rw [← HS.out]; exact hb.size
  clear hb HV HR HO HS HAt d0 d1 d2
  have d0 := HV1.out.d0
  have d1 := HV1.out.d1
  have d2 := HV1.out.d2
  go_wp2_with fail
  clear d0 d1 d2
  have HNl : Hid (ls.length = es.length) := HM.out.len
  cases hat : atL i t es x with
  | none =>
    have HCu : Hid (cutL i t es x u = []) := by show _ = _; unfold cutL; rw [hat]; simp
    clear hat
    simp only [Option.getD_none, Option.isSome_none]
    go_loopw [24] (fun j wr => ∃ k : Nat, j = .int .i64 k ∧ k ≤ es.length ∧ Hid (DC wr (w.heap.size + 1 + 1) [.int .i64 x, .int .i64 u, .slice none 0 0]) ∧ Hid (DC wr (w.heap.size + 1) [.int .i64 0, .int .i64 0, .slice none 0 0]) ∧ Hid (Below w.heap.size w wr)) (fun j _ => es.length - (intOf j).toNat)
    case atStart => exact ⟨0, rfl, Nat.zero_le _, HO1, HR1, HV1.out.b⟩
    case round =>
      obtain ⟨k, rfl, hk, hX, hR, hB⟩ := hrel
      by_cases hlt : k < es.length
      · have hkl : k < ls.length := by have := HM.out.len; omega
        have hg : ls[k]? = some (ls[k]'hkl) := List.getElem?_eq_getElem hkl
        have he : es[k]? = some es[k] := List.getElem?_eq_getElem hlt
        have hxi := (HM.out.each k _ _ hg he).1
        have hei := (goR_get (okL_iff.1 HK.out).2.2 he).1
        generalize es[k] = ye at *
        generalize hy : ls[k]'hkl = y at *
        obtain ⟨yi, yt, p, pn, pc⟩ := y
        obtain ⟨g, off, rfl, k0, k1, k2⟩ := en_at (HLs.out.later hB.out) hg
        have hkk : (k : Int) < (es.length : Int) := by omega
        have hyi : yi = i + k + 1 := by simp only at hxi; omega
        have hal := lay_alloc wr (.cells #[.int .i64 yi, .int .i64 yt, .slice p pn pc] 44)
        have HX2 := Lib.hid (hX.out.below hal)
        have HR2 := Lib.hid (hR.out.below hal)
        have HB2 := Lib.hid (hB.out.trans (hal.mono hB.out.size))
        clear hal hg he hxi hei hyi hy
        go_wp2_with fail
        exact ⟨⟨k + 1, by go_num, hlt, HX2, HR2, HB2⟩, by show es.length - ((k : Int) + 1).toNat < es.length - (k : Int).toNat; omega⟩
      · obtain rfl : k = es.length := by omega
        have z0 := hX.out.cells 0 _ rfl
        have z1 := hX.out.cells 1 _ rfl
        have z2 := hX.out.cells 2 _ rfl
        have y0 := hR.out.cells 0 _ rfl
        have y1 := hR.out.cells 1 _ rfl
        have y2 := hR.out.cells 2 _ rfl
        have f0 := hR.out.fz 0
        have f1 := hR.out.fz 1
        have f2 := hR.out.fz 2
        have hE : EIn (put3 wr (w.heap.size + 1) (.int .i64 x) (.int .i64 u) (.slice none 0 0)) (.slice none 0 0) (cutL i t es x u) := by rw [HCu.out]; exact EIn.nil _
        go_wp2_with fail
        change bodyPost _ _ _ _ _ (put3 wr (w.heap.size + 1) (.int .i64 x) (.int .i64 u) (.slice none 0 0))
        have KK := put3_dc (v0 := .int .i64 x) (v1 := .int .i64 u) (v2 := (.slice none 0 0)) hR.out
        have hB2 := put3_below (b := w.heap.size + 1) (.int .i64 x) (.int .i64 u) (.slice none 0 0) hB.out (Nat.le_succ _)
        have hE2 := hE
        have r0 := KK.cells 0 _ rfl
        have r1 := KK.cells 1 _ rfl
        have r2 := KK.cells 2 _ rfl
        clear z0 z1 z2 y0 y1 y2 f0 f1 f2 hE
        generalize put3 _ _ _ _ _ = w9 at *
        exact bodyPost_ret (v := .agg #[.int .i64 x, .int .i64 u, (.slice none 0 0)]) (by simp [results, Try.results28, go_sem, r0, r1, r2]) rfl ⟨_, rfl, hE2, hB2⟩
  | some yz =>
    simp only [Option.getD_some, Option.isSome_some]
    by_cases hyu : yz = u
    · subst hyu
      obtain ⟨K, hxk, hKl, hyk⟩ := atL_some' hat
      have HCu : Hid (cutL i t es x yz = es.drop K) := by show _ = _; unfold cutL; rw [HK.out, hat, show (x - i).toNat = K by omega]; simp
      have HXK := Lib.hid hxk
      clear hat hxk hyk
      go_loopw [24] (fun j wr => ∃ (k : Nat) (v' : Value), j = .int .i64 k ∧ k ≤ es.length ∧ Hid (DC wr (w.heap.size + 1 + 1) [.int .i64 x, .int .i64 yz, v']) ∧ Hid (DC wr (w.heap.size + 1) [.int .i64 0, .int .i64 0, .slice none 0 0]) ∧ Hid (wr.ownsRow (w.heap.size + 3) 44 enL.sz v' (putN true K ls k).length (enL.all (putN true K ls k))) ∧ Hid (Below w.heap.size w wr) ∧ Hid (w.heap.size + 3 ≤ wr.heap.size)) (fun j _ => es.length - (intOf j).toNat)
      case atStart => exact ⟨0, .slice none 0 0, rfl, Nat.zero_le _, HO1, HR1, (by show World.ownsRow _ _ _ _ _ _ _; rw [show putN true K ls 0 = [] from by simp [putN]]; exact World.ownsRow_nil _ _ _ _), HV1.out.b, HS1⟩
      case round =>
        obtain ⟨k, v', rfl, hk, hX, hR, hO, hB, hW⟩ := hrel
        obtain ⟨va, vc, rfl⟩ := row_slice1 hO.out
        by_cases hlt : k < es.length
        · skip
          have hkl : k < ls.length := by have := HM.out.len; omega
          have hg : ls[k]? = some (ls[k]'hkl) := List.getElem?_eq_getElem hkl
          have he : es[k]? = some es[k] := List.getElem?_eq_getElem hlt
          have hxi := (HM.out.each k _ _ hg he).1
          have hei := (goR_get (okL_iff.1 HK.out).2.2 he).1
          generalize es[k] = ye at *
          generalize hy : ls[k]'hkl = y at *
          obtain ⟨yi, yt, p, pn, pc⟩ := y
          obtain ⟨g, off, rfl, k0, k1, k2⟩ := en_at (HLs.out.later hB.out) hg
          have hkk : (k : Int) < (es.length : Int) := by omega
          have hyi : yi = i + k + 1 := by simp only at hxi; omega
          have hal := lay_alloc wr (.cells #[.int .i64 yi, .int .i64 yt, .slice p pn pc] 44)
          have HX2 := Lib.hid (hX.out.below hal)
          have HR2 := Lib.hid (hR.out.below hal)
          have HB2 := Lib.hid (hB.out.trans (hal.mono hB.out.size))
          have HO2 := Lib.hid (hO.out.alloc (.cells #[.int .i64 yi, .int .i64 yt, .slice p pn pc] 44))
          have HW2 : Hid (w.heap.size + 3 ≤ (wr.alloc (.cells #[.int .i64 yi, .int .i64 yt, .slice p pn pc] 44)).heap.size) := by show _ ≤ _; exact Nat.le_trans hW.out hal.size
          have HD := Lib.hid (DC.alloc wr [.int .i64 yi, .int .i64 yt, .slice p pn pc] 44)
          by_cases hkK : K ≤ k
          · have hgt : x < yi := by have := HXK.out; omega
            have HST := Lib.hid (putN_step hkK hg)
            have HPL : Hid ((putN true K ls k).length ≤ 1000) := by show _ ≤ _; have := putN_len true K ls k (by have := HNl.out; omega); omega
            clear hal hg he hxi hei hyi hy hkK
            go_upto_region 7 with fail
            generalize wr.alloc _ = W6 at *
            have m0 := HD.out.cells 0 _ rfl
            have m1 := HD.out.cells 1 _ rfl
            have m2 := HD.out.cells 2 _ rfl
            have x0 := HX2.out.cells 0 _ rfl
            have x1 := HX2.out.cells 1 _ rfl
            have x2 := HX2.out.cells 2 _ rfl
            clear k0 k1 k2 hX hR hO hB hW
            generalize hPd : putN true K ls k = P at *
            go_wp2_with (at_builtin; refine wpList_pushI rfl _ _ 22 44 _ 3 40 rfl Try.underlying22 Try.infoEn rfl (by decide) (w.heap.size + 3) P.length _ (enL.all P) rfl HO2.out #[.int .i64 yi, .int .i64 yt, .slice p pn pc] rfl (enL.one ⟨yi, yt, (p, pn, pc)⟩) rfl (by have := HPL.out; omega) (by decide) HW2.out ?_; intro g4 c4 w4 hown hgrow hat2 hlt4; have HO4 := Lib.hid hown; have HX4 := Lib.hid (HX2.out.keep hgrow.size (hgrow.block _ HX2.out.lt (fun e => by have := (HO2.out.lt _ e.symm).1; omega))); have HR4 := Lib.hid (HR2.out.keep hgrow.size (hgrow.block _ HR2.out.lt (fun e => by have := (HO2.out.lt _ e.symm).1; omega))); have HB4 : Hid (Below w.heap.size w w4) := ⟨hgrow.os.trans HB2.out.os, hgrow.tape.trans HB2.out.tape, hgrow.output.trans HB2.out.output, Nat.le_trans HB2.out.size hgrow.size, fun j hj => (hgrow.block j (Nat.lt_of_lt_of_le hj HB2.out.size) (fun e => by have := (HO2.out.lt _ e.symm).1; omega)).trans (HB2.out.block j hj)⟩; have y0' := HX4.out.cells 0 _ rfl; have y1' := HX4.out.cells 1 _ rfl; have y2' := HX4.out.cells 2 _ rfl; have yf := HX4.out.fz 2; clear hown hgrow hat2)
            have HX5 := Lib.hid (HX4.out.set 2 (.slice (some ⟨g4, 0, none⟩) (P.length + 1) c4) (by simp))
            have HR5 := Lib.hid (HR4.out.other (k := w.heap.size + 1 + 1) (o := 2) (x := .slice (some ⟨g4, 0, none⟩) (P.length + 1) c4) (by omega))
            have HB5 := Lib.hid (HB4.out.setCell (p := ⟨w.heap.size + 1 + 1, 2, none⟩) (show w.heap.size ≤ w.heap.size + 1 + 1 by omega) (.slice (some ⟨g4, 0, none⟩) (P.length + 1) c4))
            have HO5 := Lib.hid (ownsRow_setCell_below HO4.out (a := ⟨w.heap.size + 1 + 1, 2, none⟩) (show w.heap.size + 1 + 1 < w.heap.size + 3 by omega) (.slice (some ⟨g4, 0, none⟩) (P.length + 1) c4))
            have HW5 : Hid (w.heap.size + 3 ≤ (w4.setCell ⟨w.heap.size + 1 + 1, 2, none⟩ (.slice (some ⟨g4, 0, none⟩) (P.length + 1) c4)).heap.size) := by show _ ≤ _; simp only [World.setCell, Array.size_modify]; have := HW2.out; omega
            exact ⟨⟨k + 1, _, by go_num, hlt, HX5, HR5, (by show World.ownsRow _ _ _ _ _ _ _; rw [HST.out, Lay.all_app, Lay.all_one, List.length_append]; exact HO5.out), HB5, HW5⟩, by show es.length - ((k : Int) + 1).toNat < es.length - (k : Int).toNat; omega⟩
          · have hgt : ¬ (x < yi) := by have := HXK.out; omega
            have HSK := Lib.hid (putN_skip (b := true) (ls := ls) (K := K) (k := k) (.inr (by omega)))
            clear hal hg he hxi hei hyi hy
            go_wp2_with fail
            exact ⟨⟨k + 1, _, by go_num, hlt, HX2, HR2, (by show World.ownsRow _ _ _ _ _ _ _; rw [HSK.out]; exact HO2.out), HB2, HW2⟩, by show es.length - ((k : Int) + 1).toNat < es.length - (k : Int).toNat; omega⟩
        · obtain rfl : k = es.length := by omega
          generalize hq : (putN true K ls es.length).length = q at *
          have z0 := hX.out.cells 0 _ rfl
          have z1 := hX.out.cells 1 _ rfl
          have z2 := hX.out.cells 2 _ rfl
          have y0 := hR.out.cells 0 _ rfl
          have y1 := hR.out.cells 1 _ rfl
          have y2 := hR.out.cells 2 _ rfl
          have f0 := hR.out.fz 0
          have f1 := hR.out.fz 1
          have f2 := hR.out.fz 2
          have hE : EIn (put3 wr (w.heap.size + 1) (.int .i64 x) (.int .i64 yz) (.slice va q vc)) (.slice va q vc) (cutL i t es x yz) := by
            rw [HCu.out]
            have hp : putN true K ls es.length = ls.drop K := by unfold putN; rw [if_pos rfl, ← HNl.out, List.take_length]
            have hO2 := hO.out
            rw [hp] at hO2 hq
            have hin : EInB wr (w.heap.size + 3) (.slice va q vc) (es.drop K) → True := fun _ => trivial
            have hB3 := put3_below (b := w.heap.size + 1) (.int .i64 x) (.int .i64 yz) (.slice va q vc) hB.out (Nat.le_succ _)
            have hl2 : enL.In (put3 wr (w.heap.size + 1) (.int .i64 x) (.int .i64 yz) (.slice va q vc)) (.slice va q vc) (ls.drop K) :=
              Lay.in_own (ownsRow_setCell_below (ownsRow_setCell_below (ownsRow_setCell_below hO2 (a := ⟨w.heap.size + 1, 0, none⟩) (show w.heap.size + 1 < w.heap.size + 3 by omega) (.int .i64 x)) (a := ⟨w.heap.size + 1, 1, none⟩) (show w.heap.size + 1 < w.heap.size + 3 by omega) (.int .i64 yz)) (a := ⟨w.heap.size + 1, 2, none⟩) (show w.heap.size + 1 < w.heap.size + 3 by omega) (.slice va q vc)) hq.symm
            exact ((HM.out.drop K).below hB3).ein hl2
          go_wp2_with fail
          change bodyPost _ _ _ _ _ (put3 wr (w.heap.size + 1) (.int .i64 x) (.int .i64 yz) (.slice va q vc))
          have KK := put3_dc (v0 := .int .i64 x) (v1 := .int .i64 yz) (v2 := (.slice va q vc)) hR.out
          have hB2 := put3_below (b := w.heap.size + 1) (.int .i64 x) (.int .i64 yz) (.slice va q vc) hB.out (Nat.le_succ _)
          have hE2 := hE
          have r0 := KK.cells 0 _ rfl
          have r1 := KK.cells 1 _ rfl
          have r2 := KK.cells 2 _ rfl
          clear z0 z1 z2 y0 y1 y2 f0 f1 f2 hE
          generalize put3 _ _ _ _ _ = w9 at *
          exact bodyPost_ret (v := .agg #[.int .i64 x, .int .i64 yz, (.slice va q vc)]) (by simp [results, Try.results28, go_sem, r0, r1, r2]) rfl ⟨_, rfl, hE2, hB2⟩
    · have HCu : Hid (cutL i t es x u = []) := by
        show _ = _
        unfold cutL
        rw [hat, show (some yz == some u) = false from by simpa using hyu]
        simp
      have b1 : (yz == u) = false := by rw [beq_eq_false_iff_ne]; exact hyu
      clear hat hyu
      go_loopw [24] (fun j wr => ∃ k : Nat, j = .int .i64 k ∧ k ≤ es.length ∧ Hid (DC wr (w.heap.size + 1 + 1) [.int .i64 x, .int .i64 u, .slice none 0 0]) ∧ Hid (DC wr (w.heap.size + 1) [.int .i64 0, .int .i64 0, .slice none 0 0]) ∧ Hid (Below w.heap.size w wr)) (fun j _ => es.length - (intOf j).toNat)
      case atStart => exact ⟨0, rfl, Nat.zero_le _, HO1, HR1, HV1.out.b⟩
      case round =>
        obtain ⟨k, rfl, hk, hX, hR, hB⟩ := hrel
        by_cases hlt : k < es.length
        · have hkl : k < ls.length := by have := HM.out.len; omega
          have hg : ls[k]? = some (ls[k]'hkl) := List.getElem?_eq_getElem hkl
          have he : es[k]? = some es[k] := List.getElem?_eq_getElem hlt
          have hxi := (HM.out.each k _ _ hg he).1
          have hei := (goR_get (okL_iff.1 HK.out).2.2 he).1
          generalize es[k] = ye at *
          generalize hy : ls[k]'hkl = y at *
          obtain ⟨yi, yt, p, pn, pc⟩ := y
          obtain ⟨g, off, rfl, k0, k1, k2⟩ := en_at (HLs.out.later hB.out) hg
          have hkk : (k : Int) < (es.length : Int) := by omega
          have hyi : yi = i + k + 1 := by simp only at hxi; omega
          have hal := lay_alloc wr (.cells #[.int .i64 yi, .int .i64 yt, .slice p pn pc] 44)
          have HX2 := Lib.hid (hX.out.below hal)
          have HR2 := Lib.hid (hR.out.below hal)
          have HB2 := Lib.hid (hB.out.trans (hal.mono hB.out.size))
          clear hal hg he hxi hei hyi hy
          go_wp2_with fail
          exact ⟨⟨k + 1, by go_num, hlt, HX2, HR2, HB2⟩, by show es.length - ((k : Int) + 1).toNat < es.length - (k : Int).toNat; omega⟩
        · obtain rfl : k = es.length := by omega
          have z0 := hX.out.cells 0 _ rfl
          have z1 := hX.out.cells 1 _ rfl
          have z2 := hX.out.cells 2 _ rfl
          have y0 := hR.out.cells 0 _ rfl
          have y1 := hR.out.cells 1 _ rfl
          have y2 := hR.out.cells 2 _ rfl
          have f0 := hR.out.fz 0
          have f1 := hR.out.fz 1
          have f2 := hR.out.fz 2
          have hE : EIn (put3 wr (w.heap.size + 1) (.int .i64 x) (.int .i64 u) (.slice none 0 0)) (.slice none 0 0) (cutL i t es x u) := by rw [HCu.out]; exact EIn.nil _
          go_wp2_with fail
          change bodyPost _ _ _ _ _ (put3 wr (w.heap.size + 1) (.int .i64 x) (.int .i64 u) (.slice none 0 0))
          have KK := put3_dc (v0 := .int .i64 x) (v1 := .int .i64 u) (v2 := (.slice none 0 0)) hR.out
          have hB2 := put3_below (b := w.heap.size + 1) (.int .i64 x) (.int .i64 u) (.slice none 0 0) hB.out (Nat.le_succ _)
          have hE2 := hE
          have r0 := KK.cells 0 _ rfl
          have r1 := KK.cells 1 _ rfl
          have r2 := KK.cells 2 _ rfl
          clear z0 z1 z2 y0 y1 y2 f0 f1 f2 hE
          generalize put3 _ _ _ _ _ = w9 at *
          exact bodyPost_ret (v := .agg #[.int .i64 x, .int .i64 u, (.slice none 0 0)]) (by simp [results, Try.results28, go_sem, r0, r1, r2]) rfl ⟨_, rfl, hE2, hB2⟩
end Go.Proofs.Ytcmfnokpbgfioaa
