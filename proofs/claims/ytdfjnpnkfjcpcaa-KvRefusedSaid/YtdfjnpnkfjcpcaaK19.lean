/-
  Walks: a map set to just so many keys.
-/
import Derived.Test.YtdfjnpnkfjcpcaaK7
import Derived.Test.YtdfjnpnkfjcpcaaTSE
namespace Go.Proofs.Ytdfjnpnkfjcpcaa
set_option linter.unusedVariables false
set_option linter.unusedSimpArgs false
open Go.RowKit

theorem plan_err (L : List Pr) (pos : Int) (conds ops : List Kop) : (plan L pos conds ops).2 ≠ 0 → (plan L pos conds ops).1 = [] ∧ doo L pos conds ops = L := by
  intro h
  refine ⟨?_, by unfold doo; rw [if_neg h]⟩
  unfold plan at h ⊢
  split
  · rename_i h1
    rw [if_pos h1] at h
    split
    · rename_i h2
      rw [if_pos h2] at h
      split
      · rfl
      · rename_i h3
        rw [if_neg h3] at h
        exact absurd rfl h
    · rfl
  · rfl
/-! what Set makes -/
def setE (l : List Kop) : Int := if 24 < l.length then 7 else if mayE l ≠ 0 then mayE l else if l.all (·.has) = true then 0 else 61
def oprs (l : List Kop) : List Pr := l.map fun o => (o.key, o.val)
def setL (L : List Pr) (l : List Kop) : List Pr := if setE l = 0 then un [] (oprs l) else L
theorem oprs_step {l : List Kop} {i : Nat} {o : Kop} (h : l[i]? = some o) : oprs (l.take (i + 1)) = oprs (l.take i) ++ [(o.key, o.val)] := by
  unfold oprs
  rw [List.take_add_one, h]; simp
theorem Of_rw {w w0 : World} {v : Value} {xs : List Pr} (h : Rw prL 87 w0 w v xs) (hn : xs.length = 0 → v = .slice none 0 0) (hl : xs.length ≤ 1000000) : Calls Try.prog 55 #[v] w (Grows w (Ts.Built (un [] xs))) := by
  by_cases hx : xs.length = 0
  · rw [hn hx]
    obtain rfl := List.eq_nil_of_length_eq_zero hx
    exact Ts.Of_none w
  · have hown : w.ownsRow w0.heap.size 87 2 v xs.length (prs xs) := by have := h.own; rw [prL_all] at this; exact this
    rcases hown.2 with ⟨_, h0⟩ | ⟨g, cap, cur, rfl, _⟩
    · omega
    · have := Ts.Of_big (c := cap) (Ts.pairs_of_row hown).pairs rfl (by omega) hl
      rw [Ts.dd_un] at this
      exact this
theorem infoPairS : (Try.prog.info? 87).map (fun i => (i.zero, i.size, i.bytes)) = some (some (.agg #[.string ByteArray.empty, .string ByteArray.empty]), 2, 32) := by kernel_rfl
theorem kd_boxS (w : World) (cs : Array Value) (t : TypeId) (j : Nat) (v : Value) (h : cs[j]? = some v) : (w.alloc (.cells cs t)).cell? ⟨w.heap.size, j, none⟩ = some v := by rw [World.cell?_alloc_at _ _ _ _ rfl, h]
def SetP (b : Nat) (L : List Pr) (l : List Kop) (w : World) (e : Ending) (w' : World) : Prop := e = .returned (.int .i64 (setE l)) ∧ Mp w' b (setL L l) ∧ w.grownBy w' (some b)
theorem SetP.no {b : Nat} {L : List Pr} {l : List Kop} {w w' : World} {n : Int} (hn : setE l = n) (h0 : n ≠ 0) (hm : Mp w b L) (hb : Below w.heap.size w w') : SetP b L l w (.returned (.int .i64 n)) w' :=
  ⟨by rw [hn], by unfold setL; rw [hn, if_neg h0]; exact hm.below hb, grown_of_below hb _⟩
theorem setE_in {l : List Kop} (h1 : l.length ≤ 24) (h2 : mayE l = 0) : setE l = if l.all (·.has) = true then 0 else 61 := by
  unfold setE
  rw [if_neg (by omega), if_neg (by simp [h2])]
theorem all_has {l : List Kop} {i : Nat} {o : Kop} (h : l[i]? = some o) : (l.take (i + 1)).all (·.has) = ((l.take i).all (·.has) && o.has) := by
  rw [List.take_add_one, h]; simp
set_option maxRecDepth 100000 in
set_option maxHeartbeats 6400000 in
theorem Set_mp {w : World} {b : Nat} {L : List Pr} {v : Value} {l : List Kop} (h : Mp w b L) (ho : opL.In w v l) (so : Small l) (lo : l.length ≤ 1000000) :
    Calls Try.prog 19 #[.pointer (some ⟨b, 0, none⟩), v] w (SetP b L l w) := by
  have HMd := Lib.hid (made_mp h)
  have HM := Lib.hid h
  have HD := Lib.hid ho
  obtain ⟨a, c, rfl, hc1, hc2⟩ := ho.slice
  have HMay := Lib.hid (may_any ho so (by omega))
  unfold MayP at HMay
  clear h ho so
  by_cases h24 : l.length ≤ 24
  · have hI24 : ¬ ((24 : Int) < ((l.length : Nat) : Int)) := by omega
    have HE := Lib.hid (setE_in (l := l) h24)
    generalize hmay : mayE l = n at *
    by_cases hn : n = 0
    · subst hn
      have HE0 := Lib.hid (HE.out rfl)
      clear HE
      have HE := HE0
      clear HE0 hmay
      go_enter Try.func19, Try.ntmps19
      go_wp2_with fail
      go_fit HMd.out
      rintro e w' ⟨rfl, rfl⟩
      go_wp2_with fail
      go_fit HMay.out
      rintro e w1 ⟨rfl, hb1⟩
      have HB1 := Lib.hid hb1
      clear hb1 HMay HMd
      go_wp2_with fail
      go_loopw [6, 22] (fun u v wr => ∃ (i : Nat), v = .int .i64 i ∧ i ≤ l.length ∧ Hid (Rw prL 87 w1 wr u (oprs (l.take i))) ∧ Hid (i = 0 → u = .slice none 0 0) ∧ Hid ((l.take i).all (·.has) = true))
        (fun _ v _ => l.length - (intOf v).toNat)
      case atStart => exact ⟨0, rfl, Nat.zero_le _, Rw.nil w1, fun _ => rfl, rfl⟩
      case round =>
        obtain ⟨i, rfl, hin, hR, hZ, hA⟩ := hrel
        have ei : IntKind.i64.wrap ((i : Int) + 1) = (i : Int) + 1 := IntWalk.i64_in _ (by omega)
        obtain ⟨ua, uc, hu, _, _⟩ := hR.out.slice
        have Hln : Hid ((oprs (l.take i)).length = i) := by show _ = _; unfold oprs; rw [List.length_map, List.length_take]; omega
        subst hu
        by_cases hlt : i < l.length
        · obtain ⟨o, ho⟩ : ∃ o, l[i]? = some o := ⟨l[i], List.getElem?_eq_getElem hlt⟩
          obtain ⟨g, off, rfl, _, hcell⟩ := HD.out.cells ho
          have hbw : Below w.heap.size w wr := below_of HB1.out hR.out.grown
          have c0 : wr.cell? ⟨g, off + i * 3, none⟩ = some (.string o.key) := lay_later hbw (hcell 0 _ rfl)
          have c1 : wr.cell? ⟨g, off + i * 3 + 1, none⟩ = some (.bool o.has) := lay_later hbw (hcell 1 _ rfl)
          have c2 : wr.cell? ⟨g, off + i * 3 + 2, none⟩ = some (.string o.val) := lay_later hbw (hcell 2 _ rfl)
          have hI1 : (i : Int) < ((l.length : Nat) : Int) := by omega
          have hI0 : (0 : Int) ≤ (i : Int) := by omega
          have HSt := Lib.hid (oprs_step ho)
          have HAl := Lib.hid (all_has ho)
          have HO := Lib.hid ho
          have HRA := Lib.hid (hR.out.alloc (.cells #[.string o.key, .bool o.has, .string o.val] 37))
          have HC := Lib.hid (kd_boxS wr #[.string o.key, .bool o.has, .string o.val] 37)
          have HLe : Hid ((oprs (l.take i)).length + 1 ≤ 1073741825) := by show _ ≤ _; rw [Hln.out]; omega
          have HBw := Lib.hid hbw
          clear hcell ho hbw hR
          cases hh : o.has with
          | false =>
            have HF : Hid (setE l = 61) := by
              show _ = _
              rw [HE.out, if_neg]
              intro e
              have := List.all_eq_true.1 e o (List.mem_of_getElem? HO.out)
              rw [hh] at this; cases this
            rw [hh] at c1 HRA HC
            have hC1 := HC.out 1 _ rfl
            clear HE hA
            go_wp2_with fail
            go_ret
            exact SetP.no HF.out (by decide) HM.out (below_of HBw.out (lay_alloc _ _))
          | true =>
            have HA2 : Hid ((l.take (i + 1)).all (·.has) = true) := by show _ = _; rw [HAl.out, hA.out, hh]; rfl
            rw [hh] at c1 HRA HC
            have hC0 := HC.out 0 _ rfl
            have hC1 := HC.out 1 _ rfl
            have hC2 := HC.out 2 _ rfl
            have HN2 : Hid ((wr.alloc (.cells #[.string o.key, .bool true, .string o.val] 37)).heap.size = wr.heap.size + 1) := by show _ = _; simp
            have HZr := Lib.hid HRA.out.grown.size
            clear hA
            go_wp2_with (at_builtin; go_loud (refine wpList_pushJ rfl _ _ 85 87 _ 2 32 rfl Try.underlying85 infoPairS rfl (by decide) w1.heap.size _ _ _ rfl HRA.out.own #[.string o.key, .string o.val] rfl (by simp [Value.oneCell']) (wr.heap.size + 1) rfl HN2.out HLe.out (by decide) HZr.out ?_; intro g2 cap2 w2 hown2 hg2 hat2 hlt2; have HR2 := Lib.hid (Rw.push (I := prL) (o.key, o.val) HRA.out hown2 hg2); clear hown2 hg2 hat2 hlt2))
            have HR3 : Hid (Rw prL 87 w1 w2 (.slice (some ⟨g2, 0, none⟩) ((oprs (l.take i)).length + 1) cap2) (oprs (l.take (i + 1)))) := by show Rw _ _ _ _ _ _; rw [HSt.out]; exact HR2.out
            have HZ3 : Hid (i + 1 = 0 → Value.slice (some ⟨g2, 0, none⟩) ((oprs (l.take i)).length + 1) cap2 = .slice none 0 0) := fun h => by omega
            exact ⟨⟨i + 1, by simp, hlt, HR3, HZ3, HA2⟩, by show l.length - ((i : Int) + 1).toNat < l.length - ((i : Int)).toNat; omega⟩
        · obtain rfl : i = l.length := by omega
          have hAl := hA.out
          rw [List.take_length] at hR hAl Hln hZ
          have HS0 : Hid (setE l = 0) := by show _ = _; rw [HE.out, if_pos hAl]
          have HSL : Hid (setL L l = un [] (oprs l)) := by show _ = _; unfold setL; rw [HS0.out, if_pos rfl]
          have HOf := Lib.hid (Of_rw hR.out (fun h => hZ.out (by rw [← Hln.out]; exact h)) (by rw [Hln.out]; omega))
          have HMr := Lib.hid (HM.out.below (below_of HB1.out hR.out.grown))
          have HBr := Lib.hid (below_of HB1.out hR.out.grown)
          clear hA hAl HE hR hZ
          go_wp2_with fail
          go_fit HOf.out
          rintro e w3 ⟨tb, t, rfl, hq, ht, hb3⟩
          have HM3 := HMr.out.below hb3
          have HMS := Lib.hid (HM3.set ht hq.1 hq.2.1 (un_sorted (oprs l) (a := []) trivial))
          have HB3 := Lib.hid (below_of HBr.out hb3)
          obtain ⟨_, _, q0, f0, _⟩ := HM3.cell
          clear hq ht hb3 HM3 HOf
          go_wp2_with fail
          go_ret
          exact ⟨by rw [HS0.out]; rfl, by rw [HSL.out]; exact HMS.out, grown_then (grown_of_below HB3.out (some b)) grown_put⟩
    · have HF : Hid (setE l = n) := by show _ = _; unfold setE; rw [if_neg (by omega), if_pos (by rw [hmay]; exact hn), hmay]
      have hn1 : (n == 0) = false := by simpa using hn
      clear HE hmay
      go_enter Try.func19, Try.ntmps19
      go_wp2_with fail
      go_fit HMd.out
      rintro e w' ⟨rfl, rfl⟩
      go_wp2_with fail
      go_fit HMay.out
      rintro e w1 ⟨rfl, hb1⟩
      have HB1 := Lib.hid hb1
      clear hb1 HMay HMd
      go_wp2_with fail
      go_ret
      exact SetP.no HF.out hn HM.out HB1.out
  · have hI24 : ((24 : Int) < ((l.length : Nat) : Int)) := by omega
    have HF : Hid (setE l = 7) := by show _ = _; unfold setE; rw [if_pos (by omega)]
    clear HMay
    go_enter Try.func19, Try.ntmps19
    go_wp2_with fail
    go_fit HMd.out
    rintro e w' ⟨rfl, rfl⟩
    go_wp2_with fail
    go_ret
    exact SetP.no HF.out (by decide) HM.out (Below.refl _ _)
end Go.Proofs.Ytdfjnpnkfjcpcaa
