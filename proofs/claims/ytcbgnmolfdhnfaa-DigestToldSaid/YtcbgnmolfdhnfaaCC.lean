/-
  Two parts compared. (Written by gencc.py.)
-/
import Derived.Test.YtcbgnmolfdhnfaaCB
namespace Go.Proofs.Ytcbgnmolfdhnfaa
set_option linter.unusedVariables false
set_option linter.unusedSimpArgs false
open Go.RowKit

def Cm2 (s : Sd) (L n : Nat) : Prop := ∀ (w : World) (M sb dg pr : Nat) (kv : Value) (ks : List ByteArray) (qa qb : Option Addr) (S T : List Pl) (D : Int), D = 4 - (n : Int) → Sz w M sb dg pr kv ks → M ≤ w.heap.size → PtIn s w (fun k => k < M) n qa S → PtIn s w (fun k => k < M) n qb T → S.length + T.length ≤ L →
  ks.length + 16 ^ n * L ≤ 100000000 → pr + 16 ^ n * L ≤ 100000000 → dg + 2 * 16 ^ n ≤ 100000000 →
  Calls Try.prog 56 #[.pointer (some ⟨sb, 0, none⟩), .pointer qa, .pointer qb, .int .i64 D] w fun e w' => ∃ kv', e = .returned (.tuple #[]) ∧ Sz w' M sb (dg + s.vd n S T) (pr + s.vp n S T) kv' (ks ++ s.vk n S T) ∧ Below M w w'
def PairsSf (M : Nat) (S : List Pl) (w : World) (e : Ending) (w' : World) : Prop := ∃ v, e = .returned v ∧ w = w' ∧ Sf w M v S
theorem pairs_sf {s : Sd} {w : World} {M n : Nat} {q : Option Addr} {S : List Pl} (h : PtIn s w (fun k => k < M) n q S) : Calls Try.prog 55 #[.pointer q] w (PairsSf M S w) := by
  by_cases hS : S = []
  · subst hS
    obtain rfl := h.none_
    exact (pairs_none w).mono fun e w' ⟨he, hw⟩ => ⟨_, he, hw, ⟨none, 0, rfl, Nat.le_refl _, by decide, .inl rfl⟩⟩
  · obtain ⟨b, av, rfl, _, c0, c1, g, off, c, rfl, h1, h2, hg, hp⟩ := h.some hS
    have HI : Hid (Sf w M (.slice (some ⟨g, off, none⟩) S.length c) S) := Lib.hid ⟨_, c, rfl, h1, h2, .inr ⟨g, off, rfl, hg, hp⟩⟩
    clear h c0 h1 h2 hp hg
    go_enter Try.func55, Try.ntmps55
    go_wp2_with fail
    go_ret
    exact ⟨_, rfl, rfl, HI.out⟩

set_option maxRecDepth 100000 in
set_option maxHeartbeats 1600000 in
theorem compare_same {s : Sd} {n : Nat} {A B : Nat → Prop} {w : World} {sb : Nat} {qa qb : Option Addr} {S T : List Pl} {D : Int} (ha : PtIn s w A n qa S) (hb : PtIn s w B n qb T) (he : s.tr n S = s.tr n T) :
    Calls Try.prog 56 #[.pointer (some ⟨sb, 0, none⟩), .pointer qa, .pointer qb, .int .i64 D] w fun e w' => e = .returned (.tuple #[]) ∧ w = w' := by
  have HT := Lib.hid (told_any ha)
  have HU := Lib.hid (told_any hb)
  rw [← he] at HU
  generalize s.tr n S = x at *
  clear ha hb he
  go_enter Try.func56, Try.ntmps56
  go_wp2_with fail
  go_fit HT.out
  rintro e w' ⟨rfl, rfl⟩
  go_wp2_with fail
  go_fit HU.out
  rintro e w' ⟨rfl, rfl⟩
  go_wp2_with fail
  (try simp only [Exit.inBlock, Exit.then])
  refine bodyPost_ret (results_none rfl _ _ _) rfl ?_
  exact ⟨rfl, rfl⟩

set_option maxRecDepth 100000 in
set_option maxHeartbeats 3200000 in
theorem cm2_leaf {s : Sd} {L : Nat} (hL : L ≤ 200000) : Cm2 s L 0 := by
  intro w M sb dg pr kv ks qa qb S T D hD h hM hp hq hS hk hpr hdg
  obtain rfl : D = 4 := by omega
  clear hD
  rw [Nat.pow_zero, Nat.one_mul] at hk hpr
  by_cases hz : s.tr 0 S = s.tr 0 T
  · have HU := s.v_same hz
    refine (compare_same hp hq hz).mono fun e w' ⟨he, hw⟩ => ⟨kv, he, ?_, by rw [hw]; exact Below.refl _ _⟩
    rw [HU.1, HU.2.1, HU.2.2, List.append_nil, ← hw]
    exact h
  · have HU : Hid (s.vd 0 S T = 0 ∧ s.vp 0 S T = S.length + T.length ∧ s.vk 0 S T = mg S T) := Lib.hid ⟨rfl, by simp [Sd.vp, hz], by simp [Sd.vk, hz]⟩
    have H := Lib.hid h
    have HM := Lib.hid hM
    have HT := Lib.hid (told_any hp)
    have HV := Lib.hid (told_any hq)
    have HPs := Lib.hid (pairs_sf hp)
    have HQs := Lib.hid (pairs_sf hq)
    have HBk := Lib.hid (show S.length + T.length ≤ 200000 ∧ ks.length ≤ 100000000 ∧ pr ≤ 100000000 from ⟨by omega, by omega, by omega⟩)
    generalize s.tr 0 S = x at *
    generalize s.tr 0 T = y at *
    have hx : ((x : Int) == (y : Int)) = false := by simp; omega
    clear h hp hq hS hk hpr hdg hM hz
    go_enter Try.func56, Try.ntmps56
    go_wp2_with fail
    go_fit HT.out
    rintro e w' ⟨rfl, rfl⟩
    go_wp2_with fail
    go_fit HV.out
    rintro e w' ⟨rfl, rfl⟩
    go_wp2_with fail
    go_fit HPs.out
    rintro e w' ⟨u, rfl, rfl, hu⟩
    have HUu := Lib.hid hu
    obtain ⟨ua, uc, rfl⟩ := hu.slice
    clear hu
    go_wp2_with fail
    go_fit HQs.out
    rintro e w' ⟨v, rfl, rfl, hv⟩
    have HVv := Lib.hid hv
    obtain ⟨va, vc, rfl⟩ := hv.slice
    clear hv
    have HC := Lib.hid (comparePairs_any H.out HM.out HUu.out HVv.out HBk.out.1 HBk.out.2.1 HBk.out.2.2)
    go_wp2_with fail
    go_fit HC.out
    rintro e w2 ⟨kv', rfl, hs, hb⟩
    have HS2 := Lib.hid hs
    have HB2 := Lib.hid hb
    clear hs hb
    go_wp2_with fail
    (try simp only [Exit.inBlock, Exit.then])
    refine bodyPost_ret (results_none rfl _ _ _) rfl ?_
    refine ⟨kv', rfl, ?_, HB2.out⟩
    rw [HU.out.1, HU.out.2.1, HU.out.2.2]
    exact HS2.out

set_option maxRecDepth 100000 in
set_option maxHeartbeats 3200000 in
theorem cm2_step {s : Sd} {L n : Nat} (hn4 : n < 4) (IH : Cm2 s L n) : Cm2 s L (n + 1) := by
  intro w M sb dg pr kv ks qa qb S T D hD h hM hp hq hS hk hpr hdg
  by_cases hz : s.tr (n + 1) S = s.tr (n + 1) T
  · have HU := s.v_same hz
    refine (compare_same hp hq hz).mono fun e w' ⟨he, hw⟩ => ⟨kv, he, ?_, by rw [hw]; exact Below.refl _ _⟩
    rw [HU.1, HU.2.1, HU.2.2, List.append_nil, ← hw]
    exact h
  have hD3 : D = 3 - (n : Int) := by omega
  have HD3 := Lib.hid hD3
  have hD0 : 0 ≤ D := by omega
  have hDle : D ≤ 3 := by omega
  have hDb : (D == 4) = false := by simp; omega
  have H := Lib.hid h
  have HT := Lib.hid (told_any hp)
  have HV := Lib.hid (told_any hq)
  have HP := Lib.hid hp
  have HQ := Lib.hid hq
  have HM := Lib.hid hM
  have HIH := Lib.hid IH
  have HSl := Lib.hid hS
  have hPP : 16 ^ (n + 1) * L = 16 * (16 ^ n * L) := by rw [Nat.pow_succ, Nat.mul_comm (16 ^ n) 16, Nat.mul_assoc]
  have hPQ : (16 : Nat) ^ (n + 1) = 16 * 16 ^ n := by rw [Nat.pow_succ, Nat.mul_comm]
  rw [hPP] at hk hpr
  rw [hPQ] at hdg
  have hQ1 : 1 ≤ 16 ^ n := Nat.one_le_pow _ _ (by decide)
  have HBk := Lib.hid (show ks.length + 16 * (16 ^ n * L) ≤ 100000000 ∧ pr + 16 * (16 ^ n * L) ≤ 100000000 ∧ dg + 2 * (16 * 16 ^ n) ≤ 100000000 ∧ 1 ≤ 16 ^ n from ⟨hk, hpr, hdg, hQ1⟩)
  have hdg2 : dg ≤ 100000000 := by omega
  have HSs : Hid (∀ i, (sub n i S).length + (sub n i T).length ≤ L) := Lib.hid fun i => by have := sub_len n i S; have := sub_len n i T; omega
  have HU : Hid (s.vd (n + 1) S T = 16 + sumTo (fun i => s.vd n (sub n i S) (sub n i T)) 16 ∧ s.vp (n + 1) S T = sumTo (fun i => s.vp n (sub n i S) (sub n i T)) 16 ∧ s.vk (n + 1) S T = catTo (fun i => s.vk n (sub n i S) (sub n i T)) 16) := Lib.hid ⟨by simp [Sd.vd, hz], by simp [Sd.vp, hz], by simp [Sd.vk, hz]⟩
  have Hd := Lib.hid (fun i => sumTo_le (f := fun i => s.vd n (sub n i S) (sub n i T)) (b := 2 * 16 ^ n - 2) (fun i => by have := s.vd_le n (sub n i S) (sub n i T); show s.vd n (sub n i S) (sub n i T) ≤ _; omega) i)
  have Hp := Lib.hid (fun i => sumTo_le (f := fun i => s.vp n (sub n i S) (sub n i T)) (fun i => s.vp_le L n (sub n i S) (sub n i T) (HSs.out i)) i)
  have Hk := Lib.hid (fun i => catTo_le (f := fun i => s.vk n (sub n i S) (sub n i T)) (fun i => s.vk_le L n (sub n i S) (sub n i T) (HSs.out i)) i)
  generalize s.tr (n + 1) S = x at *
  generalize s.tr (n + 1) T = y at *
  have hx : ((x : Int) == (y : Int)) = false := by simp; omega
  have d0 := h.d
  have z0 := h.z 0
  clear h hp hq hz hM hk hpr hdg hPP hPQ hQ1 hD hD3 hS IH
  go_enter Try.func56, Try.ntmps56
  go_wp2_with fail
  go_fit HT.out
  rintro e w' ⟨rfl, rfl⟩
  go_wp2_with fail
  go_fit HV.out
  rintro e w' ⟨rfl, rfl⟩
  go_upto_region 4 with fail
  have H1 : Hid (Sz (w.setCell ⟨sb, 0, none⟩ (.int .i64 ((dg : Int) + 16))) M sb (dg + 16 + sumTo (fun i => s.vd n (sub n i S) (sub n i T)) 0) (pr + sumTo (fun i => s.vp n (sub n i S) (sub n i T)) 0) kv (ks ++ catTo (fun i => s.vk n (sub n i S) (sub n i T)) 0)) := by
    have h := H.out.setd (dg + 16)
    refine Lib.hid ?_
    simpa [sumTo, catTo] using h
  have HB1 : Hid (Below M w (w.setCell ⟨sb, 0, none⟩ (.int .i64 ((dg : Int) + 16)))) := Lib.hid ((Below.refl _ _).setCell H.out.m _)
  clear d0 z0
  generalize w.setCell ⟨sb, 0, none⟩ (.int .i64 ((dg : Int) + 16)) = w1 at *
  go_wp2_with fail
  go_loopw [31] (fun v wr => ∃ (i : Nat) (kv' : Value), v = .int .i64 i ∧ i ≤ 16 ∧ Hid (Sz wr M sb (dg + 16 + sumTo (fun i => s.vd n (sub n i S) (sub n i T)) i) (pr + sumTo (fun i => s.vp n (sub n i S) (sub n i T)) i) kv' (ks ++ catTo (fun i => s.vk n (sub n i S) (sub n i T)) i)) ∧ Hid (Below M w wr)) (fun v _ => 16 - (intOf v).toNat)
  case atStart => exact ⟨0, _, rfl, by omega, H1, HB1⟩
  case round =>
    obtain ⟨i, kv', rfl, hi, hsz, hbw⟩ := hrel
    clear H1 HB1
    have ei : IntKind.i64.wrap ((i : Int) + 1) = (i : Int) + 1 := IntWalk.i64_in _ (by omega)
    have eD : IntKind.i64.wrap (D + 1) = D + 1 := IntWalk.i64_in _ (by omega)
    by_cases hlt : i < 16
    · have HPw : Hid (PtIn s wr (fun k => k < M) (n + 1) qa S) := Lib.hid (HP.out.keep fun k hk hl => ⟨hk, hbw.out.block k hk⟩)
      have HQw : Hid (PtIn s wr (fun k => k < M) (n + 1) qb T) := Lib.hid (HQ.out.keep fun k hk hl => ⟨hk, hbw.out.block k hk⟩)
      have HKd := Lib.hid (kid_any HPw.out i hlt)
      have HKe := Lib.hid (kid_any HQw.out i hlt)
      go_wp2_with fail
      go_fit HKd.out
      rintro e w' ⟨r, rfl, rfl, hr⟩
      have HR := Lib.hid hr
      clear hr
      go_wp2_with fail
      go_fit HKe.out
      rintro e w' ⟨r2, rfl, rfl, hr2⟩
      have HC : Hid (Calls Try.prog 56 #[.pointer (some ⟨sb, 0, none⟩), .pointer r, .pointer r2, .int .i64 (D + 1)] wr fun e w' => ∃ kv'', e = .returned (.tuple #[]) ∧ Sz w' M sb (dg + 16 + sumTo (fun i => s.vd n (sub n i S) (sub n i T)) (i + 1)) (pr + sumTo (fun i => s.vp n (sub n i S) (sub n i T)) (i + 1)) kv'' (ks ++ catTo (fun i => s.vk n (sub n i S) (sub n i T)) (i + 1)) ∧ Below M wr w') := by
        have hb := HBk.out
        have h1 := Hd.out i
        have h2 := Hp.out i
        have h3 := Hk.out i
        have hm1 : i * (2 * 16 ^ n - 2) ≤ 15 * (2 * 16 ^ n - 2) := Nat.mul_le_mul_right _ (by omega)
        have hm2 : i * (16 ^ n * L) ≤ 15 * (16 ^ n * L) := Nat.mul_le_mul_right _ (by omega)
        obtain ⟨P, hP⟩ : ∃ P, P = 16 ^ n * L := ⟨_, rfl⟩
        rw [← hP] at h2 h3 hb hm2
        refine Lib.hid ((HIH.out wr M sb _ _ kv' _ r r2 (sub n i S) (sub n i T) (D + 1) (by have := HD3.out; omega) hsz.out (Nat.le_trans HM.out hbw.out.size) HR.out hr2 (HSs.out i) (by rw [List.length_append, ← hP]; omega) (by rw [← hP]; omega) (by omega)).mono fun e w' ⟨kv'', he, hs, hb⟩ => ⟨kv'', he, ?_, hb⟩)
        simp only [sumTo, catTo]
        rw [← Nat.add_assoc, ← Nat.add_assoc, ← List.append_assoc]
        exact hs
      clear hr2 HKd HKe HPw HQw HR
      go_wp2_with fail
      go_fit HC.out
      rintro e w3 ⟨kv'', rfl, hs3, hb3⟩
      have HS3 := Lib.hid hs3
      have HB3 : Hid (Below M w w3) := Lib.hid (hbw.out.trans hb3)
      clear hs3 hb3 HC hsz hbw
      go_wp2_with fail
      exact ⟨⟨i + 1, kv'', by push_cast; rfl, by omega, HS3, HB3⟩, by simp [intOf]; omega⟩
    · obtain rfl : i = 16 := by omega
      go_wp2_with fail
      go_end0
      refine ⟨kv', rfl, ?_, hbw.out⟩
      rw [HU.out.1, HU.out.2.1, HU.out.2.2, ← Nat.add_assoc]
      exact hsz.out
theorem cm2_any {s : Sd} {L : Nat} (hL : L ≤ 200000) : ∀ n, n ≤ 4 → Cm2 s L n
  | 0, _ => cm2_leaf hL
  | n + 1, h => cm2_step (by omega) (cm2_any hL n (by omega))
end Go.Proofs.Ytcbgnmolfdhnfaa
