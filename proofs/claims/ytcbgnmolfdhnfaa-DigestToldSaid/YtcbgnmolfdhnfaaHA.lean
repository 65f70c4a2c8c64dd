/-
  A tree compared with one without pairs.
-/
import Derived.Test.YtcbgnmolfdhnfaaH9
namespace Go.Proofs.Ytcbgnmolfdhnfaa
set_option linter.unusedVariables false
set_option linter.unusedSimpArgs false
open Go.RowKit

def sumTo (f : Nat → Nat) : Nat → Nat
  | 0 => 0
  | i + 1 => sumTo f i + f i
def catTo {α : Type} (f : Nat → List α) : Nat → List α
  | 0 => []
  | i + 1 => catTo f i ++ f i
theorem sumTo_le {f : Nat → Nat} {b : Nat} (h : ∀ i, f i ≤ b) : ∀ i, sumTo f i ≤ i * b
  | 0 => by simp [sumTo]
  | i + 1 => by have := sumTo_le h i; have := h i; rw [Nat.add_mul, sumTo]; omega
theorem catTo_le {α : Type} {f : Nat → List α} {b : Nat} (h : ∀ i, (f i).length ≤ b) : ∀ i, (catTo f i).length ≤ i * b
  | 0 => by simp [catTo]
  | i + 1 => by have := catTo_le h i; have := h i; rw [Nat.add_mul, catTo, List.length_append]; omega
/-- What it takes to find all of a part. -/
noncomputable def Sd.uk (s : Sd) : Nat → List Pl → List ByteArray
  | 0, S => if s.tr 0 S = 0 then [] else S.map (·.1.2)
  | n + 1, S => if s.tr (n + 1) S = 0 then [] else catTo (fun i => s.uk n (sub n i S)) 16
noncomputable def Sd.ud (s : Sd) : Nat → List Pl → Nat
  | 0, _ => 0
  | n + 1, S => if s.tr (n + 1) S = 0 then 0 else 16 + sumTo (fun i => s.ud n (sub n i S)) 16
noncomputable def Sd.up (s : Sd) : Nat → List Pl → Nat
  | 0, S => if s.tr 0 S = 0 then 0 else S.length
  | n + 1, S => if s.tr (n + 1) S = 0 then 0 else sumTo (fun i => s.up n (sub n i S)) 16
theorem Sd.uk_le (s : Sd) (L : Nat) : ∀ (n : Nat) (S : List Pl), S.length ≤ L → (s.uk n S).length ≤ 16 ^ n * L
  | 0, S, h => by unfold Sd.uk; split <;> simp <;> omega
  | n + 1, S, h => by
    unfold Sd.uk
    split
    · simp
    · have := catTo_le (fun i => s.uk_le L n (sub n i S) (Nat.le_trans (sub_len _ _ _) h)) 16
      rw [Nat.pow_succ, Nat.mul_comm (16 ^ n) 16, Nat.mul_assoc]; exact this
theorem Sd.up_le (s : Sd) (L : Nat) : ∀ (n : Nat) (S : List Pl), S.length ≤ L → s.up n S ≤ 16 ^ n * L
  | 0, S, h => by unfold Sd.up; split <;> omega
  | n + 1, S, h => by
    unfold Sd.up
    split
    · simp
    · have := sumTo_le (fun i => s.up_le L n (sub n i S) (Nat.le_trans (sub_len _ _ _) h)) 16
      rw [Nat.pow_succ, Nat.mul_comm (16 ^ n) 16, Nat.mul_assoc]; exact this
theorem Sd.ud_le (s : Sd) : ∀ (n : Nat) (S : List Pl), s.ud n S + 2 ≤ 2 * 16 ^ n
  | 0, S => by simp [Sd.ud]
  | n + 1, S => by
    unfold Sd.ud
    have hp : 1 ≤ 16 ^ n := Nat.one_le_pow _ _ (by decide)
    rw [Nat.pow_succ]
    split
    · omega
    · have := sumTo_le (f := fun i => s.ud n (sub n i S)) (b := 2 * 16 ^ n - 2) (fun i => by have := s.ud_le n (sub n i S); show s.ud n (sub n i S) ≤ _; omega) 16
      omega
def CmpOk (s : Sd) (L n : Nat) : Prop := ∀ (w : World) (M sb dg pr : Nat) (kv : Value) (ks : List ByteArray) (q : Option Addr) (S : List Pl) (D : Int), D = 4 - (n : Int) → Sz w M sb dg pr kv ks → M ≤ w.heap.size → PtIn s w (fun k => k < M) n q S → S.length ≤ L →
  ks.length + 16 ^ n * L ≤ 100000000 → pr + 16 ^ n * L ≤ 100000000 → dg + 2 * 16 ^ n ≤ 100000000 →
  Calls Try.prog 56 #[.pointer (some ⟨sb, 0, none⟩), .pointer q, .pointer none, .int .i64 D] w fun e w' => ∃ kv', e = .returned (.tuple #[]) ∧ Sz w' M sb (dg + s.ud n S) (pr + s.up n S) kv' (ks ++ s.uk n S) ∧ Below M w w'
def PairsOf2 (A : Nat → Prop) (S : List Pl) (w : World) (e : Ending) (w' : World) : Prop := ∃ g off c, e = .returned (.slice (some ⟨g, off, none⟩) S.length c) ∧ w = w' ∧ A g ∧ PairsAt w g off S ∧ S.length ≤ c
set_option maxRecDepth 100000 in
set_option maxHeartbeats 800000 in
theorem pairs_some {s : Sd} {w : World} {A : Nat → Prop} {n : Nat} {q : Option Addr} {S : List Pl} (h : PtIn s w A n q S) (hS : S ≠ []) : Calls Try.prog 55 #[.pointer q] w (PairsOf2 A S w) := by
  obtain ⟨b, av, rfl, _, c0, c1, g, off, c, rfl, h1, h2, hg, hp⟩ := h.some hS
  have HI := Lib.hid (show A g ∧ PairsAt w g off S ∧ S.length ≤ c from ⟨hg, hp, h1⟩)
  clear h c0 h1 h2 hp hg
  go_enter Try.func55, Try.ntmps55
  go_wp2_with fail
  go_ret
  exact ⟨g, off, c, rfl, rfl, HI.out⟩
set_option maxRecDepth 100000 in
set_option maxHeartbeats 800000 in
theorem pairs_none (w : World) : Calls Try.prog 55 #[.pointer none] w fun e w' => e = .returned (.slice none 0 0) ∧ w = w' := by
  go_enter Try.func55, Try.ntmps55
  go_wp2_with fail
  go_ret
  exact ⟨rfl, rfl⟩
set_option maxRecDepth 100000 in
set_option maxHeartbeats 800000 in
theorem told_none (w : World) : Calls Try.prog 51 #[.pointer none] w fun e w' => e = .returned (.int .u64 0) ∧ w = w' := by
  go_enter Try.func51, Try.ntmps51
  go_wp2_with fail
  go_ret
  exact ⟨rfl, rfl⟩
set_option maxRecDepth 100000 in
set_option maxHeartbeats 800000 in
theorem kid_none (w : World) (i : Nat) : Calls Try.prog 66 #[.pointer none, .int .i64 i] w fun e w' => e = .returned (.pointer none) ∧ w = w' := by
  go_enter Try.func66, Try.ntmps66
  go_wp2_with fail
  go_ret
  exact ⟨rfl, rfl⟩

set_option maxRecDepth 100000 in
set_option maxHeartbeats 3200000 in
theorem compare_leaf {s : Sd} {L : Nat} (hL : L ≤ 100000) : CmpOk s L 0 := by
  intro w M sb dg pr kv ks q S D hD h hM hp hS hk hpr hdg
  obtain rfl : D = 4 := by omega
  rw [Nat.pow_zero, Nat.one_mul] at hk hpr
  have HBk := Lib.hid (show ks.length ≤ 100000000 ∧ pr ≤ 100000000 from ⟨by omega, by omega⟩)
  clear hk hpr hdg hD
  have H := Lib.hid h
  have HT := Lib.hid (told_any hp)
  have HP := Lib.hid hp
  have HM := Lib.hid hM
  by_cases hz : s.tr 0 S = 0
  · have hb : ((s.tr 0 S : Nat) : Int) = 0 := by omega
    have HU : Hid (s.ud 0 S = 0 ∧ s.up 0 S = 0 ∧ s.uk 0 S = []) := Lib.hid ⟨rfl, by simp [Sd.up, hz], by simp [Sd.uk, hz]⟩
    rw [hb] at HT
    clear h hp hz hb hM
    go_enter Try.func56, Try.ntmps56
    go_wp2_with fail
    go_fit HT.out
    rintro e w' ⟨rfl, rfl⟩
    go_wp2_with fail
    go_fit (told_none w)
    rintro e w' ⟨rfl, rfl⟩
    go_wp2_with fail
    (try simp only [Exit.inBlock, Exit.then])
    refine bodyPost_ret (results_none rfl _ _ _) rfl ?_
    refine ⟨kv, rfl, ?_, Below.refl _ _⟩
    rw [HU.out.1, HU.out.2.1, HU.out.2.2, List.append_nil]
    exact H.out
  · have hSn : S ≠ [] := fun e => hz (by rw [e]; exact s.tr_nil 0)
    have HU : Hid (s.ud 0 S = 0 ∧ s.up 0 S = S.length ∧ s.uk 0 S = S.map (·.1.2)) := Lib.hid ⟨rfl, by simp [Sd.up, hz], by simp [Sd.uk, hz]⟩
    have HPs := Lib.hid (pairs_some hp hSn)
    have hpos := List.length_pos_iff.2 hSn
    generalize s.tr 0 S = x at *
    have hx : ((x : Int) == 0) = false := by simpa using hz
    clear h hp hSn hz hM
    go_enter Try.func56, Try.ntmps56
    go_wp2_with fail
    go_fit HT.out
    rintro e w' ⟨rfl, rfl⟩
    go_wp2_with fail
    go_fit (told_none w)
    rintro e w' ⟨rfl, rfl⟩
    go_wp2_with fail
    go_fit HPs.out
    rintro e w' ⟨g, off, c, rfl, rfl, hg, hpa, hc⟩
    have HC := Lib.hid (comparePairs_none H.out HM.out hg hpa hc hpos (by omega) HBk.out.1 HBk.out.2)
    clear hg hpa hc
    go_wp2_with fail
    go_fit (pairs_none w)
    rintro e w' ⟨rfl, rfl⟩
    go_wp2_with fail
    go_fit HC.out
    rintro e w2 ⟨kv', rfl, hs, hb⟩
    have HS2 := Lib.hid hs
    have HB2 := Lib.hid hb
    clear hs hb
    go_wp2_with fail
    (try simp only [Exit.inBlock, Exit.then])
    refine bodyPost_ret (results_none rfl _ _ _) rfl ?_
    refine ⟨kv', rfl, ?_, HB2.out⟩
    rw [HU.out.1, HU.out.2.1, HU.out.2.2]
    exact HS2.out

set_option maxRecDepth 100000 in
set_option maxHeartbeats 3200000 in
theorem compare_step {s : Sd} {L n : Nat} (hn4 : n < 4) (IH : CmpOk s L n) : CmpOk s L (n + 1) := by
  intro w M sb dg pr kv ks q S D hD h hM hp hS hk hpr hdg
  have hD3 : D = 3 - (n : Int) := by omega
  have HD3 := Lib.hid hD3
  have hD0 : 0 ≤ D := by omega
  have hDle : D ≤ 3 := by omega
  have hDb : (D == 4) = false := by simp; omega
  have H := Lib.hid h
  have HT := Lib.hid (told_any hp)
  have HP := Lib.hid hp
  have HM := Lib.hid hM
  have HIH := Lib.hid IH
  have HSl := Lib.hid hS
  have hPP : 16 ^ (n + 1) * L = 16 * (16 ^ n * L) := by rw [Nat.pow_succ, Nat.mul_comm (16 ^ n) 16, Nat.mul_assoc]
  have hPQ : (16 : Nat) ^ (n + 1) = 16 * 16 ^ n := by rw [Nat.pow_succ, Nat.mul_comm]
  rw [hPP] at hk hpr
  rw [hPQ] at hdg
  have hQ1 : 1 ≤ 16 ^ n := Nat.one_le_pow _ _ (by decide)
  have HBk := Lib.hid (show ks.length + 16 * (16 ^ n * L) ≤ 100000000 ∧ pr + 16 * (16 ^ n * L) ≤ 100000000 ∧ dg + 2 * (16 * 16 ^ n) ≤ 100000000 ∧ 1 ≤ 16 ^ n from ⟨hk, hpr, hdg, hQ1⟩)
  have hdg2 : dg ≤ 100000000 := by omega
  by_cases hz : s.tr (n + 1) S = 0
  · have hb : ((s.tr (n + 1) S : Nat) : Int) = 0 := by omega
    have HU : Hid (s.ud (n + 1) S = 0 ∧ s.up (n + 1) S = 0 ∧ s.uk (n + 1) S = []) := Lib.hid ⟨by simp [Sd.ud, hz], by simp [Sd.up, hz], by simp [Sd.uk, hz]⟩
    rw [hb] at HT
    clear h hp hz hb hM hk hpr hdg hPP hPQ hQ1 hD hD3 hS IH
    go_enter Try.func56, Try.ntmps56
    go_wp2_with fail
    go_fit HT.out
    rintro e w' ⟨rfl, rfl⟩
    go_wp2_with fail
    go_fit (told_none w)
    rintro e w' ⟨rfl, rfl⟩
    go_wp2_with fail
    (try simp only [Exit.inBlock, Exit.then])
    refine bodyPost_ret (results_none rfl _ _ _) rfl ?_
    refine ⟨kv, rfl, ?_, Below.refl _ _⟩
    rw [HU.out.1, HU.out.2.1, HU.out.2.2, List.append_nil]
    exact H.out
  · have HU : Hid (s.ud (n + 1) S = 16 + sumTo (fun i => s.ud n (sub n i S)) 16 ∧ s.up (n + 1) S = sumTo (fun i => s.up n (sub n i S)) 16 ∧ s.uk (n + 1) S = catTo (fun i => s.uk n (sub n i S)) 16) := Lib.hid ⟨by simp [Sd.ud, hz], by simp [Sd.up, hz], by simp [Sd.uk, hz]⟩
    have Hd := Lib.hid (fun i => sumTo_le (f := fun i => s.ud n (sub n i S)) (b := 2 * 16 ^ n - 2) (fun i => by have := s.ud_le n (sub n i S); show s.ud n (sub n i S) ≤ _; omega) i)
    have Hp := Lib.hid (fun i => sumTo_le (f := fun i => s.up n (sub n i S)) (fun i => s.up_le L n (sub n i S) (Nat.le_trans (sub_len _ _ _) hS)) i)
    have Hk := Lib.hid (fun i => catTo_le (f := fun i => s.uk n (sub n i S)) (fun i => s.uk_le L n (sub n i S) (Nat.le_trans (sub_len _ _ _) hS)) i)
    generalize s.tr (n + 1) S = x at *
    have hx : ((x : Int) == 0) = false := by simpa using hz
    have d0 := h.d
    have z0 := h.z 0
    clear h hp hz hM hk hpr hdg hPP hPQ hQ1 hD hD3 hS IH
    go_enter Try.func56, Try.ntmps56
    go_wp2_with fail
    go_fit HT.out
    rintro e w' ⟨rfl, rfl⟩
    go_wp2_with fail
    go_fit (told_none w)
    rintro e w' ⟨rfl, rfl⟩
    go_upto_region 4 with fail
    have H1 : Hid (Sz (w.setCell ⟨sb, 0, none⟩ (.int .i64 ((dg : Int) + 16))) M sb (dg + 16 + sumTo (fun i => s.ud n (sub n i S)) 0) (pr + sumTo (fun i => s.up n (sub n i S)) 0) kv (ks ++ catTo (fun i => s.uk n (sub n i S)) 0)) := by
      have h := H.out.setd (dg + 16)
      refine Lib.hid ?_
      simpa [sumTo, catTo] using h
    have HB1 : Hid (Below M w (w.setCell ⟨sb, 0, none⟩ (.int .i64 ((dg : Int) + 16)))) := Lib.hid ((Below.refl _ _).setCell H.out.m _)
    clear d0 z0
    generalize w.setCell ⟨sb, 0, none⟩ (.int .i64 ((dg : Int) + 16)) = w1 at *
    go_wp2_with fail
    go_loopw [31] (fun v wr => ∃ (i : Nat) (kv' : Value), v = .int .i64 i ∧ i ≤ 16 ∧ Hid (Sz wr M sb (dg + 16 + sumTo (fun i => s.ud n (sub n i S)) i) (pr + sumTo (fun i => s.up n (sub n i S)) i) kv' (ks ++ catTo (fun i => s.uk n (sub n i S)) i)) ∧ Hid (Below M w wr)) (fun v _ => 16 - (intOf v).toNat)
    case atStart => exact ⟨0, _, rfl, by omega, H1, HB1⟩
    case round =>
      obtain ⟨i, kv', rfl, hi, hsz, hbw⟩ := hrel
      clear H1 HB1
      have ei : IntKind.i64.wrap ((i : Int) + 1) = (i : Int) + 1 := IntWalk.i64_in _ (by omega)
      have eD : IntKind.i64.wrap (D + 1) = D + 1 := IntWalk.i64_in _ (by omega)
      by_cases hlt : i < 16
      · have HPw : Hid (PtIn s wr (fun k => k < M) (n + 1) q S) := Lib.hid (HP.out.keep fun k hk hl => ⟨hk, hbw.out.block k hk⟩)
        have HKd := Lib.hid (kid_any HPw.out i hlt)
        go_wp2_with fail
        go_fit HKd.out
        rintro e w' ⟨r, rfl, rfl, hr⟩
        have HC : Hid (Calls Try.prog 56 #[.pointer (some ⟨sb, 0, none⟩), .pointer r, .pointer none, .int .i64 (D + 1)] wr fun e w' => ∃ kv'', e = .returned (.tuple #[]) ∧ Sz w' M sb (dg + 16 + sumTo (fun i => s.ud n (sub n i S)) (i + 1)) (pr + sumTo (fun i => s.up n (sub n i S)) (i + 1)) kv'' (ks ++ catTo (fun i => s.uk n (sub n i S)) (i + 1)) ∧ Below M wr w') := by
          have hb := HBk.out
          have h1 := Hd.out i
          have h2 := Hp.out i
          have h3 := Hk.out i
          have hm1 : i * (2 * 16 ^ n - 2) ≤ 15 * (2 * 16 ^ n - 2) := Nat.mul_le_mul_right _ (by omega)
          have hm2 : i * (16 ^ n * L) ≤ 15 * (16 ^ n * L) := Nat.mul_le_mul_right _ (by omega)
          obtain ⟨P, hP⟩ : ∃ P, P = 16 ^ n * L := ⟨_, rfl⟩
          rw [← hP] at h2 h3 hb hm2
          refine Lib.hid ((HIH.out wr M sb _ _ kv' _ r (sub n i S) (D + 1) (by have := HD3.out; omega) hsz.out (Nat.le_trans HM.out hbw.out.size) hr (Nat.le_trans (sub_len _ _ _) HSl.out) (by rw [List.length_append, ← hP]; omega) (by rw [← hP]; omega) (by omega)).mono fun e w' ⟨kv'', he, hs, hb⟩ => ⟨kv'', he, ?_, hb⟩)
          simp only [sumTo, catTo]
          rw [← Nat.add_assoc, ← Nat.add_assoc, ← List.append_assoc]
          exact hs
        clear hr HKd HPw
        go_wp2_with fail
        go_fit (kid_none wr i)
        rintro e w' ⟨rfl, rfl⟩
        go_wp2_with fail
        go_fit HC.out
        rintro e w3 ⟨kv'', rfl, hs3, hb3⟩
        have HS3 := Lib.hid hs3
        have HB3 : Hid (Below M w w3) := Lib.hid (hbw.out.trans hb3)
        clear hs3 hb3 HC hsz hbw
        go_wp2_with fail
        exact ⟨⟨i + 1, kv'', by push_cast; rfl, by omega, HS3, HB3⟩, by simp [intOf]; omega⟩
      · obtain rfl : i = 16 := by omega
        go_wp2_with fail
        go_end0
        refine ⟨kv', rfl, ?_, hbw.out⟩
        rw [HU.out.1, HU.out.2.1, HU.out.2.2, ← Nat.add_assoc]
        exact hsz.out
theorem compare_any {s : Sd} {L : Nat} (hL : L ≤ 100000) : ∀ n, n ≤ 4 → CmpOk s L n
  | 0, _ => compare_leaf hL
  | n + 1, h => compare_step (by omega) (compare_any hL n (by omega))
end Go.Proofs.Ytcbgnmolfdhnfaa
