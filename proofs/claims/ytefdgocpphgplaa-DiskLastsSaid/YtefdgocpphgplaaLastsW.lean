/-
  DiskLasts: the walk. (Written by gendl.py.)
-/
import Derived.Test.YtefdgocpphgplaaG17
import Derived.Deep.QuietTactic
import Derived.BigQuiet
namespace Go.Proofs.Ytefdgocpphgplaa
set_option linter.unusedVariables false
set_option linter.unusedSimpArgs false
open Go.RowKit

theorem below_drewN {B : Nat} {a w : World} (h : Below B a w) (n : Nat) : Below B a (w.drewN n) := ⟨h.os, h.tape, h.output, h.size, h.block⟩
theorem Touch.does {d : Ds} {f : Fc} {t0 t1 t2 : Bool} (h : Touch d f t0 t1 t2) (op i k t : Int) (xs : List Int) (h23 : opc op = 2 ∨ opc op = 3 → (i = 0 → t0 = true) ∧ (i = 1 → t1 = true)) (h4 : opc op = 4 → t2 = true) (h5 : ¬ (opc op = 5 ∨ opc op = 6 ∨ opc op = 7 ∨ opc op = 8)) : Touch (d.does op i k t xs).2 f t0 t1 t2 := by
  unfold Ds.does
  split
  · rename_i e; exact h.slot i xs (h23 (.inl e)).1 (h23 (.inl e)).2
  · split
    · rename_i e; exact h.slot i xs (h23 (.inr e)).1 (h23 (.inr e)).2
    · split
      · rename_i e; have := h4 e; subst this; exact h.clear
      · rw [if_neg (by omega), if_neg (by omega), if_neg (by omega), if_neg (by omega)]
        exact h.append xs

set_option maxRecDepth 100000 in
set_option maxHeartbeats 12800000 in
theorem Lasts_any {w : World} (v : Value) (ks : List Kd) (hks : KdsIn w v ks) (hki : ∀ k ∈ ks, k.i ≤ 9223372036854775807) (v2 : Value) (ms : List Kd) (hms : KdsIn w v2 ms) (hmi : ∀ k ∈ ms, k.i ≤ 9223372036854775807) (kp : Int) (hkp : -9223372036854775808 ≤ kp ∧ kp ≤ 9223372036854775807) (tr : Int) (htr : -9223372036854775808 ≤ tr ∧ tr ≤ 9223372036854775807) :
    Calls Try.prog 4 #[v, v2, .int .i64 kp, .int .i64 tr] w (Yes w) := by
  have HK := Lib.hid hks
  have HKi := Lib.hid hki
  have HM0 := Lib.hid hms
  have HMi := Lib.hid hmi
  clear hks hki hms hmi hkp htr
  go_enter Try.func4, Try.ntmps4
  go_wp2_with fail
  go_fit (short_any HK.out)
  rintro e w1 ⟨sb, rfl, hsb, rfl⟩
  cases sb
  · clear hsb
    go_wp2_with fail
    go_fit (awake_any _)
    rintro e w2 ⟨rfl, hb⟩
    have HB := Lib.hid hb
    clear hb
    go_wp2_with fail
    go_ret
    exact ⟨rfl, HB.out⟩
  · obtain ⟨hl1, hl2⟩ := hsb rfl
    have HMd := Lib.hid (made_any 16777216 (by omega) HK.out hl1 (fun k hk => ⟨by have := hl2 k hk; omega, HKi.out k hk⟩))
    have HL1 := Lib.hid hl1
    clear hsb hl1 hl2
    go_wp2_with fail
    go_fit (short_any HM0.out)
    rintro e w1 ⟨sb, rfl, hsb, rfl⟩
    cases sb
    · clear hsb
      go_wp2_with fail
      go_fit (awake_any _)
      rintro e w2 ⟨rfl, hb⟩
      have HB := Lib.hid hb
      clear hb
      go_wp2_with fail
      go_ret
      exact ⟨rfl, HB.out⟩
    obtain ⟨hm1, hm2⟩ := hsb rfl
    have HM1 := Lib.hid hm1
    have HM2 := Lib.hid hm2
    clear hsb hm1 hm2
    go_wp2_with fail
    go_fit HMd.out
    rintro e w2 ⟨b, L2, rfl, hs⟩
    generalize dos (Ds.new 16777216) ks = d at hs
    have HS2 : Hid (Sk w w2 b L2 d 300) := hs.more (by have := HL1.out; omega)
    have HS2f := Lib.hid HS2.out.few
    clear hs HMd HL1 HK HKi
    go_wp2_with fail
    have hc := Start_any HS2.out.disk
    have HC := Lib.hid hc
    clear hc
    go_fit HC.out
    rintro e w3 ⟨L3, rfl, hd, he⟩
    have HS3 : Hid (Sk w w3 b L3 (d.start).2 300) := HS2.out.ext hd he (Ds.start_few HS2.out.few)
    clear hd he HC HS2
    go_wp2_with fail
    have hc := Arm_any 0 0 0 HS3.out.disk
    rw [start_arm] at hc
    have HC := Lib.hid hc
    clear hc
    go_fit HC.out
    rintro e w4 ⟨L4, rfl, hd, he⟩
    have HS4 : Hid (Sk w w4 b L4 d.calm 300) := HS3.out.ext hd he (calm_few HS2f.out)
    clear hd he HC HS3
    go_wp2_with fail
    have hc := Sync_any HS4.out.disk (by simp [Ds.calm])
    rw [calm_sync] at hc
    have HC := Lib.hid hc
    clear hc
    go_fit HC.out
    rintro e w5 ⟨L5, rfl, hd, he⟩
    have HS5 : Hid (Sk w w5 b L5 d.synced 300) := HS4.out.ext hd he (synced_few _ _)
    clear hd he HC HS4
    go_wp2_with fail
    have HF := Lib.hid (face_told HS5.out.disk rfl rfl : Calls Try.prog 36 #[.pointer (some ⟨b, 0, none⟩)] w5 (FacedOn L5 d.told w5))
    go_fit HF.out
    rintro e w6 ⟨pa0, pc0, pa1, pc1, pa2, pc2, rfl, hy0, hy1, hy2, hb⟩
    have hba := below_alloc w6 (.cells #[.slice pa0 d.told.s0.length pc0, .slice pa1 d.told.s1.length pc1, .slice pa2 d.told.tp.length pc2] 50)
    have hbx : Bx (w6.alloc (.cells #[.slice pa0 d.told.s0.length pc0, .slice pa1 d.told.s1.length pc1, .slice pa2 d.told.tp.length pc2] 50)) L5 w6.heap.size [.slice pa0 d.told.s0.length pc0, .slice pa1 d.told.s1.length pc1, .slice pa2 d.told.tp.length pc2] := Bx.new w6 (HS5.out.disk.below hb).llt [.slice pa0 d.told.s0.length pc0, .slice pa1 d.told.s1.length pc1, .slice pa2 d.told.tp.length pc2] _
    have hbb := hb.trans (hba.mono hb.size)
    have HS6 := Lib.hid (HS5.out.later hbb)
    have pX := Lib.hid hbx
    have pY0 := Lib.hid (hy0.below hba)
    have pY1 := Lib.hid (hy1.below hba)
    have pY2 := Lib.hid (hy2.below hba)
    clear HF hy0 hy1 hy2 hb hba hbx hbb HS5
    have hbt := below_alloc (w6.alloc (.cells #[.slice pa0 d.told.s0.length pc0, .slice pa1 d.told.s1.length pc1, .slice pa2 d.told.tp.length pc2] 50)) (.cells #[.bool false, .bool false, .bool false] 53)
    have htx : Bx ((w6.alloc (.cells #[.slice pa0 d.told.s0.length pc0, .slice pa1 d.told.s1.length pc1, .slice pa2 d.told.tp.length pc2] 50)).alloc (.cells #[.bool false, .bool false, .bool false] 53)) L5 (w6.heap.size + 1) [.bool false, .bool false, .bool false] := by
      have h := Bx.new (w6.alloc (.cells #[.slice pa0 d.told.s0.length pc0, .slice pa1 d.told.s1.length pc1, .slice pa2 d.told.tp.length pc2] 50)) HS6.out.disk.llt [.bool false, .bool false, .bool false] 53
      simpa using h
    obtain ⟨tg, htg⟩ : ∃ g, g = w6.heap.size + 1 := ⟨_, rfl⟩
    have HK0 : Hid (Lk w ((w6.alloc (.cells #[.slice pa0 d.told.s0.length pc0, .slice pa1 d.told.s1.length pc1, .slice pa2 d.told.tp.length pc2] 50)).alloc (.cells #[.bool false, .bool false, .bool false] 53)) b L5 d.synced 300 d.told false false false (w6.heap.size + 1) w6.heap.size (.slice pa0 d.told.s0.length pc0) (.slice pa1 d.told.s1.length pc1) (.slice pa2 d.told.tp.length pc2)) :=
      ⟨HS6.out.later hbt, Touch.synced d, htx, pX.out.below hbt, pY0.out.below hbt, pY1.out.below hbt, pY2.out.below hbt, by have := HS6.out.below.size; simp at this; omega, by omega⟩
    clear htg tg
    obtain ⟨ma, mc, rfl, hma⟩ := HM0.out
    have HD := Lib.hid hma
    clear hma hbt htx HM0 HS6 pX pY0 pY1 pY2 HS2f
    go_wp2_with fail
    go_loopw [46] (fun v wr => ∃ (i : Nat) (L : List Nat) (d1 : Ds) (t0 t1 t2 : Bool), v = .int .i64 i ∧ i ≤ ms.length ∧ Hid (Lk w wr b L d1 (300 + i) d.told t0 t1 t2 (w6.heap.size + 1) w6.heap.size (.slice pa0 d.told.s0.length pc0) (.slice pa1 d.told.s1.length pc1) (.slice pa2 d.told.tp.length pc2)))
      (fun v _ => ms.length - (intOf v).toNat)
    case atStart => exact ⟨0, _, _, _, _, _, rfl, Nat.zero_le _, HK0⟩
    case round =>
      obtain ⟨i, L, d1, t0, t1, t2, rfl, hin, hst⟩ := hrel
      have ei : IntKind.i64.wrap ((i : Int) + 1) = (i : Int) + 1 := IntWalk.i64_in _ (by have := HM1.out; omega)
      by_cases hlt : i < ms.length
      · obtain ⟨k, hk1⟩ : ∃ k, ms[i]? = some k := ⟨ms[i], List.getElem?_eq_getElem hlt⟩
        obtain ⟨g2, off2, rfl, hat⟩ := HD.out.resolve_left (fun e => by rw [e] at hk1; simp at hk1)
        obtain ⟨k0, k1, k2, k3, x, k4, hx⟩ := hat i k hk1
        have k0 := cell_later hst.out.sk.below k0
        have k1 := cell_later hst.out.sk.below k1
        have k2 := cell_later hst.out.sk.below k2
        have k3 := cell_later hst.out.sk.below k3
        have k4 := cell_later hst.out.sk.below k4
        obtain ⟨xa, xc, rfl, _, _⟩ := hx.slice
        have hI1 : (i : Int) < ((ms.length : Nat) : Int) := by omega
        have hI2 : (0 : Int) ≤ (i : Int) := by omega
        have HKb : Hid (k.b.length ≤ 65536) := by show _ ≤ _; have := HM2.out k (List.mem_of_getElem? hk1); omega
        have HKi : Hid (k.i ≤ 9223372036854775807) := HMi.out k (List.mem_of_getElem? hk1)
        have HX := Lib.hid hx
        have HI : Hid (i ≤ 200) := by show _ ≤ _; have := HM1.out; omega
        generalize k.i = ki at k1 HKi
        have HA := Lib.hid (hst.out.below (below_alloc wr (Obj.cells #[Value.int .i64 k.op, .int .i64 ki, .int .i64 k.keep, .int .i64 k.tear, .slice xa k.b.length xc] 34)))
        have u0 := HA.out.tx.1.cells 0 _ rfl
        have u1 := HA.out.tx.1.cells 1 _ rfl
        have u2 := HA.out.tx.1.cells 2 _ rfl
        have z0 := HA.out.tx.1.fz 0
        have z1 := HA.out.tx.1.fz 1
        have z2 := HA.out.tx.1.fz 2
        have HTg : Hid (w6.heap.size + 1 < wr.heap.size) := hst.out.tx.1.lt
        have HCp := Lib.hid (DC.alloc wr [Value.int .i64 k.op, .int .i64 ki, .int .i64 k.keep, .int .i64 k.tear, .slice xa k.b.length xc] 34)
        clear hat hk1 hst hx
        by_cases n2 : wrap64 ((IntKind.u64.wrap k.op).tmod 9) = 2
        · by_cases hv0 : ki = 0
          ·
            subst hv0
            have HP := Lib.hid (HA.out.put (o := 0) (u0 := true) (u1 := t1) (u2 := t2) u0 (by omega) rfl (fun _ => rfl) id id)
            have hcp := HCp.out.other (o := 0) (x := .bool true) (show wr.heap.size ≠ w6.heap.size + 1 by have := HTg.out; omega)
            have c0 := hcp.cells 0 _ rfl
            have c1 := hcp.cells 1 _ rfl
            have c2 := hcp.cells 2 _ rfl
            have c3 := hcp.cells 3 _ rfl
            have c4 := hcp.cells 4 _ rfl
            clear hcp
            have HC := Lib.hid (does_any k.op 0 k.keep k.tear HP.out.sk.disk (HX.out.below HP.out.sk.below) HKb.out (HP.out.sk.few.more (by have := HI.out; omega)))
            have HN := Lib.hid (Ds.does_few HP.out.sk.few k.op 0 k.keep k.tear k.b HKi.out)
            have hop : opc k.op = 2 := n2
            have HT := Lib.hid (HP.out.touch.does k.op 0 k.keep k.tear k.b (fun _ => ⟨fun _ => rfl, fun h => by omega⟩) (fun h => by omega) (by omega))
            generalize (d1.does k.op 0 k.keep k.tear k.b).1 = e1 at HC
            generalize (d1.does k.op 0 k.keep k.tear k.b).2 = d2 at HC HN HT
            clear hop
            go_wp2_with fail
            go_fit HC.out
            rintro e w7 ⟨L7, rfl, hd, he⟩
            have HQ := Lib.hid (HP.out.ext hd he HN.out HT.out)
            clear hd he HC HP HA u0 u1 u2 z0 z1 z2
            go_wp2_with fail
            exact ⟨⟨i + 1, L7, d2, true, t1, t2, by simp, hlt, HQ⟩, by show ms.length - ((i : Int) + 1).toNat < ms.length - ((i : Int)).toNat; omega⟩
          by_cases hv1 : ki = 1
          ·
            subst hv1
            have HP := Lib.hid (HA.out.put (o := 1) (u0 := t0) (u1 := true) (u2 := t2) u1 (by omega) rfl id (fun _ => rfl) id)
            have hcp := HCp.out.other (o := 1) (x := .bool true) (show wr.heap.size ≠ w6.heap.size + 1 by have := HTg.out; omega)
            have c0 := hcp.cells 0 _ rfl
            have c1 := hcp.cells 1 _ rfl
            have c2 := hcp.cells 2 _ rfl
            have c3 := hcp.cells 3 _ rfl
            have c4 := hcp.cells 4 _ rfl
            clear hcp
            have HC := Lib.hid (does_any k.op 1 k.keep k.tear HP.out.sk.disk (HX.out.below HP.out.sk.below) HKb.out (HP.out.sk.few.more (by have := HI.out; omega)))
            have HN := Lib.hid (Ds.does_few HP.out.sk.few k.op 1 k.keep k.tear k.b HKi.out)
            have hop : opc k.op = 2 := n2
            have HT := Lib.hid (HP.out.touch.does k.op 1 k.keep k.tear k.b (fun _ => ⟨fun h => by omega, fun _ => rfl⟩) (fun h => by omega) (by omega))
            generalize (d1.does k.op 1 k.keep k.tear k.b).1 = e1 at HC
            generalize (d1.does k.op 1 k.keep k.tear k.b).2 = d2 at HC HN HT
            clear hop
            go_wp2_with fail
            go_fit HC.out
            rintro e w7 ⟨L7, rfl, hd, he⟩
            have HQ := Lib.hid (HP.out.ext hd he HN.out HT.out)
            clear hd he HC HP HA u0 u1 u2 z0 z1 z2
            go_wp2_with fail
            exact ⟨⟨i + 1, L7, d2, t0, true, t2, by simp, hlt, HQ⟩, by show ms.length - ((i : Int) + 1).toNat < ms.length - ((i : Int)).toNat; omega⟩
          have HP := HA
          have HC := Lib.hid (does_any k.op ki k.keep k.tear HP.out.sk.disk (HX.out.below HP.out.sk.below) HKb.out (HP.out.sk.few.more (by have := HI.out; omega)))
          have HN := Lib.hid (Ds.does_few HP.out.sk.few k.op ki k.keep k.tear k.b HKi.out)
          have hop : opc k.op = 2 := n2
          have HT := Lib.hid (HP.out.touch.does k.op ki k.keep k.tear k.b (fun _ => ⟨fun h => absurd h hv0, fun h => absurd h hv1⟩) (fun h => by omega) (by omega))
          generalize (d1.does k.op ki k.keep k.tear k.b).1 = e1 at HC
          generalize (d1.does k.op ki k.keep k.tear k.b).2 = d2 at HC HN HT
          clear hop
          have hq0 : (ki == 0) = false := by simpa using hv0
          have hq1 : (ki == 1) = false := by simpa using hv1
          go_wp2_with fail
          go_fit HC.out
          rintro e w7 ⟨L7, rfl, hd, he⟩
          have HQ := Lib.hid (HP.out.ext hd he HN.out HT.out)
          clear hd he HC HP HA u0 u1 u2 z0 z1 z2
          go_wp2_with fail
          exact ⟨⟨i + 1, L7, d2, t0, t1, t2, by simp, hlt, HQ⟩, by show ms.length - ((i : Int) + 1).toNat < ms.length - ((i : Int)).toNat; omega⟩
        by_cases n3 : wrap64 ((IntKind.u64.wrap k.op).tmod 9) = 3
        · by_cases hv0 : ki = 0
          ·
            subst hv0
            have HP := Lib.hid (HA.out.put (o := 0) (u0 := true) (u1 := t1) (u2 := t2) u0 (by omega) rfl (fun _ => rfl) id id)
            have hcp := HCp.out.other (o := 0) (x := .bool true) (show wr.heap.size ≠ w6.heap.size + 1 by have := HTg.out; omega)
            have c0 := hcp.cells 0 _ rfl
            have c1 := hcp.cells 1 _ rfl
            have c2 := hcp.cells 2 _ rfl
            have c3 := hcp.cells 3 _ rfl
            have c4 := hcp.cells 4 _ rfl
            clear hcp
            have HC := Lib.hid (does_any k.op 0 k.keep k.tear HP.out.sk.disk (HX.out.below HP.out.sk.below) HKb.out (HP.out.sk.few.more (by have := HI.out; omega)))
            have HN := Lib.hid (Ds.does_few HP.out.sk.few k.op 0 k.keep k.tear k.b HKi.out)
            have hop : opc k.op = 3 := n3
            have HT := Lib.hid (HP.out.touch.does k.op 0 k.keep k.tear k.b (fun _ => ⟨fun _ => rfl, fun h => by omega⟩) (fun h => by omega) (by omega))
            generalize (d1.does k.op 0 k.keep k.tear k.b).1 = e1 at HC
            generalize (d1.does k.op 0 k.keep k.tear k.b).2 = d2 at HC HN HT
            clear hop
            go_wp2_with fail
            go_fit HC.out
            rintro e w7 ⟨L7, rfl, hd, he⟩
            have HQ := Lib.hid (HP.out.ext hd he HN.out HT.out)
            clear hd he HC HP HA u0 u1 u2 z0 z1 z2
            go_wp2_with fail
            exact ⟨⟨i + 1, L7, d2, true, t1, t2, by simp, hlt, HQ⟩, by show ms.length - ((i : Int) + 1).toNat < ms.length - ((i : Int)).toNat; omega⟩
          by_cases hv1 : ki = 1
          ·
            subst hv1
            have HP := Lib.hid (HA.out.put (o := 1) (u0 := t0) (u1 := true) (u2 := t2) u1 (by omega) rfl id (fun _ => rfl) id)
            have hcp := HCp.out.other (o := 1) (x := .bool true) (show wr.heap.size ≠ w6.heap.size + 1 by have := HTg.out; omega)
            have c0 := hcp.cells 0 _ rfl
            have c1 := hcp.cells 1 _ rfl
            have c2 := hcp.cells 2 _ rfl
            have c3 := hcp.cells 3 _ rfl
            have c4 := hcp.cells 4 _ rfl
            clear hcp
            have HC := Lib.hid (does_any k.op 1 k.keep k.tear HP.out.sk.disk (HX.out.below HP.out.sk.below) HKb.out (HP.out.sk.few.more (by have := HI.out; omega)))
            have HN := Lib.hid (Ds.does_few HP.out.sk.few k.op 1 k.keep k.tear k.b HKi.out)
            have hop : opc k.op = 3 := n3
            have HT := Lib.hid (HP.out.touch.does k.op 1 k.keep k.tear k.b (fun _ => ⟨fun h => by omega, fun _ => rfl⟩) (fun h => by omega) (by omega))
            generalize (d1.does k.op 1 k.keep k.tear k.b).1 = e1 at HC
            generalize (d1.does k.op 1 k.keep k.tear k.b).2 = d2 at HC HN HT
            clear hop
            go_wp2_with fail
            go_fit HC.out
            rintro e w7 ⟨L7, rfl, hd, he⟩
            have HQ := Lib.hid (HP.out.ext hd he HN.out HT.out)
            clear hd he HC HP HA u0 u1 u2 z0 z1 z2
            go_wp2_with fail
            exact ⟨⟨i + 1, L7, d2, t0, true, t2, by simp, hlt, HQ⟩, by show ms.length - ((i : Int) + 1).toNat < ms.length - ((i : Int)).toNat; omega⟩
          have HP := HA
          have HC := Lib.hid (does_any k.op ki k.keep k.tear HP.out.sk.disk (HX.out.below HP.out.sk.below) HKb.out (HP.out.sk.few.more (by have := HI.out; omega)))
          have HN := Lib.hid (Ds.does_few HP.out.sk.few k.op ki k.keep k.tear k.b HKi.out)
          have hop : opc k.op = 3 := n3
          have HT := Lib.hid (HP.out.touch.does k.op ki k.keep k.tear k.b (fun _ => ⟨fun h => absurd h hv0, fun h => absurd h hv1⟩) (fun h => by omega) (by omega))
          generalize (d1.does k.op ki k.keep k.tear k.b).1 = e1 at HC
          generalize (d1.does k.op ki k.keep k.tear k.b).2 = d2 at HC HN HT
          clear hop
          have hq0 : (ki == 0) = false := by simpa using hv0
          have hq1 : (ki == 1) = false := by simpa using hv1
          go_wp2_with fail
          go_fit HC.out
          rintro e w7 ⟨L7, rfl, hd, he⟩
          have HQ := Lib.hid (HP.out.ext hd he HN.out HT.out)
          clear hd he HC HP HA u0 u1 u2 z0 z1 z2
          go_wp2_with fail
          exact ⟨⟨i + 1, L7, d2, t0, t1, t2, by simp, hlt, HQ⟩, by show ms.length - ((i : Int) + 1).toNat < ms.length - ((i : Int)).toNat; omega⟩
        by_cases n4 : wrap64 ((IntKind.u64.wrap k.op).tmod 9) = 4
        ·
          have HP := Lib.hid (HA.out.put (o := 2) (u0 := t0) (u1 := t1) (u2 := true) u2 (by omega) rfl id id (fun _ => rfl))
          have hcp := HCp.out.other (o := 2) (x := .bool true) (show wr.heap.size ≠ w6.heap.size + 1 by have := HTg.out; omega)
          have c0 := hcp.cells 0 _ rfl
          have c1 := hcp.cells 1 _ rfl
          have c2 := hcp.cells 2 _ rfl
          have c3 := hcp.cells 3 _ rfl
          have c4 := hcp.cells 4 _ rfl
          clear hcp
          have HC := Lib.hid (does_any k.op ki k.keep k.tear HP.out.sk.disk (HX.out.below HP.out.sk.below) HKb.out (HP.out.sk.few.more (by have := HI.out; omega)))
          have HN := Lib.hid (Ds.does_few HP.out.sk.few k.op ki k.keep k.tear k.b HKi.out)
          have hop : opc k.op = 4 := n4
          have HT := Lib.hid (HP.out.touch.does k.op ki k.keep k.tear k.b (fun h => by omega) (fun _ => rfl) (by omega))
          generalize (d1.does k.op ki k.keep k.tear k.b).1 = e1 at HC
          generalize (d1.does k.op ki k.keep k.tear k.b).2 = d2 at HC HN HT
          clear hop
          go_wp2_with fail
          go_fit HC.out
          rintro e w7 ⟨L7, rfl, hd, he⟩
          have HQ := Lib.hid (HP.out.ext hd he HN.out HT.out)
          clear hd he HC HP HA u0 u1 u2 z0 z1 z2
          go_wp2_with fail
          exact ⟨⟨i + 1, L7, d2, t0, t1, true, by simp, hlt, HQ⟩, by show ms.length - ((i : Int) + 1).toNat < ms.length - ((i : Int)).toNat; omega⟩
        by_cases n0 : wrap64 ((IntKind.u64.wrap k.op).tmod 9) = 0
        ·
          have HP := HA
          have HC := Lib.hid (does_any k.op ki k.keep k.tear HP.out.sk.disk (HX.out.below HP.out.sk.below) HKb.out (HP.out.sk.few.more (by have := HI.out; omega)))
          have HN := Lib.hid (Ds.does_few HP.out.sk.few k.op ki k.keep k.tear k.b HKi.out)
          have hop : opc k.op = 0 := n0
          have HT := Lib.hid (HP.out.touch.does k.op ki k.keep k.tear k.b (fun h => by omega) (fun h => by omega) (by omega))
          generalize (d1.does k.op ki k.keep k.tear k.b).1 = e1 at HC
          generalize (d1.does k.op ki k.keep k.tear k.b).2 = d2 at HC HN HT
          clear hop
          go_wp2_with fail
          go_fit HC.out
          rintro e w7 ⟨L7, rfl, hd, he⟩
          have HQ := Lib.hid (HP.out.ext hd he HN.out HT.out)
          clear hd he HC HP HA u0 u1 u2 z0 z1 z2
          go_wp2_with fail
          exact ⟨⟨i + 1, L7, d2, t0, t1, t2, by simp, hlt, HQ⟩, by show ms.length - ((i : Int) + 1).toNat < ms.length - ((i : Int)).toNat; omega⟩
        by_cases n1 : wrap64 ((IntKind.u64.wrap k.op).tmod 9) = 1
        ·
          have HP := HA
          have HC := Lib.hid (does_any k.op ki k.keep k.tear HP.out.sk.disk (HX.out.below HP.out.sk.below) HKb.out (HP.out.sk.few.more (by have := HI.out; omega)))
          have HN := Lib.hid (Ds.does_few HP.out.sk.few k.op ki k.keep k.tear k.b HKi.out)
          have hop : opc k.op = 1 := n1
          have HT := Lib.hid (HP.out.touch.does k.op ki k.keep k.tear k.b (fun h => by omega) (fun h => by omega) (by omega))
          generalize (d1.does k.op ki k.keep k.tear k.b).1 = e1 at HC
          generalize (d1.does k.op ki k.keep k.tear k.b).2 = d2 at HC HN HT
          clear hop
          go_wp2_with fail
          go_fit HC.out
          rintro e w7 ⟨L7, rfl, hd, he⟩
          have HQ := Lib.hid (HP.out.ext hd he HN.out HT.out)
          clear hd he HC HP HA u0 u1 u2 z0 z1 z2
          go_wp2_with fail
          exact ⟨⟨i + 1, L7, d2, t0, t1, t2, by simp, hlt, HQ⟩, by show ms.length - ((i : Int) + 1).toNat < ms.length - ((i : Int)).toNat; omega⟩
        go_wp2_with fail
        exact ⟨⟨i + 1, L, d1, t0, t1, t2, by simp, hlt, ⟨HA.out.sk.more (by omega), HA.out.touch, HA.out.tx, HA.out.px, HA.out.y0, HA.out.y1, HA.out.y2, HA.out.low, HA.out.ne⟩⟩, by show ms.length - ((i : Int) + 1).toNat < ms.length - ((i : Int)).toNat; omega⟩
      · obtain rfl : i = ms.length := by omega
        have hc := Crash_any kp tr hst.out.sk.disk (by have := hst.out.sk.few.waits; have := HM1.out; omega)
        rw [crash_on hst.out.touch.on] at hc
        have HC := Lib.hid hc
        have HFit := Lib.hid (hst.out.touch.last kp tr)
        clear hc HD
        go_wp2_with fail
        go_fit HC.out
        rintro e w7 ⟨L7, rfl, hd, he⟩
        have HS7 : Hid (Sk w w7 b L7 (d1.fall kp tr) 300) := hst.out.sk.ext hd he (fall_few _ _ _ _)
        have tX := Lib.hid (hst.out.tx.ext he)
        have pX := Lib.hid (hst.out.px.ext he)
        have pY0 := Lib.hid (hst.out.y0.ext he)
        have pY1 := Lib.hid (hst.out.y1.ext he)
        have pY2 := Lib.hid (hst.out.y2.ext he)
        clear hd he HC hst
        go_wp2_with fail
        have hc := Start_any HS7.out.disk
        rw [start_zero] at hc
        have HC := Lib.hid hc
        clear hc
        go_fit HC.out
        rintro e w8 ⟨L8, rfl, hd, he⟩
        have HS8 : Hid (Sk w w8 b L8 { d1.fall kp tr with on := true } 300) := HS7.out.ext hd he (Ds.start_few (fall_few _ _ _ _))
        replace tX := Lib.hid (tX.out.ext he)
        replace pX := Lib.hid (pX.out.ext he)
        replace pY0 := Lib.hid (pY0.out.ext he)
        replace pY1 := Lib.hid (pY1.out.ext he)
        replace pY2 := Lib.hid (pY2.out.ext he)
        clear hd he HC HS7
        go_wp2_with fail
        have HF0 : Hid (Calls Try.prog 36 #[.pointer (some ⟨b, 0, none⟩)] w8 (FacedOn L8 (d1.last kp tr) w8)) := face_told HS8.out.disk rfl rfl
        generalize d1.last kp tr = g at HF0 HFit
        have HF := Lib.hid (HF0.out : Calls Try.prog 36 #[.pointer (some ⟨b, 0, none⟩)] w8 (FacedOn L8 g w8))
        go_fit HF.out
        rintro e w9 ⟨qa0, qc0, qa1, qc1, qa2, qc2, rfl, hy0, hy1, hy2, hb⟩
        have hba := below_alloc w9 (.cells #[.slice qa0 g.s0.length qc0, .slice qa1 g.s1.length qc1, .slice qa2 g.tp.length qc2] 50)
        have hbx : Bx (w9.alloc (.cells #[.slice qa0 g.s0.length qc0, .slice qa1 g.s1.length qc1, .slice qa2 g.tp.length qc2] 50)) L8 w9.heap.size [.slice qa0 g.s0.length qc0, .slice qa1 g.s1.length qc1, .slice qa2 g.tp.length qc2] := Bx.new w9 (HS8.out.disk.below hb).llt [.slice qa0 g.s0.length qc0, .slice qa1 g.s1.length qc1, .slice qa2 g.tp.length qc2] _
        have hbb := hb.trans (hba.mono hb.size)
        have HS9 := Lib.hid (HS8.out.later hbb)
        replace tX := Lib.hid (tX.out.below hbb)
        replace pX := Lib.hid (pX.out.below hbb)
        replace pY0 := Lib.hid (pY0.out.below hbb)
        replace pY1 := Lib.hid (pY1.out.below hbb)
        replace pY2 := Lib.hid (pY2.out.below hbb)
        have qX := Lib.hid hbx
        have qY0 := Lib.hid (hy0.below hba)
        have qY1 := Lib.hid (hy1.below hba)
        have qY2 := Lib.hid (hy2.below hba)
        clear HF hy0 hy1 hy2 hb hba hbx hbb HS8
        go_wp2_with fail
        refine wp_loop_rounds 3 ?_
        have u0 := tX.out.1.cells 0 _ rfl
        have p0 := pX.out.1.cells 0 _ rfl
        have q0 := qX.out.1.cells 0 _ rfl
        cases t0
        · have HE := Lib.hid (fun (W : World) (hW : W.heap = (w9.alloc (.cells #[.slice qa0 g.s0.length qc0, .slice qa1 g.s1.length qc1, .slice qa2 g.tp.length qc2] 50)).heap) => (equal_byt (pY0.out.heap hW) (qY0.out.heap hW) (HFit.out.s0 rfl).symm).mono fun e w' h => (⟨h.1, h.2.symm⟩ : e = .returned (.bool true) ∧ w' = W))
          rw [rounds_succ]
          go_wp2_with fail
          go_quiet ((go_at_call 29; exact Calls.quiet_of_same (HE.out _ rfl)))
          go_wp2_with fail
          clear HE
          generalize hW : World.drewN _ _ = W1
          have hH1 : W1.heap = (w9.alloc (.cells #[.slice qa0 g.s0.length qc0, .slice qa1 g.s1.length qc1, .slice qa2 g.tp.length qc2] 50)).heap := by rw [← hW]; exact rfl
          have HB1 : Hid (Below w.heap.size w W1) := by rw [← hW]; exact below_drewN HS9.out.below _
          clear hW
          have u1 := (World.cell?_of_block (w := (w9.alloc (.cells #[.slice qa0 g.s0.length qc0, .slice qa1 g.s1.length qc1, .slice qa2 g.tp.length qc2] 50))) (w' := W1) (a := ⟨w6.heap.size + 1, 1, none⟩) (by rw [hH1])).trans (tX.out.1.cells 1 _ rfl)
          have p1 := (World.cell?_of_block (w := (w9.alloc (.cells #[.slice qa0 g.s0.length qc0, .slice qa1 g.s1.length qc1, .slice qa2 g.tp.length qc2] 50))) (w' := W1) (a := ⟨w6.heap.size, 1, none⟩) (by rw [hH1])).trans (pX.out.1.cells 1 _ rfl)
          have q1 := (World.cell?_of_block (w := (w9.alloc (.cells #[.slice qa0 g.s0.length qc0, .slice qa1 g.s1.length qc1, .slice qa2 g.tp.length qc2] 50))) (w' := W1) (a := ⟨w9.heap.size, 1, none⟩) (by rw [hH1])).trans (qX.out.1.cells 1 _ rfl)
          cases t1
          · have HE := Lib.hid (fun (W : World) (hW : W.heap = (w9.alloc (.cells #[.slice qa0 g.s0.length qc0, .slice qa1 g.s1.length qc1, .slice qa2 g.tp.length qc2] 50)).heap) => (equal_byt (pY1.out.heap hW) (qY1.out.heap hW) (HFit.out.s1 rfl).symm).mono fun e w' h => (⟨h.1, h.2.symm⟩ : e = .returned (.bool true) ∧ w' = W))
            rw [rounds_succ]
            go_wp2_with fail
            go_quiet ((go_at_call 29; exact Calls.quiet_of_same (HE.out _ hH1)))
            go_wp2_with fail
            clear HE
            generalize hW : World.drewN _ _ = W2
            have hH2 : W2.heap = (w9.alloc (.cells #[.slice qa0 g.s0.length qc0, .slice qa1 g.s1.length qc1, .slice qa2 g.tp.length qc2] 50)).heap := by rw [← hW]; exact hH1
            have HB2 : Hid (Below w.heap.size w W2) := by rw [← hW]; exact below_drewN HB1.out _
            clear hW
            have u2 := (World.cell?_of_block (w := (w9.alloc (.cells #[.slice qa0 g.s0.length qc0, .slice qa1 g.s1.length qc1, .slice qa2 g.tp.length qc2] 50))) (w' := W2) (a := ⟨w6.heap.size + 1, 2, none⟩) (by rw [hH2])).trans (tX.out.1.cells 2 _ rfl)
            have p2 := (World.cell?_of_block (w := (w9.alloc (.cells #[.slice qa0 g.s0.length qc0, .slice qa1 g.s1.length qc1, .slice qa2 g.tp.length qc2] 50))) (w' := W2) (a := ⟨w6.heap.size, 2, none⟩) (by rw [hH2])).trans (pX.out.1.cells 2 _ rfl)
            have q2 := (World.cell?_of_block (w := (w9.alloc (.cells #[.slice qa0 g.s0.length qc0, .slice qa1 g.s1.length qc1, .slice qa2 g.tp.length qc2] 50))) (w' := W2) (a := ⟨w9.heap.size, 2, none⟩) (by rw [hH2])).trans (qX.out.1.cells 2 _ rfl)
            rw [rounds_succ]
            cases t2
            · have HP := Lib.hid (prefix_byt (qY2.out.heap hH2) (pY2.out.heap hH2) (HFit.out.tp rfl))
              go_wp2_with fail
              go_fit HP.out
              rintro e w10 ⟨rfl, rfl⟩
              go_wp2_with fail
              go_fit (awake_any _)
              rintro e w10 ⟨rfl, hb⟩
              have HB3 := Lib.hid (HB2.out.trans (hb.mono HB2.out.size))
              clear hb
              go_wp2_with fail
              go_ret
              exact ⟨rfl, HB3.out⟩
            · go_wp2_with fail
              go_fit (awake_any _)
              rintro e w10 ⟨rfl, hb⟩
              have HB3 := Lib.hid (HB2.out.trans (hb.mono HB2.out.size))
              clear hb
              go_wp2_with fail
              go_ret
              exact ⟨rfl, HB3.out⟩
          · rw [rounds_succ]
            go_wp2_with fail
            go_quiet (fail)
            go_wp2_with fail
            generalize hW : World.drewN _ _ = W2
            have hH2 : W2.heap = (w9.alloc (.cells #[.slice qa0 g.s0.length qc0, .slice qa1 g.s1.length qc1, .slice qa2 g.tp.length qc2] 50)).heap := by rw [← hW]; exact hH1
            have HB2 : Hid (Below w.heap.size w W2) := by rw [← hW]; exact below_drewN HB1.out _
            clear hW
            have u2 := (World.cell?_of_block (w := (w9.alloc (.cells #[.slice qa0 g.s0.length qc0, .slice qa1 g.s1.length qc1, .slice qa2 g.tp.length qc2] 50))) (w' := W2) (a := ⟨w6.heap.size + 1, 2, none⟩) (by rw [hH2])).trans (tX.out.1.cells 2 _ rfl)
            have p2 := (World.cell?_of_block (w := (w9.alloc (.cells #[.slice qa0 g.s0.length qc0, .slice qa1 g.s1.length qc1, .slice qa2 g.tp.length qc2] 50))) (w' := W2) (a := ⟨w6.heap.size, 2, none⟩) (by rw [hH2])).trans (pX.out.1.cells 2 _ rfl)
            have q2 := (World.cell?_of_block (w := (w9.alloc (.cells #[.slice qa0 g.s0.length qc0, .slice qa1 g.s1.length qc1, .slice qa2 g.tp.length qc2] 50))) (w' := W2) (a := ⟨w9.heap.size, 2, none⟩) (by rw [hH2])).trans (qX.out.1.cells 2 _ rfl)
            rw [rounds_succ]
            cases t2
            · have HP := Lib.hid (prefix_byt (qY2.out.heap hH2) (pY2.out.heap hH2) (HFit.out.tp rfl))
              go_wp2_with fail
              go_fit HP.out
              rintro e w10 ⟨rfl, rfl⟩
              go_wp2_with fail
              go_fit (awake_any _)
              rintro e w10 ⟨rfl, hb⟩
              have HB3 := Lib.hid (HB2.out.trans (hb.mono HB2.out.size))
              clear hb
              go_wp2_with fail
              go_ret
              exact ⟨rfl, HB3.out⟩
            · go_wp2_with fail
              go_fit (awake_any _)
              rintro e w10 ⟨rfl, hb⟩
              have HB3 := Lib.hid (HB2.out.trans (hb.mono HB2.out.size))
              clear hb
              go_wp2_with fail
              go_ret
              exact ⟨rfl, HB3.out⟩
        · rw [rounds_succ]
          go_wp2_with fail
          go_quiet (fail)
          go_wp2_with fail
          generalize hW : World.drewN _ _ = W1
          have hH1 : W1.heap = (w9.alloc (.cells #[.slice qa0 g.s0.length qc0, .slice qa1 g.s1.length qc1, .slice qa2 g.tp.length qc2] 50)).heap := by rw [← hW]; exact rfl
          have HB1 : Hid (Below w.heap.size w W1) := by rw [← hW]; exact below_drewN HS9.out.below _
          clear hW
          have u1 := (World.cell?_of_block (w := (w9.alloc (.cells #[.slice qa0 g.s0.length qc0, .slice qa1 g.s1.length qc1, .slice qa2 g.tp.length qc2] 50))) (w' := W1) (a := ⟨w6.heap.size + 1, 1, none⟩) (by rw [hH1])).trans (tX.out.1.cells 1 _ rfl)
          have p1 := (World.cell?_of_block (w := (w9.alloc (.cells #[.slice qa0 g.s0.length qc0, .slice qa1 g.s1.length qc1, .slice qa2 g.tp.length qc2] 50))) (w' := W1) (a := ⟨w6.heap.size, 1, none⟩) (by rw [hH1])).trans (pX.out.1.cells 1 _ rfl)
          have q1 := (World.cell?_of_block (w := (w9.alloc (.cells #[.slice qa0 g.s0.length qc0, .slice qa1 g.s1.length qc1, .slice qa2 g.tp.length qc2] 50))) (w' := W1) (a := ⟨w9.heap.size, 1, none⟩) (by rw [hH1])).trans (qX.out.1.cells 1 _ rfl)
          cases t1
          · have HE := Lib.hid (fun (W : World) (hW : W.heap = (w9.alloc (.cells #[.slice qa0 g.s0.length qc0, .slice qa1 g.s1.length qc1, .slice qa2 g.tp.length qc2] 50)).heap) => (equal_byt (pY1.out.heap hW) (qY1.out.heap hW) (HFit.out.s1 rfl).symm).mono fun e w' h => (⟨h.1, h.2.symm⟩ : e = .returned (.bool true) ∧ w' = W))
            rw [rounds_succ]
            go_wp2_with fail
            go_quiet ((go_at_call 29; exact Calls.quiet_of_same (HE.out _ hH1)))
            go_wp2_with fail
            clear HE
            generalize hW : World.drewN _ _ = W2
            have hH2 : W2.heap = (w9.alloc (.cells #[.slice qa0 g.s0.length qc0, .slice qa1 g.s1.length qc1, .slice qa2 g.tp.length qc2] 50)).heap := by rw [← hW]; exact hH1
            have HB2 : Hid (Below w.heap.size w W2) := by rw [← hW]; exact below_drewN HB1.out _
            clear hW
            have u2 := (World.cell?_of_block (w := (w9.alloc (.cells #[.slice qa0 g.s0.length qc0, .slice qa1 g.s1.length qc1, .slice qa2 g.tp.length qc2] 50))) (w' := W2) (a := ⟨w6.heap.size + 1, 2, none⟩) (by rw [hH2])).trans (tX.out.1.cells 2 _ rfl)
            have p2 := (World.cell?_of_block (w := (w9.alloc (.cells #[.slice qa0 g.s0.length qc0, .slice qa1 g.s1.length qc1, .slice qa2 g.tp.length qc2] 50))) (w' := W2) (a := ⟨w6.heap.size, 2, none⟩) (by rw [hH2])).trans (pX.out.1.cells 2 _ rfl)
            have q2 := (World.cell?_of_block (w := (w9.alloc (.cells #[.slice qa0 g.s0.length qc0, .slice qa1 g.s1.length qc1, .slice qa2 g.tp.length qc2] 50))) (w' := W2) (a := ⟨w9.heap.size, 2, none⟩) (by rw [hH2])).trans (qX.out.1.cells 2 _ rfl)
            rw [rounds_succ]
            cases t2
            · have HP := Lib.hid (prefix_byt (qY2.out.heap hH2) (pY2.out.heap hH2) (HFit.out.tp rfl))
              go_wp2_with fail
              go_fit HP.out
              rintro e w10 ⟨rfl, rfl⟩
              go_wp2_with fail
              go_fit (awake_any _)
              rintro e w10 ⟨rfl, hb⟩
              have HB3 := Lib.hid (HB2.out.trans (hb.mono HB2.out.size))
              clear hb
              go_wp2_with fail
              go_ret
              exact ⟨rfl, HB3.out⟩
            · go_wp2_with fail
              go_fit (awake_any _)
              rintro e w10 ⟨rfl, hb⟩
              have HB3 := Lib.hid (HB2.out.trans (hb.mono HB2.out.size))
              clear hb
              go_wp2_with fail
              go_ret
              exact ⟨rfl, HB3.out⟩
          · rw [rounds_succ]
            go_wp2_with fail
            go_quiet (fail)
            go_wp2_with fail
            generalize hW : World.drewN _ _ = W2
            have hH2 : W2.heap = (w9.alloc (.cells #[.slice qa0 g.s0.length qc0, .slice qa1 g.s1.length qc1, .slice qa2 g.tp.length qc2] 50)).heap := by rw [← hW]; exact hH1
            have HB2 : Hid (Below w.heap.size w W2) := by rw [← hW]; exact below_drewN HB1.out _
            clear hW
            have u2 := (World.cell?_of_block (w := (w9.alloc (.cells #[.slice qa0 g.s0.length qc0, .slice qa1 g.s1.length qc1, .slice qa2 g.tp.length qc2] 50))) (w' := W2) (a := ⟨w6.heap.size + 1, 2, none⟩) (by rw [hH2])).trans (tX.out.1.cells 2 _ rfl)
            have p2 := (World.cell?_of_block (w := (w9.alloc (.cells #[.slice qa0 g.s0.length qc0, .slice qa1 g.s1.length qc1, .slice qa2 g.tp.length qc2] 50))) (w' := W2) (a := ⟨w6.heap.size, 2, none⟩) (by rw [hH2])).trans (pX.out.1.cells 2 _ rfl)
            have q2 := (World.cell?_of_block (w := (w9.alloc (.cells #[.slice qa0 g.s0.length qc0, .slice qa1 g.s1.length qc1, .slice qa2 g.tp.length qc2] 50))) (w' := W2) (a := ⟨w9.heap.size, 2, none⟩) (by rw [hH2])).trans (qX.out.1.cells 2 _ rfl)
            rw [rounds_succ]
            cases t2
            · have HP := Lib.hid (prefix_byt (qY2.out.heap hH2) (pY2.out.heap hH2) (HFit.out.tp rfl))
              go_wp2_with fail
              go_fit HP.out
              rintro e w10 ⟨rfl, rfl⟩
              go_wp2_with fail
              go_fit (awake_any _)
              rintro e w10 ⟨rfl, hb⟩
              have HB3 := Lib.hid (HB2.out.trans (hb.mono HB2.out.size))
              clear hb
              go_wp2_with fail
              go_ret
              exact ⟨rfl, HB3.out⟩
            · go_wp2_with fail
              go_fit (awake_any _)
              rintro e w10 ⟨rfl, hb⟩
              have HB3 := Lib.hid (HB2.out.trans (hb.mono HB2.out.size))
              clear hb
              go_wp2_with fail
              go_ret
              exact ⟨rfl, HB3.out⟩
end Go.Proofs.Ytefdgocpphgplaa
