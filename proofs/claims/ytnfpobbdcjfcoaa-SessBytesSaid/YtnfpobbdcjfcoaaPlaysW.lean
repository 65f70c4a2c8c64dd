/-
  SessPlays: the walk. (Written by gensessp.py.)
-/
import Derived.Test.YtnfpobbdcjfcoaaB12
namespace Go.Proofs.Ytnfpobbdcjfcoaa
set_option linter.unusedVariables false
set_option linter.unusedSimpArgs false
open Go.RowKit
variable {w : World} {B b c : Nat} {L : List Nat} {t x : Tb}

theorem Ext.cons {w w' : World} {L L' : List Nat} (h : Ext w L w' L') (c : Nat) : Ext w (c :: L) w' (c :: L') :=
  ⟨h.os, h.tape, h.output, h.size, fun k hk hn => h.block k hk (fun hm => hn (List.mem_cons_of_mem _ hm)), fun k hk => by
    rcases List.mem_cons.1 hk with rfl | hk
    · exact .inl (by simp)
    · exact (h.new k hk).imp (List.mem_cons_of_mem _) id⟩
theorem Ext.cons2 {w w' : World} (h : Ext w [c] w' [c]) (L : List Nat) : Ext w (c :: L) w' (c :: L) :=
  ⟨h.os, h.tape, h.output, h.size, fun k hk hn => h.block k hk (fun hm => hn (by simp at hm; simp [hm])), fun k hk => .inl hk⟩
/-- A block that no call turns. -/
def Bx (w : World) (L : List Nat) (g : Nat) (cs : List Value) : Prop := DC w g cs ∧ g ∉ L
theorem Bx.ext {w w' : World} {L L' : List Nat} {g : Nat} {cs : List Value} (h : Bx w L g cs) (he : Ext w L w' L') : Bx w' L' g cs :=
  ⟨h.1.keep he.size (he.block g h.1.lt h.2), fun hm => by
    rcases he.new g hm with h' | h'
    · exact h.2 h'
    · have := h.1.lt; omega⟩
theorem Bx.below {w w' : World} {g : Nat} {cs : List Value} (h : Bx w L g cs) (hb : Below w.heap.size w w') : Bx w' L g cs := ⟨h.1.below hb, h.2⟩
theorem Rf.nL (h : Rf w L b x) : b ∉ L := by obtain ⟨v, h⟩ := h; exact h.out
theorem Rf.lt (h : Rf w L b x) : b < w.heap.size := by obtain ⟨v, h⟩ := h; exact h.cells.lt

set_option maxRecDepth 100000 in
set_option maxHeartbeats 25600000 in
theorem Plays_any {v : Value} {ks : List Kd} (hks : KdsIn w v ks) (hkq : ∀ k ∈ ks, k.q ≤ 9223372036854775807) :
    Calls Try.prog 3 #[v] w (Yes w) := by
  have HK := Lib.hid hks
  have HQ := Lib.hid hkq
  obtain ⟨a, c, rfl, _⟩ := hks
  by_cases hl : ks.length ≤ 500
  · have g1 : ((ks.length : Nat) : Int) ≤ 500 := by omega
    clear hkq
    go_enter Try.func3, Try.ntmps3
    go_wp2_with fail
    go_fit (New_any w)
    rintro e w2 ⟨rfl, hd, hb2⟩
    have hS : Sk w w2 w.heap.size [w.heap.size] (dos T0 (ks.take 0)) 0 := ⟨hd, T0_ok 0, hb2⟩
    have hA := below_alloc w2 (.cells #[.int .i64 0, .slice none 0 0] 29)
    have HS0 := Lib.hid (hS.later hA)
    have HR0 : Hid (Rf (w2.alloc (.cells #[.int .i64 0, .slice none 0 0] 29)) [w.heap.size] w2.heap.size (dos T0 (ks.take 0))) := ⟨.slice none 0 0, DC.alloc w2 [.int .i64 0, .slice none 0 0] _, SeB.nil _ _, fun hm => by have := hd.llt; simp at hm; have := this w.heap.size (by simp); omega⟩
    have HC2 : Hid (w.heap.size ≤ w2.heap.size) := hb2.size
    clear hd hb2 hS hA
    go_wp2_with fail
    generalize w2.heap.size = b2 at *
    generalize w2.alloc (.cells #[.int .i64 0, .slice none 0 0] 29) = W0 at *
    go_loopw [29] (fun v wr => ∃ (i : Nat) (L : List Nat), v = .int .i64 i ∧ i ≤ ks.length ∧ Hid (Sk w wr w.heap.size L (dos T0 (ks.take i)) i) ∧ Hid (Rf wr L b2 (dos T0 (ks.take i))))
      (fun v _ => ks.length - (intOf v).toNat)
    case atStart => exact ⟨0, _, rfl, Nat.zero_le _, HS0, HR0⟩
    case round =>
      clear HS0 HR0
      obtain ⟨i, L, rfl, hin, hst, hrf⟩ := hrel
      by_cases hlt : i < ks.length
      · have ei : IntKind.i64.wrap ((i : Int) + 1) = (i : Int) + 1 := IntWalk.i64_in _ (by omega)
        obtain ⟨k, hk1⟩ : ∃ k, ks[i]? = some k := ⟨ks[i], List.getElem?_eq_getElem hlt⟩
        obtain ⟨_, _, hv, hx⟩ := HK.out
        obtain ⟨g2, off2, hpa, hat⟩ := hx.resolve_left (fun e => by rw [e] at hk1; simp at hk1)
        simp only [Value.slice.injEq] at hv
        obtain ⟨rfl, _, rfl⟩ := hv
        subst hpa
        obtain ⟨k0, k1, k2, k3, k4⟩ := hat i k hk1
        have k0 := cell_later hst.out.below k0
        have k1 := cell_later hst.out.below k1
        have k2 := cell_later hst.out.below k2
        have k3 := cell_later hst.out.below k3
        have k4 := cell_later hst.out.below k4
        have hI1 : (i : Int) < ((ks.length : Nat) : Int) := by omega
        have hI2 : (0 : Int) ≤ (i : Int) := by omega
        have hbd := below_alloc wr (.cells #[.int .i64 k.op, .int .i64 k.k, .int .i64 k.q, .int .i64 k.err, .int .i64 k.n] 34)
        have HS1 := Lib.hid (hst.out.later hbd)
        have HR1 := Lib.hid (hrf.out.below (L := L) hbd)
        have HX1 : Hid (Bx (wr.alloc (.cells #[.int .i64 k.op, .int .i64 k.k, .int .i64 k.q, .int .i64 k.err, .int .i64 k.n] 34)) (b2 :: L) wr.heap.size [.int .i64 k.op, .int .i64 k.k, .int .i64 k.q, .int .i64 k.err, .int .i64 k.n]) := ⟨DC.alloc wr [.int .i64 k.op, .int .i64 k.k, .int .i64 k.q, .int .i64 k.err, .int .i64 k.n] _, fun hm => by
          rcases List.mem_cons.1 hm with h | h
          · have := hrf.out.lt; omega
          · have := hst.out.tab.llt _ h; omega⟩
        have HKQ := Lib.hid (HQ.out k (List.mem_of_getElem? hk1))
        have HK1 := Lib.hid (dos_step hk1 T0)
        have d1 := HX1.out.1.cells 1 _ rfl
        have d2 := HX1.out.1.cells 2 _ rfl
        clear hat hk1 hx hst hrf hbd
        have hseq : ∀ s ∈ (dos T0 (ks.take i)).seats, 0 ≤ s.seq ∧ s.seq ≤ 4611686018427387904 := fun s hs => by have := HS1.out.ok.seq s hs; omega
        have HSQ := Lib.hid hseq
        have HA1 := Lib.hid (Ask_any k.k k.q HS1.out.tab hseq)
        clear hseq
        generalize hT : dos T0 (ks.take i) = t at *
        generalize hz : ask t.seats k.k k.q = z at *
        obtain ⟨xe, xn, fr, e⟩ := z
        have HZ := Lib.hid hz
        clear hz hT
        go_wp2_with fail
        generalize hW1 : wr.alloc (.cells #[.int .i64 k.op, .int .i64 k.k, .int .i64 k.q, .int .i64 k.err, .int .i64 k.n] 34) = W1 at *
        clear hW1 k0 k1 k2 k3 k4
        generalize wr.heap.size = dk at *
        go_fit HA1.out
        rintro e' w3 ⟨rfl, hb⟩
        have hbb := hb.trans ((below_alloc w3 (.cells #[.int .i64 xe, .int .i64 xn] 32)).mono hb.size)
        have HS3 := Lib.hid (HS1.out.later hbb)
        have HR3 := Lib.hid (HR1.out.below (L := L) hbb)
        have HX3 := Lib.hid (HX1.out.below hbb)
        have HP3 := Lib.hid (DC.alloc w3 [.int .i64 xe, .int .i64 xn] 32)
        have ha2 := RAsk_any k.k k.q HKQ.out HR3.out HSQ.out
        rw [HZ.out] at ha2
        have HA2 := Lib.hid ha2
        clear hb hbb HS1 HR1 HX1 HA1 d1 d2 ha2
        have d1 := HX3.out.1.cells 1 _ rfl
        have d2 := HX3.out.1.cells 2 _ rfl
        go_wp2_with fail
        go_fit HA2.out
        rintro e' w4 ⟨rfl, hb⟩
        have hbb := hb.trans ((below_alloc w4 (.cells #[.int .i64 xe, .int .i64 xn] 32)).mono hb.size)
        have HS4 := Lib.hid (HS3.out.later hbb)
        have HR4 := Lib.hid (HR3.out.below (L := L) hbb)
        have HX4 := Lib.hid (HX3.out.below hbb)
        have HP4 := HP3.out.below hbb
        have HQ4 := DC.alloc w4 [.int .i64 xe, .int .i64 xn] 32
        have p0 := HP4.cells 0 _ rfl
        have p1 := HP4.cells 1 _ rfl
        have q0 := HQ4.cells 0 _ rfl
        have q1 := HQ4.cells 1 _ rfl
        clear hb hbb HS3 HR3 HX3 HA2 d1 d2 HP4 HQ4 HP3
        have d0 := HX4.out.1.cells 0 _ rfl
        have d1 := HX4.out.1.cells 1 _ rfl
        have d2 := HX4.out.1.cells 2 _ rfl
        have d3 := HX4.out.1.cells 3 _ rfl
        have d4 := HX4.out.1.cells 4 _ rfl
        by_cases n1 : bits .and .i64 k.op 7 < 2
        · have hdo : (t.does k).2 = t.opn.2.2 := by unfold Tb.does; rw [if_pos (show opc k.op < 2 from n1)]
          have HDO := Lib.hid hdo
          have m2 : (bits .and .i64 k.op 7 == 2) = false := by simp; omega
          have m3 : ¬ (3 < bits .and .i64 k.op 7) := by omega
          clear hdo
          have HC := Lib.hid (Open_any HS4.out.tab HS4.out.ok)
          go_wp2_with fail
          generalize w4.alloc (.cells #[.int .i64 xe, .int .i64 xn] 32) = W4 at *
          go_fit HC.out
          rintro e' w5 ⟨L5, rfl, hd, he⟩
          have HS5 := Lib.hid (HS4.out.ext hd he ((opn_ok HS4.out.ok).more (Nat.le_succ i)))
          have HR5 := Lib.hid (HR4.out.ext he)
          have HCR := Lib.hid (ROpen_any HR5.out HS4.out.ok HS5.out.tab.llt)
          clear hd he HC p0 p1 q0 q1 d0 d1 d2 d3 d4
          go_wp2_with fail
          go_fit HCR.out
          rintro e' w6 ⟨rfl, hr, he⟩
          have HRn : Hid (Rf w6 L5 b2 (dos T0 (ks.take (i + 1)))) := by show Rf _ _ _ _; rw [HK1.out, HDO.out]; exact hr
          have HSn : Hid (Sk w w6 w.heap.size L5 (dos T0 (ks.take (i + 1))) (i + 1)) := by show Sk _ _ _ _ _ _; rw [HK1.out, HDO.out]; exact HS5.out.apart HR5.out.nL HC2.out he
          clear hr he HCR
          have HLc := Lib.hid (List_any HSn.out.tab (by have := HSn.out.ok.len; omega))
          go_wp2_with fail
          go_fit HLc.out
          rintro e' w7 ⟨u, rfl, ho, hb⟩
          have HOW := Lib.hid ho
          have HB7 := Lib.hid hb
          have hsb := ho.seb (L := []) (fun k hk => by cases hk)
          have HSB := Lib.hid hsb
          obtain ⟨ua, uc, rfl, _, _⟩ := hsb.slice
          obtain ⟨rv, hrv⟩ := HRn.out.below (L := L5) hb
          obtain ⟨ra, rc, hre, _, _⟩ := hrv.seb.slice
          subst hre
          have HRS := Lib.hid (hrv.seb.sub (L' := []) (fun k hk => by cases hk))
          have r1 := hrv.cells.cells 1 _ rfl
          clear ho hb hsb hrv HLc
          go_wp2_with fail
          go_fit (same_any HSB.out HRS.out)
          rintro e' w8 ⟨rfl, hb⟩
          have HOW8 : Hid (w8.ownsRow w6.heap.size 44 4 (.slice ua (dos T0 (ks.take (i + 1))).seats.length uc) (dos T0 (ks.take (i + 1))).seats.length (scs (dos T0 (ks.take (i + 1))).seats)) := HOW.out.kept (row := none) ⟨hb.os, hb.tape, hb.output, hb.size, fun k hk _ => hb.block k hk⟩ (by cases (Value.slice ua (dos T0 (ks.take (i + 1))).seats.length uc).ownBlock <;> simp)
          have HB8 := Lib.hid (HB7.out.trans (hb.mono HB7.out.size))
          have hle8 : (dos T0 (ks.take (i + 1))).seats.length ≤ 8 := HSn.out.ok.len
          clear hb r1 HOW HB7
          go_wp2_with fail
          go_loopw [133] (fun v wr => ∃ (j : Nat) (cs : List Value), v = .int .i64 j ∧ j ≤ (dos T0 (ks.take (i + 1))).seats.length ∧ Hid (wr.ownsRow w6.heap.size 44 4 (.slice ua (dos T0 (ks.take (i + 1))).seats.length uc) (dos T0 (ks.take (i + 1))).seats.length cs) ∧ Hid (Below w6.heap.size w6 wr))
            (fun v _ => (dos T0 (ks.take (i + 1))).seats.length - (intOf v).toNat)
          case atStart => exact ⟨0, _, rfl, Nat.zero_le _, HOW8, HB8⟩
          case round =>
            clear HOW8 HB8
            obtain ⟨j, cs, rfl, hjn, how, hbw⟩ := hrel
            by_cases hjl : j < (dos T0 (ks.take (i + 1))).seats.length
            · have ej : IntKind.i64.wrap ((j : Int) + 1) = (j : Int) + 1 := IntWalk.i64_in _ (by omega)
              obtain ⟨g, cap, hv, hg1, hg2⟩ := how.out.form (by omega)
              simp only [Value.slice.injEq, true_and] at hv
              obtain ⟨rfl, rfl⟩ := hv
              have hcl := how.out.1
              have s1 := (how.out.cellAt (j * 4 + 1) (by omega)).trans (List.getElem?_eq_getElem (by omega))
              have s2 := how.out.frozenAt (j * 4 + 1)
              have hJ1 : (j : Int) < (((dos T0 (ks.take (i + 1))).seats.length : Nat) : Int) := by omega
              have hJ2 : (0 : Int) ≤ (j : Int) := by omega
              have HO9 := Lib.hid (how.out.stored (j * 4 + 1) (.int .i64 (-1))).1
              have HB9 := Lib.hid (hbw.out.trans (below_put (w := wr) (k := g) (o := j * 4 + 1) (x := .int .i64 (-1)) hg1))
              clear how hbw
              go_wp2_with fail
              exact ⟨⟨j + 1, _, by simp, hjl, HO9, HB9⟩, by show (dos T0 (ks.take (i + 1))).seats.length - ((j : Int) + 1).toNat < (dos T0 (ks.take (i + 1))).seats.length - ((j : Int)).toNat; omega⟩
            · obtain rfl : j = (dos T0 (ks.take (i + 1))).seats.length := by omega
              have HS9 := Lib.hid (HSn.out.later hbw.out)
              have HR9 := Lib.hid (HRn.out.below (L := L5) hbw.out)
              go_wp2_with fail
              exact ⟨⟨i + 1, L5, by simp, hlt, HS9, HR9⟩, by show ks.length - ((i : Int) + 1).toNat < ks.length - ((i : Int)).toNat; omega⟩
        · have m1 : 2 ≤ bits .and .i64 k.op 7 := by omega
          by_cases n2 : bits .and .i64 k.op 7 = 2
          · have hdo : t.does k = t.close k.k := by unfold Tb.does; rw [if_neg (show ¬ opc k.op < 2 from n1), if_pos (show opc k.op = 2 from n2)]
            have HDO := Lib.hid hdo
            have HLEN : Hid (t.seats.length ≤ 100000) := by show _ ≤ _; have := HS4.out.ok.len; omega
            clear hdo m1
            have hdr : Below (w4.alloc (.cells #[.int .i64 xe, .int .i64 xn] 32)).heap.size (w4.alloc (.cells #[.int .i64 xe, .int .i64 xn] 32)) (w4.alloc (.cells #[.int .i64 xe, .int .i64 xn] 32)).drew := ⟨rfl, rfl, rfl, Nat.le_refl _, fun _ _ => rfl⟩
            have HSd := Lib.hid (HS4.out.later hdr)
            have HRd := Lib.hid (HR4.out.below (L := L) hdr)
            have HXd := Lib.hid (HX4.out.below hdr)
            have HCa := Lib.hid (Close_any k.k HSd.out.tab HLEN.out)
            have HRa := Lib.hid (RClose_any k.k HRd.out HLEN.out HSd.out.tab.llt)
            go_wp2_with fail
            clear p0 p1 q0 q1
            generalize w4.alloc (.cells #[.int .i64 xe, .int .i64 xn] 32) = W4 at *
            go_region_with (first
              | (go_at_call 17; refine HCa.out.mono ?_; rintro e' w5 ⟨L5, rfl, hd, he⟩; have HS5 := Lib.hid (HSd.out.ext hd he ((close_ok HSd.out.ok k.k).more (Nat.le_succ i))); have HR5 := Lib.hid (HRd.out.ext he); have HX5 := Lib.hid (HXd.out.ext (he.cons b2)); have HRb := Lib.hid (RClose_any k.k HR5.out HLEN.out HS5.out.tab.llt); have u1 := HX5.out.1.cells 1 _ rfl; clear hd he)
              | (go_at_call 17; refine HCb.out.mono ?_; rintro e' w6 ⟨L5, rfl, hd, he⟩; have HS6 := Lib.hid (HS5.out.ext hd he ((close_ok HSd.out.ok k.k).more (Nat.le_succ i))); have HR6 := Lib.hid (HR5.out.ext he); clear hd he)
              | (go_at_call 18; refine HRa.out.mono ?_; rintro e' w5 ⟨rfl, hr, he⟩; have HR5 := Lib.hid hr; have HS5 := Lib.hid (HSd.out.apart HRd.out.nL HC2.out he); have HX5 := Lib.hid (HXd.out.ext (he.cons2 L)); have HCb := Lib.hid (Close_any k.k HS5.out.tab HLEN.out); have u1 := HX5.out.1.cells 1 _ rfl; clear hr he)
              | (go_at_call 18; refine HRb.out.mono ?_; rintro e' w6 ⟨rfl, hr, he⟩; have HR6 := Lib.hid hr; have HS6 := Lib.hid (HS5.out.apart HR5.out.nL HC2.out he); clear hr he))
            all_goals
              have HRn : Hid (Rf w6 L5 b2 (dos T0 (ks.take (i + 1)))) := by show Rf _ _ _ _; rw [HK1.out, HDO.out]; exact HR6.out
              have HSn : Hid (Sk w w6 w.heap.size L5 (dos T0 (ks.take (i + 1))) (i + 1)) := by show Sk _ _ _ _ _ _; rw [HK1.out, HDO.out]; exact HS6.out
              clear HS6 HR6 HCa HRa d0 d1 d2 d3 d4 u1
              have HLc := Lib.hid (List_any HSn.out.tab (by have := HSn.out.ok.len; omega))
              go_wp2_with fail
              go_fit HLc.out
              rintro e' w7 ⟨u, rfl, ho, hb⟩
              have HOW := Lib.hid ho
              have HB7 := Lib.hid hb
              have hsb := ho.seb (L := []) (fun k hk => by cases hk)
              have HSB := Lib.hid hsb
              obtain ⟨ua, uc, rfl, _, _⟩ := hsb.slice
              obtain ⟨rv, hrv⟩ := HRn.out.below (L := L5) hb
              obtain ⟨ra, rc, hre, _, _⟩ := hrv.seb.slice
              subst hre
              have HRS := Lib.hid (hrv.seb.sub (L' := []) (fun k hk => by cases hk))
              have r1 := hrv.cells.cells 1 _ rfl
              clear ho hb hsb hrv HLc
              go_wp2_with fail
              go_fit (same_any HSB.out HRS.out)
              rintro e' w8 ⟨rfl, hb⟩
              have HOW8 : Hid (w8.ownsRow w6.heap.size 44 4 (.slice ua (dos T0 (ks.take (i + 1))).seats.length uc) (dos T0 (ks.take (i + 1))).seats.length (scs (dos T0 (ks.take (i + 1))).seats)) := HOW.out.kept (row := none) ⟨hb.os, hb.tape, hb.output, hb.size, fun k hk _ => hb.block k hk⟩ (by cases (Value.slice ua (dos T0 (ks.take (i + 1))).seats.length uc).ownBlock <;> simp)
              have HB8 := Lib.hid (HB7.out.trans (hb.mono HB7.out.size))
              have hle8 : (dos T0 (ks.take (i + 1))).seats.length ≤ 8 := HSn.out.ok.len
              clear hb r1 HOW HB7
              go_wp2_with fail
              go_loopw [133] (fun v wr => ∃ (j : Nat) (cs : List Value), v = .int .i64 j ∧ j ≤ (dos T0 (ks.take (i + 1))).seats.length ∧ Hid (wr.ownsRow w6.heap.size 44 4 (.slice ua (dos T0 (ks.take (i + 1))).seats.length uc) (dos T0 (ks.take (i + 1))).seats.length cs) ∧ Hid (Below w6.heap.size w6 wr))
                (fun v _ => (dos T0 (ks.take (i + 1))).seats.length - (intOf v).toNat)
              case atStart => exact ⟨0, _, rfl, Nat.zero_le _, HOW8, HB8⟩
              case round =>
                clear HOW8 HB8
                obtain ⟨j, cs, rfl, hjn, how, hbw⟩ := hrel
                by_cases hjl : j < (dos T0 (ks.take (i + 1))).seats.length
                · have ej : IntKind.i64.wrap ((j : Int) + 1) = (j : Int) + 1 := IntWalk.i64_in _ (by omega)
                  obtain ⟨g, cap, hv, hg1, hg2⟩ := how.out.form (by omega)
                  simp only [Value.slice.injEq, true_and] at hv
                  obtain ⟨rfl, rfl⟩ := hv
                  have hcl := how.out.1
                  have s1 := (how.out.cellAt (j * 4 + 1) (by omega)).trans (List.getElem?_eq_getElem (by omega))
                  have s2 := how.out.frozenAt (j * 4 + 1)
                  have hJ1 : (j : Int) < (((dos T0 (ks.take (i + 1))).seats.length : Nat) : Int) := by omega
                  have hJ2 : (0 : Int) ≤ (j : Int) := by omega
                  have HO9 := Lib.hid (how.out.stored (j * 4 + 1) (.int .i64 (-1))).1
                  have HB9 := Lib.hid (hbw.out.trans (below_put (w := wr) (k := g) (o := j * 4 + 1) (x := .int .i64 (-1)) hg1))
                  clear how hbw
                  go_wp2_with fail
                  exact ⟨⟨j + 1, _, by simp, hjl, HO9, HB9⟩, by show (dos T0 (ks.take (i + 1))).seats.length - ((j : Int) + 1).toNat < (dos T0 (ks.take (i + 1))).seats.length - ((j : Int)).toNat; omega⟩
                · obtain rfl : j = (dos T0 (ks.take (i + 1))).seats.length := by omega
                  have HS9 := Lib.hid (HSn.out.later hbw.out)
                  have HR9 := Lib.hid (HRn.out.below (L := L5) hbw.out)
                  go_wp2_with fail
                  exact ⟨⟨i + 1, L5, by simp, hlt, HS9, HR9⟩, by show ks.length - ((i : Int) + 1).toNat < ks.length - ((i : Int)).toNat; omega⟩
          · by_cases n3 : bits .and .i64 k.op 7 = 3
            · have hdo : (t.does k).2 = t := by unfold Tb.does; rw [if_neg (show ¬ opc k.op < 2 from n1), if_neg (show ¬ opc k.op = 2 from n2), if_pos (show opc k.op = 3 from n3)]
              have HRn : Hid (Rf (w4.alloc (.cells #[.int .i64 xe, .int .i64 xn] 32)) L b2 (dos T0 (ks.take (i + 1)))) := by show Rf _ _ _ _; rw [HK1.out, hdo]; exact HR4.out
              have HSn : Hid (Sk w (w4.alloc (.cells #[.int .i64 xe, .int .i64 xn] 32)) w.heap.size L (dos T0 (ks.take (i + 1))) (i + 1)) := by show Sk _ _ _ _ _ _; rw [HK1.out, hdo]; exact HS4.out.more (Nat.le_succ i)
              clear hdo
              have HLc := Lib.hid (List_any HSn.out.tab (by have := HSn.out.ok.len; omega))
              go_wp2_with fail
              clear p0 p1 q0 q1 d0 d1 d2 d3 d4
              generalize w4.alloc (.cells #[.int .i64 xe, .int .i64 xn] 32) = w6 at *
              go_fit HLc.out
              rintro e' w7 ⟨u, rfl, ho, hb⟩
              have HOW := Lib.hid ho
              have HB7 := Lib.hid hb
              have hsb := ho.seb (L := []) (fun k hk => by cases hk)
              have HSB := Lib.hid hsb
              obtain ⟨ua, uc, rfl, _, _⟩ := hsb.slice
              obtain ⟨rv, hrv⟩ := HRn.out.below (L := L) hb
              obtain ⟨ra, rc, hre, _, _⟩ := hrv.seb.slice
              subst hre
              have HRS := Lib.hid (hrv.seb.sub (L' := []) (fun k hk => by cases hk))
              have r1 := hrv.cells.cells 1 _ rfl
              clear ho hb hsb hrv HLc
              go_wp2_with fail
              go_fit (same_any HSB.out HRS.out)
              rintro e' w8 ⟨rfl, hb⟩
              have HOW8 : Hid (w8.ownsRow w6.heap.size 44 4 (.slice ua (dos T0 (ks.take (i + 1))).seats.length uc) (dos T0 (ks.take (i + 1))).seats.length (scs (dos T0 (ks.take (i + 1))).seats)) := HOW.out.kept (row := none) ⟨hb.os, hb.tape, hb.output, hb.size, fun k hk _ => hb.block k hk⟩ (by cases (Value.slice ua (dos T0 (ks.take (i + 1))).seats.length uc).ownBlock <;> simp)
              have HB8 := Lib.hid (HB7.out.trans (hb.mono HB7.out.size))
              have hle8 : (dos T0 (ks.take (i + 1))).seats.length ≤ 8 := HSn.out.ok.len
              clear hb r1 HOW HB7
              go_wp2_with fail
              go_loopw [133] (fun v wr => ∃ (j : Nat) (cs : List Value), v = .int .i64 j ∧ j ≤ (dos T0 (ks.take (i + 1))).seats.length ∧ Hid (wr.ownsRow w6.heap.size 44 4 (.slice ua (dos T0 (ks.take (i + 1))).seats.length uc) (dos T0 (ks.take (i + 1))).seats.length cs) ∧ Hid (Below w6.heap.size w6 wr))
                (fun v _ => (dos T0 (ks.take (i + 1))).seats.length - (intOf v).toNat)
              case atStart => exact ⟨0, _, rfl, Nat.zero_le _, HOW8, HB8⟩
              case round =>
                clear HOW8 HB8
                obtain ⟨j, cs, rfl, hjn, how, hbw⟩ := hrel
                by_cases hjl : j < (dos T0 (ks.take (i + 1))).seats.length
                · have ej : IntKind.i64.wrap ((j : Int) + 1) = (j : Int) + 1 := IntWalk.i64_in _ (by omega)
                  obtain ⟨g, cap, hv, hg1, hg2⟩ := how.out.form (by omega)
                  simp only [Value.slice.injEq, true_and] at hv
                  obtain ⟨rfl, rfl⟩ := hv
                  have hcl := how.out.1
                  have s1 := (how.out.cellAt (j * 4 + 1) (by omega)).trans (List.getElem?_eq_getElem (by omega))
                  have s2 := how.out.frozenAt (j * 4 + 1)
                  have hJ1 : (j : Int) < (((dos T0 (ks.take (i + 1))).seats.length : Nat) : Int) := by omega
                  have hJ2 : (0 : Int) ≤ (j : Int) := by omega
                  have HO9 := Lib.hid (how.out.stored (j * 4 + 1) (.int .i64 (-1))).1
                  have HB9 := Lib.hid (hbw.out.trans (below_put (w := wr) (k := g) (o := j * 4 + 1) (x := .int .i64 (-1)) hg1))
                  clear how hbw
                  go_wp2_with fail
                  exact ⟨⟨j + 1, _, by simp, hjl, HO9, HB9⟩, by show (dos T0 (ks.take (i + 1))).seats.length - ((j : Int) + 1).toNat < (dos T0 (ks.take (i + 1))).seats.length - ((j : Int)).toNat; omega⟩
                · obtain rfl : j = (dos T0 (ks.take (i + 1))).seats.length := by omega
                  have HS9 := Lib.hid (HSn.out.later hbw.out)
                  have HR9 := Lib.hid (HRn.out.below (L := L) hbw.out)
                  go_wp2_with fail
                  exact ⟨⟨i + 1, L, by simp, hlt, HS9, HR9⟩, by show ks.length - ((i : Int) + 1).toNat < ks.length - ((i : Int)).toNat; omega⟩
            · have hdo : t.does k = t.keep k.k k.q k.err k.n := by unfold Tb.does; rw [if_neg (show ¬ opc k.op < 2 from n1), if_neg (show ¬ opc k.op = 2 from n2), if_neg (show ¬ opc k.op = 3 from n3)]
              have HDO := Lib.hid hdo
              have m2 : (bits .and .i64 k.op 7 == 2) = false := by simp; omega
              have m3 : 3 < bits .and .i64 k.op 7 := by omega
              clear hdo
              have HI : Hid (i ≤ 4611686018427387904) := by show _ ≤ _; omega
              have hdr : Below (w4.alloc (.cells #[.int .i64 xe, .int .i64 xn] 32)).heap.size (w4.alloc (.cells #[.int .i64 xe, .int .i64 xn] 32)) (w4.alloc (.cells #[.int .i64 xe, .int .i64 xn] 32)).drew := ⟨rfl, rfl, rfl, Nat.le_refl _, fun _ _ => rfl⟩
              have HSd := Lib.hid (HS4.out.later hdr)
              have HRd := Lib.hid (HR4.out.below (L := L) hdr)
              have HXd := Lib.hid (HX4.out.below hdr)
              have HCa := Lib.hid (Keep_any k.k k.q k.err k.n HSd.out.tab HSd.out.ok HI.out)
              have HRa := Lib.hid (RKeep_any k.k k.q k.err k.n HKQ.out HRd.out HSd.out.ok HI.out HSd.out.tab.llt)
              go_wp2_with fail
              clear p0 p1 q0 q1
              generalize w4.alloc (.cells #[.int .i64 xe, .int .i64 xn] 32) = W4 at *
              go_region_held3 (fun V => V.cell? ⟨dk, 1, none⟩ = some (.int .i64 k.k) ∧ V.cell? ⟨dk, 2, none⟩ = some (.int .i64 k.q) ∧ V.cell? ⟨dk, 3, none⟩ = some (.int .i64 k.err) ∧ V.cell? ⟨dk, 4, none⟩ = some (.int .i64 k.n)) (go_keep)
                (first
                  | (go_at_call 19; refine HCa.out.mono ?_; rintro e' w5 ⟨L5, rfl, hd, he⟩; have HS5 := Lib.hid (HSd.out.ext hd he (keep_ok HSd.out.ok k.k k.q k.err k.n)); have HR5 := Lib.hid (HRd.out.ext he); have HX5 := Lib.hid (HXd.out.ext (he.cons b2)); have HRb := Lib.hid (RKeep_any k.k k.q k.err k.n HKQ.out HR5.out HSd.out.ok HI.out HS5.out.tab.llt); have u1 := HX5.out.1.cells 1 _ rfl; have u2 := HX5.out.1.cells 2 _ rfl; have u3 := HX5.out.1.cells 3 _ rfl; have u4 := HX5.out.1.cells 4 _ rfl; clear hd he)
                  | (go_at_call 20; refine HRb.out.mono ?_; rintro e' w6 ⟨rfl, hr, he⟩; have HR6 := Lib.hid hr; have HS6 := Lib.hid (HS5.out.apart HR5.out.nL HC2.out he); have HX6 := Lib.hid (HX5.out.ext (he.cons2 L5)); have v1 := HX6.out.1.cells 1 _ rfl; have v2 := HX6.out.1.cells 2 _ rfl; have v3 := HX6.out.1.cells 3 _ rfl; have v4 := HX6.out.1.cells 4 _ rfl; clear hr he))
              all_goals
                have HRn : Hid (Rf w6 L5 b2 (dos T0 (ks.take (i + 1)))) := by show Rf _ _ _ _; rw [HK1.out, HDO.out]; exact HR6.out
                have HSn : Hid (Sk w w6 w.heap.size L5 (dos T0 (ks.take (i + 1))) (i + 1)) := by show Sk _ _ _ _ _ _; rw [HK1.out, HDO.out]; exact HS6.out
                clear HS6 HR6 HCa HRa d0 d1 d2 d3 d4 u1 u2 u3 u4 v1 v2 v3 v4
                have HLc := Lib.hid (List_any HSn.out.tab (by have := HSn.out.ok.len; omega))
                go_wp2_with fail
                go_fit HLc.out
                rintro e' w7 ⟨u, rfl, ho, hb⟩
                have HOW := Lib.hid ho
                have HB7 := Lib.hid hb
                have hsb := ho.seb (L := []) (fun k hk => by cases hk)
                have HSB := Lib.hid hsb
                obtain ⟨ua, uc, rfl, _, _⟩ := hsb.slice
                obtain ⟨rv, hrv⟩ := HRn.out.below (L := L5) hb
                obtain ⟨ra, rc, hre, _, _⟩ := hrv.seb.slice
                subst hre
                have HRS := Lib.hid (hrv.seb.sub (L' := []) (fun k hk => by cases hk))
                have r1 := hrv.cells.cells 1 _ rfl
                clear ho hb hsb hrv HLc
                go_wp2_with fail
                go_fit (same_any HSB.out HRS.out)
                rintro e' w8 ⟨rfl, hb⟩
                have HOW8 : Hid (w8.ownsRow w6.heap.size 44 4 (.slice ua (dos T0 (ks.take (i + 1))).seats.length uc) (dos T0 (ks.take (i + 1))).seats.length (scs (dos T0 (ks.take (i + 1))).seats)) := HOW.out.kept (row := none) ⟨hb.os, hb.tape, hb.output, hb.size, fun k hk _ => hb.block k hk⟩ (by cases (Value.slice ua (dos T0 (ks.take (i + 1))).seats.length uc).ownBlock <;> simp)
                have HB8 := Lib.hid (HB7.out.trans (hb.mono HB7.out.size))
                have hle8 : (dos T0 (ks.take (i + 1))).seats.length ≤ 8 := HSn.out.ok.len
                clear hb r1 HOW HB7
                go_wp2_with fail
                go_loopw [133] (fun v wr => ∃ (j : Nat) (cs : List Value), v = .int .i64 j ∧ j ≤ (dos T0 (ks.take (i + 1))).seats.length ∧ Hid (wr.ownsRow w6.heap.size 44 4 (.slice ua (dos T0 (ks.take (i + 1))).seats.length uc) (dos T0 (ks.take (i + 1))).seats.length cs) ∧ Hid (Below w6.heap.size w6 wr))
                  (fun v _ => (dos T0 (ks.take (i + 1))).seats.length - (intOf v).toNat)
                case atStart => exact ⟨0, _, rfl, Nat.zero_le _, HOW8, HB8⟩
                case round =>
                  clear HOW8 HB8
                  obtain ⟨j, cs, rfl, hjn, how, hbw⟩ := hrel
                  by_cases hjl : j < (dos T0 (ks.take (i + 1))).seats.length
                  · have ej : IntKind.i64.wrap ((j : Int) + 1) = (j : Int) + 1 := IntWalk.i64_in _ (by omega)
                    obtain ⟨g, cap, hv, hg1, hg2⟩ := how.out.form (by omega)
                    simp only [Value.slice.injEq, true_and] at hv
                    obtain ⟨rfl, rfl⟩ := hv
                    have hcl := how.out.1
                    have s1 := (how.out.cellAt (j * 4 + 1) (by omega)).trans (List.getElem?_eq_getElem (by omega))
                    have s2 := how.out.frozenAt (j * 4 + 1)
                    have hJ1 : (j : Int) < (((dos T0 (ks.take (i + 1))).seats.length : Nat) : Int) := by omega
                    have hJ2 : (0 : Int) ≤ (j : Int) := by omega
                    have HO9 := Lib.hid (how.out.stored (j * 4 + 1) (.int .i64 (-1))).1
                    have HB9 := Lib.hid (hbw.out.trans (below_put (w := wr) (k := g) (o := j * 4 + 1) (x := .int .i64 (-1)) hg1))
                    clear how hbw
                    go_wp2_with fail
                    exact ⟨⟨j + 1, _, by simp, hjl, HO9, HB9⟩, by show (dos T0 (ks.take (i + 1))).seats.length - ((j : Int) + 1).toNat < (dos T0 (ks.take (i + 1))).seats.length - ((j : Int)).toNat; omega⟩
                  · obtain rfl : j = (dos T0 (ks.take (i + 1))).seats.length := by omega
                    have HS9 := Lib.hid (HSn.out.later hbw.out)
                    have HR9 := Lib.hid (HRn.out.below (L := L5) hbw.out)
                    go_wp2_with fail
                    exact ⟨⟨i + 1, L5, by simp, hlt, HS9, HR9⟩, by show ks.length - ((i : Int) + 1).toNat < ks.length - ((i : Int)).toNat; omega⟩
      · obtain rfl : i = ks.length := by omega
        go_wp2_with fail
        go_fit (awake_any _)
        rintro e w4 ⟨rfl, hb⟩
        have HB := Lib.hid (hst.out.below.trans (hb.mono hst.out.below.size))
        clear hb
        go_wp2_with fail
        go_ret
        exact ⟨rfl, HB.out⟩
  · have g1 : ¬ ((ks.length : Nat) : Int) ≤ 500 := by omega
    clear hl HK HQ hkq
    go_enter Try.func3, Try.ntmps3
    go_wp2_with fail
    go_fit (awake_any _)
    rintro e w2 ⟨rfl, hb⟩
    have HB := Lib.hid hb
    clear hb
    go_wp2_with fail
    go_ret
    exact ⟨rfl, HB.out⟩
end Go.Proofs.Ytnfpobbdcjfcoaa
