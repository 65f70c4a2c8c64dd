/-
  The document's digest of bytes, walked: the whole.
-/
import Derived.Test.YtdgnjalbpiciiaaD8
namespace Go.Proofs.Ytdgnjalbpiciiaa.Dg
open Go.Proofs.Ytdgnjalbpiciiaa
set_option linter.unusedVariables false
set_option linter.unusedSimpArgs false
open Go.RowKit Go.Joins

/-- What the document's loop has of the bytes that it went through: the word begun, and what its next byte counts. -/
def begun (xs : List Int) (i : Nat) : Nat := wordOf ((xs.drop (8 * (i / 8))).take (i % 8))
theorem begun_step {xs : List Int} {i : Nat} (hi : i < xs.length) : wordOf ((xs.drop (8 * (i / 8))).take (i % 8 + 1)) = begun xs i + (xs.getD i 0).toNat * 256 ^ (i % 8) := by
  unfold begun
  have h := wordOf_step (xs := xs.drop (8 * (i / 8))) (i := i % 8) (by simp; omega)
  rw [h]
  have e : (xs.drop (8 * (i / 8))).getD (i % 8) 0 = xs.getD i 0 := by
    rw [List.getD_eq_getElem?_getD, List.getD_eq_getElem?_getD, List.getElem?_drop, show 8 * (i / 8) + i % 8 = i by omega]
  rw [e]
theorem begun_lt {xs : List Int} (h : Oct xs) (i : Nat) : begun xs i < 256 ^ (i % 8) := by
  have h1 := wordOf_lt ((h.drop (8 * (i / 8))).take (i % 8))
  have h2 : ((xs.drop (8 * (i / 8))).take (i % 8)).length ≤ i % 8 := List.length_take_le _ _
  exact Nat.lt_of_lt_of_le h1 (Nat.pow_le_pow_right (by decide) h2)
theorem mulw {x r : Nat} (hx : x < 256) (hr : r < 8) : IntKind.u64.wrap ((x : Int) * ((256 ^ r : Nat) : Int)) = ((x * 256 ^ r : Nat) : Int) := by
  rw [IntKind.wrap_u64]
  have h : r = 0 ∨ r = 1 ∨ r = 2 ∨ r = 3 ∨ r = 4 ∨ r = 5 ∨ r = 6 ∨ r = 7 := by omega
  rcases h with rfl | rfl | rfl | rfl | rfl | rfl | rfl | rfl <;> simp <;> omega
theorem addm {m x r : Nat} (hm : m < 256 ^ r) (hx : x < 256) (hr : r < 8) : IntKind.u64.wrap ((m : Int) + IntKind.u64.wrap ((x : Int) * ((256 ^ r : Nat) : Int))) = ((m + x * 256 ^ r : Nat) : Int) := by
  rw [mulw hx hr, IntKind.wrap_u64]
  have h : r = 0 ∨ r = 1 ∨ r = 2 ∨ r = 3 ∨ r = 4 ∨ r = 5 ∨ r = 6 ∨ r = 7 := by omega
  rcases h with rfl | rfl | rfl | rfl | rfl | rfl | rfl | rfl <;> simp at * <;> omega
theorem mulp {r : Nat} (hr : r < 7) : IntKind.u64.wrap (256 * ((256 ^ r : Nat) : Int)) = ((256 ^ (r + 1) : Nat) : Int) := by
  rw [IntKind.wrap_u64]
  have h : r = 0 ∨ r = 1 ∨ r = 2 ∨ r = 3 ∨ r = 4 ∨ r = 5 ∨ r = 6 := by omega
  rcases h with rfl | rfl | rfl | rfl | rfl | rfl | rfl <;> simp

/-- A round's end. -/
def AtI (w wr : World) (g : Nat) (s : W4) (xs : List Int) (i : Nat) : Prop := At4 wr wr g (eats s xs (i / 8)) ∧ Below w.heap.size w wr

set_option maxRecDepth 100000 in
set_option maxHeartbeats 3200000 in
theorem RSum_any {w : World} {a b : Nat} {p : Option Addr} {n c : Nat} {xs : List Int} (ha : a < 18446744073709551616) (hb : b < 18446744073709551616) (hi : Lib.BytesIn w p n xs) (hx : xs.length = n) (ho : Oct xs) (hn : n ≤ 140737488355328) :
    Calls Try.prog 83 #[.agg #[.int .u64 a, .int .u64 b], .slice p n c] w fun e w' => e = .returned (.int .u64 (sumN a b xs : Nat)) ∧ Below w.heap.size w w' := by
  have HI := Lib.hid hi
  have HX := Lib.hid hx
  have HO := Lib.hid ho
  have q0 : Hid (bits .xor .u64 (a : Int) 8317987319222330741 = (((W4.seed a b).a : Nat) : Int)) := Lib.hid (xorw ha (by decide : k0 < _))
  have q1 : Hid (bits .xor .u64 (b : Int) 7237128888997146477 = (((W4.seed a b).b : Nat) : Int)) := Lib.hid (xorw hb (by decide : k1 < _))
  have q2 : Hid (bits .xor .u64 (a : Int) 7816392313619706465 = (((W4.seed a b).c : Nat) : Int)) := Lib.hid (xorw ha (by decide : k2 < _))
  have q3 : Hid (bits .xor .u64 (b : Int) 8387220255154660723 = (((W4.seed a b).d : Nat) : Int)) := Lib.hid (xorw hb (by decide : k3 < _))
  have HS := Lib.hid (W4.seed_ok ha hb)
  obtain ⟨s, hs⟩ : ∃ s, s = W4.seed a b := ⟨_, rfl⟩
  rw [← hs] at q0 q1 q2 q3 HS
  have ES := Lib.hid hs
  clear hi hx ho ha hb hs
  go_enter Try.func83, Try.ntmps83
  go_upto_region 2 with fail
  rw [q0.out, q1.out, q2.out, q3.out]
  have HB : Hid (Below w.heap.size w ((w.alloc (.cells #[.int .u64 a, .int .u64 b] 88)).alloc (.cells #[.int .u64 s.a, .int .u64 s.b, .int .u64 s.c, .int .u64 s.d] 117))) := Lib.hid (((Below.refl _ _).alloc (Nat.le_refl _) _).alloc (by simp) _)
  have HA : Hid (At4 ((w.alloc (.cells #[.int .u64 a, .int .u64 b] 88)).alloc (.cells #[.int .u64 s.a, .int .u64 s.b, .int .u64 s.c, .int .u64 s.d] 117)) ((w.alloc (.cells #[.int .u64 a, .int .u64 b] 88)).alloc (.cells #[.int .u64 s.a, .int .u64 s.b, .int .u64 s.c, .int .u64 s.d] 117)) (w.heap.size + 1) s) := by
    refine Lib.hid ⟨?_, ?_, ?_, ?_, ?_, Below.refl _ _, fun _ _ => rfl⟩
    all_goals first | (go_simp; done) | (intro i; go_simp)
  generalize (w.alloc (.cells #[.int .u64 a, .int .u64 b] 88)).alloc (.cells #[.int .u64 s.a, .int .u64 s.b, .int .u64 s.c, .int .u64 s.d] 117) = W at *
  generalize hg : w.heap.size + 1 = g at *
  have HG := Lib.hid hg
  clear hg
  have H0 : Hid (AtI w W g s xs 0) := Lib.hid ⟨HA.out, HB.out⟩
  clear HA HB q0 q1 q2 q3
  go_wp2_with fail
  go_loopw [6, 7, 25] (fun v1 v2 v3 wr => ∃ i : Nat, v3 = .int .i64 i ∧ i ≤ n ∧ v1 = .int .u64 (begun xs i : Nat) ∧ v2 = .int .u64 (256 ^ (i % 8) : Nat) ∧ Hid (AtI w wr g s xs i)) (fun _ _ v _ => n - (intOf v).toNat)
  case atStart => exact ⟨0, rfl, Nat.zero_le _, rfl, rfl, H0⟩
  case round =>
    obtain ⟨i, rfl, hin, rfl, rfl, hat⟩ := hrel
    have HO2 : Hid (eats s xs (i / 8)).Ok := Lib.hid (eats_ok HS.out HO.out _)
    by_cases hlt : i < n
    · obtain ⟨b', o', rfl, hc⟩ := (in_later HI.out hat.out.2).at (by omega)
      have hci := hc i hlt
      clear hc
      have hxi := HO.out (xs.getD i 0) (by have := HX.out; rw [List.getD_eq_getElem?_getD, List.getElem?_eq_getElem (by omega)]; exact List.getElem_mem _)
      obtain ⟨x, hxe⟩ : ∃ x : Nat, xs.getD i 0 = x := ⟨(xs.getD i 0).toNat, by omega⟩
      have HQ := Lib.hid (begun_step (xs := xs) (i := i) (by have := HX.out; omega))
      rw [hxe] at hci hxi HQ
      have hx2 : x < 256 := by omega
      have HM := Lib.hid (addm (begun_lt HO.out i) hx2 (show i % 8 < 8 by omega))
      clear hxe hxi
      by_cases h7 : i % 8 = 7
      · have h7i : (i : Int) % 8 = 7 := by omega
        have qa := hat.out.1.a; have qb := hat.out.1.b; have qc := hat.out.1.c; have qd := hat.out.1.d
        have HO8 : Hid (begun xs i + x * 256 ^ (i % 8) = oct xs (i / 8)) := by
          have h := HQ.out
          rw [Int.toNat_natCast] at h
          refine Lib.hid ?_
          rw [← h]; unfold oct; rw [h7]
        have c1 := fun (w : World) => eat_any (w := w) HO2.out (oct_lt HO.out (i / 8))
        unfold W4.val at c1
        have C1 := Lib.hid c1
        clear c1 HQ
        obtain ⟨t, ht⟩ : ∃ t, t = eats s xs (i / 8) := ⟨_, rfl⟩
        rw [← ht] at qa qb qc qd C1
        have HT := Lib.hid ht
        clear ht
        generalize hP : 256 ^ (i % 8) = P at *
        generalize hY : begun xs i = Y at *
        have HP1 := Lib.hid hP
        have HY1 := Lib.hid hY
        clear hP hY
        go_upto_region 10 with fail
        rw [HM.out, HO8.out]
        go_wp2_with fail
        go_fit (C1.out wr)
        rintro e w3 ⟨rfl, h3⟩
        have H3 := Lib.hid (hat.out.1.later h3)
        have B3 : Hid (Below w.heap.size w w3) := Lib.hid (hat.out.2.trans (h3.mono hat.out.2.size))
        clear h3 hat qa qb qc qd C1
        have qa := H3.out.a; have qb := H3.out.b; have qc := H3.out.c; have qd := H3.out.d
        have za := H3.out.fz 0; have zb := H3.out.fz 1; have zc := H3.out.fz 2; have zd := H3.out.fz 3
        go_upto_region 11 with fail
        have H4 := Lib.hid (H3.out.all (t.take (oct xs (i / 8))))
        have B4 := Lib.hid (B3.out.trans (H4.out.be.mono (by have := HG.out; omega)))
        clear H3 qa qb qc qd za zb zc zd
        generalize (((w3.setCell ⟨g, 0, none⟩ (.int .u64 (t.take (oct xs (i / 8))).a)).setCell ⟨g, 1, none⟩ (.int .u64 (t.take (oct xs (i / 8))).b)).setCell ⟨g, 2, none⟩ (.int .u64 (t.take (oct xs (i / 8))).c)).setCell ⟨g, 3, none⟩ (.int .u64 (t.take (oct xs (i / 8))).d) = w4 at *
        go_wp2_with fail
        have e1 : (i + 1) / 8 = i / 8 + 1 := by omega
        have e2 : (i + 1) % 8 = 0 := by omega
        refine ⟨⟨i + 1, by push_cast; rfl, by omega, by unfold begun; rw [e2]; rfl, by rw [e2]; rfl, Lib.hid ⟨?_, B4.out⟩⟩, by simp [intOf]; omega⟩
        rw [e1]
        show At4 w4 w4 g ((eats s xs (i / 8)).take (oct xs (i / 8)))
        rw [← HT.out]
        exact H4.out.base
      · have h7i : ¬ (i : Int) % 8 = 7 := by omega
        have HP := Lib.hid (mulp (show i % 8 < 7 by omega))
        have e1 : (i + 1) / 8 = i / 8 := by omega
        have e2 : (i + 1) % 8 = i % 8 + 1 := by omega
        have HE : Hid (begun xs (i + 1) = begun xs i + x * 256 ^ (i % 8) ∧ (i + 1) % 8 = i % 8 + 1 ∧ AtI w wr g s xs (i + 1)) := by
          have h := HQ.out
          rw [Int.toNat_natCast] at h
          refine Lib.hid ⟨?_, e2, ?_⟩
          · rw [← h]; unfold begun; rw [e1, e2]
          · unfold AtI; rw [e1]; exact hat.out
        clear e1 e2 HQ
        generalize hP : 256 ^ (i % 8) = P at *
        generalize hY : begun xs i = Y at *
        go_wp2_with fail
        rw [HM.out, HP.out]
        exact ⟨⟨i + 1, by push_cast; rfl, by omega, by rw [HE.out.1], by rw [HE.out.2.1], Lib.hid HE.out.2.2⟩, by simp [intOf]; omega⟩
    · obtain rfl : i = n := by omega
      have qa := hat.out.1.a; have qb := hat.out.1.b; have qc := hat.out.1.c; have qd := hat.out.1.d
      have HQ : Hid (begun xs i + i % 256 * 72057594037927936 = lastW xs) := by
        refine Lib.hid ?_
        unfold begun lastW
        rw [HX.out, List.take_of_length_le (by have := HX.out; simp; omega)]
      have HR := Lib.hid (show begun xs i < 72057594037927936 from by
        unfold begun
        rw [List.take_of_length_le (by have := HX.out; simp; omega)]
        exact HX.out ▸ rest_lt HO.out)
      have c1 := fun (w : World) => eat_any (w := w) HO2.out (lastW_lt HO.out)
      unfold W4.val at c1
      have C1 := Lib.hid c1
      clear c1
      have HO3 := Lib.hid (HO2.out.take (lastW_lt HO.out))
      obtain ⟨t, ht⟩ : ∃ t, t = eats s xs (i / 8) := ⟨_, rfl⟩
      rw [← ht] at qa qb qc qd C1 HO3
      have HT := Lib.hid ht
      clear ht
      generalize hY : begun xs i = Y at *
      generalize 256 ^ (i % 8) = P at *
      have HY1 := Lib.hid hY
      clear hY
      have HL : Hid (IntKind.u64.wrap ((Y : Int) + (i : Int) % 256 * 72057594037927936) = ((lastW xs : Nat) : Int)) := by
        refine Lib.hid ?_
        rw [← HQ.out, IntKind.wrap_u64]
        have := HR.out
        omega
      have c2 := fun (w : World) => rmix_any (w := w) HO3.out.flip
      have c3 := fun (w : World) => rmix_any (w := w) HO3.out.flip.mix
      have c4 := fun (w : World) => rmix_any (w := w) HO3.out.flip.mix.mix
      have c5 := fun (w : World) => rmix_any (w := w) HO3.out.flip.mix.mix.mix
      have qx : Hid (bits .xor .u64 ((t.take (lastW xs)).c : Int) 255 = (((t.take (lastW xs)).flip.c : Nat) : Int)) := Lib.hid (xorw HO3.out.2.2.1 (by decide : 255 < _))
      have HO4 := Lib.hid HO3.out.flip.mix.mix.mix.mix
      have e1 : sumN a b xs = ((t.take (lastW xs)).flip.mix.mix.mix.mix).out := by unfold sumN fin4; rw [← ES.out, HX.out, ← HT.out]
      have E1 := Lib.hid e1
      unfold W4.val at c2 c3 c4 c5
      generalize t.take (lastW xs) = u at *
      have C2 := Lib.hid c2
      have C3 := Lib.hid c3
      have C4 := Lib.hid c4
      have C5 := Lib.hid c5
      clear c2 c3 c4 c5 e1 HQ HR
      go_upto_region 14 with fail
      go_wp2_with fail
      rw [HL.out]
      go_fit (C1.out wr)
      rintro e w3 ⟨rfl, h3⟩
      have H3 := Lib.hid (hat.out.1.later h3)
      have B3 : Hid (Below w.heap.size w w3) := Lib.hid (hat.out.2.trans (h3.mono hat.out.2.size))
      clear h3 hat qa qb qc qd C1
      have qa := H3.out.a; have qb := H3.out.b; have qc := H3.out.c; have qd := H3.out.d
      have za := H3.out.fz 0; have zb := H3.out.fz 1; have zc := H3.out.fz 2; have zd := H3.out.fz 3
      go_upto_region 15 with fail
      have H4 := Lib.hid (H3.out.all u)
      have B4 := Lib.hid (B3.out.trans (H4.out.be.mono (by have := HG.out; omega)))
      clear H3 qa qb qc qd za zb zc zd
      generalize (((w3.setCell ⟨g, 0, none⟩ (.int .u64 u.a)).setCell ⟨g, 1, none⟩ (.int .u64 u.b)).setCell ⟨g, 2, none⟩ (.int .u64 u.c)).setCell ⟨g, 3, none⟩ (.int .u64 u.d) = w4 at *
      have qc := H4.out.c
      have zc := H4.out.fz 2
      go_upto_region 16 with fail
      rw [qx.out]
      have H5 : Hid (At4 w4 (w4.setCell ⟨g, 2, none⟩ (.int .u64 (u.flip.c : Nat))) g u.flip) := Lib.hid (H4.out.base.putc _)
      have B5 := Lib.hid (B4.out.trans (H5.out.be.mono (by have := HG.out; omega)))
      clear H4 qc zc qx
      generalize w4.setCell ⟨g, 2, none⟩ (.int .u64 (u.flip.c : Nat)) = w5 at *
      have qa := H5.out.a; have qb := H5.out.b; have qc := H5.out.c; have qd := H5.out.d
      go_wp2_with fail
      go_fit (C2.out w5)
      rintro e w6 ⟨rfl, h6⟩
      have L6 := Lib.hid h6
      clear h6 qa qb qc qd
      go_wp2_with fail
      go_fit (C3.out w6)
      rintro e w7 ⟨rfl, h7⟩
      have L7 : Hid (Below w5.heap.size w5 w7) := Lib.hid (L6.out.trans (h7.mono L6.out.size))
      clear h7 L6
      go_wp2_with fail
      go_fit (C4.out w7)
      rintro e w8 ⟨rfl, h8⟩
      have L8 : Hid (Below w5.heap.size w5 w8) := Lib.hid (L7.out.trans (h8.mono L7.out.size))
      clear h8 L7
      go_wp2_with fail
      go_fit (C5.out w8)
      rintro e w9 ⟨rfl, h9⟩
      have L9 : Hid (Below w5.heap.size w5 w9) := Lib.hid (L8.out.trans (h9.mono L8.out.size))
      have H9 := Lib.hid (H5.out.later L9.out)
      have B9 : Hid (Below w.heap.size w w9) := Lib.hid (B5.out.trans (L9.out.mono B5.out.size))
      clear h9 L8 H5
      have qa := H9.out.a; have qb := H9.out.b; have qc := H9.out.c; have qd := H9.out.d
      have za := H9.out.fz 0; have zb := H9.out.fz 1; have zc := H9.out.fz 2; have zd := H9.out.fz 3
      go_upto_region 17 with fail
      have H10 := Lib.hid (H9.out.all u.flip.mix.mix.mix.mix)
      have B10 := Lib.hid (B9.out.trans (H10.out.be.mono (by have := HG.out; omega)))
      clear H9 qa qb qc qd za zb zc zd
      generalize u.flip.mix.mix.mix.mix = v at *
      generalize (((w9.setCell ⟨g, 0, none⟩ (.int .u64 v.a)).setCell ⟨g, 1, none⟩ (.int .u64 v.b)).setCell ⟨g, 2, none⟩ (.int .u64 v.c)).setCell ⟨g, 3, none⟩ (.int .u64 v.d) = w10 at *
      have qa := H10.out.a; have qb := H10.out.b; have qc := H10.out.c; have qd := H10.out.d
      obtain ⟨la, lb, lc, ld⟩ := HO4.out
      have y1 := Lib.hid (xorw la lb)
      have y2 := Lib.hid (xorw (xorw_lt la lb) lc)
      have y3 := Lib.hid (xorw (xorw_lt (xorw_lt la lb) lc) ld)
      clear la lb lc ld
      go_wp2_with fail
      rw [y1.out, y2.out, y3.out]
      go_ret
      rw [E1.out]
      exact ⟨rfl, B10.out⟩
end Go.Proofs.Ytdgnjalbpiciiaa.Dg
