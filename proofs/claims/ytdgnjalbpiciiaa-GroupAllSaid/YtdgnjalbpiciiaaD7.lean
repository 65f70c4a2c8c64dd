/-
  The digest of bytes, walked.
-/
import Derived.Test.YtdgnjalbpiciiaaD6
namespace Go.Proofs.Ytdgnjalbpiciiaa.Dg
open Go.Proofs.Ytdgnjalbpiciiaa
set_option linter.unusedVariables false
set_option linter.unusedSimpArgs false
open Go.RowKit

theorem in_later {w w' : World} {p : Option Addr} {n : Nat} {xs : List Int} (h : Lib.BytesIn w p n xs) (hb : Below w.heap.size w w') : Lib.BytesIn w' p n xs := Wi.later h hb
theorem in_drop8 {w : World} {b o n : Nat} {xs : List Int} (h : Lib.BytesIn w (some ⟨b, o, none⟩) n xs) : Lib.BytesIn w (some ⟨b, o + 8, none⟩) (n - 8) (xs.drop 8) := by
  intro hm
  obtain ⟨b', o', hh, hc⟩ := h (by omega)
  simp only [Option.some.injEq, Addr.mk.injEq, and_true] at hh
  obtain ⟨rfl, rfl⟩ := hh
  refine ⟨b, o + 8, rfl, fun i hi => ?_⟩
  rw [Nat.add_assoc, hc (8 + i) (by omega), List.getD_eq_getElem?_getD, List.getD_eq_getElem?_getD, List.getElem?_drop]
theorem in_none {w : World} {p : Option Addr} {xs : List Int} : Lib.BytesIn w p 0 xs := fun h => absurd h (by omega)
theorem in_take8 {w : World} {p : Option Addr} {n : Nat} {xs : List Int} (h : Lib.BytesIn w p n xs) (hn : 8 ≤ n) : Lib.BytesIn w p 8 (xs.take 8) := by
  intro hk0
  obtain ⟨b, o, hp, hc⟩ := h.at (by omega)
  refine ⟨b, o, hp, fun i hi => ?_⟩
  rw [hc i (by omega), List.getD_eq_getElem?_getD, List.getD_eq_getElem?_getD, List.getElem?_take, if_pos hi]
theorem sizew {n : Nat} (hn : n ≤ 140737488355328) : IntKind.u64.wrap ((n : Int) * 72057594037927936) = ((n % 256 * 72057594037927936 : Nat) : Int) := by
  rw [IntKind.wrap_u64]; omega
theorem orlast {r n : Nat} (hr : r < 72057594037927936) : bits .or .u64 (r : Int) ((n % 256 * 72057594037927936 : Nat) : Int) = ((r + n % 256 * 72057594037927936 : Nat) : Int) := by
  rw [bits_or_u64_nat _ _ (by omega) (by omega), Nat.or_comm, show (72057594037927936 : Nat) = 2 ^ 56 from rfl, or_add (by omega), Nat.add_comm]
def lenOf : Value → Nat
  | .slice _ m _ => m
  | _ => 0
noncomputable def mixes (s : W4) : Nat → W4
  | 0 => s
  | n + 1 => (mixes s n).mix
theorem mixes_ok {s : W4} (h : s.Ok) : ∀ n, (mixes s n).Ok
  | 0 => h
  | n + 1 => (mixes_ok h n).mix
/-- What is left of the bytes. -/
structure Left (W : World) (xs : List Int) (n k : Nat) (v : Value) (q : Option Addr) (m c : Nat) : Prop where
  v : v = .slice q m c
  kk : 8 * k + m = n
  cc : m ≤ c
  b : Lib.BytesIn W q m (xs.drop (8 * k))

set_option maxRecDepth 100000 in
set_option maxHeartbeats 3200000 in
theorem Sum_any {w : World} {a b : Nat} {p : Option Addr} {n c : Nat} {xs : List Int} (ha : a < 18446744073709551616) (hb : b < 18446744073709551616) (hi : Lib.BytesIn w p n xs) (hx : xs.length = n) (ho : Oct xs) (hc : n ≤ c) (hn : n ≤ 140737488355328) :
    Calls Try.prog 82 #[.agg #[.int .u64 a, .int .u64 b], .slice p n c] w fun e w' => e = .returned (.int .u64 (sumN a b xs : Nat)) ∧ Below w.heap.size w w' := by
  have HI := Lib.hid hi
  have HX := Lib.hid hx
  have HO := Lib.hid ho
  have q0 : Hid (bits .xor .u64 (a : Int) 8317987319222330741 = (((W4.seed a b).a : Nat) : Int)) := Lib.hid (xorw ha (by decide : k0 < _))
  have q1 : Hid (bits .xor .u64 (b : Int) 7237128888997146477 = (((W4.seed a b).b : Nat) : Int)) := Lib.hid (xorw hb (by decide : k1 < _))
  have q2 : Hid (bits .xor .u64 (a : Int) 7816392313619706465 = (((W4.seed a b).c : Nat) : Int)) := Lib.hid (xorw ha (by decide : k2 < _))
  have q3 : Hid (bits .xor .u64 (b : Int) 8387220255154660723 = (((W4.seed a b).d : Nat) : Int)) := Lib.hid (xorw hb (by decide : k3 < _))
  have HS := Lib.hid (W4.seed_ok ha hb)
  obtain ⟨s, hs⟩ : ∃ s, s = W4.seed a b := ⟨_, rfl⟩
  rw [← hs] at q0 q1 q2 q3 HS
  have ES := Lib.hid hs
  clear hi hx ho ha hb hs
  go_enter Try.func82, Try.ntmps82
  go_upto_region 2 with fail
  rw [q0.out, q1.out, q2.out, q3.out]
  have HB : Hid (Below w.heap.size w ((w.alloc (.cells #[.int .u64 a, .int .u64 b] 88)).alloc (.cells #[.int .u64 s.a, .int .u64 s.b, .int .u64 s.c, .int .u64 s.d] 114))) := Lib.hid (((Below.refl _ _).alloc (Nat.le_refl _) _).alloc (by simp) _)
  have HA : Hid (At4 ((w.alloc (.cells #[.int .u64 a, .int .u64 b] 88)).alloc (.cells #[.int .u64 s.a, .int .u64 s.b, .int .u64 s.c, .int .u64 s.d] 114)) ((w.alloc (.cells #[.int .u64 a, .int .u64 b] 88)).alloc (.cells #[.int .u64 s.a, .int .u64 s.b, .int .u64 s.c, .int .u64 s.d] 114)) (w.heap.size + 1) s) := by
    refine Lib.hid ⟨?_, ?_, ?_, ?_, ?_, Below.refl _ _, fun _ _ => rfl⟩
    all_goals first | (go_simp; done) | (intro i; go_simp)
  generalize (w.alloc (.cells #[.int .u64 a, .int .u64 b] 88)).alloc (.cells #[.int .u64 s.a, .int .u64 s.b, .int .u64 s.c, .int .u64 s.d] 114) = W at *
  have HJ : Hid (Lib.BytesIn W p n xs) := Lib.hid (in_later HI.out HB.out)
  have HZ : Hid (Below (w.heap.size + 1) W W) := Lib.hid (Below.refl _ _)
  generalize hg : w.heap.size + 1 = g at *
  have HG := Lib.hid hg
  clear hg
  go_wp2_with fail
  go_loopw [1] (fun v wr => ∃ (k : Nat) (q : Option Addr) (m c' : Nat), Left w xs n k v q m c' ∧ Hid (At4 W wr g (eats s xs k))) (fun v _ => lenOf v)
  case atStart => exact ⟨0, p, n, c, ⟨rfl, by omega, hc, HI.out⟩, HA⟩
  case round =>
    obtain ⟨k, q, m, c', ⟨rfl, hk, hmc, hbi⟩, hat⟩ := hrel
    have HBI := Lib.hid hbi
    clear hbi
    have HW1 := Lib.hid (HB.out.trans (hat.out.be.mono (by have := HG.out; omega)))
    have HO2 : Hid (eats s xs k).Ok := Lib.hid (eats_ok HS.out HO.out k)
    by_cases hm : 8 ≤ m
    · obtain ⟨b', o', rfl, _⟩ := HBI.out.at (by omega)
      have HD := Lib.hid (in_drop8 HBI.out)
      have HT := Lib.hid (in_later (in_take8 HBI.out hm) HW1.out)
      have HL : Hid (((xs.drop (8 * k)).take 8).length = 8) := by show _ = _; have := HX.out; simp; omega
      have hmi : (8 : Int) ≤ (m : Int) := by omega
      have hci : (8 : Int) ≤ (c' : Int) := by omega
      have HK := Lib.hid hk
      clear hk
      have HWd : Hid (Calls Try.prog 97 #[.slice (some ⟨b', o', none⟩) 8 c'] wr fun e w' => e = .returned (.int .u64 (oct xs k : Nat)) ∧ wr = w') := Lib.hid (word_any HT.out HL.out ((HO.out.drop _).take _) (by omega))
      go_wp2_with fail
      go_fit HWd.out
      rintro e w' ⟨rfl, rfl⟩
      go_wp2_with fail
      go_fit (take_any hat.out.base HO2.out (oct_lt HO.out k))
      rintro e w3 ⟨rfl, h3⟩
      have H3 : Hid (At4 W w3 g (eats s xs (k + 1))) := Lib.hid (hat.out.trans h3)
      clear h3 hat HW1 HO2 HWd HT HL
      by_cases hcc : c' = 8
      · subst hcc
        obtain rfl : m = 8 := by omega
        go_wp2_with fail
        exact ⟨⟨k + 1, _, 0, 0, ⟨rfl, by have := HK.out; omega, Nat.le_refl _, in_none⟩, H3⟩, by simp [lenOf]⟩
      · have hcc2 : ¬ ((c' : Int) = 8) := by omega
        have e1 : ((m : Int) - 8).toNat = m - 8 := by omega
        have e2 : ((c' : Int) - 8).toNat = c' - 8 := by omega
        go_wp2_with fail
        exact ⟨⟨k + 1, some ⟨b', o' + 8, none⟩, m - 8, c' - 8, ⟨by simp, by have := HK.out; omega, by omega, by have := HD.out; rwa [List.drop_drop] at this⟩, H3⟩, by simp [lenOf]; omega⟩
    · have hmi : ¬ (8 : Int) ≤ (m : Int) := by omega
      have hk2 : k = n / 8 := by omega
      subst hk2
      have HT := Lib.hid (in_later HBI.out HW1.out)
      have HL : Hid ((xs.drop (8 * (n / 8))).length = m) := by show _ = _; have := HX.out; simp; omega
      have HE := Lib.hid (sizew hn)
      have HP := Lib.hid (orlast (n := n) (show wordOf (xs.drop (8 * (n / 8))) < 72057594037927936 from HX.out ▸ rest_lt HO.out))
      have HQ : Hid (wordOf (xs.drop (8 * (n / 8))) + n % 256 * 72057594037927936 = lastW xs) := by show _ = _; unfold lastW; rw [HX.out]
      have HY := Lib.hid (lastW_lt HO.out)
      go_wp2_with fail
      go_fit (word_any HT.out HL.out (HO.out.drop _) (by omega))
      rintro e w' ⟨rfl, rfl⟩
      go_wp2_with fail
      rw [HE.out, HP.out, HQ.out]
      go_fit (take_any hat.out.base HO2.out HY.out)
      rintro e w3 ⟨rfl, h3⟩
      have H3 := Lib.hid (hat.out.trans h3)
      have HO3 := Lib.hid (HO2.out.take HY.out)
      clear h3 hat HW1 HT HE HP HQ
      obtain ⟨t, ht⟩ : ∃ t, t = (eats s xs (n / 8)).take (lastW xs) := ⟨_, rfl⟩
      rw [← ht] at H3 HO3
      have HTE := Lib.hid ht
      clear ht
      have qc := H3.out.c
      have qz := H3.out.fz 2
      have qx : Hid (bits .xor .u64 (t.c : Int) 255 = ((t.flip.c : Nat) : Int)) := Lib.hid (xorw HO3.out.2.2.1 (by decide : 255 < _))
      go_upto_region 8 with fail
      rw [qx.out]
      have H4 : Hid (At4 W (w3.setCell ⟨g, 2, none⟩ (.int .u64 (t.flip.c : Nat))) g t.flip) := Lib.hid (H3.out.putc _)
      clear H3 qc qz qx
      generalize w3.setCell ⟨g, 2, none⟩ (.int .u64 (t.flip.c : Nat)) = w4 at *
      go_wp2_with fail
      go_loopw [42] (fun v wr => ∃ i : Nat, v = .int .i64 i ∧ i ≤ 4 ∧ Hid (At4 W wr g (mixes t.flip i))) (fun v _ => 4 - (intOf v).toNat)
      case atStart => exact ⟨0, rfl, by omega, H4⟩
      case round =>
        obtain ⟨i, rfl, hi4, hat⟩ := hrel
        have HOM := Lib.hid (mixes_ok HO3.out.flip i)
        by_cases hlt : i < 4
        · go_wp2_with fail
          go_fit (mix_any hat.out.base HOM.out)
          rintro e w5 ⟨rfl, h5⟩
          have H5 : Hid (At4 W w5 g (mixes t.flip (i + 1))) := Lib.hid (hat.out.trans h5)
          clear hat h5
          go_wp2_with fail
          exact ⟨⟨i + 1, by push_cast; rfl, by omega, H5⟩, by simp [intOf]; omega⟩
        · obtain rfl : i = 4 := by omega
          have qa := hat.out.a
          have qb := hat.out.b
          have qc := hat.out.c
          have qd := hat.out.d
          obtain ⟨la, lb, lc, ld⟩ := HOM.out
          have y1 := Lib.hid (xorw la lb)
          have y2 := Lib.hid (xorw (xorw_lt la lb) lc)
          have y3 := Lib.hid (xorw (xorw_lt (xorw_lt la lb) lc) ld)
          clear la lb lc ld
          go_wp2_with fail
          rw [y1.out, y2.out, y3.out]
          go_ret
          have e1 : sumN a b xs = (mixes t.flip 4).out := by unfold sumN fin4; rw [← ES.out, HX.out, ← HTE.out]; rfl
          rw [e1]
          exact ⟨rfl, HB.out.trans (hat.out.be.mono (by have := HG.out; omega))⟩
end Go.Proofs.Ytdgnjalbpiciiaa.Dg
