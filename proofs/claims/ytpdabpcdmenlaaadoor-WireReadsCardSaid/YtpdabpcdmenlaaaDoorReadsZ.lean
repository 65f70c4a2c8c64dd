/-
  The walk of WireReads where nothing is asked.
-/
import Derived.Test.YtpdabpcdmenlaaaDoorReadsW3
namespace Go.Proofs.YtpdabpcdmenlaaaDoor
set_option linter.unusedVariables false
set_option linter.unusedSimpArgs false
open Go.RowKit

set_option maxRecDepth 100000 in
set_option maxHeartbeats 3200000 in
theorem Reads_zero (p q : Option Addr) (n c d : Nat) (xs : List Int) (w : World) (hT : TabIn w) (hx : xs.length = n) (hb : Lib.BytesIn w p n xs) (hp : p = none → n = 0 ∧ c = 0) (hpb : ∀ ad, p = some ad → ad.block < w.heap.size) (hr : ∀ x ∈ xs, 0 ≤ x ∧ x < 256) (hnc : n ≤ c) (hn : n ≤ 65536) :
    Calls Tryd.prog 6 #[.slice p n c, .slice q 0 d] w (Yes w) := by
  have HC := Lib.hid (Clone_own p n c xs w hx hb hp (by omega))
  have HT := Lib.hid hT
  have Hx := Lib.hid hx
  have Hb := Lib.hid hb
  have Hr := Lib.hid hr
  clear hT hx hb hr
  go_enter Tryd.func6, Tryd.ntmps6
  go_wp2_with fail
  go_fit HC.out
  rintro e w1 (⟨rfl, h0, hb1⟩ | ⟨g1, n1, c1, rfl, hown1, hl1, hnc1, hb1⟩)
  · have hn0 : n = 0 := by have := Hx.out; omega
    subst hn0
    have Hb1 := Lib.hid hb1
    clear hb1
    go_wp2_with fail
    go_fit (Read_at none 0 0 xs w1 h0 (Lib.BytesIn.nil _ _ _) (fun _ => ⟨rfl, rfl⟩) Hr.out (by omega))
    rintro e w2 ⟨rb, g, cap, rfl, hrs2, hb2, hrb, hgb, hrb2, hgb2⟩
    have Hb2' := Hb1.out.trans (hb2.mono Hb1.out.size)
    have hw12 := hb2.size
    have hw01 := Hb1.out.size
    have hw02 := Hb2'.size
    obtain ⟨w3, hw3⟩ : ∃ w3, w3 = w2.alloc (.cells #[.slice p 0 c, .int .i64 0, .int .i64 0] 45) := ⟨_, rfl⟩
    have hb3 : Below w2.heap.size w2 w3 := by rw [hw3]; exact (Below.refl _ _).alloc (Nat.le_refl _) _
    have Hb3 := Lib.hid (Hb2'.trans (hb3.mono hw02))
    have hrs3 := hrs2.below hb3
    have hxs3 : XS w3 w2.heap.size p 0 c xs 0 0 := by
      refine ⟨?_, ?_, ?_, ?_, ?_, later Hb.out Hb3.out, h0, hnc, Nat.zero_le _, fun h => ⟨rfl, (hp h).2⟩, fun ad h => by have := hpb ad h; omega, Hr.out, by omega⟩
      all_goals first
        | (rw [hw3, World.cell?_alloc_at _ _ _ _ rfl]; rfl)
        | (rw [hw3]; exact World.frozen?_alloc_at _ _ _ _ rfl)
    have HX := Lib.hid hxs3
    have HR := Lib.hid hrs3
    have HB := Hb3
    have hxr : rb ≠ w2.heap.size := by omega
    have hgx : w2.heap.size ≠ g := by omega
    have hrw : w.heap.size ≤ rb := by omega
    have hxw : w.heap.size ≤ w2.heap.size := by omega
    generalize hxb : w2.heap.size = xb at *
    clear hrs2 hb2 Hb2' hw12 hw02 hw01 hb3 hrs3 hxs3 hrb hgb hrb2 hgb2 Hb3
    go_wp2_with fail
    rw [← hw3]
    clear hw3 hxb
    refine wp_loop_rounds 1 ?_
    rw [rounds_succ]
    go_wp2_with fail
    have HE : Hid (Calls Tryd.prog 44 #[.pointer (some ⟨rb, 0, none⟩)] w3 (fun e w' => e = .returned (.int .i64 (if (0 : Int) ≠ 0 then (0 : Int) else if 0 < 0 then 3 else 0)) ∧ ∃ k, w' = w3.drewN k)) := End_rs HR.out
    have HXE : Hid (∀ q, Calls Tryd.prog 45 #[.pointer (some ⟨xb, 0, none⟩)] (w3.drewN q) (fun e w' => e = .returned (.int .i64 (if (0 : Int) ≠ 0 then (0 : Int) else if 0 < 0 then 3 else 0)) ∧ ∃ k, w' = (w3.drewN q).drewN k)) := fun q => XEnd (HX.out.drewN q)
    generalize (if (0 : Int) ≠ 0 then (0 : Int) else if 0 < 0 then 3 else 0) = En at *
    have e4 : (En == En) = true := beq_self_eq_true _
    refine wp_loop_rounds 1 ?_
    rw [rounds_succ]
    go_wp2_with fail
    go_fit HE.out
    rintro e wy ⟨rfl, q1, rfl⟩
    go_wp2_with fail
    go_fit (HXE.out q1)
    rintro e wz ⟨rfl, q2, rfl⟩
    have HBz := Lib.hid (bdrew (q := q1 + q2) HB.out)
    go_wp2_with fail
    go_fit (awake_any _ (HT.out.later HBz.out))
    rintro e w7 ⟨rfl, hb7⟩
    have H7 := Lib.hid (HBz.out.trans (hb7.mono HBz.out.size))
    clear hb7
    go_wp2_with fail
    go_ret
    exact ⟨rfl, H7.out⟩

  · have hat1 := owns_at hown1
    have Hl1 := Lib.hid hl1
    have Hb1 := Lib.hid hb1
    have Hown1 := Lib.hid hown1
    obtain rfl : n1 = n := by rw [← hl1, Hx.out]
    clear hl1 hb1 hown1
    go_wp2_with fail
    go_fit (Read_at (some ⟨g1, 0, none⟩) n1 c1 xs w1 Hl1.out (owns_in Hown1.out) (by intro h; cases h) Hr.out (by omega))
    rintro e w2 ⟨rb, g, cap, rfl, hrs2, hb2, hrb, hgb, hrb2, hgb2⟩
    have hown2 : w2.ownsRow w.heap.size 5 1 (.slice (some ⟨g1, 0, none⟩) n1 c1) n1 (xs.map (Value.int .u8)) := Hown1.out.kept (row := none) ⟨hb2.os, hb2.tape, hb2.output, hb2.size, fun k hk _ => hb2.block k hk⟩ (.inr (by simp [Value.ownBlock]))
    have Hb2' := Hb1.out.trans (hb2.mono Hb1.out.size)
    have hw12 := hb2.size
    have hw02 := Hb2'.size
    obtain ⟨w3, hw3⟩ : ∃ w3, w3 = w2.alloc (.cells #[.slice p n1 c, .int .i64 0, .int .i64 0] 45) := ⟨_, rfl⟩
    have hb3 : Below w2.heap.size w2 w3 := by rw [hw3]; exact (Below.refl _ _).alloc (Nat.le_refl _) _
    have Hb3 := Lib.hid (Hb2'.trans (hb3.mono hw02))
    have hrs3 := hrs2.below hb3
    have hown3 : w3.ownsRow w.heap.size 5 1 (.slice (some ⟨g1, 0, none⟩) n1 c1) n1 (xs.map (Value.int .u8)) := by rw [hw3]; exact hown2.alloc _
    have htu : Turns w3 g1 n1 := ⟨fun t ht => by
      have h1 := owns_in hown3
      obtain ⟨b', o', hh, hc⟩ := h1.at (by omega)
      simp only [Option.some.injEq, Addr.mk.injEq] at hh
      obtain ⟨rfl, rfl, _⟩ := hh
      obtain ⟨y, _, hy, hyc⟩ := byte_at hc Hl1.out Hr.out t ht
      rw [Nat.zero_add] at hyc
      exact ⟨y, hy, hyc⟩, fun t => hown3.frozenAt t⟩
    have hxs3 : XS w3 w2.heap.size p n1 c xs 0 0 := by
      refine ⟨?_, ?_, ?_, ?_, ?_, later Hb.out Hb3.out, Hl1.out, hnc, Nat.zero_le _, hp, fun ad h => by have := hpb ad h; omega, Hr.out, by omega⟩
      all_goals first
        | (rw [hw3, World.cell?_alloc_at _ _ _ _ rfl]; rfl)
        | (rw [hw3]; exact World.frozen?_alloc_at _ _ _ _ rfl)
    have Hxs3 := Lib.hid hxs3
    have Hrs3 := Lib.hid hrs3
    have Htu := Lib.hid htu
    have hxr : rb ≠ w2.heap.size := by omega
    have hxg : g1 ≠ w2.heap.size := by omega
    have hg1r : g1 ≠ rb := by omega
    have hg1g : g1 ≠ g := by omega
    have hg1w : w.heap.size ≤ g1 := hat1.1
    have hgx : w2.heap.size ≠ g := by omega
    have hrw : w.heap.size ≤ rb := by omega
    have hxw : w.heap.size ≤ w2.heap.size := by omega
    generalize hxb : w2.heap.size = xb at *
    clear hrs2 hb2 hown2 Hb2' hw12 hw02 hb3 hrs3 hown3 htu hxs3 hrb hgb hrb2 hgb2 Hown1 hat1
    go_wp2_with fail
    rw [← hw3]
    have Hw3 := Lib.hid hw3
    clear hw3 hxb Hw3
    go_loopw [30] (fun k wr => ∃ t : Nat, k = .int .i64 t ∧ t ≤ n1 ∧ Hid (XS wr xb p n1 c xs 0 0) ∧ Hid (RS wr rb g n1 cap xs 0 0) ∧ Hid (Turns wr g1 n1) ∧ Hid (Below w.heap.size w wr)) (fun k _ => n1 - (intOf k).toNat)
    case atStart => exact ⟨0, rfl, Nat.zero_le _, Hxs3, Hrs3, Htu, Hb3⟩
    case round =>
      obtain ⟨t, rfl, ht, HX, HR, HU, HB⟩ := hrel
      by_cases hlt : t < n1
      · obtain ⟨y, hy, hyc⟩ := HU.out.1 t hlt
        have hyf := HU.out.2 t
        obtain ⟨z, hz, hf⟩ := flip_u8 y hy
        have HU2 := Lib.hid (HU.out.set t z hlt hz)
        have hg := grown_setCell wr g1 t (.int .u8 (z : Int))
        have HX2 := Lib.hid (HX.out.kept hg hxg (fun ad h => by have := hpb ad h; omega))
        have HR2 := Lib.hid (HR.out.kept hg hg1r hg1g)
        have HB2 := Lib.hid (made_grown HB.out hg HB.out.size hg1w)
        clear hg
        go_wp2_with fail
        go_roundw
        case rel => exact ⟨t + 1, by go_num, by omega, HX2, HR2, HU2, HB2⟩
        case measure => simp [intOf]; omega
      · clear HU
        go_wp2_with fail
        have HE : Hid (Calls Tryd.prog 44 #[.pointer (some ⟨rb, 0, none⟩)] wr (fun e w' => e = .returned (.int .i64 (if (0 : Int) ≠ 0 then (0 : Int) else if 0 < n1 then 3 else 0)) ∧ ∃ k, w' = wr.drewN k)) := End_rs HR.out
        have HXE : Hid (∀ q, Calls Tryd.prog 45 #[.pointer (some ⟨xb, 0, none⟩)] (wr.drewN q) (fun e w' => e = .returned (.int .i64 (if (0 : Int) ≠ 0 then (0 : Int) else if 0 < n1 then 3 else 0)) ∧ ∃ k, w' = (wr.drewN q).drewN k)) := fun q => XEnd (HX.out.drewN q)
        generalize (if (0 : Int) ≠ 0 then (0 : Int) else if 0 < n1 then 3 else 0) = En at *
        have e4 : (En == En) = true := beq_self_eq_true _
        refine wp_loop_rounds 1 ?_
        rw [rounds_succ]
        go_wp2_with fail
        go_fit HE.out
        rintro e wy ⟨rfl, q1, rfl⟩
        go_wp2_with fail
        go_fit (HXE.out q1)
        rintro e wz ⟨rfl, q2, rfl⟩
        have HBz := Lib.hid (bdrew (q := q1 + q2) HB.out)
        go_wp2_with fail
        go_fit (awake_any _ (HT.out.later HBz.out))
        rintro e w7 ⟨rfl, hb7⟩
        have H7 := Lib.hid (HBz.out.trans (hb7.mono HBz.out.size))
        clear hb7
        go_wp2_with fail
        go_ret
        exact ⟨rfl, H7.out⟩

end Go.Proofs.YtpdabpcdmenlaaaDoor
