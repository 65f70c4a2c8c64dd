/-
  KvNobody: the walk. A map that no call made. (Written by genkv.py.)
-/
import Derived.Test.YtenjniieohmniaaK17
namespace Go.Proofs.Ytenjniieohmniaa
set_option linter.unusedVariables false
set_option linter.unusedSimpArgs false
open Go.RowKit

set_option maxRecDepth 100000 in
set_option maxHeartbeats 25600000 in
theorem Nobody_any {w : World} (k : Kd) {x y : Value} (hx : opL.In w x k.conds) (hy : opL.In w y k.ops) :
    Calls Try.prog 12 #[.agg #[.int .i64 k.op, .int .i64 k.pos, x, y, .string k.fr, .string k.to, .int .i64 k.ev.pos, .string k.ev.key, .bool k.ev.had, .string k.ev.old, .bool k.ev.has, .string k.ev.now]] w (Yes w) := by
  obtain ⟨ua, uc, rfl, _, _⟩ := hx.slice
  obtain ⟨va, vc, rfl, _, _⟩ := hy.slice
  clear hx hy
  have HKb := Lib.hid (kd_box w #[.int .i64 k.op, .int .i64 k.pos, .slice ua k.conds.length uc, .slice va k.ops.length vc, .string k.fr, .string k.to, .int .i64 k.ev.pos, .string k.ev.key, .bool k.ev.had, .string k.ev.old, .bool k.ev.has, .string k.ev.now] 34)
  obtain ⟨w1, hw1⟩ : ∃ w1, w1 = w.alloc (.cells #[.int .i64 k.op, .int .i64 k.pos, .slice ua k.conds.length uc, .slice va k.ops.length vc, .string k.fr, .string k.to, .int .i64 k.ev.pos, .string k.ev.key, .bool k.ev.had, .string k.ev.old, .bool k.ev.has, .string k.ev.now] 34) := ⟨_, rfl⟩
  have hB3 : Below w.heap.size w (((w.alloc (.cells #[.int .i64 k.op, .int .i64 k.pos, .slice ua k.conds.length uc, .slice va k.ops.length vc, .string k.fr, .string k.to, .int .i64 k.ev.pos, .string k.ev.key, .bool k.ev.had, .string k.ev.old, .bool k.ev.has, .string k.ev.now] 34)).alloc (.cells #[.pointer none] 76)).alloc (.cells #[.pointer none, .pointer (some ⟨w.heap.size + 1, 0, none⟩)] 25)) := below_of (below_of (lay_alloc w _) (lay_alloc _ _)) (lay_alloc _ _)
  have HC3 : Hid (∀ (j : Nat) v, #[.int .i64 k.op, .int .i64 k.pos, .slice ua k.conds.length uc, .slice va k.ops.length vc, .string k.fr, .string k.to, .int .i64 k.ev.pos, .string k.ev.key, .bool k.ev.had, .string k.ev.old, .bool k.ev.has, .string k.ev.now][j]? = some v → (((w.alloc (.cells #[.int .i64 k.op, .int .i64 k.pos, .slice ua k.conds.length uc, .slice va k.ops.length vc, .string k.fr, .string k.to, .int .i64 k.ev.pos, .string k.ev.key, .bool k.ev.had, .string k.ev.old, .bool k.ev.has, .string k.ev.now] 34)).alloc (.cells #[.pointer none] 76)).alloc (.cells #[.pointer none, .pointer (some ⟨w.heap.size + 1, 0, none⟩)] 25)).cell? ⟨w.heap.size, j, none⟩ = some v) := fun j v h => lay_later (lay_alloc _ _) (lay_later (lay_alloc _ _) (HKb.out j v h))
  have HM3 : Hid ((((w.alloc (.cells #[.int .i64 k.op, .int .i64 k.pos, .slice ua k.conds.length uc, .slice va k.ops.length vc, .string k.fr, .string k.to, .int .i64 k.ev.pos, .string k.ev.key, .bool k.ev.had, .string k.ev.old, .bool k.ev.has, .string k.ev.now] 34)).alloc (.cells #[.pointer none] 76)).alloc (.cells #[.pointer none, .pointer (some ⟨w.heap.size + 1, 0, none⟩)] 25)).cell? ⟨w.heap.size + 1, 0, none⟩ = some (.pointer none)) := by show _ = _; exact lay_later (lay_alloc _ _) (by simp)
  have HS3 : Hid (∀ (j : Nat) v, #[Value.pointer none, .pointer (some ⟨w.heap.size + 1, 0, none⟩)][j]? = some v → (((w.alloc (.cells #[.int .i64 k.op, .int .i64 k.pos, .slice ua k.conds.length uc, .slice va k.ops.length vc, .string k.fr, .string k.to, .int .i64 k.ev.pos, .string k.ev.key, .bool k.ev.had, .string k.ev.old, .bool k.ev.has, .string k.ev.now] 34)).alloc (.cells #[.pointer none] 76)).alloc (.cells #[.pointer none, .pointer (some ⟨w.heap.size + 1, 0, none⟩)] 25)).cell? ⟨w.heap.size + 2, j, none⟩ = some v) := fun j v h => by have h := kd_box ((w.alloc (.cells #[.int .i64 k.op, .int .i64 k.pos, .slice ua k.conds.length uc, .slice va k.ops.length vc, .string k.fr, .string k.to, .int .i64 k.ev.pos, .string k.ev.key, .bool k.ev.had, .string k.ev.old, .bool k.ev.has, .string k.ev.now] 34)).alloc (.cells #[.pointer none] 76)) #[.pointer none, .pointer (some ⟨w.heap.size + 1, 0, none⟩)] 25 j v h; simpa using h
  have HB3 := Lib.hid hB3
  clear hB3 hw1 w1 HKb
  go_enter Try.func12, Try.ntmps12
  go_wp2_with fail
  go_loopw [15] (fun v wr => ∃ (i : Nat), v = .int .i64 i ∧ i ≤ 2 ∧ Hid (∀ (j : Nat) v, #[.int .i64 k.op, .int .i64 k.pos, .slice ua k.conds.length uc, .slice va k.ops.length vc, .string k.fr, .string k.to, .int .i64 k.ev.pos, .string k.ev.key, .bool k.ev.had, .string k.ev.old, .bool k.ev.has, .string k.ev.now][j]? = some v → wr.cell? ⟨w.heap.size, j, none⟩ = some v) ∧ Hid (wr.cell? ⟨w.heap.size + 1, 0, none⟩ = some (.pointer none)) ∧ Hid (∀ (j : Nat) v, #[Value.pointer none, .pointer (some ⟨w.heap.size + 1, 0, none⟩)][j]? = some v → wr.cell? ⟨w.heap.size + 2, j, none⟩ = some v) ∧ Hid (Below w.heap.size w wr))
    (fun v _ => 2 - (intOf v).toNat)
  case atStart => exact ⟨0, rfl, by omega, HC3, HM3, HS3, HB3⟩
  case round =>
    obtain ⟨i, rfl, hin, hC, hM, hS, hB⟩ := hrel
    rcases (by omega : i = 0 ∨ i = 1 ∨ i = 2) with rfl | rfl | rfl
    ·
      have s0 : wr.cell? ⟨w.heap.size + 2, 0, none⟩ = some (.pointer none) := hS.out 0 _ rfl
      have d0 := hC.out 0 _ rfl
      have d1 := hC.out 1 _ rfl
      have d2 := hC.out 2 _ rfl
      have d3 := hC.out 3 _ rfl
      have d4 := hC.out 4 _ rfl
      have d5 := hC.out 5 _ rfl
      have d6 := hC.out 6 _ rfl
      have d7 := hC.out 7 _ rfl
      have d8 := hC.out 8 _ rfl
      have d9 := hC.out 9 _ rfl
      have d10 := hC.out 10 _ rfl
      have d11 := hC.out 11 _ rfl
      have HN : Hid (NoM wr none) := .inl rfl
      have HPl := Lib.hid (Plan_no k.pos ua k.conds.length uc va k.ops.length vc HN.out)
      have HDo := Lib.hid (Do_no k.pos ua k.conds.length uc va k.ops.length vc HN.out)
      have HGt := Lib.hid (Get_no k.fr HN.out)
      go_wp2_with fail
      go_fit HPl.out
      rintro e w' ⟨rfl, rfl⟩
      go_wp2_with fail
      go_fit HDo.out
      rintro e w' ⟨rfl, rfl⟩
      go_wp2_with fail
      go_fit HGt.out
      rintro e w4 ⟨rfl, hb4⟩
      have HN4 := Lib.hid (HN.out.later hb4)
      have hA := lay_alloc w4 (.cells #[.int .i64 k.ev.pos, .string k.ev.key, .bool k.ev.had, .string k.ev.old, .bool k.ev.has, .string k.ev.now] 32)
      have HN5 := Lib.hid (HN4.out.later hA)
      have HC5 : Hid (∀ (j : Nat) v, #[.int .i64 k.op, .int .i64 k.pos, .slice ua k.conds.length uc, .slice va k.ops.length vc, .string k.fr, .string k.to, .int .i64 k.ev.pos, .string k.ev.key, .bool k.ev.had, .string k.ev.old, .bool k.ev.has, .string k.ev.now][j]? = some v → (w4.alloc (.cells #[.int .i64 k.ev.pos, .string k.ev.key, .bool k.ev.had, .string k.ev.old, .bool k.ev.has, .string k.ev.now] 32)).cell? ⟨w.heap.size, j, none⟩ = some v) := fun j v h => lay_later hA (lay_later hb4 (hC.out j v h))
      have HM5 := Lib.hid (lay_later hA (lay_later hb4 hM.out))
      have HS5 : Hid (∀ (j : Nat) v, #[Value.pointer none, .pointer (some ⟨w.heap.size + 1, 0, none⟩)][j]? = some v → (w4.alloc (.cells #[.int .i64 k.ev.pos, .string k.ev.key, .bool k.ev.had, .string k.ev.old, .bool k.ev.has, .string k.ev.now] 32)).cell? ⟨w.heap.size + 2, j, none⟩ = some v) := fun j v h => lay_later hA (lay_later hb4 (hS.out j v h))
      have HB5 := Lib.hid (below_of (below_of hB.out hb4) hA)
      have HTk := Lib.hid (Take_no (some ⟨w4.heap.size, 0, none⟩) 1 1 HN5.out)
      have d0 := lay_later hb4 d0
      have d1 := lay_later hb4 d1
      have d2 := lay_later hb4 d2
      have d3 := lay_later hb4 d3
      have d4 := lay_later hb4 d4
      have d5 := lay_later hb4 d5
      have d6 := lay_later hb4 d6
      have d7 := lay_later hb4 d7
      have d8 := lay_later hb4 d8
      have d9 := lay_later hb4 d9
      have d10 := lay_later hb4 d10
      have d11 := lay_later hb4 d11
      clear hA hb4 s0 HN HPl HDo HGt hC hM hS hB HN4
      go_wp2_with fail
      go_fit HTk.out
      rintro e w' ⟨rfl, rfl⟩
      generalize w4.alloc (.cells #[.int .i64 k.ev.pos, .string k.ev.key, .bool k.ev.had, .string k.ev.old, .bool k.ev.has, .string k.ev.now] 32) = W5 at *
      clear HTk d0 d1 d2 d3 d4 d5 d6 d7 d8 d9 d10 d11
      have hdr : Below W5.heap.size W5 W5.drew := ⟨rfl, rfl, rfl, Nat.le_refl _, fun _ _ => rfl⟩
      have HND := Lib.hid (HN5.out.later hdr)
      have HLn := Lib.hid (Len_no HND.out)
      have HSc := Lib.hid (Scan_no k.fr k.to HND.out)
      clear hdr
      have e3 := HC5.out 3 _ rfl
      have e4 := HC5.out 4 _ rfl
      have e5 := HC5.out 5 _ rfl
      go_wp2_with fail
      go_region_held3 (fun V => V.cell? ⟨w.heap.size, 3, none⟩ = some (.slice va k.ops.length vc) ∧ V.cell? ⟨w.heap.size, 4, none⟩ = some (.string k.fr) ∧ V.cell? ⟨w.heap.size, 5, none⟩ = some (.string k.to)) (go_keep)
        (first
          | (go_at_call 29; (with_reducible refine HLn.out.mono ?_); rintro e w' ⟨rfl, rfl⟩)
          | (go_at_call 22; (with_reducible refine HSc.out.mono ?_); rintro e w6 ⟨rfl, hb6⟩; have HB6 := Lib.hid hb6; have HN6 := Lib.hid (HND.out.later hb6); have g3 := lay_later (w := W5.drew) hb6 e3; have g4 := lay_later (w := W5.drew) hb6 e4; have g5 := lay_later (w := W5.drew) hb6 e5; have HSt := Lib.hid (Set_no va k.ops.length vc HN6.out); have HCl := Lib.hid (Clone_no HN6.out); clear hb6)
          | (go_at_call 19; (with_reducible refine HSt.out.mono ?_); rintro e w' ⟨rfl, rfl⟩)
          | (go_at_call 36; (with_reducible refine HCl.out.mono ?_); rintro e w' ⟨rfl, rfl⟩))
      all_goals
        go_wp2_with fail
        exact ⟨⟨1, by simp, by omega, fun j v h => lay_later (w := W5.drew) HB6.out (HC5.out j v h), lay_later (w := W5.drew) HB6.out HM5.out, fun j v h => lay_later (w := W5.drew) HB6.out (HS5.out j v h), below_of (lay_drew HB5.out) HB6.out⟩, by decide⟩
    ·
      have s1 : wr.cell? ⟨w.heap.size + 2, 1, none⟩ = some (.pointer (some ⟨w.heap.size + 1, 0, none⟩)) := hS.out 1 _ rfl
      have d0 := hC.out 0 _ rfl
      have d1 := hC.out 1 _ rfl
      have d2 := hC.out 2 _ rfl
      have d3 := hC.out 3 _ rfl
      have d4 := hC.out 4 _ rfl
      have d5 := hC.out 5 _ rfl
      have d6 := hC.out 6 _ rfl
      have d7 := hC.out 7 _ rfl
      have d8 := hC.out 8 _ rfl
      have d9 := hC.out 9 _ rfl
      have d10 := hC.out 10 _ rfl
      have d11 := hC.out 11 _ rfl
      have HN : Hid (NoM wr (some ⟨w.heap.size + 1, 0, none⟩)) := .inr ⟨_, rfl, hM.out⟩
      have HPl := Lib.hid (Plan_no k.pos ua k.conds.length uc va k.ops.length vc HN.out)
      have HDo := Lib.hid (Do_no k.pos ua k.conds.length uc va k.ops.length vc HN.out)
      have HGt := Lib.hid (Get_no k.fr HN.out)
      go_wp2_with fail
      go_fit HPl.out
      rintro e w' ⟨rfl, rfl⟩
      go_wp2_with fail
      go_fit HDo.out
      rintro e w' ⟨rfl, rfl⟩
      go_wp2_with fail
      go_fit HGt.out
      rintro e w4 ⟨rfl, hb4⟩
      have HN4 := Lib.hid (HN.out.later hb4)
      have hA := lay_alloc w4 (.cells #[.int .i64 k.ev.pos, .string k.ev.key, .bool k.ev.had, .string k.ev.old, .bool k.ev.has, .string k.ev.now] 32)
      have HN5 := Lib.hid (HN4.out.later hA)
      have HC5 : Hid (∀ (j : Nat) v, #[.int .i64 k.op, .int .i64 k.pos, .slice ua k.conds.length uc, .slice va k.ops.length vc, .string k.fr, .string k.to, .int .i64 k.ev.pos, .string k.ev.key, .bool k.ev.had, .string k.ev.old, .bool k.ev.has, .string k.ev.now][j]? = some v → (w4.alloc (.cells #[.int .i64 k.ev.pos, .string k.ev.key, .bool k.ev.had, .string k.ev.old, .bool k.ev.has, .string k.ev.now] 32)).cell? ⟨w.heap.size, j, none⟩ = some v) := fun j v h => lay_later hA (lay_later hb4 (hC.out j v h))
      have HM5 := Lib.hid (lay_later hA (lay_later hb4 hM.out))
      have HS5 : Hid (∀ (j : Nat) v, #[Value.pointer none, .pointer (some ⟨w.heap.size + 1, 0, none⟩)][j]? = some v → (w4.alloc (.cells #[.int .i64 k.ev.pos, .string k.ev.key, .bool k.ev.had, .string k.ev.old, .bool k.ev.has, .string k.ev.now] 32)).cell? ⟨w.heap.size + 2, j, none⟩ = some v) := fun j v h => lay_later hA (lay_later hb4 (hS.out j v h))
      have HB5 := Lib.hid (below_of (below_of hB.out hb4) hA)
      have HTk := Lib.hid (Take_no (some ⟨w4.heap.size, 0, none⟩) 1 1 HN5.out)
      have d0 := lay_later hb4 d0
      have d1 := lay_later hb4 d1
      have d2 := lay_later hb4 d2
      have d3 := lay_later hb4 d3
      have d4 := lay_later hb4 d4
      have d5 := lay_later hb4 d5
      have d6 := lay_later hb4 d6
      have d7 := lay_later hb4 d7
      have d8 := lay_later hb4 d8
      have d9 := lay_later hb4 d9
      have d10 := lay_later hb4 d10
      have d11 := lay_later hb4 d11
      clear hA hb4 s1 HN HPl HDo HGt hC hM hS hB HN4
      go_wp2_with fail
      go_fit HTk.out
      rintro e w' ⟨rfl, rfl⟩
      generalize w4.alloc (.cells #[.int .i64 k.ev.pos, .string k.ev.key, .bool k.ev.had, .string k.ev.old, .bool k.ev.has, .string k.ev.now] 32) = W5 at *
      clear HTk d0 d1 d2 d3 d4 d5 d6 d7 d8 d9 d10 d11
      have hdr : Below W5.heap.size W5 W5.drew := ⟨rfl, rfl, rfl, Nat.le_refl _, fun _ _ => rfl⟩
      have HND := Lib.hid (HN5.out.later hdr)
      have HLn := Lib.hid (Len_no HND.out)
      have HSc := Lib.hid (Scan_no k.fr k.to HND.out)
      clear hdr
      have e3 := HC5.out 3 _ rfl
      have e4 := HC5.out 4 _ rfl
      have e5 := HC5.out 5 _ rfl
      go_wp2_with fail
      go_region_held3 (fun V => V.cell? ⟨w.heap.size, 3, none⟩ = some (.slice va k.ops.length vc) ∧ V.cell? ⟨w.heap.size, 4, none⟩ = some (.string k.fr) ∧ V.cell? ⟨w.heap.size, 5, none⟩ = some (.string k.to)) (go_keep)
        (first
          | (go_at_call 29; (with_reducible refine HLn.out.mono ?_); rintro e w' ⟨rfl, rfl⟩)
          | (go_at_call 22; (with_reducible refine HSc.out.mono ?_); rintro e w6 ⟨rfl, hb6⟩; have HB6 := Lib.hid hb6; have HN6 := Lib.hid (HND.out.later hb6); have g3 := lay_later (w := W5.drew) hb6 e3; have g4 := lay_later (w := W5.drew) hb6 e4; have g5 := lay_later (w := W5.drew) hb6 e5; have HSt := Lib.hid (Set_no va k.ops.length vc HN6.out); have HCl := Lib.hid (Clone_no HN6.out); clear hb6)
          | (go_at_call 19; (with_reducible refine HSt.out.mono ?_); rintro e w' ⟨rfl, rfl⟩)
          | (go_at_call 36; (with_reducible refine HCl.out.mono ?_); rintro e w' ⟨rfl, rfl⟩))
      all_goals
        go_wp2_with fail
        exact ⟨⟨2, by simp, by omega, fun j v h => lay_later (w := W5.drew) HB6.out (HC5.out j v h), lay_later (w := W5.drew) HB6.out HM5.out, fun j v h => lay_later (w := W5.drew) HB6.out (HS5.out j v h), below_of (lay_drew HB5.out) HB6.out⟩, by decide⟩
    ·
      go_wp2_with fail
      go_fit (awake_any _)
      rintro e wz ⟨rfl, hbz⟩
      have HZ := Lib.hid (below_of hB.out hbz)
      clear hbz
      go_wp2_with fail
      go_ret
      exact ⟨rfl, HZ.out⟩
end Go.Proofs.Ytenjniieohmniaa
