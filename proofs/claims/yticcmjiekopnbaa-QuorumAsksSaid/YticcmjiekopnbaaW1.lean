/-
  Rosters in memory; node, times, ways walked.
-/
import Derived.Test.YticcmjiekopnbaaLs
import Derived.Test.YticcmjiekopnbaaM1
import Derived.Laws.ResultCell
import Derived.BigRegion
namespace Go.Proofs.Yticcmjiekopnbaa
set_option linter.unusedVariables false
set_option linter.unusedSimpArgs false
open Go.RowKit

def intL : Lay Int := ⟨fun x => [.int .i64 x], 1, fun _ => rfl, by intro o u hu; simp at hu; subst hu; rfl⟩
theorem intL_at {w : World} {a : Option Addr} {n c : Nat} {l : List Int} (h : intL.In w (.slice a n c) l) {k : Nat} {x : Int} (hx : l[k]? = some x) : ∃ g off, a = some ⟨g, off, none⟩ ∧ n = l.length ∧ w.cell? ⟨g, off + k, none⟩ = some (.int .i64 x) := by
  obtain ⟨g, off, ha, hn, h⟩ := h.cells hx
  have := h 0 (.int .i64 x) rfl
  exact ⟨g, off, ha, hn, by simpa [intL] using this⟩
/-- A roster's cells. -/
def RoCs (w : World) (u v : Value) (vs ls : List Int) : Prop := intL.In w u vs ∧ intL.In w v ls
theorem RoCs.later {w w' : World} {u v : Value} {vs ls : List Int} (h : RoCs w u v vs ls) (hb : Below w.heap.size w w') : RoCs w' u v vs ls := ⟨h.1.later hb, h.2.later hb⟩

set_option maxHeartbeats 800000 in
theorem node_any (x : Int) (w : World) : Calls Try.prog 50 #[.int .i64 x] w fun e w' => e = .returned (.bool (inR x)) ∧ w = w' := by
  unfold inR
  by_cases h0 : 0 ≤ x
  · by_cases h1 : x ≤ 4
    · have e : decide (0 ≤ x ∧ x ≤ 4) = true := decide_eq_true ⟨h0, h1⟩
      have h2 : x < 5 := by omega
      rw [e]; clear e
      go_enter Try.func50, Try.ntmps50
      go_wp2_with fail
      go_ret
      exact ⟨rfl, rfl⟩
    · have e : decide (0 ≤ x ∧ x ≤ 4) = false := decide_eq_false (by omega)
      have h2 : ¬ x < 5 := by omega
      rw [e]; clear e
      go_enter Try.func50, Try.ntmps50
      go_wp2_with fail
      go_ret
      exact ⟨rfl, rfl⟩
  · have e : decide (0 ≤ x ∧ x ≤ 4) = false := decide_eq_false (by omega)
    rw [e]; clear e
    go_enter Try.func50, Try.ntmps50
    go_wp2_with fail
    go_ret
    exact ⟨rfl, rfl⟩

set_option maxRecDepth 100000 in
set_option maxHeartbeats 1600000 in
theorem times_any {w : World} {u : Value} {l : List Int} (h : intL.In w u l) (n : Int) : Calls Try.prog 42 #[u, .int .i64 n] w fun e w' => e = .returned (.int .i64 (l.count n : Nat)) ∧ w = w' := by
  obtain ⟨a, c, rfl, hlc, hcm⟩ := h.slice
  go_enter Try.func42, Try.ntmps42
  go_wp2_with fail
  go_loop [5, 10] (fun u v => ∃ k : Nat, v = .int .i64 k ∧ k ≤ l.length ∧ u = .int .i64 (((l.take k).count n : Nat) : Int)) (fun _ v => l.length - (intOf v).toNat)
  case atStart => exact ⟨0, rfl, Nat.zero_le _, by simp⟩
  case round =>
    obtain ⟨k, rfl, hk, rfl⟩ := hrel
    have hcl : (l.take k).count n ≤ k := Nat.le_trans List.count_le_length (List.length_take_le _ _)
    by_cases hlt : k < l.length
    · have hg : l[k]? = some l[k] := List.getElem?_eq_getElem hlt
      obtain ⟨g, off, rfl, _, hc⟩ := intL_at h hg
      have HS : Hid ((l.take (k + 1)).count n = (l.take k).count n + if l[k] = n then 1 else 0) := by
        rw [List.take_add_one, hg, Option.toList_some, List.count_append, List.count_singleton]
        show _ = _
        by_cases e : l[k] = n <;> simp [e]
      clear hg
      generalize l[k] = x at *
      generalize hq : (l.take k).count n = q at *
      have HQ := Lib.hid hq
      clear hq
      by_cases e : x = n
      · go_wp2_with fail
        go_round
        case rel => exact ⟨k + 1, by go_num, by omega, by rw [HS.out, if_pos e]; go_num⟩
        case measure => simp [intOf]; omega
      · go_wp2_with fail
        go_round
        case rel => exact ⟨k + 1, by go_num, by omega, by rw [HS.out, if_neg e]; rfl⟩
        case measure => simp [intOf]; omega
    · obtain rfl : k = l.length := by omega
      rw [List.take_length] at *
      go_wp2_with fail
      go_ret
      exact ⟨rfl, rfl⟩

/-- Five cells of a block. -/
structure Row5 (w : World) (g : Nat) (F : Int → Int) : Prop where
  at' : ∀ x : Int, 0 ≤ x → x ≤ 4 → w.cell? ⟨g, x.toNat, none⟩ = some (.int .i64 (F x))
  fz : ∀ j, j ≤ 4 → w.frozen? ⟨g, j, none⟩ = false
theorem Row5.c0 {w : World} {g : Nat} {F : Int → Int} (h : Row5 w g F) : w.cell? ⟨g, 0, none⟩ = some (.int .i64 (F 0)) := h.at' 0 (by decide) (by decide)
theorem Row5.c1 {w : World} {g : Nat} {F : Int → Int} (h : Row5 w g F) : w.cell? ⟨g, 1, none⟩ = some (.int .i64 (F 1)) := h.at' 1 (by decide) (by decide)
theorem Row5.c2 {w : World} {g : Nat} {F : Int → Int} (h : Row5 w g F) : w.cell? ⟨g, 2, none⟩ = some (.int .i64 (F 2)) := h.at' 2 (by decide) (by decide)
theorem Row5.c3 {w : World} {g : Nat} {F : Int → Int} (h : Row5 w g F) : w.cell? ⟨g, 3, none⟩ = some (.int .i64 (F 3)) := h.at' 3 (by decide) (by decide)
theorem Row5.c4 {w : World} {g : Nat} {F : Int → Int} (h : Row5 w g F) : w.cell? ⟨g, 4, none⟩ = some (.int .i64 (F 4)) := h.at' 4 (by decide) (by decide)
theorem Row5.put {w : World} {g : Nat} {F : Int → Int} (h : Row5 w g F) {x : Int} (h0 : 0 ≤ x) (h4 : x ≤ 4) (y : Int) : Row5 (w.setCell ⟨g, x.toNat, none⟩ (.int .i64 y)) g (fun n => if n = x then y else F n) := by
  refine ⟨fun n n0 n4 => ?_, fun j hj => by rw [World.frozen?_setCell]; exact h.fz j hj⟩
  by_cases e : n = x
  · subst e
    show _ = some (Value.int .i64 (if n = n then y else F n))
    rw [if_pos rfl]
    exact World.cell?_setCell_same' _ _ _ (by rw [h.at' n n0 n4]; rfl)
  · show _ = some (Value.int .i64 (if n = x then y else F n))
    rw [if_neg e, World.cell?_setCell_other _ _ _ _ (by intro he; injection he with h1 h2; omega)]
    exact h.at' n n0 n4
theorem Row5.later {w w' : World} {g : Nat} {F : Int → Int} (h : Row5 w g F) (hk : w'.heap[g]? = w.heap[g]?) : Row5 w' g F :=
  ⟨fun x h0 h4 => (World.cell?_of_block (w := w) (w' := w') (a := ⟨g, _, none⟩) hk).trans (h.at' x h0 h4), fun j hj => (World.frozen?_of_block (w := w) (w' := w') (a := ⟨g, _, none⟩) hk).trans (h.fz j hj)⟩
theorem Row5.fn {w : World} {g : Nat} {F G : Int → Int} (h : Row5 w g F) (e : ∀ n, F n = G n) : Row5 w g G := by
  have : F = G := funext e
  rwa [← this]
/-- How things stand within ways. -/
structure Wst (w wr : World) (u v : Value) (F : Int → Int) : Prop where
  below : Below w.heap.size w wr
  b0 : wr.cell? ⟨w.heap.size, 0, none⟩ = some u
  b1 : wr.cell? ⟨w.heap.size, 1, none⟩ = some v
  res : Row5 wr (w.heap.size + 1) (fun _ => 0)
  row : Row5 wr (w.heap.size + 1 + 1) F
def WaysP (vs ls : List Int) (w : World) (e : Ending) (w' : World) : Prop := ∃ F : Int → Int, e = .returned (.tuple #[.agg #[.int .i64 (F 0), .int .i64 (F 1), .int .i64 (F 2), .int .i64 (F 3), .int .i64 (F 4)], .bool (okR vs ls)]) ∧ (okR vs ls = true → ∀ n, F n = wayO vs ls n) ∧ Below w.heap.size w w'

theorem row5_zero {W : World} {g : Nat} (hg : W.heap[g]? = some (.cells #[.int .i64 0, .int .i64 0, .int .i64 0, .int .i64 0, .int .i64 0] 38 (0, 0))) : Row5 W g (fun _ => 0) := by
  refine ⟨fun x h0 h4 => ?_, fun j hj => frozen_of_row W g j _ _ hg⟩
  rw [cell_of_row W g _ _ _ _ hg]
  rcases (by omega : x = 0 ∨ x = 1 ∨ x = 2 ∨ x = 3 ∨ x = 4) with rfl | rfl | rfl | rfl | rfl <;> rfl
theorem set_heap {w : World} {g o k : Nat} {v : Value} (h : k ≠ g) : (w.setCell ⟨g, o, none⟩ v).heap[k]? = w.heap[k]? := Below.heap_setCell _ _ _ _ h
theorem Wst.put {w wr : World} {u v : Value} {F : Int → Int} (h : Wst w wr u v F) {x : Int} (h0 : 0 ≤ x) (h4 : x ≤ 4) (y : Int) : Wst w (wr.setCell ⟨w.heap.size + 1 + 1, x.toNat, none⟩ (.int .i64 y)) u v (fun n => if n = x then y else F n) :=
  ⟨h.below.setCell (p := ⟨w.heap.size + 1 + 1, x.toNat, none⟩) (by show w.heap.size ≤ w.heap.size + 1 + 1; omega) _,
   (World.cell?_setCell_other _ _ _ _ (by intro he; injection he with h1 h2; omega)).trans h.b0, (World.cell?_setCell_other _ _ _ _ (by intro he; injection he with h1 h2; omega)).trans h.b1,
   h.res.later (set_heap (by omega)), h.row.put h0 h4 y⟩
theorem Wst.fn {w wr : World} {u v : Value} {F G : Int → Int} (h : Wst w wr u v F) (e : ∀ n, F n = G n) : Wst w wr u v G := by
  have : F = G := funext e
  rwa [← this]
theorem wst_new (w : World) (u v : Value) : Wst w (((w.alloc (.cells #[u, v] 24)).alloc (.cells #[.int .i64 0, .int .i64 0, .int .i64 0, .int .i64 0, .int .i64 0] 38)).alloc (.cells #[.int .i64 0, .int .i64 0, .int .i64 0, .int .i64 0, .int .i64 0] 38)) u v (fun _ => 0) := by
  have hn0 := Go.heap_alloc_new w (.cells #[u, v] 24)
  generalize hA : w.alloc (.cells #[u, v] 24) = A at *
  have sA : A.heap.size = w.heap.size + 1 := by rw [← hA]; simp
  have bA : Below w.heap.size w A := by rw [← hA]; exact lay_alloc w _
  have hn1 := Go.heap_alloc_new A (.cells #[.int .i64 0, .int .i64 0, .int .i64 0, .int .i64 0, .int .i64 0] 38)
  have bB := lay_alloc A (.cells #[.int .i64 0, .int .i64 0, .int .i64 0, .int .i64 0, .int .i64 0] 38)
  have sB : (A.alloc (.cells #[.int .i64 0, .int .i64 0, .int .i64 0, .int .i64 0, .int .i64 0] 38)).heap.size = w.heap.size + 1 + 1 := by simp [sA]
  generalize A.alloc (.cells #[.int .i64 0, .int .i64 0, .int .i64 0, .int .i64 0, .int .i64 0] 38) = B at *
  have hn2 := Go.heap_alloc_new B (.cells #[.int .i64 0, .int .i64 0, .int .i64 0, .int .i64 0, .int .i64 0] 38)
  have bC := lay_alloc B (.cells #[.int .i64 0, .int .i64 0, .int .i64 0, .int .i64 0, .int .i64 0] 38)
  generalize B.alloc (.cells #[.int .i64 0, .int .i64 0, .int .i64 0, .int .i64 0, .int .i64 0] 38) = C at *
  rw [sA] at hn1; rw [sB] at hn2
  have k0 : C.heap[w.heap.size]? = some (.cells #[u, v] 24 (0, 0)) := ((bC.block _ (by omega)).trans (bB.block _ (by omega))).trans hn0
  have k1 := (bC.block (w.heap.size + 1) (by omega)).trans hn1
  exact ⟨bA.trans ((bB.mono bA.size).trans (bC.mono (by omega))), by rw [cell_of_row C _ _ _ _ _ k0]; rfl, by rw [cell_of_row C _ _ _ _ _ k0]; rfl, row5_zero k1, row5_zero hn2⟩

theorem Wst.done {w wr W : World} {u v : Value} {F : Int → Int} (h : Wst w wr u v F)
    (hW : ((((wr.setCell ⟨w.heap.size + 1, 0, none⟩ (.int .i64 (F 0))).setCell ⟨w.heap.size + 1, 1, none⟩ (.int .i64 (F 1))).setCell ⟨w.heap.size + 1, 2, none⟩ (.int .i64 (F 2))).setCell ⟨w.heap.size + 1, 3, none⟩ (.int .i64 (F 3))).setCell ⟨w.heap.size + 1, 4, none⟩ (.int .i64 (F 4)) = W) :
    Row5 W (w.heap.size + 1) F ∧ Below w.heap.size w W := by
  subst hW
  have hp := fun (k : Int) (k0 : 0 ≤ k) (k4 : k ≤ 4) (W : World) (G : Int → Int) (hr : Row5 W (w.heap.size + 1) G) => hr.put k0 k4 (F k)
  have h1 := hp 4 (by omega) (by omega) _ _ (hp 3 (by omega) (by omega) _ _ (hp 2 (by omega) (by omega) _ _ (hp 1 (by omega) (by omega) _ _ (hp 0 (by omega) (by omega) _ _ h.res))))
  refine ⟨⟨fun x x0 x4 => (h1.at' x x0 x4).trans ?_, h1.fz⟩, ?_⟩
  · rcases (by omega : x = 0 ∨ x = 1 ∨ x = 2 ∨ x = 3 ∨ x = 4) with rfl | rfl | rfl | rfl | rfl <;> rfl
  · have hs := fun (W : World) (j : Nat) (y : Value) (hb : Below w.heap.size w W) => hb.setCell (p := ⟨w.heap.size + 1, j, none⟩) (by show w.heap.size ≤ w.heap.size + 1; omega) y
    exact hs _ _ _ (hs _ _ _ (hs _ _ _ (hs _ _ _ (hs _ _ _ h.below))))
set_option maxRecDepth 100000 in
set_option maxHeartbeats 3200000 in
theorem ways_any {w : World} {u v : Value} {vs ls : List Int} (h : RoCs w u v vs ls) : Calls Try.prog 41 #[.agg #[u, v]] w (WaysP vs ls w) := by
  obtain ⟨hv, hl⟩ := h
  obtain ⟨a1, c1, rfl, hlc1, hcm1⟩ := hv.slice
  obtain ⟨a2, c2, rfl, hlc2, hcm2⟩ := hl.slice
  have i0 : ∀ (x y z : Value) (w : World), (Instr.index 65 (.agg #[x, y, z]) (.int .i64 0)).run Try.prog w = .ok x w := fun _ _ _ _ => by kernel_rfl
  have i1 : ∀ (x y z : Value) (w : World), (Instr.index 65 (.agg #[x, y, z]) (.int .i64 1)).run Try.prog w = .ok y w := fun _ _ _ _ => by kernel_rfl
  have i2 : ∀ (x y z : Value) (w : World), (Instr.index 65 (.agg #[x, y, z]) (.int .i64 2)).run Try.prog w = .ok z w := fun _ _ _ _ => by kernel_rfl
  go_enter Try.func41, Try.ntmps41
  go_wp2_with fail
  have hst0 := wst_new w (.slice a1 vs.length c1) (.slice a2 ls.length c2)
  generalize World.alloc _ _ = W0 at *
  go_loopw [14] (fun i wr => ∃ (k : Nat) (z : Int), i = .int .i64 z ∧ z = k ∧ k ≤ 3 ∧ okAll (Bsf vs ls k) = true ∧ Wst w wr (.slice a1 vs.length c1) (.slice a2 ls.length c2) (Fsf vs ls k)) (fun i _ => 3 - (intOf i).toNat)
  case atStart => exact ⟨0, 0, rfl, rfl, by omega, by rfl, hst0.fn fun n => by simp [Fsf]⟩
  case round =>
    clear hst0
    obtain ⟨i, z, rfl, hz, hi, hok, hst⟩ := hrel
    rcases (by omega : i = 0 ∨ i = 1 ∨ i = 2 ∨ i = 3) with rfl | rfl | rfl | rfl
    · obtain rfl : z = 0 := hz
      have HL : Lst vs ls 0 = ([] : List Int) := rfl
      go_wp2_with fail
      go_loopw [20] (fun j wr => ∃ k : Nat, j = .int .i64 k ∧ k ≤ (([] : List Int)).length ∧ okAll (Bsf vs ls 0 ++ (Lst vs ls 0).take k) = true ∧ Wst w wr (.slice a1 vs.length c1) (.slice a2 ls.length c2) (Fin' vs ls 0 k)) (fun j _ => (([] : List Int)).length - (intOf j).toNat)
      case atStart => exact ⟨0, rfl, Nat.zero_le _, by simpa using hok, hst.fn fun n => (Fin_zero vs ls 0 n).symm⟩
      case round =>
        obtain ⟨k, rfl, hk, hok, hst⟩ := hrel
        obtain rfl : k = 0 := by simpa using hk
        go_wp2_with fail
        exact ⟨⟨1, _, rfl, by rfl, by omega, by simpa [Bsf, Lst] using hok, hst.fn fun n => (Fin_all vs ls (i := 0) (by omega) n)⟩, by simp [intOf]⟩
    · obtain rfl : z = 1 := hz
      have HL : Lst vs ls 1 = ls := rfl
      go_wp2_with fail
      go_loopw [20] (fun j wr => ∃ k : Nat, j = .int .i64 k ∧ k ≤ (ls).length ∧ okAll (Bsf vs ls 1 ++ (Lst vs ls 1).take k) = true ∧ Wst w wr (.slice a1 vs.length c1) (.slice a2 ls.length c2) (Fin' vs ls 1 k)) (fun j _ => (ls).length - (intOf j).toNat)
      case atStart => exact ⟨0, rfl, Nat.zero_le _, by simpa using hok, hst.fn fun n => (Fin_zero vs ls 1 n).symm⟩
      case round =>
        obtain ⟨k, rfl, hk, hok, hst⟩ := hrel
        by_cases hlt : k < (ls).length
        · have hg : (Lst vs ls 1)[k]? = some (ls)[k] := List.getElem?_eq_getElem hlt
          obtain ⟨g, off, rfl, _, hcx⟩ := intL_at (hl.later hst.below) hg
          have HF := Lib.hid (Fin_step vs ls hg)
          have HK : Hid ((Lst vs ls 1).take (k + 1) = (Lst vs ls 1).take k ++ [(ls)[k]]) := by show _ = _; rw [List.take_add_one, hg, Option.toList_some]
          have HZ := Lib.hid (Fin_free vs ls (i := 1) (k := k) (by omega) (by omega) (ls)[k])
          have HA := Lib.hid (okAll_snoc (Bsf vs ls 1 ++ (Lst vs ls 1).take k) (ls)[k])
          have HB : Hid (okR vs ls = true → okAll (Bsf vs ls 1 ++ (Lst vs ls 1).take (k + 1)) = true) := by
            intro h
            have h1 := ((okR_iff _ _).1 h).1
            have : ls ++ vs = (Bsf vs ls 1 ++ (Lst vs ls 1).take (k + 1)) ++ ((ls).drop (k + 1) ++ vs) := by
              show ls ++ vs = ([] ++ ls.take (k + 1)) ++ _
              rw [List.nil_append, ← List.append_assoc, List.take_append_drop]
            rw [this] at h1
            exact okAll_left h1
          have HN := fun W => node_any (ls)[k] W
          clear hg
          generalize (ls)[k] = x at *
          have s0 := hst.b0; have s1 := hst.b1
          have r0 := hst.row.c0; have r1 := hst.row.c1; have r2 := hst.row.c2; have r3 := hst.row.c3; have r4 := hst.row.c4
          have q0 := hst.res.c0; have q1 := hst.res.c1; have q2 := hst.res.c2; have q3 := hst.res.c3; have q4 := hst.res.c4
          have f0 := hst.res.fz 0 (by omega); have f1 := hst.res.fz 1 (by omega); have f2 := hst.res.fz 2 (by omega); have f3 := hst.res.fz 3 (by omega); have f4 := hst.res.fz 4 (by omega)
          by_cases hx : inR x = true
          · have hx' := (inR_iff x).1 hx
            have x0 := hx'.1; have x4 := hx'.2; have x5 : x < 5 := by omega
            have rx := hst.row.at' x x0 x4
            have fx := hst.row.fz x.toNat (by omega)
            by_cases hz : Fin' vs ls 1 k x = 0
            · rw [hz] at rx
              have HY := Lib.hid hx
              rw [hx] at HN
              clear hx hx' HB
              go_wp2_with (go_at_call 50; refine (HN _).mono ?_; rintro e w' ⟨rfl, rfl⟩)
              exact ⟨⟨k + 1, by go_num, by omega, by rw [HK.out, ← List.append_assoc]; exact HA.out.2 ⟨hok, HY.out, HZ.out.1 hz⟩, (hst.put x0 x4 1).fn fun n => (HF.out n).symm⟩, by simp [intOf]; omega⟩
            · have HBad : Hid (okR vs ls = false) := by
                show _ = _
                cases e : okR vs ls with
                | false => rfl
                | true =>
                  have := HB.out e
                  rw [HK.out, ← List.append_assoc] at this
                  exact absurd (HZ.out.2 (HA.out.1 this).2.2) hz
              rw [hx] at HN
              clear hx hx' HB
              go_wp2_with (go_at_call 50; refine (HN _).mono ?_; rintro e w' ⟨rfl, rfl⟩)
              generalize hW : World.setCell _ _ _ = W
              obtain ⟨hr, hb⟩ := hst.done hW
              clear hW
              have e0 := hr.c0; have e1 := hr.c1; have e2 := hr.c2; have e3 := hr.c3; have e4 := hr.c4
              refine bodyPost_ret (v := .tuple #[.agg #[.int .i64 (Fin' vs ls 1 k 0), .int .i64 (Fin' vs ls 1 k 1), .int .i64 (Fin' vs ls 1 k 2), .int .i64 (Fin' vs ls 1 k 3), .int .i64 (Fin' vs ls 1 k 4)], .bool false]) ?_ rfl ?_
              · rw [results_cell_tmp rfl]
                go_simp
              · exact ⟨Fin' vs ls 1 k, by rw [HBad.out], (fun e => by rw [HBad.out] at e; cases e), hb⟩
          · have hx : inR x = false := by simpa using hx
            have HBad : Hid (okR vs ls = false) := by
              show _ = _
              cases e : okR vs ls with
              | false => rfl
              | true =>
                have := HB.out e
                rw [HK.out, ← List.append_assoc] at this
                have := (HA.out.1 this).2.1
                rw [hx] at this; cases this
            rw [hx] at HN
            clear hx HB
            go_wp2_with (go_at_call 50; refine (HN _).mono ?_; rintro e w' ⟨rfl, rfl⟩)
            generalize hW : World.setCell _ _ _ = W
            obtain ⟨hr, hb⟩ := hst.done hW
            clear hW
            have e0 := hr.c0; have e1 := hr.c1; have e2 := hr.c2; have e3 := hr.c3; have e4 := hr.c4
            refine bodyPost_ret (v := .tuple #[.agg #[.int .i64 (Fin' vs ls 1 k 0), .int .i64 (Fin' vs ls 1 k 1), .int .i64 (Fin' vs ls 1 k 2), .int .i64 (Fin' vs ls 1 k 3), .int .i64 (Fin' vs ls 1 k 4)], .bool false]) ?_ rfl ?_
            · rw [results_cell_tmp rfl]
              go_simp
            · exact ⟨Fin' vs ls 1 k, by rw [HBad.out], (fun e => by rw [HBad.out] at e; cases e), hb⟩
        · obtain rfl : k = (ls).length := by omega
          go_wp2_with fail
          exact ⟨⟨2, _, rfl, by rfl, by omega, by rw [Bsf_step _ _ (by omega)]; rw [HL, List.take_length] at hok; exact hok, hst.fn fun n => Fin_all vs ls (i := 1) (by omega) n⟩, by simp [intOf]⟩
    · obtain rfl : z = 2 := hz
      have HL : Lst vs ls 2 = vs := rfl
      go_wp2_with fail
      go_loopw [20] (fun j wr => ∃ k : Nat, j = .int .i64 k ∧ k ≤ (vs).length ∧ okAll (Bsf vs ls 2 ++ (Lst vs ls 2).take k) = true ∧ Wst w wr (.slice a1 vs.length c1) (.slice a2 ls.length c2) (Fin' vs ls 2 k)) (fun j _ => (vs).length - (intOf j).toNat)
      case atStart => exact ⟨0, rfl, Nat.zero_le _, by simpa using hok, hst.fn fun n => (Fin_zero vs ls 2 n).symm⟩
      case round =>
        obtain ⟨k, rfl, hk, hok, hst⟩ := hrel
        by_cases hlt : k < (vs).length
        · have hg : (Lst vs ls 2)[k]? = some (vs)[k] := List.getElem?_eq_getElem hlt
          obtain ⟨g, off, rfl, _, hcx⟩ := intL_at (hv.later hst.below) hg
          have HF := Lib.hid (Fin_step vs ls hg)
          have HK : Hid ((Lst vs ls 2).take (k + 1) = (Lst vs ls 2).take k ++ [(vs)[k]]) := by show _ = _; rw [List.take_add_one, hg, Option.toList_some]
          have HZ := Lib.hid (Fin_free vs ls (i := 2) (k := k) (by omega) (by omega) (vs)[k])
          have HA := Lib.hid (okAll_snoc (Bsf vs ls 2 ++ (Lst vs ls 2).take k) (vs)[k])
          have HB : Hid (okR vs ls = true → okAll (Bsf vs ls 2 ++ (Lst vs ls 2).take (k + 1)) = true) := by
            intro h
            have h1 := ((okR_iff _ _).1 h).1
            have : ls ++ vs = (Bsf vs ls 2 ++ (Lst vs ls 2).take (k + 1)) ++ ((vs).drop (k + 1) ++ []) := by simp [Bsf, Lst]
            rw [this] at h1
            exact okAll_left h1
          have HN := fun W => node_any (vs)[k] W
          clear hg
          generalize (vs)[k] = x at *
          have s0 := hst.b0; have s1 := hst.b1
          have r0 := hst.row.c0; have r1 := hst.row.c1; have r2 := hst.row.c2; have r3 := hst.row.c3; have r4 := hst.row.c4
          have q0 := hst.res.c0; have q1 := hst.res.c1; have q2 := hst.res.c2; have q3 := hst.res.c3; have q4 := hst.res.c4
          have f0 := hst.res.fz 0 (by omega); have f1 := hst.res.fz 1 (by omega); have f2 := hst.res.fz 2 (by omega); have f3 := hst.res.fz 3 (by omega); have f4 := hst.res.fz 4 (by omega)
          by_cases hx : inR x = true
          · have hx' := (inR_iff x).1 hx
            have x0 := hx'.1; have x4 := hx'.2; have x5 : x < 5 := by omega
            have rx := hst.row.at' x x0 x4
            have fx := hst.row.fz x.toNat (by omega)
            by_cases hz : Fin' vs ls 2 k x = 0
            · rw [hz] at rx
              have HY := Lib.hid hx
              rw [hx] at HN
              clear hx hx' HB
              go_wp2_with (go_at_call 50; refine (HN _).mono ?_; rintro e w' ⟨rfl, rfl⟩)
              exact ⟨⟨k + 1, by go_num, by omega, by rw [HK.out, ← List.append_assoc]; exact HA.out.2 ⟨hok, HY.out, HZ.out.1 hz⟩, (hst.put x0 x4 2).fn fun n => (HF.out n).symm⟩, by simp [intOf]; omega⟩
            · have HBad : Hid (okR vs ls = false) := by
                show _ = _
                cases e : okR vs ls with
                | false => rfl
                | true =>
                  have := HB.out e
                  rw [HK.out, ← List.append_assoc] at this
                  exact absurd (HZ.out.2 (HA.out.1 this).2.2) hz
              rw [hx] at HN
              clear hx hx' HB
              go_wp2_with (go_at_call 50; refine (HN _).mono ?_; rintro e w' ⟨rfl, rfl⟩)
              generalize hW : World.setCell _ _ _ = W
              obtain ⟨hr, hb⟩ := hst.done hW
              clear hW
              have e0 := hr.c0; have e1 := hr.c1; have e2 := hr.c2; have e3 := hr.c3; have e4 := hr.c4
              refine bodyPost_ret (v := .tuple #[.agg #[.int .i64 (Fin' vs ls 2 k 0), .int .i64 (Fin' vs ls 2 k 1), .int .i64 (Fin' vs ls 2 k 2), .int .i64 (Fin' vs ls 2 k 3), .int .i64 (Fin' vs ls 2 k 4)], .bool false]) ?_ rfl ?_
              · rw [results_cell_tmp rfl]
                go_simp
              · exact ⟨Fin' vs ls 2 k, by rw [HBad.out], (fun e => by rw [HBad.out] at e; cases e), hb⟩
          · have hx : inR x = false := by simpa using hx
            have HBad : Hid (okR vs ls = false) := by
              show _ = _
              cases e : okR vs ls with
              | false => rfl
              | true =>
                have := HB.out e
                rw [HK.out, ← List.append_assoc] at this
                have := (HA.out.1 this).2.1
                rw [hx] at this; cases this
            rw [hx] at HN
            clear hx HB
            go_wp2_with (go_at_call 50; refine (HN _).mono ?_; rintro e w' ⟨rfl, rfl⟩)
            generalize hW : World.setCell _ _ _ = W
            obtain ⟨hr, hb⟩ := hst.done hW
            clear hW
            have e0 := hr.c0; have e1 := hr.c1; have e2 := hr.c2; have e3 := hr.c3; have e4 := hr.c4
            refine bodyPost_ret (v := .tuple #[.agg #[.int .i64 (Fin' vs ls 2 k 0), .int .i64 (Fin' vs ls 2 k 1), .int .i64 (Fin' vs ls 2 k 2), .int .i64 (Fin' vs ls 2 k 3), .int .i64 (Fin' vs ls 2 k 4)], .bool false]) ?_ rfl ?_
            · rw [results_cell_tmp rfl]
              go_simp
            · exact ⟨Fin' vs ls 2 k, by rw [HBad.out], (fun e => by rw [HBad.out] at e; cases e), hb⟩
        · obtain rfl : k = (vs).length := by omega
          go_wp2_with fail
          exact ⟨⟨3, _, rfl, by rfl, by omega, by rw [Bsf_step _ _ (by omega)]; rw [HL, List.take_length] at hok; exact hok, hst.fn fun n => Fin_all vs ls (i := 2) (by omega) n⟩, by simp [intOf]⟩
    · obtain rfl : z = 3 := hz
      have s0 := hst.b0; have s1 := hst.b1
      have r0 := hst.row.c0; have r1 := hst.row.c1; have r2 := hst.row.c2; have r3 := hst.row.c3; have r4 := hst.row.c4
      have q0 := hst.res.c0; have q1 := hst.res.c1; have q2 := hst.res.c2; have q3 := hst.res.c3; have q4 := hst.res.c4
      have f0 := hst.res.fz 0 (by omega); have f1 := hst.res.fz 1 (by omega); have f2 := hst.res.fz 2 (by omega); have f3 := hst.res.fz 3 (by omega); have f4 := hst.res.fz 4 (by omega)
      have HOk : Hid (okR vs ls = decide (0 < vs.length)) := by
        show _ = _
        rw [Bool.eq_iff_iff, okR_iff, decide_eq_true_eq]
        constructor
        · exact fun h => h.2
        · exact fun h => ⟨hok, h⟩
      go_wp2_with fail
      have HS := Lib.hid hst
      clear hst
      go_region
      generalize hW : World.setCell _ _ _ = W
      obtain ⟨hr, hb⟩ := HS.out.done hW
      clear hW r0 r1 r2 r3 r4 q0 q1 q2 q3 q4 f0 f1 f2 f3 f4 s0 s1
      have hr1 : Row5 W.drew (w.heap.size + 1) (Fsf vs ls 3) := ⟨hr.at', hr.fz⟩
      have hb1 := lay_drew hb
      generalize W.drew = V at *
      have e0 := hr1.c0; have e1 := hr1.c1; have e2 := hr1.c2; have e3 := hr1.c3; have e4 := hr1.c4
      go_wp2_with fail
      refine bodyPost_ret (v := .tuple #[.agg #[.int .i64 (Fsf vs ls 3 0), .int .i64 (Fsf vs ls 3 1), .int .i64 (Fsf vs ls 3 2), .int .i64 (Fsf vs ls 3 3), .int .i64 (Fsf vs ls 3 4)], .bool (decide (0 < vs.length))]) ?_ rfl ?_
      · rw [results_cell_tmp rfl]
        go_simp
      · exact ⟨Fsf vs ls 3, by rw [HOk.out], (fun _ n => Fsf_three vs ls n), hb1⟩
end Go.Proofs.Yticcmjiekopnbaa
