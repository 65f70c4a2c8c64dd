/-
  Walks: a list of entries cloned; room for entries; two lists, one behind the other (ported from filter's Fe and Fc).
-/
import Derived.Test.YtcmfnokpbgfioaaE1
import Derived.Lib.AppendZeros
namespace Go.Proofs.Ytcmfnokpbgfioaa
set_option linter.unusedVariables false
set_option linter.unusedSimpArgs false
open Go.RowKit

theorem Try.infoEn : (Try.prog.info? 44).map (fun i => (i.zero, i.size, i.bytes)) = some (some (.agg #[.int .i64 0, .int .i64 0, .slice none 0 0]), 3, 40) := by kernel_rfl
def PassP (ys : List En) (w : World) (e : Ending) (w' : World) : Prop := ∃ v, e = .returned v ∧ Rw enL 44 w w' v ys
theorem row_slice1 {w : World} {B n sz : Nat} {t : TypeId} {v : Value} {cs : List Value} (h : w.ownsRow B t sz v n cs) : ∃ a c, v = .slice a n c := by
  rcases h.2 with ⟨h0, h1⟩ | ⟨g', cap, cur, hv, _, _, hn, hm, _⟩
  · exact ⟨none, 0, by rw [h0, h1]⟩
  · exact ⟨_, cap, hv⟩
theorem eql_slice (a : Option Addr) (n c : Nat) (W : World) : (binOp .eql 22 (.slice a n c) (.slice none 0 0)).run Try.prog W = .ok (.bool a.isNone) W := by
  cases a <;> kernel_rfl
set_option maxRecDepth 100000 in
set_option maxHeartbeats 1600000 in
theorem CloneN {w : World} {v : Value} {l : List En} (h : enL.In w v l) (hl : l.length ≤ 1000000) : Calls Try.prog 41 #[v] w fun e w' => ∃ u, e = .returned u ∧ Rw enL 44 w w' u l := by
  obtain ⟨a, c, rfl, _, _⟩ := h.slice
  have H := Lib.hid h
  cases a with
  | none =>
    have hn : l = [] := by
      obtain ⟨a', c', hv, _, _, h'⟩ := h
      rcases h' with e | ⟨g, off, e, _⟩
      · exact e
      · simp only [Value.slice.injEq] at hv
        rw [← hv.1] at e; cases e
    subst hn
    have e1 := fun W => eql_slice none 0 c W
    clear h H
    go_enter Try.func41, Try.ntmps41
    go_wp2_with fail
    go_ret
    exact ⟨_, rfl, Rw.nil w⟩
  | some a =>
    have e1 := fun W => eql_slice (some a) l.length c W
    have HB := Lib.hid (lay_alloc w (.cells #[] 44))
    have HI := Lib.hid (h.later HB.out)
    have HOwn : Hid ((w.alloc (.cells #[] 44)).ownsRow w.heap.size 44 enL.sz (.slice (some ⟨w.heap.size, 0, none⟩) 0 0) ([] : List En).length (enL.all [])) := World.ownsRow_made w #[] 0 (Nat.le_refl _) (by decide) rfl
    have HL : Hid (([] : List En).length + l.length ≤ 1073741825) := by show 0 + l.length ≤ _; omega
    clear h H hl
    go_enter Try.func41, Try.ntmps41
    go_wp2_with (at_builtin; refine wpList_catI (I := enL) rfl _ _ 22 44 rfl Try.underlying22 Try.infoEn rfl (by decide) (by decide) HOwn.out HI.out HL.out HB.out.size rfl rfl ?_; intro v2 w2 hown hgrow; have HO := Lib.hid hown; have HG := Lib.hid hgrow; clear hown hgrow)
    obtain ⟨va, vc, hv⟩ := row_slice1 HO.out
    subst hv
    go_ret
    exact ⟨_, rfl, HO.out, HB.out.trans ⟨HG.out.os, HG.out.tape, HG.out.output, HG.out.size, fun k hk => HG.out.block k (Nat.lt_of_lt_of_le hk HB.out.size) (fun e => by simp [Value.ownBlock] at e; omega)⟩⟩

set_option maxRecDepth 100000 in
set_option maxHeartbeats 3200000 in
theorem Grow_nil (n : Nat) (w : World) (hn : n ≤ 1000000) : Calls Try.prog 52 #[.slice none 0 0, .int .i64 (n : Nat)] w (PassP [] w) := by
  have h0 : ¬ ((n : Int) < 0) := by omega
  have e0 : IntKind.i64.wrap ((n : Int) - 0) = n := IntWalk.i64_in _ (by omega)
  by_cases hz : n = 0
  · subst hz
    go_enter Try.func52, Try.ntmps52
    go_wp2_with fail
    go_ret
    exact ⟨_, rfl, Rw.nil w⟩
  · have h1 : (0 : Int) < (n : Int) := by omega
    obtain ⟨i0, hi, hz0, hz1, hz2⟩ := info_parts Try.infoEn
    have hsz : (Value.agg #[.int .i64 0, .int .i64 0, .slice none 0 0]).cells.size = 3 := rfl
    have hr := fun ty => Lib.run_append_nil_zeros (P := Try.prog) w 22 3 ty 44 i0 _ .i64 .i64 Try.underlying22 Try.underlying3 hi hz0 n (by omega) (by rw [hz1]; decide) (by omega) (by rw [hz2]; omega)
    have hge := grownCap_ge w n 0 44
    have hle := grownCap_le_maxLen w n 0 44 (by unfold maxLen; omega)
    generalize grownCap w n 0 44 = cap at *
    generalize hM : Builtin.zeroCells (Value.agg #[.int .i64 0, .int .i64 0, .slice none 0 0]).cells n ++ Builtin.zeroCells (Value.agg #[.int .i64 0, .int .i64 0, .slice none 0 0]).cells (cap - n) = M at *
    have hMs : M.size = cap * 3 := by rw [← hM, Array.size_append, size_zeroCells, size_zeroCells, hsz]; omega
    have HR := Lib.hid hr
    have HF : Hid (Rw enL 44 w (w.drew.alloc (.cells M 44)) (.slice (some ⟨w.heap.size, 0, none⟩) 0 cap) []) :=
      ⟨World.ownsRow_made (w := w.drew) (e := 44) (size := 3) M cap (Nat.le_refl _) hle hMs, (lay_drew (Below.refl _ _)).alloc (Nat.le_refl _) _⟩
    clear hr hM hMs hi hz0 hz1 hz2 hsz hle
    have hc : (0 : Int) ≤ ((cap : Nat) : Int) := by omega
    go_enter Try.func52, Try.ntmps52
    go_wp2_with (at_builtin; refine Lib.wpList_append_run _ rfl _ _ _ _ rfl _ _ rfl rfl _ _ (HR.out _) ?_)
    go_ret
    exact ⟨_, rfl, HF.out⟩

def catZs (xs ys : List En) (i : Nat) : List En := if i = 0 then [] else if i = 1 then xs else xs ++ ys
theorem catZs_step (xs ys : List En) (i : Nat) (h : i < 2) : catZs xs ys (i + 1) = catZs xs ys i ++ (if i = 0 then xs else ys) := by
  rcases (by omega : i = 0 ∨ i = 1) with rfl | rfl <;> simp [catZs]
set_option maxRecDepth 100000 in
set_option maxHeartbeats 6400000 in
theorem Concat_two {w : World} {g : Nat} {u1 u2 : Value} {xs ys : List En} (c1 : w.cell? ⟨g, 0, none⟩ = some u1) (c2 : w.cell? ⟨g, 1, none⟩ = some u2) (h1 : enL.In w u1 xs) (h2 : enL.In w u2 ys) (l1 : xs.length ≤ 100000) (l2 : ys.length ≤ 100000) :
    Calls Try.prog 51 #[.slice (some ⟨g, 0, none⟩) 2 2] w (PassP (xs ++ ys) w) := by
  obtain ⟨a1, d1, rfl, _, _⟩ := h1.slice
  obtain ⟨a2, d2, rfl, _, _⟩ := h2.slice
  have H1 := Lib.hid h1
  have H2 := Lib.hid h2
  have C1 := Lib.hid c1
  have C2 := Lib.hid c2
  clear h1 h2
  go_enter Try.func51, Try.ntmps51
  go_wp2_with fail
  go_loopw [3, 11] (fun u v wr => ∃ (i : Nat), u = .int .i64 ((catZs xs ys i).length : Nat) ∧ v = .int .i64 i ∧ i ≤ 2 ∧ w = wr)
    (fun _ v _ => 2 - (intOf v).toNat)
  case atStart => exact ⟨0, rfl, rfl, by omega, rfl⟩
  case round =>
    obtain ⟨i, rfl, rfl, hin, rfl⟩ := hrel
    rcases (by omega : i = 0 ∨ i = 1 ∨ i = 2) with rfl | rfl | rfl
    · have hn : (catZs xs ys 0).length = 0 := rfl
      have e1 : IntKind.i64.wrap (0 + (xs.length : Int)) = (xs.length : Int) := by rw [Int.zero_add]; exact IntWalk.i64_in _ (by omega)
      have e2 : ¬ ((xs.length : Int) < 0) := by omega
      rw [hn]
      clear hn
      go_wp2_with fail
      exact ⟨⟨1, by simp [catZs], rfl, by omega, trivial⟩, by show 2 - (1 : Int).toNat < 2 - (0 : Int).toNat; decide⟩
    · have hn : (catZs xs ys 1).length = xs.length := rfl
      have e1 : IntKind.i64.wrap ((xs.length : Int) + (ys.length : Int)) = (xs.length : Int) + (ys.length : Int) := IntWalk.i64_in _ (by omega)
      have e2 : ¬ ((xs.length : Int) + (ys.length : Int) < 0) := by omega
      rw [hn]
      clear hn
      go_wp2_with fail
      exact ⟨⟨2, by simp [catZs], rfl, by omega, trivial⟩, by show 2 - (2 : Int).toNat < 2 - (1 : Int).toNat; decide⟩
    · have hG := Grow_nil (catZs xs ys 2).length w (by show (xs ++ ys).length ≤ _; rw [List.length_append]; omega)
      generalize (catZs xs ys 2).length = N at *
      have HG := Lib.hid hG
      clear hG
      go_wp2_with fail
      go_fit HG.out
      rintro e w1 ⟨v1, rfl, hr⟩
      have HR := Lib.hid hr
      obtain ⟨va, vc, rfl, _, _⟩ := hr.slice
      clear hr HG
      go_wp2_with fail
      go_loopw [6, 27] (fun u v wr => ∃ (i : Nat), v = .int .i64 i ∧ i ≤ 2 ∧ Hid (Rw enL 44 w wr u (catZs xs ys i)))
        (fun _ v _ => 2 - (intOf v).toNat)
      case atStart => exact ⟨0, rfl, by omega, HR⟩
      case round =>
        obtain ⟨j, rfl, hjn, hR⟩ := hrel
        have hst := Lib.hid (catZs_step xs ys j)
        rcases (by omega : j = 0 ∨ j = 1 ∨ j = 2) with rfl | rfl | rfl
        · have k1 := lay_later hR.out.grown C1.out
          have HI := Lib.hid (H1.out.later hR.out.grown)
          obtain ⟨ra, rc, rfl, _, _⟩ := hR.out.slice
          have HL : Hid ((catZs xs ys 0).length + xs.length ≤ 1073741825) := by show _ ≤ _; have : (catZs xs ys 0).length = 0 := rfl; omega
          clear c1 c2
          go_wp2_with (at_builtin; refine wpList_catI (I := enL) rfl _ _ 22 44 rfl Try.underlying22 Try.infoEn rfl (by decide) (by decide) hR.out.own HI.out HL.out hR.out.grown.size rfl rfl ?_; intro v' w' hown hgrow; have HO := Lib.hid hown; have HW := Lib.hid hgrow; clear hown hgrow)
          refine ⟨⟨1, rfl, by omega, ?_⟩, by show 2 - (1 : Int).toNat < 2 - (0 : Int).toNat; decide⟩
          show Rw _ _ _ _ _ _
          rw [hst.out (by omega)]
          exact ⟨HO.out, hR.out.grown.trans ⟨HW.out.os, HW.out.tape, HW.out.output, HW.out.size, fun k hk => HW.out.block k (Nat.lt_of_lt_of_le hk hR.out.grown.size) (fun e => by have := (hR.out.lt k e.symm).1; omega)⟩⟩
        · have k2 := lay_later hR.out.grown C2.out
          have HI := Lib.hid (H2.out.later hR.out.grown)
          obtain ⟨ra, rc, rfl, _, _⟩ := hR.out.slice
          have HL : Hid ((catZs xs ys 1).length + ys.length ≤ 1073741825) := by show _ ≤ _; have : (catZs xs ys 1).length = xs.length := rfl; omega
          clear c1 c2
          go_wp2_with (at_builtin; refine wpList_catI (I := enL) rfl _ _ 22 44 rfl Try.underlying22 Try.infoEn rfl (by decide) (by decide) hR.out.own HI.out HL.out hR.out.grown.size rfl rfl ?_; intro v' w' hown hgrow; have HO := Lib.hid hown; have HW := Lib.hid hgrow; clear hown hgrow)
          refine ⟨⟨2, rfl, by omega, ?_⟩, by show 2 - (2 : Int).toNat < 2 - (1 : Int).toNat; decide⟩
          show Rw _ _ _ _ _ _
          rw [hst.out (by omega)]
          exact ⟨HO.out, hR.out.grown.trans ⟨HW.out.os, HW.out.tape, HW.out.output, HW.out.size, fun k hk => HW.out.block k (Nat.lt_of_lt_of_le hk hR.out.grown.size) (fun e => by have := (hR.out.lt k e.symm).1; omega)⟩⟩
        · clear hst
          obtain ⟨ra, rc, rfl, _, _⟩ := hR.out.slice
          go_wp2_with fail
          go_ret
          exact ⟨_, rfl, hR.out⟩

end Go.Proofs.Ytcmfnokpbgfioaa
