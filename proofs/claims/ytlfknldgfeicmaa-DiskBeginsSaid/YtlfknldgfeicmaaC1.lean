/-
  Lists of bytes in memory; slices.Concat of them.
-/
import Derived.Test.YtlfknldgfeicmaaG17
import Derived.Test.YtlfknldgfeicmaaLc
import Derived.Lib.AppendZeros
namespace Go.Proofs.Ytlfknldgfeicmaa
set_option linter.unusedVariables false
set_option linter.unusedSimpArgs false
open Go.RowKit Go.Shelf

/-- A slice as it lies in a cell. -/
abbrev Sl := Option Addr × Nat × Nat
def sv (h : Sl) : Value := .slice h.1 h.2.1 h.2.2
def slL : Lay Sl := ⟨fun h => [sv h], 1, fun _ => rfl, by intro h u hu; simp [sv] at hu; subst hu; rfl⟩
theorem Try.infoSl : (Try.prog.info? 32).map (fun i => (i.zero, i.size, i.bytes)) = some (some (.slice none 0 0), 1, 24) := by kernel_rfl
/-- Bytes, each list of its own. -/
def Each (w : World) (hs : List Sl) (bss : List (List Int)) : Prop := hs.length = bss.length ∧ ∀ (i : Nat) (h : Sl) (xs : List Int), hs[i]? = some h → bss[i]? = some xs → Byt w [] (sv h) xs
theorem Each.later {w w' : World} {hs : List Sl} {bss : List (List Int)} (h : Each w hs bss) (hb : Below w.heap.size w w') : Each w' hs bss := ⟨h.1, fun i x xs hx hxs => (h.2 i x xs hx hxs).below hb⟩
theorem Each.cons {w : World} {h : Sl} {xs : List Int} {hs : List Sl} {bss : List (List Int)} (h0 : Byt w [] (sv h) xs) (he : Each w hs bss) : Each w (h :: hs) (xs :: bss) := by
  refine ⟨by simp [he.1], fun i x ys hx hys => ?_⟩
  cases i with
  | zero => simp at hx hys; subst hx; subst hys; exact h0
  | succ i => exact he.2 i x ys (by simpa using hx) (by simpa using hys)
theorem Each.len {w : World} {hs : List Sl} {bss : List (List Int)} (h : Each w hs bss) {i : Nat} {x : Sl} {xs : List Int} (hx : hs[i]? = some x) (hxs : bss[i]? = some xs) : x.2.1 = xs.length := by
  obtain ⟨a, c, hv, _⟩ := h.2 i x xs hx hxs
  simp only [sv, Value.slice.injEq] at hv
  exact hv.2.1

theorem wpList_catB {w : World} {B : Nat} {L : List Nat} {v u : Value} {xs ys : List Int} {ops : Array Oper} {rest : List Oper} {o : Oper} {a : Act} {Q : Exit → Act → World → Prop} (hgd : o.guard = none) (s x : Operand)
    (ho : o.op = .call { callee := .builtin .append, args := #[s, x], argTypes := #[32, 32] })
    (hown : w.ownsRow B 5 1 v xs.length (u8s xs)) (hu : Byt w L u ys) (hl : xs.length + ys.length ≤ 70368744177664) (hB : B ≤ w.heap.size) (hs : a.eval s = v) (hx : a.eval x = u)
    (hk : ∀ v' w', w'.ownsRow B 5 1 v' (xs ++ ys).length (u8s (xs ++ ys)) → w.grownBy w' v.ownBlock → wpList Try.prog ops Q rest (a.put o.dst v') w') : wpList Try.prog ops Q (o :: rest) a w := by
  refine wpList_plain hgd fun _ hK => ?_
  obtain ⟨i0, hi, hz0, hz1, hz2⟩ := info_parts Try.infoU8
  have main : ∃ v' w', (Builtin.append_ #[32, 32] o.type #[v, u]).run Try.prog w = .ok v' w' ∧ w'.ownsRow B 5 1 v' (xs ++ ys).length (u8s (xs ++ ys)) ∧ w.grownBy w' v.ownBlock := by
    obtain ⟨a', c, rfl, hc1, hc2, hu⟩ := hu
    by_cases hy : ys = []
    · subst hy
      refine ⟨v, w, ?_, by rw [List.append_nil]; exact hown, World.grownBy.refl w _⟩
      rcases hown.2 with ⟨rfl, hn⟩ | ⟨g, cap, cur, rfl, _, _, hnc, _⟩
      · cases a' <;> simp [Builtin.append_, run_underlying Try.underlying32, sizeOf, typeInfo, hi, Builtin.lenOf, Builtin.firstCells, loadCellsFrom, loadCells]
      · cases a' <;> simp [Builtin.append_, run_underlying Try.underlying32, sizeOf, typeInfo, hi, Builtin.lenOf, Builtin.firstCells, hnc, storeCells, loadCellsFrom, loadCells]
    · obtain ⟨p, rfl, _, _, hp⟩ := hu.resolve_left hy
      obtain ⟨v', w', hr, h2, h3, _, h5⟩ := run_append_own_at (P := Try.prog) w B 32 o.type 5 i0 (.int .u8 0) 1 1 Try.underlying32 hi hz0 hz1 hz2 rfl (by decide) v xs.length (u8s xs) hown p ys.length c (u8s ys) (by simp [u8s]) hp (u8s_one ys) (by unfold maxLen; omega) (by omega) hB
      exact ⟨v', w', hr, by rw [u8s_app, List.length_append]; exact h2, h3⟩
  obtain ⟨v', w', hr, h2, h3⟩ := main
  unfold Oper.wp execOp
  simp only [ho, resolve, invoke, builtin, Sem.run_bind, Sem.run_pure, Result.andThen_ok, List.map_toArray, List.map_cons, List.map_nil, hs, hx, hr]
  exact hK _ _ (hk v' w' h2 h3)

/-- Bytes that are being written, in a block of their own, since a world. -/
structure Bw (w0 w : World) (v : Value) (xs : List Int) : Prop where
  own : w.ownsRow w0.heap.size 5 1 v xs.length (u8s xs)
  grown : Below w0.heap.size w0 w
theorem Bw.slice {w0 w : World} {v : Value} {xs : List Int} (h : Bw w0 w v xs) : ∃ a c, v = .slice a xs.length c := by
  rcases h.own.2 with ⟨h0, h1⟩ | ⟨g', cap, cur, hv, _, _, hn, hm, _⟩
  · exact ⟨none, 0, by rw [h0, h1]⟩
  · exact ⟨_, cap, hv⟩
theorem Bw.more {w0 w w2 : World} {v v2 : Value} {xs zs : List Int} (h : Bw w0 w v xs) (ho : w2.ownsRow w0.heap.size 5 1 v2 zs.length (u8s zs)) (hg : w.grownBy w2 v.ownBlock) : Bw w0 w2 v2 zs :=
  ⟨ho, h.grown.trans ⟨hg.os, hg.tape, hg.output, hg.size, fun k hk => hg.block k (Nat.lt_of_lt_of_le hk h.grown.size) (fun e => by have := (h.own.lt k e.symm).1; omega)⟩⟩

set_option maxRecDepth 100000 in
set_option maxHeartbeats 3200000 in
theorem Grow_nil (n : Nat) (w : World) (hn : n ≤ 100000000) : Calls Try.prog 59 #[.slice none 0 0, .int .i64 (n : Nat)] w fun e w' => ∃ v, e = .returned v ∧ Bw w w' v [] := by
  have h0 : ¬ ((n : Int) < 0) := by omega
  have e0 : IntKind.i64.wrap ((n : Int) - 0) = n := IntWalk.i64_in _ (by omega)
  by_cases hz : n = 0
  · subst hz
    go_enter Try.func59, Try.ntmps59
    go_wp2_with fail
    go_ret
    exact ⟨_, rfl, World.ownsRow_nil _ _ _ _, Below.refl _ _⟩
  · have h1 : (0 : Int) < (n : Int) := by omega
    obtain ⟨i0, hi, hz0, hz1, hz2⟩ := info_parts Try.infoU8
    have hsz : (Value.int .u8 0).cells.size = 1 := rfl
    have hr := fun ty => Lib.run_append_nil_zeros (P := Try.prog) w 32 3 ty 5 i0 _ .i64 .i64 Try.underlying32 Try.underlying3 hi hz0 n (by omega) (by rw [hz1]; decide) (by omega) (by rw [hz2]; omega)
    have hge := grownCap_ge w n 0 5
    have hle := grownCap_le_maxLen w n 0 5 (by unfold maxLen; omega)
    generalize grownCap w n 0 5 = cap at *
    generalize hM : Builtin.zeroCells (Value.int .u8 0).cells n ++ Builtin.zeroCells (Value.int .u8 0).cells (cap - n) = M at *
    have hMs : M.size = cap * 1 := by rw [← hM, Array.size_append, size_zeroCells, size_zeroCells, hsz]; omega
    have HR := Lib.hid hr
    have HF : Hid (Bw w (w.drew.alloc (.cells M 5)) (.slice (some ⟨w.heap.size, 0, none⟩) 0 cap) []) :=
      ⟨World.ownsRow_made (w := w.drew) (e := 5) (size := 1) M cap (Nat.le_refl _) hle hMs, (lay_drew (Below.refl _ _)).alloc (Nat.le_refl _) _⟩
    clear hr hM hMs hi hz0 hz1 hz2 hsz hle
    have hc : (0 : Int) ≤ ((cap : Nat) : Int) := by omega
    go_enter Try.func59, Try.ntmps59
    go_wp2_with (at_builtin; refine Lib.wpList_append_run _ rfl _ _ _ _ rfl _ _ rfl rfl _ _ (HR.out _) ?_)
    go_ret
    exact ⟨_, rfl, HF.out⟩

def flat (bss : List (List Int)) : List Int := bss.flatten
theorem flat_step {bss : List (List Int)} {i : Nat} {xs : List Int} (h : bss[i]? = some xs) : flat (bss.take (i + 1)) = flat (bss.take i) ++ xs := by
  unfold flat
  rw [List.take_add_one, h, List.flatten_append]; simp
theorem flat_take (bss : List (List Int)) (i : Nat) : (flat (bss.take i)).length ≤ (flat bss).length := by
  have := congrArg (fun l => (List.flatten l).length) (List.take_append_drop i bss)
  simp only [List.flatten_append, List.length_append] at this
  unfold flat; omega

set_option maxRecDepth 100000 in
set_option maxHeartbeats 6400000 in
theorem Concat_any {w : World} {v : Value} {hs : List Sl} {bss : List (List Int)} (h : slL.In w v hs) (he : Each w hs bss) (hl : (flat bss).length ≤ 100000000) (hn : hs.length ≤ 1000000000) :
    Calls Try.prog 41 #[v] w fun e w' => ∃ u, e = .returned u ∧ Bw w w' u (flat bss) := by
  obtain ⟨a, c, rfl, _, _⟩ := h.slice
  have H := Lib.hid h
  have HE := Lib.hid he
  have HL := Lib.hid hl
  have e1 := he.1
  clear h he hl
  go_enter Try.func41, Try.ntmps41
  go_wp2_with fail
  go_loopw [3, 11] (fun u v wr => ∃ (i m : Nat), u = .int .i64 m ∧ v = .int .i64 i ∧ i ≤ hs.length ∧ Hid (m = (flat (bss.take i)).length) ∧ w = wr)
    (fun _ v _ => hs.length - (intOf v).toNat)
  case atStart => exact ⟨0, 0, rfl, rfl, by omega, rfl, rfl⟩
  case round =>
    obtain ⟨i, m, rfl, rfl, hin, hm, rfl⟩ := hrel
    have ei : IntKind.i64.wrap ((i : Int) + 1) = (i : Int) + 1 := IntWalk.i64_in _ (by omega)
    by_cases hlt : i < hs.length
    · obtain ⟨x, hx⟩ : ∃ x, hs[i]? = some x := ⟨hs[i], List.getElem?_eq_getElem hlt⟩
      obtain ⟨xs, hxs⟩ : ∃ xs, bss[i]? = some xs := ⟨bss[i], List.getElem?_eq_getElem (by omega)⟩
      obtain ⟨g, off, rfl, _, hcs⟩ := H.out.cells hx
      have hc := hcs 0 _ rfl
      have hxl := HE.out.len hx hxs
      obtain ⟨xa, xn, xc⟩ := x
      simp only at hxl
      subst hxl
      have hc : w.cell? ⟨g, off + i, none⟩ = some (.slice xa xs.length xc) := by simpa [slL, sv] using hc
      have HM : Hid (m + xs.length = (flat (bss.take (i + 1))).length) := by show _ = _; rw [flat_step hxs, List.length_append, hm.out]
      have hbd : m + xs.length ≤ 100000000 := by have h1 := HM.out; have h2 := flat_take bss (i + 1); have h3 := HL.out; omega
      have em : IntKind.i64.wrap ((m : Int) + (xs.length : Int)) = (m : Int) + (xs.length : Int) := IntWalk.i64_in _ (by omega)
      have hneg : ¬ ((m : Int) + (xs.length : Int) < 0) := by omega
      have hI1 : (i : Int) < ((hs.length : Nat) : Int) := by omega
      have hI2 : (0 : Int) ≤ (i : Int) := by omega
      clear hcs hx hxs
      go_wp2_with fail
      exact ⟨⟨i + 1, m + xs.length, by simp, by simp, hlt, HM, by trivial⟩, by show hs.length - ((i : Int) + 1).toNat < hs.length - ((i : Int)).toNat; omega⟩
    · obtain rfl : i = hs.length := by omega
      have hbd : m ≤ 100000000 := by have h1 := hm.out; have h2 := flat_take bss hs.length; have h3 := HL.out; omega
      have HG := Lib.hid (Grow_nil m w hbd)
      clear hm
      go_wp2_with fail
      go_fit HG.out
      rintro e w1 ⟨v1, rfl, hr⟩
      have HR := Lib.hid hr
      obtain ⟨va, vc, rfl⟩ := hr.slice
      clear hr HG
      go_wp2_with fail
      go_loopw [6, 27] (fun u v wr => ∃ (i : Nat), v = .int .i64 i ∧ i ≤ hs.length ∧ Hid (Bw w wr u (flat (bss.take i))))
        (fun _ v _ => hs.length - (intOf v).toNat)
      case atStart => exact ⟨0, rfl, by omega, HR⟩
      case round =>
        obtain ⟨j, rfl, hjn, hR⟩ := hrel
        have ej : IntKind.i64.wrap ((j : Int) + 1) = (j : Int) + 1 := IntWalk.i64_in _ (by omega)
        obtain ⟨ra, rc, rfl⟩ := hR.out.slice
        by_cases hlt : j < hs.length
        · obtain ⟨x, hx⟩ : ∃ x, hs[j]? = some x := ⟨hs[j], List.getElem?_eq_getElem hlt⟩
          obtain ⟨xs, hxs⟩ : ∃ xs, bss[j]? = some xs := ⟨bss[j], List.getElem?_eq_getElem (by omega)⟩
          obtain ⟨g, off, rfl, _, hcs⟩ := H.out.cells hx
          have hc := hcs 0 _ rfl
          have hxl := HE.out.len hx hxs
          have HB := Lib.hid ((HE.out.2 j x xs hx hxs).below hR.out.grown)
          obtain ⟨xa, xn, xc⟩ := x
          simp only at hxl
          subst hxl
          have hc : w.cell? ⟨g, off + j, none⟩ = some (.slice xa xs.length xc) := by simpa [slL, sv] using hc
          have hc := lay_later hR.out.grown hc
          have HS := Lib.hid (flat_step hxs)
          have HBd : Hid ((flat (bss.take j)).length + xs.length ≤ 70368744177664) := by
            show _ ≤ _
            have h1 := congrArg List.length HS.out
            rw [List.length_append] at h1
            have h2 := flat_take bss (j + 1); have h3 := HL.out; omega
          have hI1 : (j : Int) < ((hs.length : Nat) : Int) := by omega
          have hI2 : (0 : Int) ≤ (j : Int) := by omega
          clear hcs hx hxs
          go_wp2_with (at_builtin; refine wpList_catB rfl _ _ rfl hR.out.own HB.out HBd.out hR.out.grown.size rfl rfl ?_; intro v' w' hown hgrow; have HO := Lib.hid hown; have HW := Lib.hid hgrow; clear hown hgrow)
          refine ⟨⟨j + 1, by simp, hlt, ?_⟩, by show hs.length - ((j : Int) + 1).toNat < hs.length - ((j : Int)).toNat; omega⟩
          show Bw _ _ _ _
          rw [HS.out]
          exact hR.out.more HO.out HW.out
        · obtain rfl : j = hs.length := by omega
          have HF : Hid (Bw w wr (.slice ra (flat (bss.take hs.length)).length rc) (flat bss)) := by
            have h1 := hR.out
            show Bw _ _ _ _
            have e2 : bss.take hs.length = bss := by rw [e1, List.take_length]
            rw [e2] at h1 ⊢
            exact h1
          clear hR
          go_wp2_with fail
          go_ret
          exact ⟨_, rfl, HF.out⟩
end Go.Proofs.Ytlfknldgfeicmaa
