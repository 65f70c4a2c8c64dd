/-
  Walks of the document's own Next.
-/
import Derived.Test.YtpdabpcdmenlaaaDoorRN
namespace Go.Proofs.YtpdabpcdmenlaaaDoor
set_option linter.unusedVariables false
set_option linter.unusedSimpArgs false
open Go.RowKit

theorem strOf_inj {a b : List Int} (ha : ∀ x ∈ a, 0 ≤ x ∧ x < 256) (hb : ∀ x ∈ b, 0 ≤ x ∧ x < 256) (h : strOfNums a = strOfNums b) : a = b := by
  have h1 := congrArg (fun t : ByteArray => t.data.toList) h
  simp only [strOfNums_data] at h1
  have e : ∀ l : List Int, (∀ x ∈ l, 0 ≤ x ∧ x < 256) → (l.map fun n => UInt8.ofNat n.toNat).map (fun u => (u.toNat : Int)) = l := by
    intro l hl
    rw [List.map_map]
    conv => rhs; rw [← List.map_id l]
    apply List.map_congr_left
    intro x hx
    have := hl x hx
    simp only [Function.comp, UInt8.toNat_ofNat', id]
    omega
  rw [← e a ha, ← e b hb, h1]

theorem frame_told (xs : List Int) (hr : ∀ x ∈ xs, 0 ≤ x ∧ x < 256) (N H : Nat) (ht : numAt xs = (N, H, 0)) (hlen : H + N + 4 ≤ xs.length) (hN : N ≤ 32768) :
    ((strOfNums (frame ((xs.drop H).take N))).toList == (strOfNums (xs.take (H + N + 4))).toList) = decide (sumOf (xs.take (H + N)) = le4 (xs.drop (H + N))) := by
  by_cases hs : sumOf (xs.take (H + N)) = le4 (xs.drop (H + N))
  · rw [nextAt_back xs hr N H ht hlen hs, decide_eq_true hs]
    exact beq_self_eq_true _
  · rw [decide_eq_false hs]
    have hpl : ((xs.drop H).take N).length = N := by simp only [List.length_take, List.length_drop]; omega
    have hne : strOfNums (frame ((xs.drop H).take N)) ≠ strOfNums (xs.take (H + N + 4)) := by
      intro e
      have e2 := strOf_inj (frame_bytes _ (by omega) (fun x h => hr x (List.mem_of_mem_drop (List.mem_of_mem_take h)))) (fun x h => hr x (List.mem_of_mem_take h)) e
      apply hs
      have hb := (numAt_back xs hr N H ht).1
      have hbody : num N ++ (xs.drop H).take N = xs.take (H + N) := by rw [hb, ← List.take_add]
      have e2' : xs.take (H + N) ++ sum4 (sumOf (xs.take (H + N))) = xs.take (H + N) ++ (xs.drop (H + N)).take 4 := by
        rw [← List.take_add, ← e2]
        unfold frame
        rw [hpl, hbody]
      have e3 := List.append_cancel_left e2'
      have e4 := congrArg (fun l => le4 (l ++ [])) e3
      simp only [le4_sum4 _ (sumOf_lt _)] at e4
      rw [e4, List.append_nil]
      simp only [le4, List.getD_eq_getElem?_getD, List.getElem?_take]
      simp
    rw [Lib.strOfNums_toList, Lib.strOfNums_toList]
    exact beq_eq_false_iff_ne.2 fun h => hne (ByteArray.ext (Array.toList_inj.1 (by rw [strOfNums_data, strOfNums_data]; exact h)))

set_option maxHeartbeats 400000 in
theorem RNext_early (p : Option Addr) (n c : Nat) (N H : Nat) (E err : Int) (xs : List Int) (w : World) (hc : Calls Tryd.prog 56 #[.slice p n c] w (Three (numAt xs) w)) (ht : numAt xs = (N, H, E)) (hn2 : n ≤ 140737488355328) (hH : H ≤ 9)
    (h : (E ≠ 0 ∧ err = E) ∨ (E = 0 ∧ 32768 < N ∧ err = 4) ∨ (E = 0 ∧ N ≤ 32768 ∧ n < H + N + 4 ∧ err = 2)) :
    Calls Tryd.prog 47 #[.slice p n c] w (NoneE err w) := by
  have Hc := Lib.hid hc
  have Ht := Lib.hid ht
  clear hc ht
  rcases h with ⟨h1, rfl⟩ | ⟨rfl, h2, rfl⟩ | ⟨rfl, h2, h3, rfl⟩
  · have t1 : (err == 0) = false := by simpa using h1
    have t2 : (err != 0) = true := by simpa using h1
    go_enter Tryd.func47, Tryd.ntmps47
    go_wp2_with fail
    go_fit Hc.out
    rintro e w' ⟨rfl, rfl⟩
    rw [Ht.out]
    go_wp2_with fail
    go_ret3
    exact ⟨rfl, drewN_zero _⟩
  · go_enter Tryd.func47, Tryd.ntmps47
    go_wp2_with fail
    go_fit Hc.out
    rintro e w' ⟨rfl, rfl⟩
    rw [Ht.out]
    go_wp2_with fail
    go_ret3
    exact ⟨rfl, drewN_zero _⟩
  · go_enter Tryd.func47, Tryd.ntmps47
    go_wp2_with fail
    go_fit Hc.out
    rintro e w' ⟨rfl, rfl⟩
    rw [Ht.out]
    go_wp2_with fail
    go_ret3
    exact ⟨rfl, drewN_zero _⟩

def RNextPost (good : Bool) (w : World) (xs : List Int) (size : Nat) (e : Ending) (w' : World) : Prop :=
  if good then MadeN w.heap.size w xs size e w' else e = .returned (.tuple #[.slice none 0 0, .int .i64 0, .int .i64 10]) ∧ Below w.heap.size w w'

set_option maxRecDepth 100000 in
set_option maxHeartbeats 1600000 in
theorem RNext_late (b o n c N H : Nat) (xs : List Int) (w : World) (hcn : Calls Tryd.prog 56 #[.slice (some ⟨b, o, none⟩) n c] w (Three (numAt xs) w)) (ht : numAt xs = (N, H, 0)) (hn2 : n ≤ 140737488355328) (h1H : 1 ≤ H) (hH : H ≤ 9) (hN : N ≤ 32768) (hlen : H + N + 4 ≤ n)
    (hx : xs.length = n) (hb : Lib.BytesIn w (some ⟨b, o, none⟩) n xs) (hr : ∀ x ∈ xs, 0 ≤ x ∧ x < 256) (hnc : n ≤ c) (good : Bool) (hgood : good = decide (sumOf (xs.take (H + N)) = le4 (xs.drop (H + N)))) :
    Calls Tryd.prog 47 #[.slice (some ⟨b, o, none⟩) n c] w (RNextPost good w ((xs.drop H).take N) (H + N + 4)) := by
  have hfs := frame_told xs hr N H ht (by omega) hN
  rw [← hgood] at hfs
  have Hc := Lib.hid hcn
  have Ht := Lib.hid ht
  have hcut : Lib.BytesIn w (some ⟨b, o + H, none⟩) N ((xs.drop H).take N) := by
    refine Lib.BytesIn.of_cells fun j hj => ?_
    obtain ⟨b', o', hh, hc⟩ := hb.at (by omega)
    simp only [Option.some.injEq, Addr.mk.injEq] at hh
    obtain ⟨rfl, rfl, _⟩ := hh
    have := hc (H + j) (by omega)
    rw [addLit, Nat.add_assoc, this, List.getD_eq_getElem?_getD, List.getD_eq_getElem?_getD, List.getElem?_take, if_pos hj, List.getElem?_drop]
  have hfront := in_take hb (H + N + 4) hlen
  have hpl : ((xs.drop H).take N).length = N := by simp only [List.length_take, List.length_drop]; omega
  have hfl : (xs.take (H + N + 4)).length = H + N + 4 := by simp only [List.length_take]; omega
  have hpr : ∀ x ∈ (xs.drop H).take N, 0 ≤ x ∧ x < 256 := fun x hx => hr x (List.mem_of_mem_drop (List.mem_of_mem_take hx))
  have hlt : H + N < n := by omega
  have hne : ¬ c = H := by omega
  have i1 : (0 : Int) ≤ (H : Int) + (N : Int) := by omega
  have i2 : (H : Int) + (N : Int) ≤ (n : Int) := by omega
  have i3 : (H : Int) + (N : Int) ≤ (c : Int) := by omega
  have i4 : (H : Int) + (N : Int) + 4 ≤ (c : Int) := by omega
  have hsub : H + N - H = N := by omega
  generalize (xs.drop H).take N = pay at *
  generalize xs.take (H + N + 4) = fr at *
  have Hfs := Lib.hid hfs
  have Hpl := Lib.hid hpl
  have Hfl := Lib.hid hfl
  have Hpr := Lib.hid hpr
  have Hcut := Lib.hid hcut
  have Hfront := Lib.hid hfront
  clear hfs hpl hfl hpr hcut hfront hgood hb hr hx hcn ht
  have hb0 := (Below.refl w.heap.size w).alloc (Nat.le_refl _) (.cells #[] 5)
  have hin0 : Lib.BytesIn (w.alloc (.cells #[] 5)) (some ⟨b, o + H, none⟩) (H + N - H) pay := by rw [hsub]; exact later Hcut.out hb0
  have hpl0 : pay.length = H + N - H := by rw [hsub]; exact Hpl.out
  go_enter Tryd.func47, Tryd.ntmps47
  go_wp2_with fail
  go_fit Hc.out
  rintro e w' ⟨rfl, rfl⟩
  rw [Ht.out]
  go_wp2_with (at_builtin; go_loud (refine wpList_push rfl _ _ rfl w.heap.size w.heap.size 0 0 [] rfl (own_lit w.heap.size _ [] rfl (Nat.le_refl _) (by simp)) (some ⟨b, o + H, none⟩) (H + N - H) (c - H) pay rfl hin0 hpl0 (by intro h; cases h) (by omega) (by simp) ?_; intro g1 c1 w1 hown1 hgrow1))
  have hb1 := made_grown hb0 hgrow1 (by simp) (Nat.le_refl _)
  simp only [Nat.zero_add, List.nil_append, hsub] at hown1
  have Hb1 := Lib.hid hb1
  have Hown1 := Lib.hid hown1
  clear hown1 hgrow1 hb1 hin0 hpl0 hb0
  go_fit (RFrame_any (some ⟨g1, 0, none⟩) N c1 pay w1 Hpl.out (owns_in Hown1.out) (by intro h; cases h) Hpr.out hN)
  rintro e w2 ⟨g2, n2, c2, rfl, hown2, hb2⟩
  have Hb2 := Lib.hid (Hb1.out.trans (hb2.mono Hb1.out.size))
  have hown12 : w2.ownsRow w.heap.size 5 1 (.slice (some ⟨g1, 0, none⟩) N c1) N (pay.map (Value.int .u8)) := Hown1.out.kept (row := none) ⟨hb2.os, hb2.tape, hb2.output, hb2.size, fun k hk _ => hb2.block k hk⟩ (.inr (by simp [Value.ownBlock]))
  have Hown12 := Lib.hid hown12
  have hcv1 : ∀ q, (convert 22 9 (.slice (some ⟨g2, 0, none⟩) n2 c2)).run Tryd.prog (w2.drewN q) = .ok (.string (strOfNums (frame pay))) (w2.drewN q) := fun q =>
    Lib.BytesIn.convert (w := w2.drewN q) (owns_in hown2) (owns_len hown2) c2 _ _ _ Tryd.underlying22 Tryd.underlying5 Tryd.underlying9
  have hfront2 := later Hfront.out Hb2.out
  have hcv2 : ∀ q, (convert 22 9 (.slice (some ⟨b, o, none⟩) (H + N + 4) c)).run Tryd.prog (w2.drewN q) = .ok (.string (strOfNums fr)) (w2.drewN q) := fun q =>
    Lib.BytesIn.convert (w := w2.drewN q) hfront2 Hfl.out c _ _ _ Tryd.underlying22 Tryd.underlying5 Tryd.underlying9
  have hfs := Hfs.out
  generalize strOfNums (frame pay) = s1 at *
  generalize strOfNums fr = s2 at *
  have t1 : (s1.toList == s2.toList) = good := hfs
  have Ht1 := Lib.hid t1
  clear t1
  clear hown12 hown2 hb2 hfront2 hfs Hfs Hown1 Hb1 Hcut Hfront Hc
  cases good
  · have t1 : (s1.toList == s2.toList) = false := Ht1.out
    clear Ht1
    go_wp2_with fail
    go_quiet (fail)
    go_wp2_with fail
    go_ret3
    show RNextPost _ _ _ _ _ _
    exact ⟨rfl, bdrew Hb2.out⟩
  · have t1 : (s1.toList == s2.toList) = true := Ht1.out
    clear Ht1
    go_wp2_with fail
    go_quiet (fail)
    go_wp2_with fail
    go_ret3
    show RNextPost _ _ _ _ _ _
    exact ⟨g1, N, c1, three_ret' (by push_cast; omega), Hown12.out, bdrew Hb2.out⟩

/-- What both of the Nexts answer. -/
def NX (B : Nat) (w : World) (xs : List Int) (e : Ending) (w' : World) : Prop :=
  ((nextAt xs).2.2 ≠ 0 ∧ e = .returned (.tuple #[.slice none 0 0, .int .i64 0, .int .i64 (nextAt xs).2.2]) ∧ Below B w w') ∨
  ((nextAt xs).2.2 = 0 ∧ 1 ≤ (nextAt xs).2.1 ∧ (nextAt xs).2.1 ≤ xs.length ∧ MadeN B w (nextAt xs).1 (nextAt xs).2.1 e w')

theorem NX_none {w : World} {xs : List Int} {err : Int} {e : Ending} {w' : World} (h : nextAt xs = ([], 0, err)) (he : err ≠ 0) (hn : NoneE err w e w') : NX w.heap.size w xs e w' := by
  obtain ⟨rfl, q, rfl⟩ := hn
  exact .inl ⟨by rw [h]; exact he, by rw [h], bdrew (Below.refl _ _)⟩

theorem Next_nx (p : Option Addr) (n c : Nat) (xs : List Int) (w : World) (hx : xs.length = n) (hb : Lib.BytesIn w p n xs) (hT : TabIn w) (hr : ∀ x ∈ xs, 0 ≤ x ∧ x < 256) (hnc : n ≤ c) (hn : n ≤ 140737488355328) :
    Calls Tryd.prog 46 #[.slice p n c] w (NX w.heap.size w xs) := by
  refine (Next_full p n c xs w hx hb hT hr hnc hn).mono fun e w' h => ?_
  rcases h with ⟨h1, h2, q, rfl⟩ | ⟨N, H, ht, hN, h1, h9, hl, hs, hna, h⟩
  · exact .inl ⟨h1, h2, bdrew (Below.refl _ _)⟩
  · exact .inr ⟨by rw [hna], by rw [hna]; show 1 ≤ H + N + 4; omega, by rw [hna]; exact hl, by rw [hna]; exact h⟩

theorem RNext_nx (p : Option Addr) (n c : Nat) (xs : List Int) (w : World) (hx : xs.length = n) (hb : Lib.BytesIn w p n xs) (hr : ∀ x ∈ xs, 0 ≤ x ∧ x < 256) (hnc : n ≤ c) (hn : n ≤ 140737488355328) :
    Calls Tryd.prog 47 #[.slice p n c] w (NX w.heap.size w xs) := by
  have hcn := rnumber_any p n c xs w hx hb hnc hn hr
  have hok := numAt_ok xs hr
  have herr := numAt_err xs
  obtain ⟨N, H, E, ht⟩ : ∃ N H E, numAt xs = (N, H, E) := ⟨_, _, _, rfl⟩
  rw [ht] at hok herr
  simp only at hok herr
  by_cases hE : E = 0
  · subst hE
    obtain ⟨h1, h9, hl⟩ := hok rfl
    by_cases hN : 32768 < N
    · have hna : nextAt xs = ([], 0, 4) := by unfold nextAt; rw [ht]; simp [hN]
      exact (RNext_early _ n c N H 0 4 xs w hcn ht hn h9 (.inr (.inl ⟨rfl, hN, rfl⟩))).mono fun e w' h => NX_none hna (by omega) h
    by_cases hs : n < H + N + 4
    · have hna : nextAt xs = ([], 0, 2) := by unfold nextAt; rw [ht]; simp [hN, hx, hs]
      exact (RNext_early _ n c N H 0 2 xs w hcn ht hn h9 (.inr (.inr ⟨rfl, by omega, hs, rfl⟩))).mono fun e w' h => NX_none hna (by omega) h
    obtain ⟨b, o, rfl, hc⟩ := hb.at (by omega)
    refine (RNext_late b o n c N H xs w hcn ht hn h1 h9 (by omega) (by omega) hx hb hr hnc _ rfl).mono fun e w' h => ?_
    by_cases hsum : sumOf (xs.take (H + N)) = le4 (xs.drop (H + N))
    · have hna : nextAt xs = ((xs.drop H).take N, H + N + 4, 0) := by unfold nextAt; rw [ht]; simp [hN, hx, hs, hsum]
      rw [decide_eq_true hsum] at h
      exact .inr ⟨by rw [hna], by rw [hna]; show 1 ≤ H + N + 4; omega, by rw [hna]; show H + N + 4 ≤ _; omega, by rw [hna]; exact h⟩
    · have hna : nextAt xs = ([], 0, 10) := by unfold nextAt; rw [ht]; simp [hN, hx, hs, hsum]
      rw [decide_eq_false hsum] at h
      exact .inl ⟨by rw [hna]; decide, by rw [hna]; exact h.1, h.2⟩
  · have hna : nextAt xs = ([], 0, E) := by unfold nextAt; rw [ht]; simp [hE]
    exact (RNext_early _ n c N H E E xs w hcn ht hn (by rcases herr with h | h; exact h; exact absurd h hE) (.inl ⟨hE, rfl⟩)).mono fun e w' h => NX_none hna hE h

end Go.Proofs.YtpdabpcdmenlaaaDoor
