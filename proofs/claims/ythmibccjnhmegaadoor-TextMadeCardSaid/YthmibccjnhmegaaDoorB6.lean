/-
  Walks: a text's stretches, by the reference (Parts).
-/
import Derived.Test.YthmibccjnhmegaaDoorOw2
namespace Go.Proofs.YthmibccjnhmegaaDoor
set_option linter.unusedVariables false
set_option linter.unusedSimpArgs false
open Go.RowKit

theorem Tryd.infoInt : (Tryd.prog.info? 3).map (fun i => (i.zero, i.size, i.bytes)) = some (some (.int .i64 0), 1, 8) := by kernel_rfl

def placeVals (l : List (Nat × Nat)) : List Value := l.map fun x => Value.int .i64 (x.1 : Int)
theorem placeVals_snoc (l : List (Nat × Nat)) (p r : Nat) : placeVals l ++ [Value.int .i64 (p : Int)] = placeVals (l ++ [(p, r)]) := by simp [placeVals]
def endVals (s : ByteArray) : List Value := (placesOf s ++ [s.size]).map fun (x : Nat) => Value.int .i64 (x : Int)
theorem endVals_of (s : ByteArray) : placeVals (steps s s.size 0) ++ [Value.int .i64 (s.size : Int)] = endVals s := by simp [placeVals, endVals, placesOf]
theorem endVals_at (s : ByteArray) (k p : Nat) (h : (placesOf s ++ [s.size])[k]? = some p) : (endVals s).getD k undef = .int .i64 (p : Int) := by
  unfold endVals
  rw [List.getD_eq_getElem?_getD, List.getElem?_map, h]; rfl

/-- A new slice of just these texts, of which there is one at least. -/
def StrsMade' (l : List ByteArray) (w : World) (e : Ending) (w' : World) : Prop :=
  ∃ g n c, e = .returned (.slice (some ⟨g, 0, none⟩) n c) ∧ n = l.length ∧ w'.ownsRow w.heap.size 9 1 (.slice (some ⟨g, 0, none⟩) n c) n (strVals l) ∧ Below w.heap.size w w'

set_option maxHeartbeats 2000000 in
theorem rParts_any (s : ByteArray) (r : Int) (w : World) (hs : s.size ≤ 1073741824) (hr0 : -2147483648 ≤ r) (hr1 : r ≤ 2147483647) :
    Calls Tryd.prog 23 #[.string s, .int .i32 r] w (StrsMade' (partsOf s r) w) := by
  go_enter Tryd.func23, Tryd.ntmps23
  go_wp2
  go_loopw [5] (fun v wr => ∃ (pos b n : Nat) (pre : List (Nat × Nat)), wr.heap[w.heap.size + 1]? = some (.stringIter s pos) ∧ Hid (steps s s.size 0 = pre ++ steps s b pos) ∧ Hid (pre.length = n) ∧ n ≤ pos ∧ Hid (wr.ownsRow (w.heap.size + 2) 3 1 v n (placeVals pre)) ∧ Hid (wr.ownsRow w.heap.size 9 1 (.slice (some ⟨w.heap.size, 0, none⟩) 0 0) 0 (strVals [])) ∧ Hid (Below w.heap.size w wr) ∧ s.size ≤ pos + b ∧ pos ≤ s.size ∧ w.heap.size + 2 ≤ wr.heap.size)
    (fun _ wr => s.size - wr.iterPos (w.heap.size + 1))
  case atStart => 
    refine ⟨0, s.size, 0, [], ?_, rfl, rfl, Nat.le_refl _, World.ownsRow_nil _ _ _ _, ?_, ((Below.refl _ _).alloc (Nat.le_refl _) _).alloc (by simp) _, by omega, Nat.zero_le _, by simp [World.iter]⟩
    · have := World.iter_heap (w.alloc (.cells #[] 9)) s 0
      simpa using this
    · exact (World.ownsRow_lit (base := w.heap.size) (e := 9) (size := 1) w #[] 0 (Nat.le_refl _) (Nat.zero_le _) rfl).alloc _
  case round =>
    obtain ⟨pos, b, N, pre, hit, hst, hn, hnp, hown, hout, hbel, hb, hps, hsz⟩ := hrel
    by_cases hlt : pos < s.size
    · have hnx : ∀ ty, (Instr.next (.pointer (some ⟨w.heap.size + 1, 0, none⟩)) true ty).run Tryd.prog wr = _ := fun ty => Lib.run_next_any_at wr (w.heap.size + 1) s pos ty hit hlt
      have hw := dec_pos s pos hlt
      have hi := dec_in s pos hlt
      obtain ⟨b, rfl⟩ : ∃ c, b = c + 1 := ⟨b - 1, by omega⟩
      have Hst := Lib.hid (step_on s hst.out hlt)
      generalize (Utf8.decode s pos).1 = x at *
      generalize (Utf8.decode s pos).2 = wd at *
      have Hit := Lib.hid (Lib.iterAt_heap wr (w.heap.size + 1) s pos (pos + wd) hit)
      have Hown := Lib.hid (owns_iterAt hown.out hit (pos + wd))
      have Hout := Lib.hid (owns_iterAt hout.out hit (pos + wd))
      have Hbel := Lib.hid (Lib.below_iterAt hbel.out (Nat.le_succ w.heap.size) s (pos + wd))
      have Hp := Lib.hid (iterPos_of hit)
      have hsz' : w.heap.size + 2 ≤ (wr.iterAt (w.heap.size + 1) s (pos + wd)).heap.size := by rw [Lib.iterAt_size]; exact hsz
      generalize hW : wr.iterAt (w.heap.size + 1) s (pos + wd) = W at *
      clear hW hit hown hout hbel hst
      go_wp2_with (at_builtin; (refine wpList_push1g rfl _ _ 48 3 (.int .i64 0) 8 rfl Tryd.underlying48 Tryd.infoInt rfl (w.heap.size + 2) N _ (placeVals pre) rfl Hown.out (.int .i64 pos) rfl rfl (by omega) (by decide) (by omega) ?_; intro g1 c1 w1 hown1 hgr1 hsz1))
      have H1 := Lib.hid hown1
      have H2 := Lib.hid (below_grown Hbel.out Hown.out hgr1 (by omega) (by omega))
      have H3 := Lib.hid (iter_grown Hit.out Hown.out hgr1)
      have H4 := Lib.hid (owns_grown Hout.out Hown.out (by decide) hgr1)
      clear hown1 hgr1
      go_wp2_with fail
      go_roundw
      case rel =>
        refine ⟨pos + wd, b, N + 1, _, H3.out, Hst, by have := hn.out; simp [Hid, this], by omega, ?_, H4, H2, by omega, by omega, by omega⟩
        rw [← placeVals_snoc]; exact H1.out
      case measure => rw [Hp.out, iterPos_of H3.out]; omega
    · have hnx : ∀ ty, (Instr.next (.pointer (some ⟨w.heap.size + 1, 0, none⟩)) true ty).run Tryd.prog wr = _ := fun ty => Lib.run_next_end_at wr (w.heap.size + 1) s pos ty hit hlt
      have E := Lib.hid (all_at_end s hst.out hlt)
      have hnl : N ≤ s.size := by omega
      have HN := Lib.hid (show N = (placesOf s).length by rw [← hn.out, ← E.out]; simp [placesOf])
      clear hst hn hnp hb hps hit hlt
      go_wp2_with (at_builtin; (refine wpList_push1g rfl _ _ 48 3 (.int .i64 0) 8 rfl Tryd.underlying48 Tryd.infoInt rfl (w.heap.size + 2) N _ (placeVals pre) rfl hown.out (.int .i64 s.size) rfl rfl (by omega) (by decide) (by omega) ?_; intro g1 c1 w1 hown1 hgr1 hsz1))
      have H1 : Hid (w1.ownsRow (w.heap.size + 2) 3 1 (.slice (some ⟨g1, 0, none⟩) (N + 1) c1) (N + 1) (endVals s)) := by
        rw [← E.out, endVals_of] at hown1
        exact hown1
      have H2 := Lib.hid (below_grown hbel.out hown.out hgr1 (by omega) (by omega))
      have H4 := Lib.hid (owns_grown hout.out hown.out (by decide) hgr1)
      clear hown1 hgr1 E hown hout hbel
      have hn1 : N + 1 ≤ 2147483647 := by omega
      have hsz1' : w.heap.size + 2 ≤ w1.heap.size := by omega
      clear hsz hsz1
      go_wp2
      go_loopw [6, 7, 9] (fun fr v kk wr => ∃ (pos b a n k : Nat) (pre : List (Nat × Nat)) (acc : List ByteArray), wr.heap[w1.heap.size]? = some (.stringIter s pos) ∧ fr = .int .i64 a ∧ kk = .int .i64 k ∧ Hid (steps s s.size 0 = pre ++ steps s b pos) ∧ Hid (pre.length = k) ∧ k ≤ pos ∧ Hid (acc ++ partsFrom s r b a pos = partsOf s r) ∧ Hid (acc.length = n) ∧ n ≤ pos ∧ a ≤ pos ∧ Hid (wr.ownsRow w.heap.size 9 1 v n (strVals acc)) ∧ Hid (wr.ownsRow (w.heap.size + 2) 3 1 (.slice (some ⟨g1, 0, none⟩) (N + 1) c1) (N + 1) (endVals s)) ∧ Hid (Below w.heap.size w wr) ∧ s.size ≤ pos + b ∧ pos ≤ s.size ∧ w1.heap.size + 1 ≤ wr.heap.size)
        (fun _ _ _ wr => s.size - wr.iterPos w1.heap.size)
      case atStart => exact ⟨0, s.size, 0, 0, 0, [], [], World.iter_heap _ _ _, rfl, rfl, rfl, rfl, Nat.le_refl _, rfl, rfl, Nat.le_refl _, Nat.le_refl _, H4.out.alloc _, H1.out.alloc _, H2.out.alloc (by omega) _, by omega, Nat.zero_le _, by simp [World.iter]⟩
      case round =>
        clear H1 H2 H4
        obtain ⟨pos, b, a, n, k, pre, acc, hit, rfl, rfl, hst, hk, hkp, hacc, hn, hnp, hap, hout, hends, hbel, hb, hps, hsz⟩ := hrel
        by_cases hlt : pos < s.size
        · have hnx : ∀ ty, (Instr.next (.pointer (some ⟨w1.heap.size, 0, none⟩)) true ty).run Tryd.prog wr = _ := fun ty => Lib.run_next_any_at wr w1.heap.size s pos ty hit hlt
          have hd := decode_le s pos
          have hw := dec_pos s pos hlt
          have hi := dec_in s pos hlt
          obtain ⟨e1, e2, e3⟩ := places_at s hst.out hb hlt
          have Hc1 := Lib.hid (endVals_at s _ _ e1)
          have Hc2 := Lib.hid (endVals_at s _ _ e2)
          rw [hk.out] at Hc1 Hc2
          have hkN : k < N := by rw [HN.out, ← hk.out]; exact e3
          clear e1 e2 e3
          obtain ⟨b, rfl⟩ : ∃ c, b = c + 1 := ⟨b - 1, by omega⟩
          have Hst := Lib.hid (step_on s hst.out hlt)
          by_cases hr : ((Utf8.decode s pos).1 : Int) = r
          · have Hacc : Hid ((acc ++ [s.extract a pos]) ++ partsFrom s r b (pos + (Utf8.decode s pos).2) (pos + (Utf8.decode s pos).2) = partsOf s r) := by
              have := hacc.out
              rw [partsFrom_hit s r b a pos hlt hr] at this
              show _ = _
              rw [← this]; simp
            generalize (Utf8.decode s pos).1 = x at *
            generalize (Utf8.decode s pos).2 = wd at *
            subst hr
            have Hit := Lib.hid (Lib.iterAt_heap wr w1.heap.size s pos (pos + wd) hit)
            have Hout := Lib.hid (owns_iterAt hout.out hit (pos + wd))
            have Hends := Lib.hid (owns_iterAt hends.out hit (pos + wd))
            have Hbel := Lib.hid (Lib.below_iterAt hbel.out (by omega : w.heap.size ≤ w1.heap.size) s (pos + wd))
            have Hp := Lib.hid (iterPos_of hit)
            have hsz' : w1.heap.size + 1 ≤ (wr.iterAt w1.heap.size s (pos + wd)).heap.size := by rw [Lib.iterAt_size]; exact hsz
            generalize hW : wr.iterAt w1.heap.size s (pos + wd) = W at *
            clear hW hit hout hends hbel hst hacc
            have hcell : W.cell? ⟨g1, k, none⟩ = some (.int .i64 pos) := by rw [owns_cell Hends.out k (by omega), Hc1.out]
            have Hk : Hid (∀ W2 : World, W2.ownsRow (w.heap.size + 2) 3 1 (.slice (some ⟨g1, 0, none⟩) (N + 1) c1) (N + 1) (endVals s) → ∃ q : Nat, Hid (q = pos + wd) ∧ W2.cell? ⟨g1, k + 1, none⟩ = some (.int .i64 q)) := fun W2 h => ⟨pos + wd, rfl, by rw [owns_cell h (k + 1) (by omega), Hc2.out]⟩
            go_wp2_with (at_builtin; (refine wpList_push1g rfl _ _ 27 9 (.string ByteArray.empty) 16 rfl Tryd.underlying27 Tryd.infoStr rfl w.heap.size n _ (strVals acc) rfl Hout.out (.string (s.extract a pos)) rfl rfl (by omega) (by decide) (by omega) ?_; intro g2 c2 w2 hown2 hgr2 hsz2; have H1 := Lib.hid hown2; have H2 := Lib.hid (below_grown Hbel.out Hout.out hgr2 (Nat.le_refl _) (by omega)); have H3 := Lib.hid (iter_grown Hit.out Hout.out hgr2); have H4 := Lib.hid (owns_grown Hends.out Hout.out (by decide) hgr2); obtain ⟨q, Hq, hcell2⟩ := Hk.out w2 H4.out; clear hown2 hgr2 hcell))
            go_roundw
            case rel =>
              obtain rfl := Hq.out
              refine ⟨pos + wd, b, pos + wd, n + 1, k + 1, _, _, H3.out, by go_num, by go_num, Hst, by have := hk.out; simp [Hid, this], by omega, Hacc, by have := hn.out; simp [Hid, this], by omega, by omega, ?_, H4, H2, by omega, by omega, by omega⟩
              rw [← strVals_snoc]; exact H1.out
            case measure => rw [Hp.out, iterPos_of H3.out]; omega
          · have Hacc : Hid (acc ++ partsFrom s r b a (pos + (Utf8.decode s pos).2) = partsOf s r) := by
              have := hacc.out
              rw [partsFrom_miss s r b a pos hlt hr] at this
              exact this
            generalize (Utf8.decode s pos).1 = x at *
            generalize (Utf8.decode s pos).2 = wd at *
            have Hit := Lib.hid (Lib.iterAt_heap wr w1.heap.size s pos (pos + wd) hit)
            have Hout := Lib.hid (owns_iterAt hout.out hit (pos + wd))
            have Hends := Lib.hid (owns_iterAt hends.out hit (pos + wd))
            have Hbel := Lib.hid (Lib.below_iterAt hbel.out (by omega : w.heap.size ≤ w1.heap.size) s (pos + wd))
            have Hp := Lib.hid (iterPos_of hit)
            have hsz' : w1.heap.size + 1 ≤ (wr.iterAt w1.heap.size s (pos + wd)).heap.size := by rw [Lib.iterAt_size]; exact hsz
            generalize hW : wr.iterAt w1.heap.size s (pos + wd) = W at *
            clear hW hit hout hends hbel hst hacc Hc1 Hc2
            go_wp2_with fail
            go_roundw
            case rel =>
              exact ⟨pos + wd, b, a, n, k + 1, _, acc, Hit.out, rfl, by go_num, Hst, by have := hk.out; simp [Hid, this], by omega, Hacc, hn, by omega, by omega, Hout, Hends, Hbel, by omega, by omega, by omega⟩
            case measure => rw [Hp.out, iterPos_of Hit.out]; omega
        · have hnx : ∀ ty, (Instr.next (.pointer (some ⟨w1.heap.size, 0, none⟩)) true ty).run Tryd.prog wr = _ := fun ty => Lib.run_next_end_at wr w1.heap.size s pos ty hit hlt
          have E : Hid (acc ++ [s.extract a s.size] = partsOf s r) := by
            have := hacc.out
            rw [partsFrom_end s r b a pos hlt] at this
            exact this
          clear hst hit hacc hends
          go_wp2_with (at_builtin; (refine wpList_push1g rfl _ _ 27 9 (.string ByteArray.empty) 16 rfl Tryd.underlying27 Tryd.infoStr rfl w.heap.size n _ (strVals acc) rfl hout.out (.string (s.extract a s.size)) rfl rfl (by omega) (by decide) (by omega) ?_; intro g2 c2 w2 hown2 hgr2 hsz2))
          have H1 := Lib.hid hown2
          have H2 := Lib.hid (below_grown hbel.out hout.out hgr2 (Nat.le_refl _) (by omega))
          clear hown2 hgr2
          go_wp2_with fail
          go_ret
          refine ⟨g2, n + 1, c2, rfl, ?_, ?_, H2.out⟩
          · rw [← E.out, List.length_append, hn.out]; rfl
          · rw [← E.out, ← strVals_snoc]; exact H1.out

end Go.Proofs.YthmibccjnhmegaaDoor
