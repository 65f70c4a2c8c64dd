/-
  Walks of wire.All and of the document's own All.
-/
import Derived.Test.YtpdabpcdmenlaaaDoorAl
namespace Go.Proofs.YtpdabpcdmenlaaaDoor
set_option linter.unusedVariables false
set_option linter.unusedSimpArgs false
open Go.RowKit

theorem next_empty : nextAt [] = ([], 0, 2) := by decide

theorem drop_in {w : World} {b o n : Nat} {xs : List Int} (h : Lib.BytesIn w (some ⟨b, o, none⟩) n xs) (a : Nat) : Lib.BytesIn w (some ⟨b, o + a, none⟩) (n - a) (xs.drop a) := by
  intro hm
  obtain ⟨b', o', hh, hc⟩ := h (by omega)
  simp only [Option.some.injEq, Addr.mk.injEq, and_true] at hh
  obtain ⟨rfl, rfl⟩ := hh
  refine ⟨b, o + a, rfl, fun i hi => ?_⟩
  rw [Nat.add_assoc, hc (a + i) (by omega), List.getD_eq_getElem?_getD, List.getD_eq_getElem?_getD, List.getElem?_drop]

theorem two_ret {v : Value} {b b' : Int} (h2 : b = b') : Ending.returned (.tuple #[v, .int .i64 b]) = .returned (.tuple #[v, .int .i64 b']) := by rw [h2]

set_option maxRecDepth 100000 in
set_option maxHeartbeats 1600000 in
theorem All_any (b o n c : Nat) (xs : List Int) (w : World) (hx : xs.length = n) (hb : Lib.BytesIn w (some ⟨b, o, none⟩) n xs) (hT : TabIn w) (hr : ∀ x ∈ xs, 0 ≤ x ∧ x < 256) (hnc : n ≤ c) (hn : n ≤ 65536) :
    Calls Tryd.prog 48 #[.slice (some ⟨b, o, none⟩) n c] w (AllP w.heap.size w xs) := by
  have HN : Hid (∀ (W : World) (a : Nat), a ≤ n → Below w.heap.size w W → Calls Tryd.prog 46 #[.slice (some ⟨b, o + a, none⟩) (n - a) (c - a)] W (NX W.heap.size W (xs.drop a))) := fun W a ha h =>
    Next_nx _ (n - a) (c - a) (xs.drop a) W (by rw [List.length_drop, hx]) (drop_in (later hb h) a) (hT.later h) (fun x hx => hr x (List.mem_of_mem_drop hx)) (by omega) (by omega)
  have H0 : Hid (∀ (W : World), Below w.heap.size w W → Calls Tryd.prog 46 #[.slice (some ⟨b, o, none⟩) 0 0] W (NX W.heap.size W [])) := fun W h =>
    Next_nx _ 0 0 [] W rfl (fun h => absurd h (by omega)) (hT.later h) (fun x hx => by cases hx) (by omega) (by omega)
  have Hx := Lib.hid hx
  clear hb hT hr hx
  go_enter Tryd.func48, Tryd.ntmps48
  go_wp2_with fail
  go_loopw [4, 5] (fun l at' wr => ∃ (k a : Nat) (v : Value) (ls : List (List Int)) (vals : List Value), l = v ∧ at' = .int .i64 a ∧ a ≤ n ∧ k ≤ a ∧ ls.length = k ∧ Hid (run xs k = (ls, a)) ∧ Hid (Good xs k) ∧ OwnL wr w.heap.size v ls vals ∧ Below w.heap.size w wr)
    (fun _ at' _ => n - (intOf at').toNat)
  case atStart => exact ⟨0, 0, _, [], [], rfl, rfl, Nat.zero_le _, Nat.le_refl _, rfl, rfl, fun i hi => absurd hi (by omega), OwnL.nil w _, Below.refl _ _⟩
  case round =>
    obtain ⟨k, a, v, ls, vals, rfl, rfl, han, hka, hlk, Hrun, HG, hL, hbel⟩ := hrel
    have HL := Lib.hid hL
    have Hbel := Lib.hid hbel
    clear hL hbel
    by_cases hic : c = a
    · obtain rfl : n = a := by omega
      have hdr : xs.drop n = [] := List.drop_of_length_le (by rw [Hx.out]; exact Nat.le_refl _)
      go_wp2_with fail
      go_fit (H0.out wr Hbel.out)
      rintro e w2 (⟨h1, rfl, hb2⟩ | ⟨h1, _⟩)
      · rw [next_empty]
        have Hb2 := Lib.hid hb2
        have Hdr := Lib.hid hdr
        clear hb2 hdr h1
        go_wp2_with fail
        go_ret2
        refine ⟨k, _, vals, two_ret (by rw [Hrun.out]), HG.out, ?_, ?_, ?_, ?_⟩
        · rw [Hrun.out, Hdr.out, next_empty]; decide
        · rw [Hrun.out]; exact hlk
        · rw [Hrun.out]; exact HL.out.later Hb2.out
        · exact Hbel.out.trans (Hb2.out.mono Hbel.out.size)
      · rw [next_empty] at h1; cases h1
    · have HS : Hid (run xs (k + 1) = (ls ++ [(nextAt (xs.drop a)).1], a + (nextAt (xs.drop a)).2.1)) := by show _ = _; rw [run, Hrun.out]
      have HG' : Hid ((nextAt (xs.drop a)).2.2 = 0 → Good xs (k + 1)) := fun h => HG.out.succ (by rw [Hrun.out]; exact h)
      have HE : Hid ((nextAt (xs.drop a)).2.2 ≠ 0 → (nextAt (xs.drop (run xs k).2)).2.2 ≠ 0) := fun h => by rw [Hrun.out]; exact h
      go_wp2_with fail
      go_fit (HN.out wr a han Hbel.out)
      rintro e w2 (⟨h1, rfl, hb2⟩ | ⟨h1, h2, h3, g4, n4, c4, rfl, hown, hb2⟩)
      · have HE2 := Lib.hid (HE.out h1)
        generalize (nextAt (xs.drop a)).2.2 = E at *
        have t1 : (E == 0) = false := by simpa using h1
        have t2 : (E != 0) = true := by simpa using h1
        have Hb2 := Lib.hid hb2
        clear hb2 h1 HE HS HG'
        go_wp2_with fail
        go_ret2
        refine ⟨k, _, vals, two_ret (by rw [Hrun.out]), HG.out, HE2.out, ?_, ?_, ?_⟩
        · rw [Hrun.out]; exact hlk
        · rw [Hrun.out]; exact HL.out.later Hb2.out
        · exact Hbel.out.trans (Hb2.out.mono Hbel.out.size)
      · have HG2 := Lib.hid (HG'.out h1)
        rw [List.length_drop, Hx.out] at h3
        generalize (nextAt (xs.drop a)).1 = P at *
        generalize (nextAt (xs.drop a)).2.1 = M at *
        have Hown := Lib.hid hown
        have Hb2 := Lib.hid hb2
        have HL2 := Lib.hid (HL.out.later hb2)
        have Hbel2 := Lib.hid (Hbel.out.trans (hb2.mono Hbel.out.size))
        have hB2 := Hbel2.out.size
        clear hown hb2 HE HG' h1
        have e1 : IntKind.i64.wrap ((a : Int) + (M : Int)) = (a : Int) + (M : Int) := wrap_i64 _ (by omega) (by omega)
        go_wp2_with (at_builtin; go_loud (refine wpList_pushl rfl _ _ rfl w.heap.size _ ls vals rfl HL2.out g4 n4 c4 P rfl (owns_in Hown.out) (owns_len Hown.out) (by omega) hB2 ?_; intro v3 w3 hL3 hb3))
        go_roundw
        case rel => exact ⟨k + 1, a + M, v3, _, _, rfl, by go_num, by omega, by omega, by rw [List.length_append, hlk]; rfl, HS.out, HG2.out, hL3, Hbel2.out.trans hb3⟩
        case measure => simp [intOf]; omega

set_option maxRecDepth 100000 in
set_option maxHeartbeats 1600000 in
theorem RAll_any (b o n c : Nat) (xs : List Int) (w : World) (hx : xs.length = n) (hb : Lib.BytesIn w (some ⟨b, o, none⟩) n xs) (hr : ∀ x ∈ xs, 0 ≤ x ∧ x < 256) (hnc : n ≤ c) (hn : n ≤ 65536) :
    Calls Tryd.prog 49 #[.slice (some ⟨b, o, none⟩) n c] w (AllP w.heap.size w xs) := by
  have HN : Hid (∀ (W : World) (a : Nat), a ≤ n → Below w.heap.size w W → Calls Tryd.prog 47 #[.slice (some ⟨b, o + a, none⟩) (n - a) (c - a)] W (NX W.heap.size W (xs.drop a))) := fun W a ha h =>
    RNext_nx _ (n - a) (c - a) (xs.drop a) W (by rw [List.length_drop, hx]) (drop_in (later hb h) a) (fun x hx => hr x (List.mem_of_mem_drop hx)) (by omega) (by omega)
  have H0 : Hid (∀ (W : World), Below w.heap.size w W → Calls Tryd.prog 47 #[.slice (some ⟨b, o, none⟩) 0 0] W (NX W.heap.size W [])) := fun W h =>
    RNext_nx _ 0 0 [] W rfl (fun h => absurd h (by omega)) (fun x hx => by cases hx) (by omega) (by omega)
  have Hx := Lib.hid hx
  clear hb hr hx
  go_enter Tryd.func49, Tryd.ntmps49
  go_wp2_with fail
  go_loopw [4, 5, 11] (fun l at' ct wr => ∃ (k a : Nat) (v : Value) (ls : List (List Int)) (vals : List Value), l = v ∧ ct = .int .i64 k ∧ k ≤ n ∧ at' = .int .i64 a ∧ a ≤ n ∧ k ≤ a ∧ ls.length = k ∧ Hid (run xs k = (ls, a)) ∧ Hid (Good xs k) ∧ OwnL wr w.heap.size v ls vals ∧ Below w.heap.size w wr)
    (fun _ _ ct _ => n - (intOf ct).toNat)
  case atStart => exact ⟨0, 0, _, [], [], rfl, rfl, Nat.zero_le _, rfl, Nat.zero_le _, Nat.le_refl _, rfl, rfl, fun i hi => absurd hi (by omega), OwnL.nil w _, Below.refl _ _⟩
  case round =>
    obtain ⟨k, a, v, ls, vals, rfl, rfl, hkn, rfl, han, hka, hlk, Hrun, HG, hL, hbel⟩ := hrel
    have HL := Lib.hid hL
    have Hbel := Lib.hid hbel
    clear hL hbel
    by_cases hlt : k < n
    rotate_left
    · obtain rfl : n = a := by omega
      have hdr : xs.drop n = [] := List.drop_of_length_le (by rw [Hx.out]; exact Nat.le_refl _)
      have Hdr := Lib.hid hdr
      clear hdr
      go_wp2_with fail
      go_ret2
      refine ⟨k, _, vals, two_ret (by rw [Hrun.out]), HG.out, ?_, ?_, ?_, ?_⟩
      · rw [Hrun.out, Hdr.out, next_empty]; decide
      · rw [Hrun.out]; exact hlk
      · rw [Hrun.out]; exact HL.out
      · exact Hbel.out
    by_cases hic : c = a
    · obtain rfl : n = a := by omega
      have hdr : xs.drop n = [] := List.drop_of_length_le (by rw [Hx.out]; exact Nat.le_refl _)
      go_wp2_with fail
      go_fit (H0.out wr Hbel.out)
      rintro e w2 (⟨h1, rfl, hb2⟩ | ⟨h1, _⟩)
      · rw [next_empty]
        have Hb2 := Lib.hid hb2
        have Hdr := Lib.hid hdr
        clear hb2 hdr h1
        go_wp2_with fail
        go_ret2
        refine ⟨k, _, vals, two_ret (by rw [Hrun.out]), HG.out, ?_, ?_, ?_, ?_⟩
        · rw [Hrun.out, Hdr.out, next_empty]; decide
        · rw [Hrun.out]; exact hlk
        · rw [Hrun.out]; exact HL.out.later Hb2.out
        · exact Hbel.out.trans (Hb2.out.mono Hbel.out.size)
      · rw [next_empty] at h1; cases h1
    · have HS : Hid (run xs (k + 1) = (ls ++ [(nextAt (xs.drop a)).1], a + (nextAt (xs.drop a)).2.1)) := by show _ = _; rw [run, Hrun.out]
      have HG' : Hid ((nextAt (xs.drop a)).2.2 = 0 → Good xs (k + 1)) := fun h => HG.out.succ (by rw [Hrun.out]; exact h)
      have HE : Hid ((nextAt (xs.drop a)).2.2 ≠ 0 → (nextAt (xs.drop (run xs k).2)).2.2 ≠ 0) := fun h => by rw [Hrun.out]; exact h
      go_wp2_with fail
      go_fit (HN.out wr a han Hbel.out)
      rintro e w2 (⟨h1, rfl, hb2⟩ | ⟨h1, h2, h3, g4, n4, c4, rfl, hown, hb2⟩)
      · have HE2 := Lib.hid (HE.out h1)
        generalize (nextAt (xs.drop a)).2.2 = E at *
        have t1 : (E == 0) = false := by simpa using h1
        have t2 : (E != 0) = true := by simpa using h1
        have Hb2 := Lib.hid hb2
        clear hb2 h1 HE HS HG'
        go_wp2_with fail
        go_ret2
        refine ⟨k, _, vals, two_ret (by rw [Hrun.out]), HG.out, HE2.out, ?_, ?_, ?_⟩
        · rw [Hrun.out]; exact hlk
        · rw [Hrun.out]; exact HL.out.later Hb2.out
        · exact Hbel.out.trans (Hb2.out.mono Hbel.out.size)
      · have HG2 := Lib.hid (HG'.out h1)
        rw [List.length_drop, Hx.out] at h3
        generalize (nextAt (xs.drop a)).1 = P at *
        generalize (nextAt (xs.drop a)).2.1 = M at *
        have Hown := Lib.hid hown
        have Hb2 := Lib.hid hb2
        have HL2 := Lib.hid (HL.out.later hb2)
        have Hbel2 := Lib.hid (Hbel.out.trans (hb2.mono Hbel.out.size))
        have hB2 := Hbel2.out.size
        clear hown hb2 HE HG' h1
        have e1 : IntKind.i64.wrap ((a : Int) + (M : Int)) = (a : Int) + (M : Int) := wrap_i64 _ (by omega) (by omega)
        go_wp2_with (at_builtin; go_loud (refine wpList_pushl rfl _ _ rfl w.heap.size _ ls vals rfl HL2.out g4 n4 c4 P rfl (owns_in Hown.out) (owns_len Hown.out) (by omega) hB2 ?_; intro v3 w3 hL3 hb3))
        go_roundw
        case rel => exact ⟨k + 1, a + M, v3, _, _, rfl, by go_num, by omega, by go_num, by omega, by omega, by rw [List.length_append, hlk]; rfl, HS.out, HG2.out, hL3, Hbel2.out.trans hb3⟩
        case measure => simp [intOf]; omega

end Go.Proofs.YtpdabpcdmenlaaaDoor
