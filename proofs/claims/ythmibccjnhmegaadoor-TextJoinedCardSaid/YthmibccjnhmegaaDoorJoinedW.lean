/-
  The walk of TextJoined.
-/
import Derived.Test.YthmibccjnhmegaaDoorPartsW
import Derived.Test.YthmibccjnhmegaaDoorShelf2
import Derived.Deep.RegionWith
namespace Go.Proofs.YthmibccjnhmegaaDoor
set_option linter.unusedVariables false
set_option linter.unusedSimpArgs false
open Go.RowKit

theorem join_splitL (c : UInt8) : ∀ l, Lib.join (splitL c l) [c] = l
  | [] => rfl
  | b :: l => by
    have ih := join_splitL c l
    cases hs : splitL c l with
    | nil => exact absurd hs (splitL_ne c l)
    | cons x r =>
      rw [hs, Lib.join_cons] at ih
      by_cases h : b = c
      · subst h
        rw [splitL_hit, hs, Lib.join_cons]
        unfold Lib.joinTail at ih ⊢
        simp only [List.map_cons, List.flatten_cons, List.nil_append, List.cons_append] at ih ⊢
        rw [ih]
      · have e : splitL c (b :: l) = (b :: x) :: r := by
          show (if b = c then _ else _) = _
          rw [if_neg h, hs]; rfl
        rw [e, Lib.join_cons, List.cons_append, ih]

theorem join_parts (s : ByteArray) (m : Nat) (hm : m < 128) : (⟨(Lib.join ((partsOf s (m : Int)).map (·.data.toList)) (⟨#[UInt8.ofNat m]⟩ : ByteArray).data.toList).toArray⟩ : ByteArray) = s := by
  have hc : (UInt8.ofNat m).toNat = m := by rw [UInt8.toNat_ofNat']; omega
  have h := partsOf_split s (UInt8.ofNat m) (by omega)
  rw [hc] at h
  rw [h]
  apply toList_inj
  exact join_splitL _ _

theorem conv_one (q : Int) (g : Nat) (w : World) (h : w.cell? ⟨g, 0, none⟩ = some (.int .u8 q)) :
    (convert 36 9 (.slice (some ⟨g, 0, none⟩) 1 1)).run Tryd.prog w = .ok (.string (strOfNums [q])) w :=
  run_convert_bytes_arg w 36 5 Tryd.underlying36 Tryd.underlying5 g 0 1 1 [q] rfl (fun i hi => by
    obtain rfl : i = 0 := by omega
    exact h) 9 Tryd.underlying9

theorem joinE (m : Nat) : strOfNums [(m : Int)] = ⟨#[UInt8.ofNat m]⟩ := by
  unfold strOfNums; simp

theorem Join_any (s : ByteArray) (m : Nat) (hm : m < 128) (B g n c : Nat) (w : World) (hs : s.size ≤ 1073741824) (hn : n = (partsOf s (m : Int)).length) (hown : w.ownsRow B 9 1 (.slice (some ⟨g, 0, none⟩) n c) n (strVals (partsOf s (m : Int)))) :
    Calls Tryd.prog 30 #[.slice (some ⟨g, 0, none⟩) n c, .string ⟨#[UInt8.ofNat m]⟩] w fun e w' => e = .returned (.string s) ∧ Below w.heap.size w w' := by
  subst hn
  have hj := join_parts s m hm
  have hl := partsFrom_length s (m : Int) s.size 0 0
  have hlen : (Lib.join ((partsOf s (m : Int)).map (·.data.toList)) (⟨#[UInt8.ofNat m]⟩ : ByteArray).data.toList).length ≤ 140737488355328 := by
    have := congrArg (fun x : ByteArray => x.data.toList.length) hj
    simp only at this
    rw [this, ← Lib.size_eq]
    omega
  have hcap : (partsOf s (m : Int)).length ≤ c := by
    rcases hown.2 with ⟨h, _⟩ | ⟨g', cap, cur, h, _, _, h2, _⟩
    · cases h
    · simp only [Value.slice.injEq] at h; omega
  refine (Tryd.strings_Join g 0 c (partsOf s (m : Int)) ⟨#[UInt8.ofNat m]⟩ w (fun j x hx => ?_) (owns_at hown).2 (by unfold partsOf; omega) hcap hlen).mono fun e w' ⟨he, hb⟩ => ⟨?_, hb⟩
  · have hjl := (List.getElem?_eq_some_iff.1 hx).1
    rw [Nat.zero_add, owns_cell hown j hjl, str_cell _ _ hjl, List.getD_eq_getElem?_getD, hx]; rfl
  · rw [he, hj]

set_option maxHeartbeats 1000000 in
theorem TextJoined_walk (s : ByteArray) (b : Nat) (w : World) (_hs : s.size ≤ 9223372036854775807) (hb : b < 256) (hT : TabIn w) :
    Calls Tryd.prog 8 #[.string s, .int .u8 b] w (Yes w) := by
  have HT := Lib.hid hT
  clear hT
  by_cases hm : s.size ≤ 16384
  · obtain ⟨m, hmod, hm128⟩ : ∃ m : Nat, (b : Int) % 128 = (m : Int) ∧ m < 128 := ⟨b % 128, by omega, by omega⟩
    have C1 : Hid (∀ W, Below w.heap.size w W → Calls Tryd.prog 22 #[.string s, .int .i32 ((b : Int) % 128)] W (StrsMade (partsOf s ((b : Int) % 128)) W)) := fun W h => Parts_any s _ W (by omega) (by omega) (by omega) (HT.out.later h)
    have C2 : Hid (∀ (B g n c : Nat) (W : World), n = (partsOf s ((b : Int) % 128)).length → W.ownsRow B 9 1 (.slice (some ⟨g, 0, none⟩) n c) n (strVals (partsOf s ((b : Int) % 128))) →
        Calls Tryd.prog 30 #[.slice (some ⟨g, 0, none⟩) n c, .string (strOfNums [(b : Int) % 128])] W fun e w' => e = .returned (.string s) ∧ Below W.heap.size W w') := by
      intro B g n c W hn hown
      rw [hmod] at hn hown ⊢
      rw [joinE]
      exact Join_any s m hm128 B g n c W (by omega) hn hown
    have hconv := fun g W h => conv_one ((b : Int) % 128) g W h
    have hq : (s.toList == s.toList) = true := by rw [← beq_toListBytes, beq_bytes, decide_eq_true rfl]
    clear hmod hm128
    go_enter Tryd.func8, Tryd.ntmps8
    go_wp2_with fail
    generalize hPT : partsOf s ((b : Int) % 128) = L at *
    clear hPT
    have hb127 : (b : Int) % 128 ≤ 127 := by omega
    have hb0 : 0 ≤ (b : Int) % 128 := by omega
    generalize (b : Int) % 128 = q at *
    have hwr : IntKind.i32.wrap q = q := IntWalk.i32_in q (by omega)
    clear hb127 hb0
    go_region_with (first
      | (go_at_call 22; (first | (refine (C1.out _ (Below.refl _ w).drew).mono ?_) | (refine (C1.out _ ((Below.refl _ w).alloc (Nat.le_refl _) (.cells #[.int .u8 q] 5)).drew).mono ?_) | (refine (C1.out _ ((Below.refl _ w).drew.alloc (Nat.le_refl _) (.cells #[.int .u8 q] 5))).mono ?_)); rintro e w1 ⟨g, n, c, rfl, hn, hown, hb1⟩; have HB1 : Hid (Below w.heap.size w w1) := (by (first | exact (Below.refl _ _).drew.trans (hb1.mono (Nat.le_refl _)) | exact ((Below.refl _ _).alloc (Nat.le_refl _) _).drew.trans (hb1.mono (by simp)) | exact ((Below.refl _ _).drew.alloc (Nat.le_refl _) _).trans (hb1.mono (by simp)))); have Hn := Lib.hid hn; have Hown := Lib.hid hown; have hcl := fun (x : Nat) (h : x < _) => hb1.cell (p := ⟨x, 0, none⟩) h; clear hn hown hb1)
      | (go_at_call 30; (first | (refine (C2.out _ g n c _ Hn.out Hown.out).mono ?_) | (refine (C2.out _ g n c _ Hn.out (Hown.out.alloc _)).mono ?_)); rintro e w2 ⟨rfl, hb2⟩; have HB2 : Hid (Below w.heap.size w w2) := (by first | exact HB1.out.trans (hb2.mono HB1.out.size) | exact (HB1.out.alloc HB1.out.size _).trans (hb2.mono (by simp; have := HB1.out.size; omega))); (clear hb2))
      | (go_at_call 14; refine (awake_any _ (HT.out.later HB2.out)).mono ?_; rintro e w3 ⟨rfl, hb3⟩; have HB3 := Lib.hid (HB2.out.trans (hb3.mono HB2.out.size)); clear hb3))
    all_goals
      go_wp2_with fail
      go_ret
      exact ⟨rfl, HB3.out⟩
  · go_enter Tryd.func8, Tryd.ntmps8
    go_wp2_with fail
    go_fit (awake_any _ HT.out)
    rintro e w7 ⟨rfl, hb⟩
    have H7 := Lib.hid hb
    clear hb
    go_wp2_with fail
    go_ret
    exact ⟨rfl, H7.out⟩

end Go.Proofs.YthmibccjnhmegaaDoor
