/-
  The walks of TextParts and TextFields.
-/
import Derived.Test.YthmibccjnhmegaaDoorAw
namespace Go.Proofs.YthmibccjnhmegaaDoor
set_option linter.unusedVariables false
set_option linter.unusedSimpArgs false
open Go.RowKit

theorem Equal_parts (l : List ByteArray) (g n c g' n' c' : Nat) (B B' : Nat) (w : World) (hn : n = l.length) (hn' : n' = l.length) (hl : l.length ≤ 1000000)
    (h : w.ownsRow B 9 1 (.slice (some ⟨g, 0, none⟩) n c) n (strVals l)) (h' : w.ownsRow B' 9 1 (.slice (some ⟨g', 0, none⟩) n' c') n' (strVals l)) :
    Calls Tryd.prog 21 #[.slice (some ⟨g, 0, none⟩) n c, .slice (some ⟨g', 0, none⟩) n' c'] w fun e w' => e = .returned (.bool true) ∧ Below w.heap.size w w' := by
  refine (Tryd.slices_Equal_string g 0 n c g' 0 n' c' l l w (by omega) (by omega) (by omega) (by omega) (fun j hj => ?_) (fun j hj => ?_)).mono fun e w' ⟨he, q, hw⟩ => ?_
  · rw [Nat.zero_add, owns_cell h j (by omega), str_cell l j hj]
  · rw [Nat.zero_add, owns_cell h' j (by omega), str_cell l j hj]
  · subst hw
    refine ⟨?_, below_drewN' q⟩
    rw [he, hn, hn', decide_eq_true rfl]

set_option maxHeartbeats 800000 in
theorem TextParts_walk (s : ByteArray) (r : Int) (w : World) (_hs : s.size ≤ 9223372036854775807) (hr0 : -2147483648 ≤ r) (hr1 : r ≤ 2147483647) (hT : TabIn w) :
    Calls Tryd.prog 4 #[.string s, .int .i32 r] w (Yes w) := by
  have HT := Lib.hid hT
  clear hT
  by_cases hm : s.size ≤ 16384
  · have hlen := (partsFrom_length s r s.size 0 0)
    have Hlen : Hid (1 ≤ (partsOf s r).length ∧ (partsOf s r).length ≤ s.size + 1) := hlen
    clear hlen
    go_enter Tryd.func4, Tryd.ntmps4
    go_wp2_with fail
    go_fit (Parts_any s r _ (by omega) hr0 hr1 HT.out)
    rintro e w1 ⟨g, n, c, rfl, hn, hown, hb⟩
    have H1 := Lib.hid hb
    have Hn := Lib.hid hn
    have Hown := Lib.hid hown
    clear hb hn hown
    go_wp2_with fail
    go_fit (rParts_any s r _ (by omega) hr0 hr1)
    rintro e w2 ⟨g2, n2, c2, rfl, hn, hown, hb⟩
    have H2 := Lib.hid (H1.out.trans (hb.mono H1.out.size))
    have Hn2 := Lib.hid hn
    have Hown2 := Lib.hid hown
    have Hown1 := Lib.hid (owns_later Hown.out hb)
    have HE := Lib.hid (Equal_parts (partsOf s r) g n c g2 n2 c2 _ _ w2 Hn.out hn (by have := Hlen.out; omega) Hown1.out hown)
    clear hb hn hown
    go_wp2_with fail
    go_fit HE.out
    rintro e w3 ⟨rfl, hb⟩
    have H3 := Lib.hid (H2.out.trans (hb.mono H2.out.size))
    clear hb
    go_wp2_with fail
    go_fit (awake_any _ (HT.out.later H3.out))
    rintro e w7 ⟨rfl, hb⟩
    have H7 := Lib.hid (H3.out.trans (hb.mono H3.out.size))
    clear hb
    go_wp2_with fail
    go_ret
    exact ⟨rfl, H7.out⟩
  · go_enter Tryd.func4, Tryd.ntmps4
    go_wp2_with fail
    go_fit (awake_any _ HT.out)
    rintro e w7 ⟨rfl, hb⟩
    have H7 := Lib.hid hb
    clear hb
    go_wp2_with fail
    go_ret
    exact ⟨rfl, H7.out⟩

theorem beq_self_str (a : ByteArray) : (a.toList == a.toList) = true := by rw [← beq_toListBytes, beq_bytes, decide_eq_true rfl]

set_option maxHeartbeats 800000 in
theorem TextFields_walk (s name : ByteArray) (w : World) (_hs : s.size ≤ 9223372036854775807) (_hn : name.size ≤ 9223372036854775807) (hT : TabIn w) :
    Calls Tryd.prog 5 #[.string s, .string name] w (Yes w) := by
  have HT := Lib.hid hT
  clear hT
  by_cases hm : s.size ≤ 16384
  · by_cases hm2 : name.size ≤ 16384
    · have C1 : Hid (∀ w, TabIn w → Calls Tryd.prog 24 #[.string s, .string name] w (FieldP (partsOf s 32) name w)) := fun w h => Field_any s name w (by omega) h
      have C2 : Hid (∀ w, Calls Tryd.prog 25 #[.string s, .string name] w (FieldP (partsOf s 32) name w)) := fun w => rField_any s name w (by omega) (by omega)
      have hq := beq_self_str (fieldOf name (partsOf s 32)).1
      generalize hv : (fieldOf name (partsOf s 32)).1 = v at hq
      generalize hk : (fieldOf name (partsOf s 32)).2 = ok
      have C1' : Hid (Calls Tryd.prog 24 #[.string s, .string name] w fun e w' => e = .returned (.tuple #[.string v, .bool ok]) ∧ Below w.heap.size w w') := by
        have := C1.out w HT.out; unfold FieldP at this; rw [hv, hk] at this; exact this
      have C2' : Hid (∀ w, Calls Tryd.prog 25 #[.string s, .string name] w fun e w' => e = .returned (.tuple #[.string v, .bool ok]) ∧ Below w.heap.size w w') := fun w => by
        have := C2.out w; unfold FieldP at this; rw [hv, hk] at this; exact this
      clear C1 C2 hv hk
      cases ok
      all_goals
        go_enter Tryd.func5, Tryd.ntmps5
        go_wp2_with fail
        go_fit C1'.out
        rintro e w1 ⟨rfl, hb⟩
        have H1 := Lib.hid hb
        clear hb
        go_wp2_with fail
        go_fit (C2'.out _)
        rintro e w2 ⟨rfl, hb⟩
        have H2 := Lib.hid (H1.out.trans (hb.mono H1.out.size))
        clear hb
        go_wp2_with fail
        go_fit (awake_any _ (HT.out.later H2.out))
        rintro e w7 ⟨rfl, hb⟩
        have H7 := Lib.hid (H2.out.trans (hb.mono H2.out.size))
        clear hb
        go_wp2_with fail
        go_ret
        exact ⟨rfl, H7.out⟩
    · go_enter Tryd.func5, Tryd.ntmps5
      go_wp2_with fail
      go_fit (awake_any _ HT.out)
      rintro e w7 ⟨rfl, hb⟩
      have H7 := Lib.hid hb
      clear hb
      go_wp2_with fail
      go_ret
      exact ⟨rfl, H7.out⟩
  · go_enter Tryd.func5, Tryd.ntmps5
    go_wp2_with fail
    go_fit (awake_any _ HT.out)
    rintro e w7 ⟨rfl, hb⟩
    have H7 := Lib.hid hb
    clear hb
    go_wp2_with fail
    go_ret
    exact ⟨rfl, H7.out⟩

end Go.Proofs.YthmibccjnhmegaaDoor
