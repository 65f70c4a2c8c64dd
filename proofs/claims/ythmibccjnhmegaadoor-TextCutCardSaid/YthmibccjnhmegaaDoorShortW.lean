/-
  The walks of TextShort and TextCut.
-/
import Derived.Test.YthmibccjnhmegaaDoorAw
import Derived.Test.YthmibccjnhmegaaDoorM7
import Derived.Test.YthmibccjnhmegaaDoorShelf2
namespace Go.Proofs.YthmibccjnhmegaaDoor
set_option linter.unusedVariables false
set_option linter.unusedSimpArgs false
open Go.RowKit

theorem ValidString_any (s : ByteArray) (w : World) (hs : s.size ≤ 1073741824) (hT : TabIn w) :
    Calls Tryd.prog 33 #[.string s] w fun e w' => e = .returned (.bool (Lib.validD s.data.toList)) ∧ Below w.heap.size w w' :=
  Tryd.utf8_ValidString s w (by omega) hT.utf8

theorem Key_of (s : ByteArray) (b : Bool) (n : Int) (h : madeB s 1 24 plainB = b) (hn : errOf b 20 = n) (w : World) (hs : s.size ≤ 1073741824) :
    Calls Tryd.prog 15 #[.string s] w fun e w' => e = .returned (.int .i64 n) ∧ Below w.heap.size w w' := by
  subst hn; subst h; exact Key_any s w hs
theorem Value_of (s : ByteArray) (b : Bool) (n : Int) (h : madeB s 0 48 plainB = b) (hn : errOf b 21 = n) (w : World) (hs : s.size ≤ 1073741824) :
    Calls Tryd.prog 17 #[.string s] w fun e w' => e = .returned (.int .i64 n) ∧ Below w.heap.size w w' := by
  subst hn; subst h; exact Value_any s w hs
theorem Name_of (s : ByteArray) (b : Bool) (n : Int) (h : madeB s 1 8 letterB = b) (hn : errOf b 22 = n) (w : World) (hs : s.size ≤ 1073741824) :
    Calls Tryd.prog 19 #[.string s] w fun e w' => e = .returned (.int .i64 n) ∧ Below w.heap.size w w' := by
  subst hn; subst h; exact Name_any s w hs
theorem not_empty (s : ByteArray) (h : 0 < s.size) : s.toList.isEmpty = false := by
  rw [ByteArray.toList_eq]
  cases hl : s.data.toList with
  | nil => rw [Lib.size_eq, hl] at h; cases h
  | cons a l => rfl
theorem is_empty (s : ByteArray) (h : s.size = 0) : s.toList.isEmpty = true := by
  rw [ByteArray.toList_eq]
  rw [Lib.size_eq] at h
  rw [List.eq_nil_of_length_eq_zero h]; rfl

set_option maxHeartbeats 2000000 in
theorem TextShort_walk (s : ByteArray) (w : World) (_hs : s.size ≤ 9223372036854775807) (hT : TabIn w) :
    Calls Tryd.prog 11 #[.string s] w (Yes w) := by
  have HT := Lib.hid hT
  clear hT
  by_cases hm : s.size ≤ 16384
  · have hK : madeB s 1 24 plainB = true → s.size ≤ 96 ∧ s.toList.isEmpty = false := fun h => ⟨by have := made_size h; omega, not_empty s (made_some h (by omega))⟩
    have hV : madeB s 0 48 plainB = true → s.size ≤ 192 ∧ Lib.validD s.data.toList = true := fun h => ⟨by have := made_size h; omega, plain_valid s (made_parts h).2.2⟩
    have hN : madeB s 1 8 letterB = true → s.size ≤ 8 := fun h => name_size h
    have hNK : madeB s 1 8 letterB = true → madeB s 1 24 plainB = true := fun h => name_key h
    have hKV : madeB s 1 24 plainB = true → madeB s 0 48 plainB = true := fun h => key_value h
    cases hv : madeB s 0 48 plainB with
    | true =>
      obtain ⟨v1, v2⟩ := hV hv
      have C4 := Lib.hid (fun w hT => ValidString_any s w (by omega) hT)
      rw [v2] at C4
      have C2 := Lib.hid (fun w => Value_of s true 0 hv rfl w (by omega))
      cases hk : madeB s 1 24 plainB with
      | true =>
        obtain ⟨k1, k2⟩ := hK hk
        have C1 := Lib.hid (fun w => Key_of s true 0 hk rfl w (by omega))
        cases hn : madeB s 1 8 letterB with
        | true =>
          have n1 := hN hn
          have C3 := Lib.hid (fun w => Name_of s true 0 hn rfl w (by omega))
          clear hK hV hN hNK hKV hv hk hn v2
          go_enter Tryd.func11, Tryd.ntmps11
          go_wp2_with fail
          go_fit (C1.out _)
          rintro e w1 ⟨rfl, hb⟩
          have H1 := Lib.hid (hb)
          clear hb
          go_wp2_with fail
          go_fit (C2.out _)
          rintro e w2 ⟨rfl, hb⟩
          have H2 := Lib.hid (H1.out.trans (hb.mono H1.out.size))
          clear hb
          go_wp2_with fail
          go_fit (C3.out _)
          rintro e w3 ⟨rfl, hb⟩
          have H3 := Lib.hid (H2.out.trans (hb.mono H2.out.size))
          clear hb
          go_wp2_with fail
          go_fit (C4.out _ (HT.out.later H3.out))
          rintro e w4 ⟨rfl, hb⟩
          have H4 := Lib.hid (H3.out.trans (hb.mono H3.out.size))
          clear hb
          go_wp2_with fail
          go_fit (awake_any _ (HT.out.later H4.out))
          rintro e w5 ⟨rfl, hb⟩
          have H5 := Lib.hid (H4.out.trans (hb.mono H4.out.size))
          clear hb
          go_wp2_with fail
          go_ret
          exact ⟨rfl, H5.out⟩
        | false =>
          have C3 := Lib.hid (fun w => Name_of s false 22 hn rfl w (by omega))
          clear hK hV hN hNK hKV hv hk hn v2
          go_enter Tryd.func11, Tryd.ntmps11
          go_wp2_with fail
          go_fit (C1.out _)
          rintro e w1 ⟨rfl, hb⟩
          have H1 := Lib.hid (hb)
          clear hb
          go_wp2_with fail
          go_fit (C2.out _)
          rintro e w2 ⟨rfl, hb⟩
          have H2 := Lib.hid (H1.out.trans (hb.mono H1.out.size))
          clear hb
          go_wp2_with fail
          go_fit (C3.out _)
          rintro e w3 ⟨rfl, hb⟩
          have H3 := Lib.hid (H2.out.trans (hb.mono H2.out.size))
          clear hb
          go_wp2_with fail
          go_fit (C4.out _ (HT.out.later H3.out))
          rintro e w4 ⟨rfl, hb⟩
          have H4 := Lib.hid (H3.out.trans (hb.mono H3.out.size))
          clear hb
          go_wp2_with fail
          go_fit (awake_any _ (HT.out.later H4.out))
          rintro e w5 ⟨rfl, hb⟩
          have H5 := Lib.hid (H4.out.trans (hb.mono H4.out.size))
          clear hb
          go_wp2_with fail
          go_ret
          exact ⟨rfl, H5.out⟩
      | false =>
        have hn : madeB s 1 8 letterB = false := by
          cases hn : madeB s 1 8 letterB with
          | false => rfl
          | true => rw [hNK hn] at hk; cases hk
        have C1 := Lib.hid (fun w => Key_of s false 20 hk rfl w (by omega))
        have C3 := Lib.hid (fun w => Name_of s false 22 hn rfl w (by omega))
        clear hK hV hN hNK hKV hv hk hn v2
        go_enter Tryd.func11, Tryd.ntmps11
        go_wp2_with fail
        go_fit (C1.out _)
        rintro e w1 ⟨rfl, hb⟩
        have H1 := Lib.hid (hb)
        clear hb
        go_wp2_with fail
        go_fit (C2.out _)
        rintro e w2 ⟨rfl, hb⟩
        have H2 := Lib.hid (H1.out.trans (hb.mono H1.out.size))
        clear hb
        go_wp2_with fail
        go_fit (C3.out _)
        rintro e w3 ⟨rfl, hb⟩
        have H3 := Lib.hid (H2.out.trans (hb.mono H2.out.size))
        clear hb
        go_wp2_with fail
        go_fit (C4.out _ (HT.out.later H3.out))
        rintro e w4 ⟨rfl, hb⟩
        have H4 := Lib.hid (H3.out.trans (hb.mono H3.out.size))
        clear hb
        go_wp2_with fail
        go_fit (awake_any _ (HT.out.later H4.out))
        rintro e w5 ⟨rfl, hb⟩
        have H5 := Lib.hid (H4.out.trans (hb.mono H4.out.size))
        clear hb
        go_wp2_with fail
        go_ret
        exact ⟨rfl, H5.out⟩
    | false =>
      have hk : madeB s 1 24 plainB = false := by
        cases hk : madeB s 1 24 plainB with
        | false => rfl
        | true => rw [hKV hk] at hv; cases hv
      have hn : madeB s 1 8 letterB = false := by
        cases hn : madeB s 1 8 letterB with
        | false => rfl
        | true => rw [hNK hn] at hk; cases hk
      have C2 := Lib.hid (fun w => Value_of s false 21 hv rfl w (by omega))
      have C1 := Lib.hid (fun w => Key_of s false 20 hk rfl w (by omega))
      have C3 := Lib.hid (fun w => Name_of s false 22 hn rfl w (by omega))
      clear hK hV hN hNK hKV hv hk hn
      go_enter Tryd.func11, Tryd.ntmps11
      go_wp2_with fail
      go_fit (C1.out _)
      rintro e w1 ⟨rfl, hb⟩
      have H1 := Lib.hid (hb)
      clear hb
      go_wp2_with fail
      go_fit (C2.out _)
      rintro e w2 ⟨rfl, hb⟩
      have H2 := Lib.hid (H1.out.trans (hb.mono H1.out.size))
      clear hb
      go_wp2_with fail
      go_fit (C3.out _)
      rintro e w3 ⟨rfl, hb⟩
      have H3 := Lib.hid (H2.out.trans (hb.mono H2.out.size))
      clear hb
      go_wp2_with fail
      go_fit (awake_any _ (HT.out.later H3.out))
      rintro e w4 ⟨rfl, hb⟩
      have H4 := Lib.hid (H3.out.trans (hb.mono H3.out.size))
      clear hb
      go_wp2_with fail
      go_ret
      exact ⟨rfl, H4.out⟩
  · go_enter Tryd.func11, Tryd.ntmps11
    go_wp2_with fail
    go_fit (awake_any _ HT.out)
    rintro e w7 ⟨rfl, hb⟩
    have H7 := Lib.hid hb
    clear hb
    go_wp2_with fail
    go_ret
    exact ⟨rfl, H7.out⟩

set_option maxHeartbeats 2000000 in
theorem TextCut_walk (s : ByteArray) (w : World) (_hs : s.size ≤ 9223372036854775807) (hT : TabIn w) :
    Calls Tryd.prog 12 #[.string s] w (Yes w) := by
  have HT := Lib.hid hT
  clear hT
  by_cases hm : s.size ≤ 16384
  · cases hk : madeB s 1 24 plainB with
    | false =>
      have C1 := Lib.hid (fun w => Key_of s false 20 hk rfl w (by omega))
      clear hk
      go_enter Tryd.func12, Tryd.ntmps12
      go_wp2_with fail
      go_fit (C1.out _)
      rintro e w1 ⟨rfl, hb⟩
      have H1 := Lib.hid (hb)
      clear hb
      go_wp2_with fail
      go_fit (awake_any _ (HT.out.later H1.out))
      rintro e w2 ⟨rfl, hb⟩
      have H2 := Lib.hid (H1.out.trans (hb.mono H1.out.size))
      clear hb
      go_wp2_with fail
      go_ret
      exact ⟨rfl, H2.out⟩
    | true =>
      obtain ⟨p, hp, hl, hf⟩ := key_cut s hk
      have C1 := Lib.hid (fun w => Key_of s true 0 hk rfl w (by omega))
      obtain ⟨q, hq⟩ : ∃ q, q = s.size - p := ⟨_, rfl⟩
      have hqp : s.size - q = p := by omega
      have hqs : q ≤ s.size := by omega
      have hps : (s.extract 0 (s.size - q)).size = p := by rw [hqp, ext_size s 0 p (by omega)]; omega
      rw [← hqp] at hf
      have C2 : Hid (∀ w, TabIn w → Calls Tryd.prog 34 #[.string s] w fun e w' => (∃ r : Int, e = .returned (.tuple #[.int .i32 r, .int .i64 (q : Int)])) ∧ Below w.heap.size w w') := fun w h => by
        refine (Tryd.utf8_DecodeLastRuneInString s w (by omega) h.utf8).mono fun e w' ⟨he, hb⟩ => ⟨⟨((Lib.decodeLastL s.data.toList).1 : Int), ?_⟩, hb⟩
        rw [he, hl, hq]
      have C4 := Lib.hid (fun w => Key_of (s ++ ⟨#[1]⟩) false 20 (behind1 s 1 24) rfl w (by rw [ByteArray.size_append]; show s.size + 1 ≤ _; omega))
      have C5 := Lib.hid (fun w => Key_of (s ++ ⟨#[255]⟩) false 20 (behind255 s 1 24) rfl w (by rw [ByteArray.size_append]; show s.size + 1 ≤ _; omega))
      have hpz : (s.extract 0 (s.size - q)).size = p := hps
      clear hk hl hq
      rcases Nat.eq_zero_or_pos p with h0 | h0
      · have C3 := Lib.hid (fun w => Key_of (s.extract 0 (s.size - q)) false 20 (hf.trans (decide_eq_false (by omega))) rfl w (by omega))
        have he := is_empty _ (hps.trans h0)
        clear hf hps hqp hpz hp h0
        go_enter Tryd.func12, Tryd.ntmps12
        go_wp2_with fail
        go_fit (C1.out _)
        rintro e w1 ⟨rfl, hb⟩
        have H1 := Lib.hid hb
        clear hb
        go_wp2_with fail
        go_fit (C2.out _ (HT.out.later H1.out))
        rintro e w2 ⟨⟨r, rfl⟩, hb⟩
        have H2 := Lib.hid (H1.out.trans (hb.mono H1.out.size))
        clear hb
        go_wp2_with fail
        go_fit (C3.out _)
        rintro e w3 ⟨rfl, hb⟩
        have H3 := Lib.hid (H2.out.trans (hb.mono H2.out.size))
        clear hb
        go_wp2_with fail
        go_fit (C4.out _)
        rintro e w4 ⟨rfl, hb⟩
        have H4 := Lib.hid (H3.out.trans (hb.mono H3.out.size))
        clear hb
        go_wp2_with fail
        go_fit (C5.out _)
        rintro e w5 ⟨rfl, hb⟩
        have H5 := Lib.hid (H4.out.trans (hb.mono H4.out.size))
        clear hb
        go_wp2_with fail
        go_fit (awake_any _ (HT.out.later H5.out))
        rintro e w6 ⟨rfl, hb⟩
        have H6 := Lib.hid (H5.out.trans (hb.mono H5.out.size))
        clear hb
        go_wp2_with fail
        go_ret
        exact ⟨rfl, H6.out⟩
      · have C3 := Lib.hid (fun w => Key_of (s.extract 0 (s.size - q)) true 0 (hf.trans (decide_eq_true (by omega))) rfl w (by omega))
        have he := not_empty (s.extract 0 (s.size - q)) (by omega)
        clear hf hps hqp hpz hp h0
        go_enter Tryd.func12, Tryd.ntmps12
        go_wp2_with fail
        go_fit (C1.out _)
        rintro e w1 ⟨rfl, hb⟩
        have H1 := Lib.hid hb
        clear hb
        go_wp2_with fail
        go_fit (C2.out _ (HT.out.later H1.out))
        rintro e w2 ⟨⟨r, rfl⟩, hb⟩
        have H2 := Lib.hid (H1.out.trans (hb.mono H1.out.size))
        clear hb
        go_wp2_with fail
        go_fit (C3.out _)
        rintro e w3 ⟨rfl, hb⟩
        have H3 := Lib.hid (H2.out.trans (hb.mono H2.out.size))
        clear hb
        go_wp2_with fail
        go_fit (C4.out _)
        rintro e w4 ⟨rfl, hb⟩
        have H4 := Lib.hid (H3.out.trans (hb.mono H3.out.size))
        clear hb
        go_wp2_with fail
        go_fit (C5.out _)
        rintro e w5 ⟨rfl, hb⟩
        have H5 := Lib.hid (H4.out.trans (hb.mono H4.out.size))
        clear hb
        go_wp2_with fail
        go_fit (awake_any _ (HT.out.later H5.out))
        rintro e w6 ⟨rfl, hb⟩
        have H6 := Lib.hid (H5.out.trans (hb.mono H5.out.size))
        clear hb
        go_wp2_with fail
        go_ret
        exact ⟨rfl, H6.out⟩
  · go_enter Tryd.func12, Tryd.ntmps12
    go_wp2_with fail
    go_fit (awake_any _ HT.out)
    rintro e w7 ⟨rfl, hb⟩
    have H7 := Lib.hid hb
    clear hb
    go_wp2_with fail
    go_ret
    exact ⟨rfl, H7.out⟩

end Go.Proofs.YthmibccjnhmegaaDoor
