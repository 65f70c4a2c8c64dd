/-
  The walk of WireBack.
-/
import Derived.Test.YtpdabpcdmenlaaaDoorFormW
namespace Go.Proofs.YtpdabpcdmenlaaaDoor
set_option linter.unusedVariables false
set_option linter.unusedSimpArgs false
open Go.RowKit

theorem strOf_sb (s : ByteArray) : strOfNums (sb s) = s := by
  apply ByteArray.ext
  apply Array.toList_inj.1
  rw [strOfNums_data]
  unfold sb
  rw [List.map_map]
  conv => rhs; rw [← List.map_id s.data.toList]
  apply List.map_congr_left
  intro b _
  simp

theorem s64_u64 (v : Int) (h0 : -9223372036854775808 ≤ v) (h1 : v ≤ 9223372036854775807) : s64 (u64 v) = v := by
  unfold s64 u64 wrap64
  omega

/-- Text, where there is one. -/
theorem Text_good {w : World} {rb g n cap : Nat} {xs : List Int} {i : Nat} (h : RS w rb g n cap xs i 0) (most : Int) (N S : Nat) (ht : numAt (xs.drop i) = (N, S, 0)) (hNM : (N : Int) ≤ max most 0) (hend : i + S + N ≤ n) :
    Calls Tryd.prog 37 #[.pointer (some ⟨rb, 0, none⟩), .int .i64 most] w (Out (.string (strOfNums ((xs.drop (i + S)).take N))) w rb g n cap xs (i + S + N) 0) := by
  have hok := numAt_ok (xs.drop i) (fun x hx => h.rng x (List.mem_of_mem_drop hx)) (by rw [ht])
  rw [ht] at hok
  have hnc := h.ncap
  by_cases hic : cap = i + S
  · obtain rfl : N = 0 := by omega
    have := Text_ok0 h most S (max most 0).toNat ht (by omega) (by omega) hok.2.1 hic
    simpa [strOfNums] using this
  · exact Text_ok h most N S (max most 0).toNat ht (by omega) (by omega) hend hok.2.1 hic

theorem flag_num (yes : Bool) : num (if yes then 1 else 0) = (if yes then [1, 1] else [0]) := by cases yes <;> decide

set_option maxHeartbeats 800000 in
theorem Back_far (nn : Int) (s : ByteArray) (yes : Bool) (v : Int) (p : Option Addr) (n c : Nat) (w : World) (hT : TabIn w) (hs : s.size ≤ 9223372036854775807) (hn : 65536 < s.size ∨ (s.size ≤ 65536 ∧ 65536 < n)) :
    Calls Tryd.prog 8 #[.int .i64 nn, .string s, .bool yes, .int .i64 v, .slice p n c] w (Yes w) := by
  have HT := Lib.hid hT
  clear hT
  rcases hn with hn | ⟨hn, hn2⟩
  all_goals
    go_enter Tryd.func8, Tryd.ntmps8
    go_wp2_with fail
    go_fit (awake_any w HT.out)
    rintro e w1 ⟨rfl, hb1⟩
    go_wp2_with fail
    go_ret
    exact ⟨rfl, hb1⟩

set_option maxRecDepth 100000 in
set_option maxHeartbeats 3200000 in
theorem Back_near (nn : Int) (u : Nat) (s : ByteArray) (yes : Bool) (v : Int) (p : Option Addr) (n c : Nat) (bs : List Int) (w : World) (hT : TabIn w) (hx : bs.length = n) (hb : Lib.BytesIn w p n bs) (hp : p = none → n = 0 ∧ c = 0) (hr : ∀ x ∈ bs, 0 ≤ x ∧ x < 256)
    (hu : max nn 0 = (u : Int)) (hul : u ≤ 9223372036854775807) (hv0 : -9223372036854775808 ≤ v) (hv1 : v ≤ 9223372036854775807) (hn : n ≤ 65536) (hs : s.size ≤ 65536) :
    Calls Tryd.prog 8 #[.int .i64 nn, .string s, .bool yes, .int .i64 v, .slice p n c] w (Yes w) := by
  obtain ⟨R3, hR3⟩ : ∃ R3, R3 = be (u64 v) 8 ++ bs := ⟨_, rfl⟩
  obtain ⟨R2, hR2⟩ : ∃ R2, R2 = num (if yes then 1 else 0) ++ R3 := ⟨_, rfl⟩
  obtain ⟨R1, hR1⟩ : ∃ R1, R1 = num s.size ++ (sb s ++ R2) := ⟨_, rfl⟩
  obtain ⟨L, hL⟩ : ∃ L, L = num u ++ R1 := ⟨_, rfl⟩
  have l1 := num_length u
  have l2 := num_length s.size
  have l3 := num_length (if yes then 1 else 0)
  have k1 := num_le u hul
  have k2 := num_le s.size (by omega)
  have k3 := num_le (if yes then 1 else 0) (by split <;> omega)
  have d1 : L.drop (num u).length = R1 := by rw [hL, List.drop_left]
  have d2 : L.drop ((num u).length + (num s.size).length) = sb s ++ R2 := by rw [← List.drop_drop, d1, hR1, List.drop_left]
  have d3 : L.drop ((num u).length + (num s.size).length + s.size) = R2 := by rw [← List.drop_drop, d2, ← sb_length s, List.drop_left]
  have d4 : L.drop ((num u).length + (num s.size).length + s.size + (num (if yes then 1 else 0)).length) = R3 := by rw [← List.drop_drop, d3, hR2, List.drop_left]
  have hLl : L.length = (num u).length + (num s.size).length + s.size + (num (if yes then 1 else 0)).length + 8 + n := by
    rw [hL, hR1, hR2, hR3]; simp only [List.length_append, be_length, sb_length, hx]; omega
  have hLr : ∀ x ∈ L, 0 ≤ x ∧ x < 256 := by
    intro x hxm
    rw [hL, hR1, hR2, hR3] at hxm
    simp only [List.mem_append] at hxm
    rcases hxm with h | h | h | h | h | h
    · exact num_byte _ hul x h
    · exact num_byte _ (by omega) x h
    · obtain ⟨b, _, rfl⟩ := List.mem_map.1 h
      have := b.toNat_lt; omega
    · exact num_byte _ (by split <;> omega) x h
    · exact be_byte _ _ x h
    · exact hr x h
  -- the four answers
  have A1 : Hid (∀ (W : World) (rb g cap : Nat), RS W rb g L.length cap L 0 0 → Calls Tryd.prog 31 #[.pointer (some ⟨rb, 0, none⟩)] W (Out (.int .i64 (u : Int)) W rb g L.length cap L (num u).length 0)) := fun W rb g cap h => by
    have := Number_first h u (1 + wide u) 0 (by rw [hL]; exact numAt_num u R1 hul)
    simpa [l1] using this
  have A2 : Hid (∀ (W : World) (rb g cap : Nat), RS W rb g L.length cap L (num u).length 0 → Calls Tryd.prog 37 #[.pointer (some ⟨rb, 0, none⟩), .int .i64 (s.size : Int)] W (Out (.string s) W rb g L.length cap L ((num u).length + (num s.size).length + s.size) 0)) := fun W rb g cap h => by
    have := Text_good h s.size s.size (num s.size).length (by rw [d1, hR1, l2]; exact numAt_num _ _ (by omega)) (by omega) (by omega)
    rw [d2, ← sb_length s, List.take_left, sb_length, strOf_sb] at this
    exact this
  have A3 : Hid (∀ (W : World) (rb g cap : Nat), RS W rb g L.length cap L ((num u).length + (num s.size).length + s.size) 0 → Calls Tryd.prog 39 #[.pointer (some ⟨rb, 0, none⟩)] W (Out (.bool yes) W rb g L.length cap L ((num u).length + (num s.size).length + s.size + (num (if yes then 1 else 0)).length) 0)) := fun W rb g cap h => by
    refine Flag_ok h (if yes then 1 else 0) (num (if yes then 1 else 0)).length (by rw [d3, hR2, l3]; exact numAt_num _ _ (by split <;> omega)) (by split <;> omega) yes ?_
    cases yes <;> rfl
  have A4 : Hid (∀ (W : World) (rb g cap : Nat), RS W rb g L.length cap L ((num u).length + (num s.size).length + s.size + (num (if yes then 1 else 0)).length) 0 → Calls Tryd.prog 35 #[.pointer (some ⟨rb, 0, none⟩)] W (Out (.int .i64 v) W rb g L.length cap L ((num u).length + (num s.size).length + s.size + (num (if yes then 1 else 0)).length + 8) 0)) := fun W rb g cap h => by
    have := Signed_ok h (by omega)
    have e8 : (be (u64 v) 8 ++ bs).take 8 = be (u64 v) 8 := by rw [List.take_append_of_le_length (by rw [be_length]; omega), List.take_of_length_le (by rw [be_length]; omega)]
    rw [d4, hR3, e8, ofBe_be, Nat.mod_eq_of_lt (u64_lt v), s64_u64 v hv0 hv1] at this
    exact this
  have A5 : Hid (∀ (W : World) (rb g cap : Nat), RS W rb g L.length cap L ((num u).length + (num s.size).length + s.size + (num (if yes then 1 else 0)).length + 8) 0 → Calls Tryd.prog 41 #[.pointer (some ⟨rb, 0, none⟩)] W (fun e w' => e = .returned (.int .i64 (n : Int)) ∧ ∃ q, w' = W.drewN q)) := fun W rb g cap h => by
    have := Left_rs h
    rw [show L.length - ((num u).length + (num s.size).length + s.size + (num (if yes then 1 else 0)).length + 8) = n from by omega] at this
    exact this
  have A6 : Hid (∀ (W : World) (rb g cap : Nat), RS W rb g L.length cap L ((num u).length + (num s.size).length + s.size + (num (if yes then 1 else 0)).length + 8) 0 → Calls Tryd.prog 44 #[.pointer (some ⟨rb, 0, none⟩)] W (fun e w' => e = .returned (.int .i64 (if 0 < n then 3 else 0)) ∧ ∃ q, w' = W.drewN q)) := fun W rb g cap h => by
    have := End_rs h
    rw [if_neg (by simp)] at this
    by_cases h0 : 0 < n
    · rw [if_pos (by omega)] at this; rw [if_pos h0]; exact this
    · rw [if_neg (by omega)] at this; rw [if_neg h0]; exact this
  generalize hi1 : (num u).length = i1 at *
  generalize hi2 : i1 + (num s.size).length + s.size = i2 at *
  generalize hi3 : i2 + (num (if yes then 1 else 0)).length = i3 at *
  have hLb : L.length ≤ 140000 := by omega
  have K1 : Hid ((num u).length ≤ 9) := by show _ ≤ _; rw [hi1]; exact k1
  have HLe : Hid (num u ++ num s.size ++ sb s ++ num (if yes then 1 else 0) ++ be (u64 v) 8 ++ bs = L) := by
    show _ = _
    rw [hL, hR1, hR2, hR3]; simp only [List.append_assoc]
  have HT := Lib.hid hT
  have Hx := Lib.hid hx
  have Hb := Lib.hid hb
  have HLr := Lib.hid hLr
  have b1 : (num u ++ num s.size ++ sb s).length ≤ 65600 := by simp only [List.length_append, sb_length]; omega
  have b2 : (num u ++ num s.size ++ sb s ++ num (if yes then 1 else 0)).length ≤ 65700 := by rw [List.length_append]; omega
  have b3 : (num u ++ num s.size ++ sb s ++ num (if yes then 1 else 0) ++ be (u64 v) 8).length ≤ 65800 := by rw [List.length_append, be_length]; omega
  have B1 := Lib.hid b1
  have B2 := Lib.hid b2
  have B3 := Lib.hid b3
  have hLn : Hid (L.length = L.length) := rfl
  clear hT hx hb hr hLr d1 d2 d3 d4 hL hR1 hR2 hR3 l1 l2 l3 hi1 hi2 hi3 k2 k3 hLl b1 b2 b3 R1 R2 R3
  go_enter Tryd.func8, Tryd.ntmps8
  go_wp2_with fail
  go_fit (Number_any none 0 0 [] nn w rfl (Lib.BytesIn.nil _ _ _) (fun _ => ⟨rfl, rfl⟩) (by omega) (by omega))
  rintro e w1 ⟨g1, n1, c1, rfl, hown1, hb1⟩
  rw [List.nil_append, show nn.toNat = u from by omega] at hown1
  have hn1 : n1 ≤ 9 := by rw [← owns_len hown1]; exact K1.out
  have Ho1 := Lib.hid hown1
  have Hb1 := Lib.hid hb1
  clear hown1 hb1
  go_wp2_with fail
  go_fit (Text_any (some ⟨g1, 0, none⟩) n1 c1 (num u) s w1 (owns_len Ho1.out) (owns_in Ho1.out) (by intro h; cases h) (by omega))
  rintro e w2 ⟨g2, n2, c2, rfl, hown2, hb2⟩
  have hn2 : n2 ≤ 65600 := by rw [← owns_len hown2]; exact B1.out
  have Ho2 := Lib.hid hown2
  have Hb2 := Lib.hid (Hb1.out.trans (hb2.mono Hb1.out.size))
  clear hown2 hb2
  go_wp2_with fail
  go_fit (Flag_any (some ⟨g2, 0, none⟩) n2 c2 _ yes w2 (owns_len Ho2.out) (owns_in Ho2.out) (by intro h; cases h) (by omega))
  rintro e w3 ⟨g3, n3, c3, rfl, hown3, hb3⟩
  have hn3 : n3 ≤ 65700 := by rw [← owns_len hown3]; exact B2.out
  have Ho3 := Lib.hid hown3
  have Hb3 := Lib.hid (Hb2.out.trans (hb3.mono Hb2.out.size))
  clear hown3 hb3
  go_wp2_with fail
  go_fit (Signed_any (some ⟨g3, 0, none⟩) n3 c3 _ v w3 (owns_len Ho3.out) (owns_in Ho3.out) (by intro h; cases h) (by omega))
  rintro e w4 ⟨g4, n4, c4, rfl, hown4, hb4⟩
  have hn4 : n4 ≤ 65800 := by rw [← owns_len hown4]; exact B3.out
  have Hb4 := Lib.hid (Hb3.out.trans (hb4.mono Hb3.out.size))
  have hown4' := owns_weaken hown4 Hb3.out.size
  have Ho4 := Lib.hid hown4'
  have hat4 := owns_at hown4'
  have hbs4 := later Hb.out Hb4.out
  have hB4 := Hb4.out.size
  clear hown4 hb4 hown4'
  go_wp2_with (at_builtin; go_loud (refine wpList_push rfl _ _ rfl w.heap.size g4 n4 c4 _ rfl Ho4.out p n c bs rfl hbs4 Hx.out hp (by omega) hB4 ?_; intro g5 c5 w5 hown5 hgrow5))
  rw [HLe.out] at hown5
  have hlen5 := owns_len hown5
  have Hb5 := Lib.hid (made_grown Hb4.out hgrow5 hB4 hat4.1)
  have Ho5 := Lib.hid hown5
  clear hown5 hgrow5 hbs4
  generalize n4 + n = n5 at *
  obtain rfl : L.length = n5 := hlen5
  go_fit (Read_any (some ⟨g5, 0, none⟩) L.length c5 L w5 rfl (owns_in Ho5.out) (by intro h; cases h) HLr.out (by omega))
  rintro e w6 ⟨rb, g, cap, rfl, hrs6, hb6, hrb6⟩
  have Hb6 := Lib.hid (Hb5.out.trans (hb6.mono Hb5.out.size))
  have hrb : w.heap.size ≤ rb := Nat.le_trans Hb5.out.size hrb6
  have H6 := Lib.hid hrs6
  clear hrs6 hb6
  go_wp2_with fail
  go_fit (A1.out w6 rb g cap H6.out)
  rintro e w7 ⟨rfl, hrs7, hg7⟩
  have Hb7 := Lib.hid (made_grown Hb6.out hg7 Hb6.out.size hrb)
  have H7 := Lib.hid hrs7
  clear hrs7 hg7
  go_wp2_with fail
  go_fit (A2.out w7 rb g cap H7.out)
  rintro e w8 ⟨rfl, hrs8, hg8⟩
  have Hb8 := Lib.hid (made_grown Hb7.out hg8 Hb7.out.size hrb)
  have H8 := Lib.hid hrs8
  clear hrs8 hg8
  go_wp2_with fail
  go_fit (A3.out w8 rb g cap H8.out)
  rintro e w9 ⟨rfl, hrs9, hg9⟩
  have Hb9 := Lib.hid (made_grown Hb8.out hg9 Hb8.out.size hrb)
  have H9 := Lib.hid hrs9
  clear hrs9 hg9
  go_wp2_with fail
  go_fit (A4.out w9 rb g cap H9.out)
  rintro e wa ⟨rfl, hrsa, hga⟩
  have Hba := Lib.hid (made_grown Hb9.out hga Hb9.out.size hrb)
  have Ha := Lib.hid hrsa
  clear hrsa hga
  have e1 : ((u : Int) == max nn 0) = true := by rw [hu]; exact beq_self_eq_true _
  have e2 : (s == s) = true := by cases s; exact beq_self_eq_true (α := Array UInt8) _
  have e3 : (yes == yes) = true := beq_self_eq_true _
  have e4 : (v == v) = true := beq_self_eq_true _
  go_wp2_with fail
  go_fit (Err_rs Ha.out)
  rintro e w' ⟨rfl, rfl⟩
  go_wp2_with fail
  go_fit (A5.out wa rb g cap Ha.out)
  rintro e w' ⟨rfl, q, rfl⟩
  have Hbq := Lib.hid (bdrew (q := q) Hba.out)
  have A6' := Lib.hid (A6.out (wa.drewN q) rb g cap (Ha.out.drewN q))
  clear A1 A2 A3 A4 A5 A6
  rcases Nat.eq_zero_or_pos n with h0 | h0
  · have A7 := A6'.out
    rw [if_neg (by omega)] at A7
    have A8 := Lib.hid A7
    subst h0
    clear A6' A7
    go_wp2_with fail
    go_fit A8.out
    rintro e w' ⟨rfl, q2, rfl⟩
    have Hbz := Lib.hid (bdrew (q := q + q2) Hba.out)
    go_wp2_with fail
    go_fit (awake_any _ (HT.out.later Hbz.out))
    rintro e w'' ⟨rfl, hbz⟩
    go_wp2_with fail
    go_ret
    exact ⟨rfl, Hbz.out.trans (hbz.mono Hbz.out.size)⟩
  · have A7 := A6'.out
    rw [if_pos h0] at A7
    have A8 := Lib.hid A7
    clear A6' A7
    have e5 : ((n : Int) == 0) = false := by simpa using (by omega : ¬ n = 0)
    go_wp2_with fail
    go_fit A8.out
    rintro e w' ⟨rfl, q2, rfl⟩
    have Hbz := Lib.hid (bdrew (q := q + q2) Hba.out)
    go_wp2_with fail
    go_fit (awake_any _ (HT.out.later Hbz.out))
    rintro e w'' ⟨rfl, hbz⟩
    go_wp2_with fail
    go_ret
    exact ⟨rfl, Hbz.out.trans (hbz.mono Hbz.out.size)⟩

end Go.Proofs.YtpdabpcdmenlaaaDoor
