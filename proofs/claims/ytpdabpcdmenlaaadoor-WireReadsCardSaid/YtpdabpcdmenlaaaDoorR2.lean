/-
  Walks of the document's own answers: texts, flags, numbers with a sign, sums, frames.
-/
import Derived.Test.YtpdabpcdmenlaaaDoorR1
import Derived.Test.YtpdabpcdmenlaaaDoorB4
import Derived.Test.YtpdabpcdmenlaaaDoorM7
namespace Go.Proofs.YtpdabpcdmenlaaaDoor
set_option linter.unusedVariables false
set_option linter.unusedSimpArgs false
open Go.RowKit

theorem RNumber_any (p : Option Addr) (n c : Nat) (xs : List Int) (a : Int) (w : World) (hx : xs.length = n) (hb : Lib.BytesIn w p n xs) (hp : p = none → n = 0 ∧ c = 0) (hu : a ≤ 9223372036854775807) (h1 : n + 9 ≤ 140737488355328) :
    Calls Tryd.prog 16 #[.slice p n c, .int .i64 a] w (Made w.heap.size w (xs ++ num a.toNat)) :=
  RNumber_nat p n c xs a.toNat a w hx hb hp (by omega) (by omega) h1

set_option maxHeartbeats 400000 in
theorem RFlag_any (p : Option Addr) (n c : Nat) (xs : List Int) (yes : Bool) (w : World) (hx : xs.length = n) (hb : Lib.BytesIn w p n xs) (hp : p = none → n = 0 ∧ c = 0) (h1 : n + 9 ≤ 140737488355328) :
    Calls Tryd.prog 23 #[.slice p n c, .bool yes] w (Made w.heap.size w (xs ++ num (if yes then 1 else 0))) := by
  have Hc1 := Lib.hid (RNumber_any p n c xs 1 w hx hb hp (by omega) (by omega))
  have Hc0 := Lib.hid (RNumber_any p n c xs 0 w hx hb hp (by omega) (by omega))
  cases yes
  · go_enter Tryd.func23, Tryd.ntmps23
    go_wp2_with fail
    go_fit Hc0.out
    rintro e w1 ⟨g1, n1, c1, rfl, hown1, hb1⟩
    go_wp2_with fail
    go_ret
    exact ⟨g1, n1, c1, rfl, hown1, hb1⟩
  · go_enter Tryd.func23, Tryd.ntmps23
    go_wp2_with fail
    go_fit Hc1.out
    rintro e w1 ⟨g1, n1, c1, rfl, hown1, hb1⟩
    go_wp2_with fail
    go_ret
    exact ⟨g1, n1, c1, rfl, hown1, hb1⟩

set_option maxHeartbeats 400000 in
theorem RText_any (p : Option Addr) (n c : Nat) (xs : List Int) (s : ByteArray) (w : World) (hx : xs.length = n) (hb : Lib.BytesIn w p n xs) (hp : p = none → n = 0 ∧ c = 0) (h1 : n + s.size + 9 ≤ 140737488355328) :
    Calls Tryd.prog 21 #[.slice p n c, .string s] w (Made w.heap.size w (xs ++ num s.size ++ sb s)) := by
  have Hx : Hid (xs.length = n) := hx
  have Hc1 := Lib.hid (RNumber_nat p n c xs s.size s.size w hx hb hp (by omega) (by omega) (by omega))
  have hnl := num_le s.size (by omega)
  clear hx
  go_enter Tryd.func21, Tryd.ntmps21
  go_wp2_with fail
  go_fit Hc1.out
  rintro e w2 ⟨g2, n2, c2, rfl, hown2, hb2⟩
  have hn2 : n2 ≤ n + 9 := by rw [← owns_len hown2, List.length_append, Hx.out]; omega
  have hat2 := owns_at hown2
  go_wp2_with (at_builtin; refine wpList_pushs rfl _ _ rfl w.heap.size g2 n2 c2 _ rfl hown2 s rfl (by omega) hb2.size ?_; intro g3 c3 w3 hown3 hgrow3)
  go_ret
  exact ⟨g3, _, c3, rfl, hown3, made_grown hb2 hgrow3 hb2.size hat2.1⟩

set_option maxHeartbeats 1600000 in
theorem RSigned_any (p : Option Addr) (n c : Nat) (xs : List Int) (v : Int) (w : World) (hx : xs.length = n) (hb : Lib.BytesIn w p n xs) (hp : p = none → n = 0 ∧ c = 0) (h1 : n + 9 ≤ 140737488355328) :
    Calls Tryd.prog 25 #[.slice p n c, .int .i64 v] w (Made w.heap.size w (xs ++ be (u64 v) 8)) := by
  have Hx := Lib.hid hx
  have Hb := Lib.hid hb
  have hU := wrap_u64 v
  have hul := u64_lt v
  generalize u64 v = u at *
  clear hx hb
  go_enter Tryd.func25, Tryd.ntmps25
  go_wp2_with fail
  go_loopw [5, 6, 9] (fun s i j wr => ∃ (k m q d : Nat) (ys : List Int) (r : Option Addr), k ≤ 8 ∧ j = .int .i64 k ∧ m < 18446744073709551616 ∧ i = .int .u64 m ∧ s = .slice r q d ∧ Lib.BytesIn wr r q ys ∧ Hid (ys.length = q) ∧ q = k ∧ (r = none → q = 0 ∧ d = 0) ∧ Below w.heap.size w wr ∧ Hid (be m (8 - k) ++ ys = be u 8))
    (fun _ _ j _ => (8 - (intOf j).toNat))
  case atStart => exact ⟨0, u, 0, 0, [], none, by omega, rfl, hul, rfl, rfl, Lib.BytesIn.nil _ _ _, rfl, rfl, fun _ => ⟨rfl, rfl⟩, Below.refl _ _, by show _ ++ [] = _; rw [List.append_nil]⟩
  case round =>
    obtain ⟨k, m, q, d, ys, r, hk, rfl, hm, rfl, rfl, hys, Hq, hqk, hr, hbel, He⟩ := hrel
    have hBw : w.heap.size ≤ wr.heap.size := hbel.size
    by_cases hlt : k < 8
    · have hst := be_snoc m (7 - k)
      have He2 : Hid (be (m / 256) (7 - k) ++ (((m : Int) % 256) :: ys) = be u 8) := by
        show _ = _
        rw [← He.out, show 8 - k = 7 - k + 1 from by omega, hst]; simp
      have hin1 := later hys ((Below.refl wr.heap.size wr).alloc (Nat.le_refl _) (.cells #[.int .u8 ((m : Int) % 256)] 5))
      have Hqk := Lib.hid hqk
      have hq8 : q ≤ 8 := by omega
      have h8 : Hid (8 - (k + 1) = 7 - k) := by show _ = _; omega
      clear hst He hys hqk
      go_wp2_with (at_builtin; go_loud (refine wpList_push rfl _ _ rfl w.heap.size wr.heap.size 1 1 [(m : Int) % 256] rfl (own_lit w.heap.size _ [(m : Int) % 256] rfl hBw (by simp)) r q d ys rfl hin1 Hq.out hr (by omega) (by simp; omega) ?_; intro g2 c2 w2 hown2 hgrow2))
      go_roundw
      case rel => exact ⟨k + 1, m / 256, 1 + q, c2, _, some ⟨g2, 0, none⟩, by omega, by go_num, by omega, by go_num, rfl, owns_in hown2, owns_len hown2, by have := Hqk.out; omega, (by intro h; cases h), made_grown (hbel.alloc hBw _) hgrow2 (by simp; omega) hBw, by show _ = _; rw [h8.out]; exact He2.out⟩
      case measure => simp [intOf]; omega
    · have He2 : Hid (ys = be u 8) := by
        show _ = _
        rw [← He.out, show 8 - k = 0 from by omega]; rfl
      have hq8 : q ≤ 8 := by omega
      have hb0 := (Below.refl wr.heap.size wr).alloc (Nat.le_refl _) (.cells #[] 5)
      have hin0 := later Hb.out (hbel.trans (hb0.mono hBw))
      have Hys := Lib.hid hys
      have Hfin : Hid (xs ++ ys = xs ++ be u 8) := by show _ = _; rw [He2.out]
      clear hys He hqk
      go_wp2_with (first
        | (at_builtin; (refine wpList_push rfl (.tmp 20) (.tmp 21) rfl wr.heap.size wr.heap.size 0 0 [] rfl (own_lit wr.heap.size _ [] rfl (Nat.le_refl _) (by simp)) p n c xs rfl hin0 Hx.out hp (by omega) (by simp) ?_; intro g1 c1 w1 hown1 hgrow1; have hbel1 := made_grown hb0 hgrow1 (by simp) (Nat.le_refl _); have hat1 := owns_at hown1; have hys2 := later Hys.out hbel1; simp only [Nat.zero_add, List.nil_append] at hown1))
        | (at_builtin; (refine wpList_push rfl (.tmp 22) (.tmp 23) rfl wr.heap.size g1 n c1 xs rfl hown1 r q d ys rfl hys2 Hq.out hr (by omega) hbel1.size ?_; intro g3 c3 w3 hown3 hgrow3)))
      go_ret
      rw [Hfin.out] at hown3
      exact ⟨g3, _, c3, rfl, owns_weaken hown3 hBw, hbel.trans ((made_grown hbel1 hgrow3 hbel1.size hat1.1).mono hBw)⟩

set_option maxRecDepth 100000 in
set_option maxHeartbeats 1600000 in
theorem RSum_any (p : Option Addr) (n c : Nat) (xs : List Int) (w : World) (hx : xs.length = n) (hb : Lib.BytesIn w p n xs) (hn : n ≤ 140737488355328) (hr : ∀ x ∈ xs, 0 ≤ x ∧ x < 256) :
    Calls Tryd.prog 29 #[.slice p n c] w fun e w' => e = .returned (.int .u32 (sumOf xs : Int)) ∧ w = w' := by
  rcases Nat.eq_zero_or_pos n with h0 | h0
  · subst h0
    obtain rfl := List.eq_nil_of_length_eq_zero hx
    clear hb hr hx
    go_enter Tryd.func29, Tryd.ntmps29
    go_wp2_with fail
    refine wp_loop_rounds 1 ?_
    rw [rounds_succ]
    go_wp2_with fail
    go_ret
    exact ⟨rfl, rfl⟩
  · obtain ⟨b, o, rfl, hc⟩ := hb h0
    have Hx : Hid (xs.length = n) := hx
    have Hc := Lib.hid hc
    have Hr := Lib.hid hr
    clear hr hc hx hb
    go_enter Tryd.func29, Tryd.ntmps29
    go_wp2_with fail
    go_loop [3, 9] (fun v i => ∃ (k s : Nat), k ≤ n ∧ i = .int .i64 k ∧ v = .int .u32 s ∧ s < 4294967296 ∧ Hid (s = (xs.take k).foldl upd 4294967295))
      (fun _ i => (n - (intOf i).toNat))
    case atStart => exact ⟨0, 4294967295, Nat.zero_le _, rfl, rfl, by decide, rfl⟩
    case round =>
      obtain ⟨k, s, hk, rfl, rfl, hs, He⟩ := hrel
      by_cases hlt : k < n
      · have hcell := Hc.out k hlt
        have hkx : k < xs.length := by rw [Hx.out]; exact hlt
        obtain ⟨hx0, hx1⟩ := Hr.out (xs.getD k 0) (by rw [List.getD_eq_getElem?_getD, List.getElem?_eq_getElem hkx]; simp)
        have Hsn := Lib.hid (fold_snoc xs k 4294967295 hkx)
        clear hkx
        generalize xs.getD k 0 = x at *
        obtain ⟨y, rfl⟩ := Int.eq_ofNat_of_zero_le hx0
        obtain ⟨A, hA⟩ : ∃ A : Nat, A = s ^^^ y := ⟨_, rfl⟩
        have lA : A < 4294967296 := by rw [hA]; exact xor_u32_lt _ _ hs (by omega)
        have e1 : bits .xor .u32 (s : Int) (y : Int) = (A : Int) := by rw [xor_u32 _ _ hs (by omega), hA]
        have HC : Hid (bitsteps 8 A = upd s (y : Int)) := by
          show _ = four (four (s ^^^ y))
          rw [eight_bits, hA]
        clear hA
        go_wp2_with fail
        go_loop [3, 6, 17] (fun v _ i => ∃ (j : Nat), j ≤ 8 ∧ i = .int .i64 j ∧ v = .int .u32 (bitsteps j A : Nat)) (fun _ _ i => (8 - (intOf i).toNat))
        case atStart => exact ⟨0, by omega, rfl, rfl⟩
        case round =>
          obtain ⟨j, hj, rfl, rfl⟩ := hrel
          have lB := bitsteps_lt A lA j
          by_cases hlt8 : j < 8
          · have HS : Hid (bitsteps (j + 1) A = bitstep (bitsteps j A)) := rfl
            generalize bitsteps j A = Bq at *
            by_cases hodd : Bq % 2 = 1
            · have e2 : bits .xor .u32 ((Bq : Int) / 2) 3370071343 = ((Bq / 2 ^^^ 3370071343 : Nat) : Int) := by
                rw [show (Bq : Int) / 2 = ((Bq / 2 : Nat) : Int) by omega]
                exact xor_u32 (Bq / 2) 3370071343 (by omega) (by omega)
              have hodd2 : (Bq : Int) % 2 = 1 := by omega
              have HB : Hid (bitstep Bq = Bq / 2 ^^^ 3370071343) := by show _ = _; unfold bitstep; rw [if_pos hodd]
              generalize Bq / 2 ^^^ 3370071343 = Cq at *
              clear hodd
              go_wp2_with fail
              go_round
              case rel => exact ⟨j + 1, by omega, by go_num, by rw [HS.out, HB.out]⟩
              case measure => simp [intOf]; omega
            · have hodd2 : ¬ (Bq : Int) % 2 = 1 := by omega
              have hodd3 : ((Bq : Int) % 2 == 1) = false := by simpa using hodd2
              have HB : Hid (bitstep Bq = Bq / 2) := by show _ = _; unfold bitstep; rw [if_neg hodd]
              clear hodd
              go_wp2_with fail
              go_round
              case rel => exact ⟨j + 1, by omega, by go_num, by rw [HS.out, HB.out]; go_num⟩
              case measure => simp [intOf]; omega
          · obtain rfl : j = 8 := by omega
            rw [HC.out] at lB
            rw [HC.out]
            go_wp2_with fail
            go_round
            case rel => exact ⟨k + 1, _, by omega, by go_num, rfl, lB, by show _ = _; rw [Hsn.out, ← He.out]⟩
            case measure => simp [intOf]; omega
      · have e : Hid (s = crc xs) := by rw [He.out, List.take_of_length_le (by rw [Hx.out]; omega)]; rfl
        go_wp2_with fail
        go_ret
        unfold sumOf
        rw [← e.out]
        exact ⟨by go_num, rfl⟩

end Go.Proofs.YtpdabpcdmenlaaaDoor
