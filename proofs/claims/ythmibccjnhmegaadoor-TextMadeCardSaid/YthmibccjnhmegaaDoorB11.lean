/-
  Walks: the number that a text is, by the reference (Number).
-/
import Derived.Test.YthmibccjnhmegaaDoorB10
namespace Go.Proofs.YthmibccjnhmegaaDoor
set_option linter.unusedVariables false
set_option linter.unusedSimpArgs false
open Go.RowKit

theorem dash0_test (s : ByteArray) : (s.toList == [45, 48]) = (minusB s && zeroB (bodyB s)) := by
  have e : (⟨#[45, 48]⟩ : ByteArray).toList = [45, 48] := by rw [ByteArray.toList_eq]
  rw [← e, ← beq_toListBytes, beq_bytes]
  rw [Bool.eq_iff_iff, decide_eq_true_eq, Bool.and_eq_true]
  unfold zeroB
  rw [decide_eq_true_eq]
  constructor
  · rintro rfl
    exact ⟨by decide +kernel, by decide +kernel⟩
  · rintro ⟨h1, h2⟩
    unfold bodyB at h2
    rw [if_pos h1] at h2
    unfold minusB at h1
    simp only [Bool.and_eq_true, decide_eq_true_eq] at h1
    apply toList_inj
    rw [bytes_head s h1.1]
    have h3 := congrArg (fun x => x.data.toList) h2
    simp only [extract_list] at h3
    rw [List.take_of_length_le (by rw [List.length_drop, ← Lib.size_eq]; exact Nat.le_refl _)] at h3
    rw [h3]
    have : s.get! 0 = 45 := UInt8.toNat_inj.1 h1.2
    rw [this]

theorem tooBig_of (s : ByteArray) (k : Nat) (hk : k ≤ (bodyB s).size) (h : 9223372036854775808 < valN (bodyB s) k) : tooBig s = true := by
  have := valN_le (bodyB s) k hk
  unfold tooBig
  cases minusB s
  · simp; omega
  · simp; omega

theorem not_allDig (d : ByteArray) (k : Nat) (hk : k < d.size) (h : isDigit (byteAt d k) = false) : allDig d = false := by
  cases ha : allDig d with
  | false => rfl
  | true => rw [(allDig_iff d).1 ha k hk] at h; cases h

/-- What is told of a text that is no number for its length, its front or for what it is. -/
theorem bad_front (s : ByteArray) (h : (bodyB s).size < 1 ∨ 19 < (bodyB s).size ∨ lead0 (bodyB s) = true ∨ (minusB s && zeroB (bodyB s)) = true) : badNum s = true := by
  unfold badNum digB
  rcases h with h | h | h | h
  · rw [decide_eq_false (by omega)]; rfl
  · rw [decide_eq_false (show ¬ (bodyB s).size ≤ 19 by omega)]; simp
  · rw [h]; simp
  · rw [h]; simp
theorem bad_digit (s : ByteArray) (h : allDig (bodyB s) = false) : badNum s = true := by unfold badNum digB; rw [h]; simp
theorem good_num (s : ByteArray) (h1 : 1 ≤ (bodyB s).size) (h2 : (bodyB s).size ≤ 19) (h3 : lead0 (bodyB s) = false) (h4 : (minusB s && zeroB (bodyB s)) = false) (h5 : allDig (bodyB s) = true) : badNum s = false := by
  unfold badNum; rw [digB_of _ h1 h2 h3, h4, h5]; rfl

theorem int_eq {a b : Int} (h : a = b) : Value.int .i64 a = .int .i64 b := by rw [h]

set_option maxRecDepth 100000 in
set_option maxHeartbeats 4000000 in
theorem rNumber_any (s : ByteArray) (w : World) (hs : s.size ≤ 1073741824) :
    Calls Tryd.prog 27 #[.string s] w (NumP s w) := by
  have hq := dash0_test s
  have Nb := Lib.hid (num_bad s)
  have N2 := Lib.hid (num_big s)
  have N3 := Lib.hid (num_neg s)
  have N4 := Lib.hid (num_pos s)
  have Bf := Lib.hid (bad_front s)
  have Bd := Lib.hid (bad_digit s)
  have Gn := Lib.hid (good_num s)
  have Tb := Lib.hid (tooBig_of s)
  have NT : Hid (tooBig s = ((minusB s && decide (9223372036854775808 < valB (bodyB s))) || (!minusB s && decide (9223372036854775808 ≤ valB (bodyB s))))) := rfl
  -- the front of it: what d is, and the test of the first byte
  have hfront : ∃ d, bodyB s = d ∧ d.size ≤ s.size ∧ ((minusB s = true ∧ ∃ h0 : 0 < s.size, (((s[0]'h0).toNat : Int) == 45) = true ∧ s.extract 1 s.size = d ∧ d.size < s.size) ∨ (minusB s = false ∧ d = s ∧ ∀ h0 : 0 < s.size, (((s[0]'h0).toNat : Int) == 45) = false)) := by
    refine ⟨bodyB s, rfl, bodyB_size s, ?_⟩
    cases hmi : minusB s with
    | true =>
      left
      have h1 := hmi
      unfold minusB at h1
      simp only [Bool.and_eq_true, decide_eq_true_eq] at h1
      refine ⟨rfl, h1.1, ?_, ?_, ?_⟩
      · rw [← byteAt_eq s 0 h1.1, h1.2]; rfl
      · unfold bodyB; rw [if_pos hmi]
      · unfold bodyB; rw [if_pos hmi, ByteArray.size_extract]; have := h1.1; omega
    | false =>
      right
      refine ⟨rfl, ?_, fun h0 => ?_⟩
      · unfold bodyB; rw [if_neg (by rw [hmi]; decide)]
      · unfold minusB at hmi
        rw [decide_eq_true h0, Bool.true_and, decide_eq_false_iff_not, byteAt_eq s 0 h0] at hmi
        rw [beq_eq_false_iff_ne]; omega
  obtain ⟨d, hbd, hds, hcase⟩ := hfront
  rw [hbd] at hq Bf Bd Gn Tb NT N3 N4
  have Hbd := Lib.hid hbd
  clear hbd
  have hl0 : ∀ h0 : 0 < d.size, 1 < d.size → (((d[0]'h0).toNat : Int) == 48) = lead0 d := fun h0 h1 => by
    unfold lead0
    rw [decide_eq_true h1, Bool.true_and, byteAt_eq d 0 h0]
    rw [Bool.eq_iff_iff, beq_iff_eq, decide_eq_true_eq]; omega
  have Hl0 := Lib.hid hl0
  clear hl0
  have step1 : ∀ mi : Bool, minusB s = mi → (mi = true → ∃ h0 : 0 < s.size, (((s[0]'h0).toNat : Int) == 45) = true ∧ s.extract 1 s.size = d ∧ d.size < s.size) → (mi = false → d = s ∧ ∀ h0 : 0 < s.size, (((s[0]'h0).toNat : Int) == 45) = false) →
      Calls Tryd.prog 27 #[.string s] w (NumP s w) := by
    intro mi hmi hT hF
    have Hmi := Lib.hid hmi
    clear hmi
    cases mi with
    | true =>
      obtain ⟨h0, hb45, hext, hlts⟩ := hT rfl
      clear hT hF
      by_cases hsz : d.size < 1
      · have HN := Lib.hid (Nb.out (Bf.out (.inl hsz)))
        go_enter Tryd.func27, Tryd.ntmps27
        go_wp2_with fail
        go_ret2
        exact ⟨by rw [HN.out.1, HN.out.2]; rfl, Below.refl _ _⟩
      by_cases h19 : d.size ≤ 19
      · have h1 : 1 ≤ d.size := by omega
        have hd0 : 0 < d.size := by omega
        cases hlead : lead0 d with
        | true =>
          have HN := Lib.hid (Nb.out (Bf.out (.inr (.inr (.inl hlead)))))
          have h1' : 1 < d.size := by unfold lead0 at hlead; simp only [Bool.and_eq_true, decide_eq_true_eq] at hlead; exact hlead.1
          have hb48 := Hl0.out hd0 h1'
          rw [hlead] at hb48
          clear hlead
          go_enter Tryd.func27, Tryd.ntmps27
          go_wp2_with fail
          go_ret2
          exact ⟨by rw [HN.out.1, HN.out.2]; rfl, Below.refl _ _⟩
        | false =>
          have hb48 : ∀ h1' : 1 < d.size, (((d[0]'hd0).toNat : Int) == 48) = false := fun h1' => (Hl0.out hd0 h1').trans hlead
          cases hdash : (minusB s && zeroB d) with
          | true =>
            have HN := Lib.hid (Nb.out (Bf.out (.inr (.inr (.inr hdash)))))
            rw [hdash] at hq
            clear hdash
            by_cases h1' : 1 < d.size
            · have hb48' := hb48 h1'
              clear hb48
              go_enter Tryd.func27, Tryd.ntmps27
              go_wp2_with fail
              go_ret2
              exact ⟨by rw [HN.out.1, HN.out.2]; rfl, Below.refl _ _⟩
            · clear hb48
              go_enter Tryd.func27, Tryd.ntmps27
              go_wp2_with fail
              go_ret2
              exact ⟨by rw [HN.out.1, HN.out.2]; rfl, Below.refl _ _⟩
          | false =>
            rw [hdash] at hq
            by_cases h1' : 1 < d.size
            · have hb48' := hb48 h1'
              clear hb48
              go_enter Tryd.func27, Tryd.ntmps27
              go_wp2_with fail
              go_loopw [44] (fun i wr => ∃ k : Nat, k ≤ d.size ∧ i = .int .i64 k ∧ w = wr ∧ Hid (∀ j, j < k → isDigit (byteAt d j) = true)) (fun i _ => d.size - (intOf i).toNat)
              case atStart => exact ⟨0, Nat.zero_le _, rfl, rfl, fun j hj => by omega⟩
              case round =>
                obtain ⟨k, hk, rfl, rfl, hdig⟩ := hrel
                by_cases hlt : k < d.size
                · obtain ⟨b, hb⟩ : ∃ b : Nat, (d[k]'hlt).toNat = b := ⟨_, rfl⟩
                  have Hb : Hid (byteAt d k = b) := (byteAt_eq d k hlt).trans hb
                  by_cases hr : 48 ≤ b ∧ b ≤ 57
                  · obtain ⟨r1, r2⟩ := hr
                    have Hn : Hid (∀ j, j < k + 1 → isDigit (byteAt d j) = true) := fun j hj => by
                      rcases Nat.lt_succ_iff_lt_or_eq.1 hj with h | rfl
                      · exact hdig.out j h
                      · rw [Hb.out]; unfold isDigit; rw [decide_eq_true r1, decide_eq_true r2]; rfl
                    go_wp2_with fail
                    go_roundw
                    case rel => exact ⟨k + 1, by omega, by go_num, by first | rfl | trivial, Hn⟩
                    case measure => simp [intOf]; omega
                  · have HF : Hid (isDigit (byteAt d k) = false) := by
                      show _ = _
                      rw [Hb.out]; unfold isDigit
                      by_cases r1 : 48 ≤ b
                      · rw [decide_eq_true r1, decide_eq_false (by omega)]; rfl
                      · rw [decide_eq_false r1]; rfl
                    have HN := Lib.hid (Nb.out (Bd.out (not_allDig d k hlt HF.out)))
                    by_cases r1 : 48 ≤ b
                    · have r2 : 57 < b := by omega
                      clear hr
                      go_wp2_with fail
                      go_ret2
                      exact ⟨by rw [HN.out.1, HN.out.2]; rfl, Below.refl _ _⟩
                    · clear hr
                      go_wp2_with fail
                      go_ret2
                      exact ⟨by rw [HN.out.1, HN.out.2]; rfl, Below.refl _ _⟩
                · have ek : k = d.size := by omega
                  have HA : Hid (allDig d = true) := (allDig_iff d).2 fun j hj => hdig.out j (by omega)
                  have HG := Lib.hid (Gn.out h1 h19 hlead hdash HA.out)
                  clear hdig ek
                  go_wp2_with fail
                  go_loopw [5, 60] (fun le i wr => ∃ k P : Nat, k ≤ d.size ∧ i = .int .i64 k ∧ le = .int .i64 (-(P : Int)) ∧ Hid (P = valN d k) ∧ Hid (P ≤ 9223372036854775808) ∧ w = wr) (fun _ i _ => d.size - (intOf i).toNat)
                  case atStart => exact ⟨0, 0, Nat.zero_le _, rfl, by simp, rfl, Nat.zero_le _, rfl⟩
                  case round =>
                    obtain ⟨k, P, hk, rfl, rfl, hP, hPm, rfl⟩ := hrel
                    by_cases hlt : k < d.size
                    · obtain ⟨b, hb⟩ : ∃ b : Nat, (d[k]'hlt).toNat = b := ⟨_, rfl⟩
                      have hd9 : 48 ≤ b ∧ b ≤ 57 := by
                        have := (allDig_iff d).1 HA.out k hlt
                        rw [(byteAt_eq d k hlt).trans hb] at this
                        unfold isDigit at this
                        simpa using this
                      obtain ⟨r1, r2⟩ := hd9
                      have Hs : Hid (valN d (k + 1) = P * 10 + (b - 48)) := by
                        show valN d k * 10 + (byteAt d k - 48) = _
                        rw [← hP.out, (byteAt_eq d k hlt).trans hb]
                      by_cases hbig : 9223372036854775808 < P * 10 + (b - 48)
                      · have HN := Lib.hid (N2.out HG.out (Tb.out (k + 1) (by omega) (by rw [Hs.out]; exact hbig)))
                        by_cases hx : 922337203685477580 < P
                        · have t1 : decide ((922337203685477580 : Int) < (P : Int)) = true := decide_eq_true (by omega)
                          clear hx hbig
                          go_wp2_with fail
                          go_ret2
                          exact ⟨by rw [HN.out.1, HN.out.2]; rfl, Below.refl _ _⟩
                        · have t1 : decide ((922337203685477580 : Int) < (P : Int)) = false := decide_eq_false (by omega)
                          have t2 : (P : Int) = 922337203685477580 := by omega
                          have r3 : 56 < b := by omega
                          clear hx hbig
                          go_wp2_with fail
                          go_ret2
                          exact ⟨by rw [HN.out.1, HN.out.2]; rfl, Below.refl _ _⟩
                      · have Hle : Hid (P * 10 + (b - 48) ≤ 9223372036854775808) := by show _ ≤ _; omega
                        have t1 : decide ((922337203685477580 : Int) < (P : Int)) = false := decide_eq_false (by omega)
                        have hsum : -9223372036854775808 ≤ 10 * -(P : Int) - ((b : Int) - 48) := by omega
                        have hsum2 : -9223372036854775808 ≤ 10 * -(P : Int) := by omega
                        by_cases hx : P = 922337203685477580
                        · have t2 : (P : Int) = 922337203685477580 := by omega
                          have r3 : b ≤ 56 := by omega
                          clear hx hbig
                          go_wp2_with fail
                          go_roundw
                          case rel => exact ⟨k + 1, P * 10 + (b - 48), by omega, by go_num, int_eq (by omega), Hs.out.symm, Hle, by first | rfl | trivial⟩
                          case measure => simp [intOf]; omega
                        · have t2 : ¬ (P : Int) = 922337203685477580 := by omega
                          clear hx hbig
                          go_wp2_with fail
                          go_roundw
                          case rel => exact ⟨k + 1, P * 10 + (b - 48), by omega, by go_num, int_eq (by omega), Hs.out.symm, Hle, by first | rfl | trivial⟩
                          case measure => simp [intOf]; omega
                    · have ek : k = d.size := by omega
                      have HV : Hid (P = valB d) := by show _ = _; rw [hP.out, ek]; rfl
                      clear ek
                      have HN := Lib.hid (N3.out HG.out (by rw [NT.out, Hmi.out, ← HV.out]; have := hPm.out; simp; omega) Hmi.out)
                      rw [← HV.out] at HN
                      go_wp2_with fail
                      go_ret2
                      refine ⟨?_, Below.refl _ _⟩
                      rw [HN.out.1, HN.out.2]
                      rfl
            · clear hb48
              go_enter Tryd.func27, Tryd.ntmps27
              go_wp2_with fail
              go_loopw [44] (fun i wr => ∃ k : Nat, k ≤ d.size ∧ i = .int .i64 k ∧ w = wr ∧ Hid (∀ j, j < k → isDigit (byteAt d j) = true)) (fun i _ => d.size - (intOf i).toNat)
              case atStart => exact ⟨0, Nat.zero_le _, rfl, rfl, fun j hj => by omega⟩
              case round =>
                obtain ⟨k, hk, rfl, rfl, hdig⟩ := hrel
                by_cases hlt : k < d.size
                · obtain ⟨b, hb⟩ : ∃ b : Nat, (d[k]'hlt).toNat = b := ⟨_, rfl⟩
                  have Hb : Hid (byteAt d k = b) := (byteAt_eq d k hlt).trans hb
                  by_cases hr : 48 ≤ b ∧ b ≤ 57
                  · obtain ⟨r1, r2⟩ := hr
                    have Hn : Hid (∀ j, j < k + 1 → isDigit (byteAt d j) = true) := fun j hj => by
                      rcases Nat.lt_succ_iff_lt_or_eq.1 hj with h | rfl
                      · exact hdig.out j h
                      · rw [Hb.out]; unfold isDigit; rw [decide_eq_true r1, decide_eq_true r2]; rfl
                    go_wp2_with fail
                    go_roundw
                    case rel => exact ⟨k + 1, by omega, by go_num, by first | rfl | trivial, Hn⟩
                    case measure => simp [intOf]; omega
                  · have HF : Hid (isDigit (byteAt d k) = false) := by
                      show _ = _
                      rw [Hb.out]; unfold isDigit
                      by_cases r1 : 48 ≤ b
                      · rw [decide_eq_true r1, decide_eq_false (by omega)]; rfl
                      · rw [decide_eq_false r1]; rfl
                    have HN := Lib.hid (Nb.out (Bd.out (not_allDig d k hlt HF.out)))
                    by_cases r1 : 48 ≤ b
                    · have r2 : 57 < b := by omega
                      clear hr
                      go_wp2_with fail
                      go_ret2
                      exact ⟨by rw [HN.out.1, HN.out.2]; rfl, Below.refl _ _⟩
                    · clear hr
                      go_wp2_with fail
                      go_ret2
                      exact ⟨by rw [HN.out.1, HN.out.2]; rfl, Below.refl _ _⟩
                · have ek : k = d.size := by omega
                  have HA : Hid (allDig d = true) := (allDig_iff d).2 fun j hj => hdig.out j (by omega)
                  have HG := Lib.hid (Gn.out h1 h19 hlead hdash HA.out)
                  clear hdig ek
                  go_wp2_with fail
                  go_loopw [5, 60] (fun le i wr => ∃ k P : Nat, k ≤ d.size ∧ i = .int .i64 k ∧ le = .int .i64 (-(P : Int)) ∧ Hid (P = valN d k) ∧ Hid (P ≤ 9223372036854775808) ∧ w = wr) (fun _ i _ => d.size - (intOf i).toNat)
                  case atStart => exact ⟨0, 0, Nat.zero_le _, rfl, by simp, rfl, Nat.zero_le _, rfl⟩
                  case round =>
                    obtain ⟨k, P, hk, rfl, rfl, hP, hPm, rfl⟩ := hrel
                    by_cases hlt : k < d.size
                    · obtain ⟨b, hb⟩ : ∃ b : Nat, (d[k]'hlt).toNat = b := ⟨_, rfl⟩
                      have hd9 : 48 ≤ b ∧ b ≤ 57 := by
                        have := (allDig_iff d).1 HA.out k hlt
                        rw [(byteAt_eq d k hlt).trans hb] at this
                        unfold isDigit at this
                        simpa using this
                      obtain ⟨r1, r2⟩ := hd9
                      have Hs : Hid (valN d (k + 1) = P * 10 + (b - 48)) := by
                        show valN d k * 10 + (byteAt d k - 48) = _
                        rw [← hP.out, (byteAt_eq d k hlt).trans hb]
                      by_cases hbig : 9223372036854775808 < P * 10 + (b - 48)
                      · have HN := Lib.hid (N2.out HG.out (Tb.out (k + 1) (by omega) (by rw [Hs.out]; exact hbig)))
                        by_cases hx : 922337203685477580 < P
                        · have t1 : decide ((922337203685477580 : Int) < (P : Int)) = true := decide_eq_true (by omega)
                          clear hx hbig
                          go_wp2_with fail
                          go_ret2
                          exact ⟨by rw [HN.out.1, HN.out.2]; rfl, Below.refl _ _⟩
                        · have t1 : decide ((922337203685477580 : Int) < (P : Int)) = false := decide_eq_false (by omega)
                          have t2 : (P : Int) = 922337203685477580 := by omega
                          have r3 : 56 < b := by omega
                          clear hx hbig
                          go_wp2_with fail
                          go_ret2
                          exact ⟨by rw [HN.out.1, HN.out.2]; rfl, Below.refl _ _⟩
                      · have Hle : Hid (P * 10 + (b - 48) ≤ 9223372036854775808) := by show _ ≤ _; omega
                        have t1 : decide ((922337203685477580 : Int) < (P : Int)) = false := decide_eq_false (by omega)
                        have hsum : -9223372036854775808 ≤ 10 * -(P : Int) - ((b : Int) - 48) := by omega
                        have hsum2 : -9223372036854775808 ≤ 10 * -(P : Int) := by omega
                        by_cases hx : P = 922337203685477580
                        · have t2 : (P : Int) = 922337203685477580 := by omega
                          have r3 : b ≤ 56 := by omega
                          clear hx hbig
                          go_wp2_with fail
                          go_roundw
                          case rel => exact ⟨k + 1, P * 10 + (b - 48), by omega, by go_num, int_eq (by omega), Hs.out.symm, Hle, by first | rfl | trivial⟩
                          case measure => simp [intOf]; omega
                        · have t2 : ¬ (P : Int) = 922337203685477580 := by omega
                          clear hx hbig
                          go_wp2_with fail
                          go_roundw
                          case rel => exact ⟨k + 1, P * 10 + (b - 48), by omega, by go_num, int_eq (by omega), Hs.out.symm, Hle, by first | rfl | trivial⟩
                          case measure => simp [intOf]; omega
                    · have ek : k = d.size := by omega
                      have HV : Hid (P = valB d) := by show _ = _; rw [hP.out, ek]; rfl
                      clear ek
                      have HN := Lib.hid (N3.out HG.out (by rw [NT.out, Hmi.out, ← HV.out]; have := hPm.out; simp; omega) Hmi.out)
                      rw [← HV.out] at HN
                      go_wp2_with fail
                      go_ret2
                      refine ⟨?_, Below.refl _ _⟩
                      rw [HN.out.1, HN.out.2]
                      rfl
      · have h19' : 19 < d.size := by omega
        have HN := Lib.hid (Nb.out (Bf.out (.inr (.inl h19'))))
        go_enter Tryd.func27, Tryd.ntmps27
        go_wp2_with fail
        go_ret2
        exact ⟨by rw [HN.out.1, HN.out.2]; rfl, Below.refl _ _⟩
    | false =>
      obtain ⟨hds', hF0⟩ := hF rfl
      clear hT hF
      subst hds'
      by_cases hsz : d.size < 1
      · have HN := Lib.hid (Nb.out (Bf.out (.inl hsz)))
        skip
        go_enter Tryd.func27, Tryd.ntmps27
        go_wp2_with fail
        go_ret2
        exact ⟨by rw [HN.out.1, HN.out.2]; rfl, Below.refl _ _⟩
      by_cases h19 : d.size ≤ 19
      · have h0 : 0 < d.size := by omega
        have hb45 := hF0 h0
        have h1 : 1 ≤ d.size := by omega
        have hd0 : 0 < d.size := by omega
        cases hlead : lead0 d with
        | true =>
          have HN := Lib.hid (Nb.out (Bf.out (.inr (.inr (.inl hlead)))))
          have h1' : 1 < d.size := by unfold lead0 at hlead; simp only [Bool.and_eq_true, decide_eq_true_eq] at hlead; exact hlead.1
          have hb48 := Hl0.out hd0 h1'
          rw [hlead] at hb48
          clear hlead
          go_enter Tryd.func27, Tryd.ntmps27
          go_wp2_with fail
          go_ret2
          exact ⟨by rw [HN.out.1, HN.out.2]; rfl, Below.refl _ _⟩
        | false =>
          have hb48 : ∀ h1' : 1 < d.size, (((d[0]'hd0).toNat : Int) == 48) = false := fun h1' => (Hl0.out hd0 h1').trans hlead
          have hdash : (minusB d && zeroB d) = false := by rw [Hmi.out]; rfl
          rw [hdash] at hq
          by_cases h1' : 1 < d.size
          · have hb48' := hb48 h1'
            clear hb48
            go_enter Tryd.func27, Tryd.ntmps27
            go_wp2_with fail
            go_loopw [44] (fun i wr => ∃ k : Nat, k ≤ d.size ∧ i = .int .i64 k ∧ w = wr ∧ Hid (∀ j, j < k → isDigit (byteAt d j) = true)) (fun i _ => d.size - (intOf i).toNat)
            case atStart => exact ⟨0, Nat.zero_le _, rfl, rfl, fun j hj => by omega⟩
            case round =>
              obtain ⟨k, hk, rfl, rfl, hdig⟩ := hrel
              by_cases hlt : k < d.size
              · obtain ⟨b, hb⟩ : ∃ b : Nat, (d[k]'hlt).toNat = b := ⟨_, rfl⟩
                have Hb : Hid (byteAt d k = b) := (byteAt_eq d k hlt).trans hb
                by_cases hr : 48 ≤ b ∧ b ≤ 57
                · obtain ⟨r1, r2⟩ := hr
                  have Hn : Hid (∀ j, j < k + 1 → isDigit (byteAt d j) = true) := fun j hj => by
                    rcases Nat.lt_succ_iff_lt_or_eq.1 hj with h | rfl
                    · exact hdig.out j h
                    · rw [Hb.out]; unfold isDigit; rw [decide_eq_true r1, decide_eq_true r2]; rfl
                  go_wp2_with fail
                  go_roundw
                  case rel => exact ⟨k + 1, by omega, by go_num, by first | rfl | trivial, Hn⟩
                  case measure => simp [intOf]; omega
                · have HF : Hid (isDigit (byteAt d k) = false) := by
                    show _ = _
                    rw [Hb.out]; unfold isDigit
                    by_cases r1 : 48 ≤ b
                    · rw [decide_eq_true r1, decide_eq_false (by omega)]; rfl
                    · rw [decide_eq_false r1]; rfl
                  have HN := Lib.hid (Nb.out (Bd.out (not_allDig d k hlt HF.out)))
                  by_cases r1 : 48 ≤ b
                  · have r2 : 57 < b := by omega
                    clear hr
                    go_wp2_with fail
                    go_ret2
                    exact ⟨by rw [HN.out.1, HN.out.2]; rfl, Below.refl _ _⟩
                  · clear hr
                    go_wp2_with fail
                    go_ret2
                    exact ⟨by rw [HN.out.1, HN.out.2]; rfl, Below.refl _ _⟩
              · have ek : k = d.size := by omega
                have HA : Hid (allDig d = true) := (allDig_iff d).2 fun j hj => hdig.out j (by omega)
                have HG := Lib.hid (Gn.out h1 h19 hlead hdash HA.out)
                clear hdig ek
                go_wp2_with fail
                go_loopw [5, 60] (fun le i wr => ∃ k P : Nat, k ≤ d.size ∧ i = .int .i64 k ∧ le = .int .i64 (-(P : Int)) ∧ Hid (P = valN d k) ∧ Hid (P ≤ 9223372036854775808) ∧ w = wr) (fun _ i _ => d.size - (intOf i).toNat)
                case atStart => exact ⟨0, 0, Nat.zero_le _, rfl, by simp, rfl, Nat.zero_le _, rfl⟩
                case round =>
                  obtain ⟨k, P, hk, rfl, rfl, hP, hPm, rfl⟩ := hrel
                  by_cases hlt : k < d.size
                  · obtain ⟨b, hb⟩ : ∃ b : Nat, (d[k]'hlt).toNat = b := ⟨_, rfl⟩
                    have hd9 : 48 ≤ b ∧ b ≤ 57 := by
                      have := (allDig_iff d).1 HA.out k hlt
                      rw [(byteAt_eq d k hlt).trans hb] at this
                      unfold isDigit at this
                      simpa using this
                    obtain ⟨r1, r2⟩ := hd9
                    have Hs : Hid (valN d (k + 1) = P * 10 + (b - 48)) := by
                      show valN d k * 10 + (byteAt d k - 48) = _
                      rw [← hP.out, (byteAt_eq d k hlt).trans hb]
                    by_cases hbig : 9223372036854775808 < P * 10 + (b - 48)
                    · have HN := Lib.hid (N2.out HG.out (Tb.out (k + 1) (by omega) (by rw [Hs.out]; exact hbig)))
                      by_cases hx : 922337203685477580 < P
                      · have t1 : decide ((922337203685477580 : Int) < (P : Int)) = true := decide_eq_true (by omega)
                        clear hx hbig
                        go_wp2_with fail
                        go_ret2
                        exact ⟨by rw [HN.out.1, HN.out.2]; rfl, Below.refl _ _⟩
                      · have t1 : decide ((922337203685477580 : Int) < (P : Int)) = false := decide_eq_false (by omega)
                        have t2 : (P : Int) = 922337203685477580 := by omega
                        have r3 : 56 < b := by omega
                        clear hx hbig
                        go_wp2_with fail
                        go_ret2
                        exact ⟨by rw [HN.out.1, HN.out.2]; rfl, Below.refl _ _⟩
                    · have Hle : Hid (P * 10 + (b - 48) ≤ 9223372036854775808) := by show _ ≤ _; omega
                      have t1 : decide ((922337203685477580 : Int) < (P : Int)) = false := decide_eq_false (by omega)
                      have hsum : -9223372036854775808 ≤ 10 * -(P : Int) - ((b : Int) - 48) := by omega
                      have hsum2 : -9223372036854775808 ≤ 10 * -(P : Int) := by omega
                      by_cases hx : P = 922337203685477580
                      · have t2 : (P : Int) = 922337203685477580 := by omega
                        have r3 : b ≤ 56 := by omega
                        clear hx hbig
                        go_wp2_with fail
                        go_roundw
                        case rel => exact ⟨k + 1, P * 10 + (b - 48), by omega, by go_num, int_eq (by omega), Hs.out.symm, Hle, by first | rfl | trivial⟩
                        case measure => simp [intOf]; omega
                      · have t2 : ¬ (P : Int) = 922337203685477580 := by omega
                        clear hx hbig
                        go_wp2_with fail
                        go_roundw
                        case rel => exact ⟨k + 1, P * 10 + (b - 48), by omega, by go_num, int_eq (by omega), Hs.out.symm, Hle, by first | rfl | trivial⟩
                        case measure => simp [intOf]; omega
                  · have ek : k = d.size := by omega
                    have HV : Hid (P = valB d) := by show _ = _; rw [hP.out, ek]; rfl
                    clear ek
                    by_cases hx : P = 9223372036854775808
                    · have HN := Lib.hid (N2.out HG.out (by rw [NT.out, Hmi.out, ← HV.out]; simp; omega))
                      have t4 : (P : Int) = 9223372036854775808 := by omega
                      clear hx
                      go_wp2_with fail
                      go_ret2
                      exact ⟨by rw [HN.out.1, HN.out.2]; rfl, Below.refl _ _⟩
                    · have hp7 : P ≤ 9223372036854775807 := by have := hPm.out; omega
                      have HN := Lib.hid (N4.out HG.out (by rw [NT.out, Hmi.out, ← HV.out]; simp; omega) Hmi.out)
                      rw [← HV.out] at HN
                      have t4 : ¬ (P : Int) = 9223372036854775808 := by omega
                      clear hx
                      go_wp2_with fail
                      go_ret2
                      refine ⟨?_, Below.refl _ _⟩
                      rw [HN.out.1, HN.out.2]
                      exact ret_pair (by omega)
          · clear hb48
            go_enter Tryd.func27, Tryd.ntmps27
            go_wp2_with fail
            go_loopw [44] (fun i wr => ∃ k : Nat, k ≤ d.size ∧ i = .int .i64 k ∧ w = wr ∧ Hid (∀ j, j < k → isDigit (byteAt d j) = true)) (fun i _ => d.size - (intOf i).toNat)
            case atStart => exact ⟨0, Nat.zero_le _, rfl, rfl, fun j hj => by omega⟩
            case round =>
              obtain ⟨k, hk, rfl, rfl, hdig⟩ := hrel
              by_cases hlt : k < d.size
              · obtain ⟨b, hb⟩ : ∃ b : Nat, (d[k]'hlt).toNat = b := ⟨_, rfl⟩
                have Hb : Hid (byteAt d k = b) := (byteAt_eq d k hlt).trans hb
                by_cases hr : 48 ≤ b ∧ b ≤ 57
                · obtain ⟨r1, r2⟩ := hr
                  have Hn : Hid (∀ j, j < k + 1 → isDigit (byteAt d j) = true) := fun j hj => by
                    rcases Nat.lt_succ_iff_lt_or_eq.1 hj with h | rfl
                    · exact hdig.out j h
                    · rw [Hb.out]; unfold isDigit; rw [decide_eq_true r1, decide_eq_true r2]; rfl
                  go_wp2_with fail
                  go_roundw
                  case rel => exact ⟨k + 1, by omega, by go_num, by first | rfl | trivial, Hn⟩
                  case measure => simp [intOf]; omega
                · have HF : Hid (isDigit (byteAt d k) = false) := by
                    show _ = _
                    rw [Hb.out]; unfold isDigit
                    by_cases r1 : 48 ≤ b
                    · rw [decide_eq_true r1, decide_eq_false (by omega)]; rfl
                    · rw [decide_eq_false r1]; rfl
                  have HN := Lib.hid (Nb.out (Bd.out (not_allDig d k hlt HF.out)))
                  by_cases r1 : 48 ≤ b
                  · have r2 : 57 < b := by omega
                    clear hr
                    go_wp2_with fail
                    go_ret2
                    exact ⟨by rw [HN.out.1, HN.out.2]; rfl, Below.refl _ _⟩
                  · clear hr
                    go_wp2_with fail
                    go_ret2
                    exact ⟨by rw [HN.out.1, HN.out.2]; rfl, Below.refl _ _⟩
              · have ek : k = d.size := by omega
                have HA : Hid (allDig d = true) := (allDig_iff d).2 fun j hj => hdig.out j (by omega)
                have HG := Lib.hid (Gn.out h1 h19 hlead hdash HA.out)
                clear hdig ek
                go_wp2_with fail
                go_loopw [5, 60] (fun le i wr => ∃ k P : Nat, k ≤ d.size ∧ i = .int .i64 k ∧ le = .int .i64 (-(P : Int)) ∧ Hid (P = valN d k) ∧ Hid (P ≤ 9223372036854775808) ∧ w = wr) (fun _ i _ => d.size - (intOf i).toNat)
                case atStart => exact ⟨0, 0, Nat.zero_le _, rfl, by simp, rfl, Nat.zero_le _, rfl⟩
                case round =>
                  obtain ⟨k, P, hk, rfl, rfl, hP, hPm, rfl⟩ := hrel
                  by_cases hlt : k < d.size
                  · obtain ⟨b, hb⟩ : ∃ b : Nat, (d[k]'hlt).toNat = b := ⟨_, rfl⟩
                    have hd9 : 48 ≤ b ∧ b ≤ 57 := by
                      have := (allDig_iff d).1 HA.out k hlt
                      rw [(byteAt_eq d k hlt).trans hb] at this
                      unfold isDigit at this
                      simpa using this
                    obtain ⟨r1, r2⟩ := hd9
                    have Hs : Hid (valN d (k + 1) = P * 10 + (b - 48)) := by
                      show valN d k * 10 + (byteAt d k - 48) = _
                      rw [← hP.out, (byteAt_eq d k hlt).trans hb]
                    by_cases hbig : 9223372036854775808 < P * 10 + (b - 48)
                    · have HN := Lib.hid (N2.out HG.out (Tb.out (k + 1) (by omega) (by rw [Hs.out]; exact hbig)))
                      by_cases hx : 922337203685477580 < P
                      · have t1 : decide ((922337203685477580 : Int) < (P : Int)) = true := decide_eq_true (by omega)
                        clear hx hbig
                        go_wp2_with fail
                        go_ret2
                        exact ⟨by rw [HN.out.1, HN.out.2]; rfl, Below.refl _ _⟩
                      · have t1 : decide ((922337203685477580 : Int) < (P : Int)) = false := decide_eq_false (by omega)
                        have t2 : (P : Int) = 922337203685477580 := by omega
                        have r3 : 56 < b := by omega
                        clear hx hbig
                        go_wp2_with fail
                        go_ret2
                        exact ⟨by rw [HN.out.1, HN.out.2]; rfl, Below.refl _ _⟩
                    · have Hle : Hid (P * 10 + (b - 48) ≤ 9223372036854775808) := by show _ ≤ _; omega
                      have t1 : decide ((922337203685477580 : Int) < (P : Int)) = false := decide_eq_false (by omega)
                      have hsum : -9223372036854775808 ≤ 10 * -(P : Int) - ((b : Int) - 48) := by omega
                      have hsum2 : -9223372036854775808 ≤ 10 * -(P : Int) := by omega
                      by_cases hx : P = 922337203685477580
                      · have t2 : (P : Int) = 922337203685477580 := by omega
                        have r3 : b ≤ 56 := by omega
                        clear hx hbig
                        go_wp2_with fail
                        go_roundw
                        case rel => exact ⟨k + 1, P * 10 + (b - 48), by omega, by go_num, int_eq (by omega), Hs.out.symm, Hle, by first | rfl | trivial⟩
                        case measure => simp [intOf]; omega
                      · have t2 : ¬ (P : Int) = 922337203685477580 := by omega
                        clear hx hbig
                        go_wp2_with fail
                        go_roundw
                        case rel => exact ⟨k + 1, P * 10 + (b - 48), by omega, by go_num, int_eq (by omega), Hs.out.symm, Hle, by first | rfl | trivial⟩
                        case measure => simp [intOf]; omega
                  · have ek : k = d.size := by omega
                    have HV : Hid (P = valB d) := by show _ = _; rw [hP.out, ek]; rfl
                    clear ek
                    by_cases hx : P = 9223372036854775808
                    · have HN := Lib.hid (N2.out HG.out (by rw [NT.out, Hmi.out, ← HV.out]; simp; omega))
                      have t4 : (P : Int) = 9223372036854775808 := by omega
                      clear hx
                      go_wp2_with fail
                      go_ret2
                      exact ⟨by rw [HN.out.1, HN.out.2]; rfl, Below.refl _ _⟩
                    · have hp7 : P ≤ 9223372036854775807 := by have := hPm.out; omega
                      have HN := Lib.hid (N4.out HG.out (by rw [NT.out, Hmi.out, ← HV.out]; simp; omega) Hmi.out)
                      rw [← HV.out] at HN
                      have t4 : ¬ (P : Int) = 9223372036854775808 := by omega
                      clear hx
                      go_wp2_with fail
                      go_ret2
                      refine ⟨?_, Below.refl _ _⟩
                      rw [HN.out.1, HN.out.2]
                      exact ret_pair (by omega)
      · have h0 : 0 < d.size := by omega
        have hb45 := hF0 h0
        have h19' : 19 < d.size := by omega
        have HN := Lib.hid (Nb.out (Bf.out (.inr (.inl h19'))))
        go_enter Tryd.func27, Tryd.ntmps27
        go_wp2_with fail
        go_ret2
        exact ⟨by rw [HN.out.1, HN.out.2]; rfl, Below.refl _ _⟩
  rcases hcase with ⟨h1, h2⟩ | ⟨h1, h2, h3⟩
  · exact step1 true h1 (fun _ => h2) (fun h => by cases h)
  · exact step1 false h1 (fun h => by cases h) (fun _ => ⟨h2, h3⟩)

end Go.Proofs.YthmibccjnhmegaaDoor
