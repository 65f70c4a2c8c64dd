/-
  Walks: the number that a text is, by the package (Number).
-/
import Derived.Test.YthmibccjnhmegaaDoorB9
namespace Go.Proofs.YthmibccjnhmegaaDoor
set_option linter.unusedVariables false
set_option linter.unusedSimpArgs false
open Go.RowKit

def NumP (s : ByteArray) (w : World) (e : Ending) (w' : World) : Prop := e = .returned (.tuple #[.int .i64 (numV s), .int .i64 (numE s)]) ∧ Below w.heap.size w w'

theorem num_bad (s : ByteArray) (h : badNum s = true) : numV s = 0 ∧ numE s = 23 := by simp [numV, numE, h]
theorem num_big (s : ByteArray) (h : badNum s = false) (h2 : tooBig s = true) : numV s = 0 ∧ numE s = 5 := by simp [numV, numE, h, h2]
theorem num_neg (s : ByteArray) (h : badNum s = false) (h2 : tooBig s = false) (h3 : minusB s = true) : numV s = -(valB (bodyB s) : Int) ∧ numE s = 0 := by simp [numV, numE, h, h2, h3]
theorem num_pos (s : ByteArray) (h : badNum s = false) (h2 : tooBig s = false) (h3 : minusB s = false) : numV s = (valB (bodyB s) : Int) ∧ numE s = 0 := by simp [numV, numE, h, h2, h3]
theorem neg_wrap (V : Nat) (h : V ≤ 9223372036854775808) : wrap64 (IntKind.u64.wrap (-(V : Int))) = -(V : Int) := by
  rw [IntKind.wrap_u64]; unfold wrap64; omega
theorem ret_pair {a b : Int} (h : a = b) : Ending.returned (.tuple #[.int .i64 a, .int .i64 0]) = .returned (.tuple #[.int .i64 b, .int .i64 0]) := by rw [h]
theorem zero_test (d : ByteArray) : (d.toList == [48]) = zeroB d := by
  have e : (⟨#[48]⟩ : ByteArray).toList = [48] := by rw [ByteArray.toList_eq]
  rw [← e, ← beq_toListBytes, beq_bytes]; rfl

theorem dig_parts (d : ByteArray) (h : digB d = true) : 1 ≤ d.size ∧ d.size ≤ 19 ∧ lead0 d = false ∧ allDig d = true := by
  unfold digB at h
  simp only [Bool.and_eq_true, decide_eq_true_eq, Bool.not_eq_true'] at h
  obtain ⟨⟨⟨h1, h2⟩, h3⟩, h4⟩ := h
  exact ⟨h1, h2, h3, h4⟩

theorem bodyB_size (s : ByteArray) : (bodyB s).size ≤ s.size := by
  unfold bodyB; split
  · rw [ByteArray.size_extract]; omega
  · exact Nat.le_refl _

set_option maxRecDepth 100000 in
set_option maxHeartbeats 2000000 in
theorem Number_any (s : ByteArray) (w : World) (hs : s.size ≤ 1073741824) :
    Calls Tryd.prog 26 #[.string s] w (NumP s w) := by
  have hc1 := Lib.hid (CutPrefix_minus s w)
  have hbs := bodyB_size s
  have hc2 := Lib.hid (digits_any (bodyB s) w (by omega))
  cases hd : digB (bodyB s) with
  | false =>
    have HN := Lib.hid (num_bad s (by unfold badNum; rw [hd]; rfl))
    have hc2' : Hid (Calls Tryd.prog 42 #[.string (bodyB s)] w fun e w' => e = .returned (.bool false) ∧ Below w.heap.size w w') := by
      have := hc2.out; unfold DigP at this; rw [hd] at this; exact this
    clear hd hc2 hbs
    generalize bodyB s = d at *
    generalize minusB s = mi at *
    go_enter Tryd.func26, Tryd.ntmps26
    go_wp2_with fail
    go_fit hc1.out
    rintro e w' ⟨rfl, rfl⟩
    go_wp2_with fail
    go_fit hc2'.out
    rintro e w1 ⟨rfl, hb1⟩
    have Hb1 := Lib.hid hb1
    clear hb1
    go_wp2_with fail
    go_ret2
    exact ⟨by rw [HN.out.1, HN.out.2]; rfl, Hb1.out⟩
  | true =>
    have hc2' : Hid (Calls Tryd.prog 42 #[.string (bodyB s)] w fun e w' => e = .returned (.bool true) ∧ Below w.heap.size w w') := by
      have := hc2.out; unfold DigP at this; rw [hd] at this; exact this
    have hz := zero_test (bodyB s)
    obtain ⟨d1, d19, _, dall⟩ := dig_parts _ hd
    have Hall : Hid (∀ k, k < (bodyB s).size → 48 ≤ byteAt (bodyB s) k ∧ byteAt (bodyB s) k ≤ 57) := fun k hk => by
      have := (allDig_iff _).1 dall k hk
      unfold isDigit at this
      simpa using this
    have H18 : Hid (∀ k, k ≤ (bodyB s).size → k ≤ 18 → valN (bodyB s) k ≤ 999999999999999999) := fun k a b => valN_18 _ dall k a b
    have H19 := Lib.hid (valB_19 _ dall d19)
    have Hbad : Hid (badNum s = (minusB s && zeroB (bodyB s))) := by unfold badNum; rw [hd]; rfl
    have N1 := Lib.hid (num_bad s)
    have N2 := Lib.hid (num_big s)
    have N3 := Lib.hid (num_neg s)
    have N4 := Lib.hid (num_pos s)
    have NT : Hid (tooBig s = ((minusB s && decide (9223372036854775808 < valB (bodyB s))) || (!minusB s && decide (9223372036854775808 ≤ valB (bodyB s))))) := rfl
    clear hc2 dall hd
    generalize bodyB s = d at *
    cases hmi : minusB s with
    | true =>
      rw [hmi] at hc1
      have Hmi := Lib.hid hmi
      clear hmi
      cases hzb : zeroB d with
      | true =>
        have HN := Lib.hid (N1.out (by rw [Hbad.out, Hmi.out, hzb]; rfl))
        rw [hzb] at hz
        clear hzb
        go_enter Tryd.func26, Tryd.ntmps26
        go_wp2_with fail
        go_fit hc1.out
        rintro e w' ⟨rfl, rfl⟩
        go_wp2_with fail
        go_fit hc2'.out
        rintro e w1 ⟨rfl, hb1⟩
        have Hb1 := Lib.hid hb1
        clear hb1
        go_wp2_with fail
        go_ret2
        exact ⟨by rw [HN.out.1, HN.out.2]; rfl, Hb1.out⟩
      | false =>
        have Hok : Hid (badNum s = false) := by show _ = _; rw [Hbad.out, Hmi.out, hzb]; rfl
        rw [hzb] at hz
        clear hzb
        go_enter Tryd.func26, Tryd.ntmps26
        go_wp2_with fail
        go_fit hc1.out
        rintro e w' ⟨rfl, rfl⟩
        go_wp2_with fail
        go_fit hc2'.out
        rintro e w1 ⟨rfl, hb1⟩
        have Hb1 := Lib.hid hb1
        clear hb1
        go_wp2
        go_loopw [6] (fun n wr => ∃ k : Nat, k ≤ d.size ∧ wr.heap[w1.heap.size]? = some (.stringIter d k) ∧ n = .int .u64 (valN d k) ∧ Hid (Below w.heap.size w wr))
          (fun _ wr => d.size - wr.iterPos w1.heap.size)
        case atStart => exact ⟨0, Nat.zero_le _, World.iter_heap _ _ _, rfl, Hb1.out.alloc Hb1.out.size _⟩
        case round =>
          obtain ⟨k, hk, hit, rfl, hb⟩ := hrel
          by_cases hlt : k < d.size
          · obtain ⟨b1, b2⟩ := Hall.out k hlt
            have he := byteAt_eq d k hlt
            have hnx : ∀ ty, (Instr.next (.pointer (some ⟨w1.heap.size, 0, none⟩)) true ty).run Tryd.prog wr = _ := fun ty => Lib.run_next_ascii_at wr w1.heap.size d k ty hit hlt (by omega)
            have hv := H18.out k hk (by omega)
            have Hs : Hid (valN d (k + 1) = valN d k * 10 + (byteAt d k - 48)) := rfl
            rw [← he] at hnx
            clear he
            generalize byteAt d k = b at *
            generalize valN d k = v at *
            have Hit := Lib.hid (Lib.iterAt_heap wr w1.heap.size d k (k + 1) hit)
            have Hbel := Lib.hid (Lib.below_iterAt hb.out Hb1.out.size d (k + 1))
            have Hp := Lib.hid (iterPos_of hit)
            generalize hW : wr.iterAt w1.heap.size d (k + 1) = W at *
            clear hW hit hb
            go_wp2_with fail
            go_roundw
            case rel =>
              refine ⟨k + 1, by omega, Hit.out, ?_, Hbel⟩
              rw [Hs.out]; push_cast; rw [Int.ofNat_sub b1]; go_num
            case measure => rw [Hp.out, iterPos_of Hit.out]; omega
          · have hnx : ∀ ty, (Instr.next (.pointer (some ⟨w1.heap.size, 0, none⟩)) true ty).run Tryd.prog wr = _ := fun ty => Lib.run_next_end_at wr w1.heap.size d k ty hit hlt
            have ek : k = d.size := by omega
            have hV : valN d k ≤ 9999999999999999999 := by rw [ek]; exact H19.out
            have HV : Hid (valN d k = valB d) := by rw [ek]; rfl
            clear ek
            generalize valN d k = V at *
            by_cases hbig : V ≤ 9223372036854775808
            · have HN := Lib.hid (N3.out Hok.out (by rw [NT.out, Hmi.out, ← HV.out]; simp; omega) Hmi.out)
              rw [← HV.out] at HN
              go_wp2_with fail
              go_ret2
              refine ⟨?_, hb.out⟩
              rw [HN.out.1, HN.out.2]
              exact ret_pair (neg_wrap V hbig)
            · have HN := Lib.hid (N2.out Hok.out (by rw [NT.out, Hmi.out, ← HV.out]; simp; omega))
              go_wp2_with fail
              go_ret2
              refine ⟨?_, hb.out⟩
              rw [HN.out.1, HN.out.2]
              rfl
    | false =>
      rw [hmi] at hc1
      have Hmi := Lib.hid hmi
      clear hmi
      have Hok : Hid (badNum s = false) := by show _ = _; rw [Hbad.out, Hmi.out]; rfl
      clear hz
      go_enter Tryd.func26, Tryd.ntmps26
      go_wp2_with fail
      go_fit hc1.out
      rintro e w' ⟨rfl, rfl⟩
      go_wp2_with fail
      go_fit hc2'.out
      rintro e w1 ⟨rfl, hb1⟩
      have Hb1 := Lib.hid hb1
      clear hb1
      go_wp2
      go_loopw [6] (fun n wr => ∃ k : Nat, k ≤ d.size ∧ wr.heap[w1.heap.size]? = some (.stringIter d k) ∧ n = .int .u64 (valN d k) ∧ Hid (Below w.heap.size w wr))
        (fun _ wr => d.size - wr.iterPos w1.heap.size)
      case atStart => exact ⟨0, Nat.zero_le _, World.iter_heap _ _ _, rfl, Hb1.out.alloc Hb1.out.size _⟩
      case round =>
        obtain ⟨k, hk, hit, rfl, hb⟩ := hrel
        by_cases hlt : k < d.size
        · obtain ⟨b1, b2⟩ := Hall.out k hlt
          have he := byteAt_eq d k hlt
          have hnx : ∀ ty, (Instr.next (.pointer (some ⟨w1.heap.size, 0, none⟩)) true ty).run Tryd.prog wr = _ := fun ty => Lib.run_next_ascii_at wr w1.heap.size d k ty hit hlt (by omega)
          have hv := H18.out k hk (by omega)
          have Hs : Hid (valN d (k + 1) = valN d k * 10 + (byteAt d k - 48)) := rfl
          rw [← he] at hnx
          clear he
          generalize byteAt d k = b at *
          generalize valN d k = v at *
          have Hit := Lib.hid (Lib.iterAt_heap wr w1.heap.size d k (k + 1) hit)
          have Hbel := Lib.hid (Lib.below_iterAt hb.out Hb1.out.size d (k + 1))
          have Hp := Lib.hid (iterPos_of hit)
          generalize hW : wr.iterAt w1.heap.size d (k + 1) = W at *
          clear hW hit hb
          go_wp2_with fail
          go_roundw
          case rel =>
            refine ⟨k + 1, by omega, Hit.out, ?_, Hbel⟩
            rw [Hs.out]; push_cast; rw [Int.ofNat_sub b1]; go_num
          case measure => rw [Hp.out, iterPos_of Hit.out]; omega
        · have hnx : ∀ ty, (Instr.next (.pointer (some ⟨w1.heap.size, 0, none⟩)) true ty).run Tryd.prog wr = _ := fun ty => Lib.run_next_end_at wr w1.heap.size d k ty hit hlt
          have ek : k = d.size := by omega
          have hV : valN d k ≤ 9999999999999999999 := by rw [ek]; exact H19.out
          have HV : Hid (valN d k = valB d) := by rw [ek]; rfl
          clear ek
          generalize valN d k = V at *
          have HVb := Lib.hid hV
          clear hV
          by_cases hbig : V ≤ 9223372036854775807
          · have HN := Lib.hid (N4.out Hok.out (by rw [NT.out, Hmi.out, ← HV.out]; simp; omega) Hmi.out)
            rw [← HV.out] at HN
            have hge : decide ((V : Int) ≥ 9223372036854775808) = false := decide_eq_false (by omega)
            have Hb := Lib.hid hbig
            clear hbig
            go_wp2_with fail
            go_ret2
            refine ⟨?_, hb.out⟩
            rw [HN.out.1, HN.out.2]
            have := Hb.out
            exact ret_pair (IntWalk.wrap64_in _ (by omega))
          · have HN := Lib.hid (N2.out Hok.out (by rw [NT.out, Hmi.out, ← HV.out]; simp; omega))
            have hge : decide ((V : Int) ≥ 9223372036854775808) = true := decide_eq_true (by omega)
            have Hb := Lib.hid hbig
            clear hbig
            go_wp2_with fail
            go_ret2
            refine ⟨?_, hb.out⟩
            rw [HN.out.1, HN.out.2]
            rfl

end Go.Proofs.YthmibccjnhmegaaDoor
