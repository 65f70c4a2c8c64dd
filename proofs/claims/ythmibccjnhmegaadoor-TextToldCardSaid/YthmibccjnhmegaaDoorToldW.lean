/-
  The walk of TextTold.
-/
import Derived.Test.YthmibccjnhmegaaDoorAw
import Derived.Test.YthmibccjnhmegaaDoorM8
import Derived.Test.YthmibccjnhmegaaDoorShelf2
import Derived.Lib.LaidU8
import Derived.Lib.AppendIntMem
namespace Go.Proofs.YthmibccjnhmegaaDoor
set_option linter.unusedVariables false
set_option linter.unusedSimpArgs false
open Go.RowKit

def PowIn (w : World) : Prop := Lib.TabIs Tryd.prog w "internal/strconv.uint64pow10" .u64 Lib.pow10Tab

theorem pow_named : Tryd.prog.globalNamed "internal/strconv.uint64pow10" = some 3 := by kernel_rfl
theorem PowIn.later {w w' : World} (h : PowIn w) (hb : Below w.heap.size w w') : PowIn w' := by
  have hlt : 3 < w.heap.size := by
    have := Lib.TabIs.cell h pow_named 0 (by rw [Lib.pow10Tab_length]; decide)
    exact World.block_lt_of_cell? w _ this
  exact var?_below hb pow_named hlt h

theorem FormatInt_any (n : Int) (h0 : -9223372036854775808 ≤ n) (h1 : n ≤ 9223372036854775807) (w : World) (h : PowIn w) :
    Calls Tryd.prog 32 #[.int .i64 n, .int .i64 10] w fun e w' => e = .returned (.string ⟨(Lib.itoa n).toArray⟩) ∧ Below w.heap.size w w' := by
  refine (Tryd.strconv_FormatInt_10 n h0 h1 w h).mono fun e w' ⟨he, k, os, hw⟩ => ⟨he, ?_⟩
  subst hw
  exact Lib.below_grow _ _ (Nat.le_refl _) k os

theorem numV_range (s : ByteArray) : -9223372036854775808 ≤ numV s ∧ numV s ≤ 9223372036854775807 := by
  cases hb : badNum s with
  | true => rw [(num_bad s hb).1]; decide
  | false =>
    cases hb2 : tooBig s with
    | true => rw [(num_big s hb hb2).1]; decide
    | false =>
      cases hm : minusB s with
      | true =>
        rw [(num_neg s hb hb2 hm).1]
        unfold tooBig at hb2
        rw [hm] at hb2
        simp at hb2
        omega
      | false =>
        rw [(num_pos s hb hb2 hm).1]
        unfold tooBig at hb2
        rw [hm] at hb2
        simp at hb2
        omega

theorem Number_of (s : ByteArray) (v er : Int) (hv : numV s = v) (he : numE s = er) (w : World) (hs : s.size ≤ 1073741824) :
    Calls Tryd.prog 26 #[.string s] w fun e w' => e = .returned (.tuple #[.int .i64 v, .int .i64 er]) ∧ Below w.heap.size w w' := by
  subst hv; subst he; exact Number_any s w hs

set_option maxRecDepth 100000 in
set_option maxHeartbeats 2000000 in
theorem TextTold_walk (n : Int) (s : ByteArray) (w : World) (h0 : -9223372036854775808 ≤ n) (h1 : n ≤ 9223372036854775807) (_hs : s.size ≤ 9223372036854775807) (hT : TabIn w) (hP : PowIn w) :
    Calls Tryd.prog 10 #[.int .i64 n, .string s] w (Yes w) := by
  have HT := Lib.hid hT
  have HP := Lib.hid hP
  clear hT hP
  by_cases hm : s.size ≤ 16384
  · obtain ⟨t1, t2⟩ := told_there n h0 h1
    have hz := itoa_size n h0 h1
    have C1 := Lib.hid (fun w h => FormatInt_any n h0 h1 w h)
    have C2 := Lib.hid (fun w => Number_of _ n 0 t1 t2 w (by omega))
    clear t1 t2 hz
    generalize (⟨(Lib.itoa n).toArray⟩ : ByteArray) = t at *
    by_cases hE : numE s = 0
    · have hb := told_back s hE
      obtain ⟨v0, v1⟩ := numV_range s
      have C3 := Lib.hid (fun w => Number_of s _ 0 rfl hE w (by omega))
      have C4 := Lib.hid (fun w h => FormatInt_any (numV s) v0 v1 w h)
      rw [hb] at C4
      have hq : (s.toList == s.toList) = true := by rw [← beq_toListBytes, beq_bytes, decide_eq_true rfl]
      clear hb v0 v1 hE h0 h1
      generalize numV s = v at *
      go_enter Tryd.func10, Tryd.ntmps10
      go_wp2_with fail
      go_fit (C1.out _ HP.out)
      rintro e w1 ⟨rfl, hb⟩
      have H1 := Lib.hid hb
      clear hb
      go_wp2_with fail
      go_fit (C2.out _)
      rintro e w2 ⟨rfl, hb⟩
      have H2 := Lib.hid (H1.out.trans (hb.mono H1.out.size))
      clear hb
      go_wp2_with fail
      go_fit (C3.out _)
      rintro e w3 ⟨rfl, hb⟩
      have H3 := Lib.hid (H2.out.trans (hb.mono H2.out.size))
      clear hb
      go_wp2_with fail
      go_fit (C4.out _ (HP.out.later H3.out))
      rintro e w4 ⟨rfl, hb⟩
      have H4 := Lib.hid (H3.out.trans (hb.mono H3.out.size))
      clear hb
      go_wp2_with fail
      go_fit (awake_any _ (HT.out.later H4.out))
      rintro e w5 ⟨rfl, hb⟩
      have H5 := Lib.hid (H4.out.trans (hb.mono H4.out.size))
      clear hb
      go_wp2_with fail
      go_ret
      exact ⟨rfl, H5.out⟩
    · have hv := told_none s hE
      have C3 := Lib.hid (fun w => Number_of s 0 _ hv rfl w (by omega))
      have hq : (numE s == 0) = false := by rw [beq_eq_false_iff_ne]; exact hE
      have hE' : ¬ numE s = 0 := hE
      clear hv h0 h1 hE
      generalize numE s = er at *
      go_enter Tryd.func10, Tryd.ntmps10
      go_wp2_with fail
      go_fit (C1.out _ HP.out)
      rintro e w1 ⟨rfl, hb⟩
      have H1 := Lib.hid hb
      clear hb
      go_wp2_with fail
      go_fit (C2.out _)
      rintro e w2 ⟨rfl, hb⟩
      have H2 := Lib.hid (H1.out.trans (hb.mono H1.out.size))
      clear hb
      go_wp2_with fail
      go_fit (C3.out _)
      rintro e w3 ⟨rfl, hb⟩
      have H3 := Lib.hid (H2.out.trans (hb.mono H2.out.size))
      clear hb
      go_wp2_with fail
      go_fit (awake_any _ (HT.out.later H3.out))
      rintro e w5 ⟨rfl, hb⟩
      have H5 := Lib.hid (H3.out.trans (hb.mono H3.out.size))
      clear hb
      go_wp2_with fail
      go_ret
      exact ⟨rfl, H5.out⟩
  · go_enter Tryd.func10, Tryd.ntmps10
    go_wp2_with fail
    go_fit (awake_any _ HT.out)
    rintro e w7 ⟨rfl, hb⟩
    have H7 := Lib.hid hb
    clear hb
    go_wp2_with fail
    go_ret
    exact ⟨rfl, H7.out⟩

end Go.Proofs.YthmibccjnhmegaaDoor
