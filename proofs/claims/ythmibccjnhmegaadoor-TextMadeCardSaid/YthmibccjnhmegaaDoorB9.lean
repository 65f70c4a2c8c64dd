/-
  Walks: the number that a text is, by the package (digits, Number).
-/
import Derived.Test.YthmibccjnhmegaaDoorB8
import Derived.Test.YthmibccjnhmegaaDoorM5
namespace Go.Proofs.YthmibccjnhmegaaDoor
set_option linter.unusedVariables false
set_option linter.unusedSimpArgs false
open Go.RowKit

def DigP (s : ByteArray) (w : World) (e : Ending) (w' : World) : Prop := e = .returned (.bool (digB s)) ∧ Below w.heap.size w w'

theorem digB_of (s : ByteArray) (h1 : 1 ≤ s.size) (h2 : s.size ≤ 19) (h3 : lead0 s = false) : digB s = allDig s := by
  unfold digB; rw [decide_eq_true h1, decide_eq_true h2, h3]; rfl

set_option maxHeartbeats 1000000 in
theorem digits_any (s : ByteArray) (w : World) (hs : s.size ≤ 1073741824) :
    Calls Tryd.prog 42 #[.string s] w (DigP s w) := by
  by_cases h0 : s.size = 0
  · have he : s.toList.isEmpty = true := by rw [ByteArray.toList_eq]; rw [Lib.size_eq] at h0; rw [List.eq_nil_of_length_eq_zero h0]; rfl
    have E : Hid (digB s = false) := by unfold digB; rw [decide_eq_false (by omega)]; rfl
    clear h0
    go_enter Tryd.func42, Tryd.ntmps42
    go_wp2_with fail
    go_ret
    exact ⟨by rw [E.out]; rfl, Below.refl _ _⟩
  · have he : s.toList.isEmpty = false := by
      rw [ByteArray.toList_eq]
      cases hl : s.data.toList with
      | nil => rw [Lib.size_eq, hl] at h0; exact absurd rfl h0
      | cons a l => rfl
    by_cases h19 : s.size ≤ 19
    · have h0' : 0 < s.size := by omega
      cases hl0 : lead0 s with
      | true =>
        have E : Hid (digB s = false) := by unfold digB; rw [hl0]; simp [Hid]
        unfold lead0 at hl0
        simp only [Bool.and_eq_true, decide_eq_true_eq] at hl0
        obtain ⟨h1, h2⟩ := hl0
        rw [byteAt_eq s 0 h0'] at h2
        have hb : (((s[0]'h0').toNat : Int) == 48) = true := by rw [h2]; rfl
        clear h2
        go_enter Tryd.func42, Tryd.ntmps42
        go_wp2_with fail
        go_ret
        exact ⟨by rw [E.out]; rfl, Below.refl _ _⟩
      | false =>
        have E := Lib.hid (digB_of s (by omega) h19 hl0)
        have hR := Lib.hid (allDig_runes s)
        have hb : 1 < s.size → (((s[0]'h0').toNat : Int) == 48) = false := fun h1 => by
          unfold lead0 at hl0
          rw [decide_eq_true h1, Bool.true_and, decide_eq_false_iff_not, byteAt_eq s 0 h0'] at hl0
          rw [beq_eq_false_iff_ne]; omega
        clear hl0
        by_cases h1 : 1 < s.size
        all_goals
          first
            | (have hb' := hb h1; clear hb)
            | clear hb
          go_enter Tryd.func42, Tryd.ntmps42
          go_wp2_with fail
          go_loopw [4] (fun u wr => ∃ (pos b : Nat) (pre : List (Nat × Nat)), wr = w.iter s pos ∧ Hid (steps s s.size 0 = pre ++ steps s b pos) ∧ Hid (pre.all (fun x => isDigit x.2) = true) ∧ s.size ≤ pos + b ∧ pos ≤ s.size)
            (fun _ wr => s.size - wr.iterPos w.heap.size)
          case atStart => exact ⟨0, s.size, [], rfl, rfl, rfl, by omega, Nat.zero_le _⟩
          case round =>
            obtain ⟨pos, b, pre, rfl, hst, hall, hbd, hps⟩ := hrel
            by_cases hlt : pos < s.size
            · have hnx : ∀ ty, (Instr.next (.pointer (some ⟨w.heap.size, 0, none⟩)) true ty).run Tryd.prog (w.iter s pos) = _ := fun ty => run_next_any w s pos ty hlt
              have hd := decode_le s pos
              have hw := dec_pos s pos hlt
              have hi := dec_in s pos hlt
              obtain ⟨b, rfl⟩ : ∃ c, b = c + 1 := ⟨b - 1, by omega⟩
              have Hst := Lib.hid (step_on s hst.out hlt)
              generalize (Utf8.decode s pos).1 = r at *
              generalize (Utf8.decode s pos).2 = wd at *
              by_cases hr : 48 ≤ r ∧ r ≤ 57
              · obtain ⟨r1, r2⟩ := hr
                have Hr : Hid (isDigit r = true) := by unfold isDigit; rw [decide_eq_true r1, decide_eq_true r2]; rfl
                go_wp2_with fail
                go_roundw
                case rel => exact ⟨pos + wd, b, _, rfl, Hst, by simp only [Hid, List.all_append, hall.out, List.all_cons, Hr.out]; rfl, by omega, by omega⟩
                case measure => simp; omega
              · have Hr : Hid (isDigit r = false) := by
                  unfold isDigit
                  by_cases r1 : 48 ≤ r
                  · rw [decide_eq_true r1, decide_eq_false (by omega)]; rfl
                  · rw [decide_eq_false r1]; rfl
                have HF : Hid (allDig s = false) := by
                  rw [← hR.out, Hst.out]
                  simp only [List.all_append, List.all_cons, Hr.out]
                  simp [Hid]
                by_cases r1 : 48 ≤ r
                · have r2 : 57 < r := by omega
                  clear hr
                  go_wp2_with fail
                  go_ret
                  exact ⟨by rw [E.out, HF.out]; rfl, (Below.refl _ _).alloc (Nat.le_refl _) _⟩
                · clear hr
                  go_wp2_with fail
                  go_ret
                  exact ⟨by rw [E.out, HF.out]; rfl, (Below.refl _ _).alloc (Nat.le_refl _) _⟩
            · have hnx : ∀ ty, (Instr.next (.pointer (some ⟨w.heap.size, 0, none⟩)) true ty).run Tryd.prog (w.iter s pos) = _ := fun ty => run_next_end w s pos ty hlt
              have HT : Hid (allDig s = true) := by rw [← hR.out, all_at_end s hst.out hlt]; exact hall.out
              go_wp2_with fail
              go_ret
              exact ⟨by rw [E.out, HT.out]; rfl, (Below.refl _ _).alloc (Nat.le_refl _) _⟩
    · have E : Hid (digB s = false) := by unfold digB; rw [decide_eq_false h19]; simp [Hid]
      have h19' : 19 < s.size := by omega
      clear h19 h0
      go_enter Tryd.func42, Tryd.ntmps42
      go_wp2_with fail
      go_ret
      exact ⟨by rw [E.out]; rfl, Below.refl _ _⟩

theorem CutPrefix_minus (s : ByteArray) (w : World) : Calls Tryd.prog 41 #[.string s, .string ⟨#[45]⟩] w fun e w' => e = .returned (.tuple #[.string (bodyB s), .bool (minusB s)]) ∧ w = w' := by
  refine (Tryd.strings_CutPrefix s ⟨#[45]⟩ w).mono fun e w' ⟨he, hw⟩ => ⟨?_, hw.symm⟩
  rw [he]
  show Ending.returned (.tuple #[.string ⟨(Lib.trimPrefix s.data.toList [45]).toArray⟩, .bool (Lib.hasPrefix s.data.toList [45])]) = _
  rw [trim_body, prefix_minus]

end Go.Proofs.YthmibccjnhmegaaDoor
