/-
  Walks of package text's tests of runes: plain, letter, madeOf, Key, Value, Name.
-/
import Derived.Test.YtdfjnpnkfjcpcaaRows
import Derived.Test.YtdfjnpnkfjcpcaaQM1
import Derived.WalkKit
import Derived.WalkSpells
import Derived.WalkLawsBesides
import Derived.Laws.AppendOwnNone
import Derived.Lib.Hide
import Derived.Deep.DeepFit
import Derived.Lib.OthersKept
import Derived.WalkSmall
import Derived.Handy
import Derived.Outline
namespace Go.Proofs.Ytdfjnpnkfjcpcaa.Tx
open Go.Proofs.Ytdfjnpnkfjcpcaa
set_option linter.unusedVariables false
set_option linter.unusedSimpArgs false
open Go.RowKit

def plainB (r : Nat) : Bool := decide (32 ≤ r) && decide (r ≠ 127) && decide (r ≠ 65533)
def letterB (r : Nat) : Bool := decide (97 ≤ r) && decide (r ≤ 122)

theorem plain_any (r : Nat) (w : World) (hr : r ≤ 2147483647) : Calls Try.prog 100 #[.int .i32 r] w fun e w' => e = .returned (.bool (plainB r)) ∧ w = w' := by
  by_cases h1 : 32 ≤ r
  · by_cases h2 : r = 127
    · subst h2
      go_enter Try.func100, Try.ntmps100
      go_wp2
      go_ret
      exact ⟨rfl, rfl⟩
    · by_cases h3 : r = 65533
      · subst h3
        go_enter Try.func100, Try.ntmps100
        go_wp2
        go_ret
        exact ⟨rfl, rfl⟩
      · have e : plainB r = true := by simp [plainB, h1, h2, h3]
        rw [e]; clear e
        go_enter Try.func100, Try.ntmps100
        go_wp2
        go_ret
        exact ⟨by simp; omega, rfl⟩
  · have e : plainB r = false := by simp [plainB, h1]
    rw [e]; clear e
    go_enter Try.func100, Try.ntmps100
    go_wp2
    go_ret
    exact ⟨rfl, rfl⟩

/-- Has a text least to most runes, each of which may stand there? -/
def madeB (s : ByteArray) (least most : Nat) (p : Nat → Bool) : Bool := decide (least ≤ (runesOf s).length) && decide ((runesOf s).length ≤ most) && (runesOf s).all p

theorem madeB_end (s : ByteArray) (least most : Nat) (p : Nat → Bool) {pre : List (Nat × Nat)} (h : steps s s.size 0 = pre) (h1 : pre.length ≤ most) (h2 : pre.all (fun x => p x.2) = true) :
    madeB s least most p = decide (least ≤ pre.length) := by
  unfold madeB runesOf
  rw [h]
  simp only [List.length_map, List.all_map]
  rw [show (pre.all (p ∘ fun x => x.2)) = true from h2]
  simp [h1]

theorem madeB_long (s : ByteArray) (least most : Nat) (p : Nat → Bool) {pre more : List (Nat × Nat)} (h : steps s s.size 0 = pre ++ more) (h1 : most < pre.length) : madeB s least most p = false := by
  unfold madeB runesOf
  rw [h]
  have : ¬ (pre ++ more).length ≤ most := by simp; omega
  simp only [List.length_map]
  rw [decide_eq_false this]
  simp

theorem madeB_bad (s : ByteArray) (least most : Nat) (p : Nat → Bool) {pre more : List (Nat × Nat)} (h : steps s s.size 0 = pre ++ more) (h1 : pre.all (fun x => p x.2) = false) : madeB s least most p = false := by
  unfold madeB runesOf
  rw [h]
  simp only [List.all_map, List.all_append]
  rw [show (pre.all (p ∘ fun x => x.2)) = false from h1]
  simp

set_option maxHeartbeats 800000 in
theorem madeOf_plain (s : ByteArray) (least most : Nat) (w : World) (hs : s.size ≤ 9223372036854775807) (hl : least ≤ 1000) (hm : most ≤ 1000) :
    Calls Try.prog 99 #[.string s, .int .i64 least, .int .i64 most, .func (.func 100) #[] #[]] w fun e w' => e = .returned (.bool (madeB s least most plainB)) ∧ Below w.heap.size w w' := by
  go_enter Try.func99, Try.ntmps99
  go_wp2
  go_loopw [9] (fun n wr => ∃ (pos b k : Nat) (pre : List (Nat × Nat)), wr = w.iter s pos ∧ n = .int .i64 k ∧ Hid (steps s s.size 0 = pre ++ steps s b pos) ∧ Hid (pre.length = k) ∧ k ≤ most ∧ k ≤ pos ∧ Hid (pre.all (fun x => plainB x.2) = true) ∧ s.size ≤ pos + b ∧ pos ≤ s.size)
    (fun _ wr => s.size - wr.iterPos w.heap.size)
  case atStart => exact ⟨0, s.size, 0, [], rfl, rfl, rfl, rfl, Nat.zero_le _, Nat.zero_le _, rfl, by omega, Nat.zero_le _⟩
  case round =>
    obtain ⟨pos, b, k, pre, rfl, rfl, hst, hk, hkm, hkp, hall, hb, hps⟩ := hrel
    by_cases hlt : pos < s.size
    · have hnx : ∀ ty, (Instr.next (.pointer (some ⟨w.heap.size, 0, none⟩)) true ty).run Try.prog (w.iter s pos) = _ := fun ty => run_next_any w s pos ty hlt
      have hd := decode_le s pos
      have hw := dec_pos s pos hlt
      have hi := dec_in s pos hlt
      obtain ⟨b, rfl⟩ : ∃ c, b = c + 1 := ⟨b - 1, by omega⟩
      have Hst := Lib.hid (step_on s hst.out hlt)
      generalize (Utf8.decode s pos).1 = r at *
      generalize (Utf8.decode s pos).2 = wd at *
      have hcall := Lib.hid (plain_any r (w.iter s (pos + wd)) hd)
      by_cases hmost : k + 1 ≤ most
      · cases hr : plainB r with
        | true =>
          rw [hr] at hcall
          have Hr := Lib.hid hr
          clear hr
          go_wp2_with fail
          go_fit hcall.out
          rintro e w' ⟨rfl, rfl⟩
          go_wp2_with fail
          go_roundw
          case rel =>
            have := hk.out
            exact ⟨pos + wd, b, k + 1, _, rfl, by go_num, Hst, by simp [Hid, this], by omega, by omega, by simp only [Hid, List.all_append, hall.out, List.all_cons, Hr.out]; rfl, by omega, by omega⟩
          case measure => simp; omega
        | false =>
          rw [hr] at hcall
          have Hr := Lib.hid hr
          clear hr
          go_wp2_with fail
          go_fit hcall.out
          rintro e w' ⟨rfl, rfl⟩
          go_wp2_with fail
          go_ret
          rw [madeB_bad s least most plainB Hst.out (by simp only [List.all_append, hall.out, List.all_cons, Hr.out]; rfl)]
          exact ⟨rfl, (Below.refl _ _).alloc (Nat.le_refl _) _⟩
      · go_wp2_with fail
        go_ret
        rw [madeB_long s least most plainB Hst.out (by have := hk.out; simp; omega)]
        exact ⟨rfl, (Below.refl _ _).alloc (Nat.le_refl _) _⟩
    · have hnx : ∀ ty, (Instr.next (.pointer (some ⟨w.heap.size, 0, none⟩)) true ty).run Try.prog (w.iter s pos) = _ := fun ty => run_next_end w s pos ty hlt
      have E := Lib.hid (madeB_end s least most plainB (all_at_end s hst.out hlt) (by rw [hk.out]; exact hkm) hall.out)
      go_wp2_with fail
      go_ret
      rw [E.out, hk.out]
      refine ⟨?_, (Below.refl _ _).alloc (Nat.le_refl _) _⟩
      simp

end Go.Proofs.Ytdfjnpnkfjcpcaa.Tx
