/-
  Walks of the reference's tests of runes: Runes, plain, many, Key, Value, Name.
-/
import Derived.Test.YtdfjnpnkfjcpcaaQOw
namespace Go.Proofs.Ytdfjnpnkfjcpcaa.Tx
open Go.Proofs.Ytdfjnpnkfjcpcaa
set_option linter.unusedVariables false
set_option linter.unusedSimpArgs false
open Go.RowKit

theorem Try.infoI32 : (Try.prog.info? 21).map (fun i => (i.zero, i.size, i.bytes)) = some (some (.int .i32 0), 1, 4) := by kernel_rfl

def runeVals (l : List (Nat × Nat)) : List Value := l.map fun x => Value.int .i32 (x.2 : Int)
theorem runeVals_snoc (l : List (Nat × Nat)) (p r : Nat) : runeVals l ++ [Value.int .i32 (r : Int)] = runeVals (l ++ [(p, r)]) := by simp [runeVals]

/-- A slice of a text's runes. -/
def RunesMade (s : ByteArray) (w : World) (e : Ending) (w' : World) : Prop :=
  ∃ v n, e = .returned v ∧ n = (steps s s.size 0).length ∧ w'.ownsRow w.heap.size 21 1 v n (runeVals (steps s s.size 0)) ∧ Below w.heap.size w w'

set_option maxHeartbeats 800000 in
theorem Runes_any (s : ByteArray) (w : World) (hs : s.size ≤ 1073741824) :
    Calls Try.prog 109 #[.string s] w (RunesMade s w) := by
  go_enter Try.func109, Try.ntmps109
  go_wp2
  go_loopw [3] (fun v wr => ∃ (pos b n : Nat) (pre : List (Nat × Nat)), wr.heap[w.heap.size]? = some (.stringIter s pos) ∧ Hid (steps s s.size 0 = pre ++ steps s b pos) ∧ Hid (pre.length = n) ∧ n ≤ pos ∧ Hid (wr.ownsRow (w.heap.size + 1) 21 1 v n (runeVals pre)) ∧ Hid (Below w.heap.size w wr) ∧ s.size ≤ pos + b ∧ pos ≤ s.size ∧ w.heap.size + 1 ≤ wr.heap.size)
    (fun _ wr => s.size - wr.iterPos w.heap.size)
  case atStart => exact ⟨0, s.size, 0, [], World.iter_heap _ _ _, rfl, rfl, Nat.le_refl _, World.ownsRow_nil _ _ _ _, (Below.refl _ _).alloc (Nat.le_refl _) _, by omega, Nat.zero_le _, by simp [World.iter]⟩
  case round =>
    obtain ⟨pos, b, n, pre, hit, hst, hn, hnp, hown, hbel, hb, hps, hsz⟩ := hrel
    rename_i wr
    by_cases hlt : pos < s.size
    · have hnx : ∀ ty, (Instr.next (.pointer (some ⟨w.heap.size, 0, none⟩)) true ty).run Try.prog wr = _ := fun ty => Lib.run_next_any_at wr w.heap.size s pos ty hit hlt
      have hd := decode_le s pos
      have hw := dec_pos s pos hlt
      have hi := dec_in s pos hlt
      obtain ⟨b, rfl⟩ : ∃ c, b = c + 1 := ⟨b - 1, by omega⟩
      have Hst := Lib.hid (step_on s hst.out hlt)
      generalize (Utf8.decode s pos).1 = r at *
      generalize (Utf8.decode s pos).2 = wd at *
      have Hit := Lib.hid (Lib.iterAt_heap wr w.heap.size s pos (pos + wd) hit)
      have Hown := Lib.hid (ownsRow_iterAt hown.out (k := w.heap.size) (by omega) s (pos + wd))
      have Hbel := Lib.hid (Lib.below_iterAt hbel.out (Nat.le_refl _) s (pos + wd))
      have Hp := iterPos_of hit
      have hsz' : w.heap.size + 1 ≤ (wr.iterAt w.heap.size s (pos + wd)).heap.size := by rw [Lib.iterAt_size]; exact hsz
      generalize hW : wr.iterAt w.heap.size s (pos + wd) = W at *
      clear hW hit hown hbel hst
      go_wp2_with (at_builtin; (refine wpList_push1 rfl _ _ 134 21 (.int .i32 0) 4 rfl Try.underlying134 Try.infoI32 rfl (w.heap.size + 1) n _ (runeVals pre) rfl Hown.out (.int .i32 r) rfl rfl (by omega) (by decide) (by omega) ?_; intro g1 c1 w1 hown1 hbel1 hsz1))
      have H1 := Lib.hid hown1
      have H2 := Lib.hid (Hbel.out.trans (hbel1.mono (Nat.le_succ _)))
      have H3 := Lib.hid (iter_later Hit.out hbel1 (Nat.lt_succ_self _))
      clear hown1 hbel1
      go_wp2_with fail
      go_roundw
      case rel =>
        refine ⟨pos + wd, b, n + 1, _, H3.out, Hst, by have := hn.out; simp [Hid, this], by omega, ?_, H2, by omega, by omega, by omega⟩
        rw [← runeVals_snoc]; exact H1.out
      case measure => rw [Hp, iterPos_of H3.out]; omega
    · have hnx : ∀ ty, (Instr.next (.pointer (some ⟨w.heap.size, 0, none⟩)) true ty).run Try.prog wr = _ := fun ty => Lib.run_next_end_at wr w.heap.size s pos ty hit hlt
      have E := Lib.hid (all_at_end s hst.out hlt)
      clear hst
      go_wp2_with fail
      go_ret
      refine ⟨_, n, rfl, by rw [E.out]; exact hn.out.symm, ?_, hbel.out⟩
      rw [E.out]
      exact ⟨hown.out.1, hown.out.2.imp id (fun ⟨g, c, cur, h1, h2, h3⟩ => ⟨g, c, cur, h1, by omega, h3⟩)⟩

theorem rplain_any (r : Nat) (w : World) (hr : r ≤ 2147483647) : Calls Try.prog 110 #[.int .i32 r] w fun e w' => e = .returned (.bool (plainB r)) ∧ w = w' := by
  by_cases h1 : 32 ≤ r
  · by_cases h2 : r = 127
    · subst h2
      go_enter Try.func110, Try.ntmps110
      go_wp2
      go_ret
      exact ⟨rfl, rfl⟩
    · by_cases h3 : r = 65533
      · subst h3
        go_enter Try.func110, Try.ntmps110
        go_wp2
        go_ret
        exact ⟨rfl, rfl⟩
      · have e : plainB r = true := by simp [plainB, h1, h2, h3]
        rw [e]; clear e
        go_enter Try.func110, Try.ntmps110
        go_wp2
        go_ret
        exact ⟨by simp; omega, rfl⟩
  · have e : plainB r = false := by simp [plainB, h1]
    rw [e]; clear e
    go_enter Try.func110, Try.ntmps110
    go_wp2
    go_ret
    exact ⟨rfl, rfl⟩

end Go.Proofs.Ytdfjnpnkfjcpcaa.Tx
