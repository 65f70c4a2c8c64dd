/-
  Walks: a text's stretches, by the package (Parts).
-/
import Derived.Test.YthmibccjnhmegaaDoorB4
import Derived.Test.YthmibccjnhmegaaDoorShelf
namespace Go.Proofs.YthmibccjnhmegaaDoor
set_option linter.unusedVariables false
set_option linter.unusedSimpArgs false
open Go.RowKit

theorem Tryd.infoStr : (Tryd.prog.info? 9).map (fun i => (i.zero, i.size, i.bytes)) = some (some (.string ByteArray.empty), 1, 16) := by kernel_rfl

/-- The tables of unicode/utf8 as Go's text lays them. -/
structure TabIn (w : World) : Prop where
  utf8 : Lib.Utf8Tabs 0 1 w

theorem cell_keeps {w w' : World} {a : Addr} {v : Value} (h : w.cell? a = some v) (hb : Below w.heap.size w w') : w'.cell? a = some v := by
  rw [hb.cell (World.block_lt_of_cell? w _ h)]; exact h
theorem TabIn.later {w w' : World} (h : TabIn w) (hb : Below w.heap.size w w') : TabIn w' :=
  ⟨⟨fun c hc => cell_keeps (h.utf8.1 c hc) hb, fun i hi => ⟨cell_keeps (h.utf8.2 i hi).1 hb, cell_keeps (h.utf8.2 i hi).2 hb⟩⟩⟩
theorem Below.narrow {B : Nat} {w w' : World} (h : Below B w w') (hB : w.heap.size ≤ B) : Below w.heap.size w w' := h.mono hB

def strVals (l : List ByteArray) : List Value := l.map Value.string
theorem strVals_snoc (l : List ByteArray) (s : ByteArray) : strVals l ++ [Value.string s] = strVals (l ++ [s]) := by simp [strVals]

/-- A new slice of just these texts, of which there is one at least. -/
def StrsMade (l : List ByteArray) (w : World) (e : Ending) (w' : World) : Prop :=
  ∃ g n c, e = .returned (.slice (some ⟨g, 0, none⟩) n c) ∧ n = l.length ∧ w'.ownsRow (w.heap.size + 1) 9 1 (.slice (some ⟨g, 0, none⟩) n c) n (strVals l) ∧ Below w.heap.size w w'

theorem decodeRune_at (s : ByteArray) (p : Nat) (w : World) (h : p < s.size) (hT : TabIn w) :
    Calls Tryd.prog 39 #[.string (s.extract p s.size)] w fun e w' => e = .returned (.tuple #[.int .i32 (Utf8.decode s p).1, .int .i64 (Utf8.decode s p).2]) ∧ Below w.heap.size w w' := by
  have hc := Tryd.utf8_DecodeRuneInString (s.extract p s.size) w hT.utf8
  have hz : Lib.decodeGo (s.extract p s.size) = Utf8.decode s p := by
    unfold Lib.decodeGo
    rw [if_neg (by rw [Lib.tail_size]; omega), Lib.tail_decode]
    rfl
  rw [hz] at hc
  exact hc

set_option maxHeartbeats 1000000 in
theorem Parts_any (s : ByteArray) (r : Int) (w : World) (hs : s.size ≤ 1073741824) (hr0 : -2147483648 ≤ r) (hr1 : r ≤ 2147483647) (hT : TabIn w) :
    Calls Tryd.prog 22 #[.string s, .int .i32 r] w (StrsMade (partsOf s r) w) := by
  have HT := Lib.hid hT
  clear hT
  go_enter Tryd.func22, Tryd.ntmps22
  go_wp2
  go_loopw [5, 6] (fun v fr wr => ∃ (pos b a n : Nat) (acc : List ByteArray), wr.heap[w.heap.size]? = some (.stringIter s pos) ∧ fr = .int .i64 a ∧ Hid (acc ++ partsFrom s r b a pos = partsOf s r) ∧ Hid (acc.length = n) ∧ n ≤ pos ∧ a ≤ pos ∧ Hid (wr.ownsRow (w.heap.size + 1) 9 1 v n (strVals acc)) ∧ Hid (Below w.heap.size w wr) ∧ s.size ≤ pos + b ∧ pos ≤ s.size ∧ w.heap.size + 1 ≤ wr.heap.size)
    (fun _ _ wr => s.size - wr.iterPos w.heap.size)
  case atStart => exact ⟨0, s.size, 0, 0, [], World.iter_heap _ _ _, rfl, rfl, rfl, Nat.le_refl _, Nat.le_refl _, World.ownsRow_nil _ _ _ _, (Below.refl _ _).alloc (Nat.le_refl _) _, by omega, Nat.zero_le _, by simp [World.iter]⟩
  case round =>
    obtain ⟨pos, b, a, n, acc, hit, rfl, hst, hn, hnp, hap, hown, hbel, hb, hps, hsz⟩ := hrel
    by_cases hlt : pos < s.size
    · have hnx : ∀ ty, (Instr.next (.pointer (some ⟨w.heap.size, 0, none⟩)) true ty).run Tryd.prog wr = _ := fun ty => Lib.run_next_any_at wr w.heap.size s pos ty hit hlt
      have hd := decode_le s pos
      have hw := dec_pos s pos hlt
      have hi := dec_in s pos hlt
      obtain ⟨b, rfl⟩ : ∃ c, b = c + 1 := ⟨b - 1, by omega⟩
      have Hdec := Lib.hid (fun W hT => decodeRune_at s pos W hlt hT)
      by_cases hr : ((Utf8.decode s pos).1 : Int) = r
      · have Hst : Hid ((acc ++ [s.extract a pos]) ++ partsFrom s r b (pos + (Utf8.decode s pos).2) (pos + (Utf8.decode s pos).2) = partsOf s r) := by
          have := hst.out
          rw [partsFrom_hit s r b a pos hlt hr] at this
          show _ = _
          rw [← this]; simp
        generalize (Utf8.decode s pos).1 = x at *
        generalize (Utf8.decode s pos).2 = wd at *
        subst hr
        have Hit := Lib.hid (Lib.iterAt_heap wr w.heap.size s pos (pos + wd) hit)
        have Hown := Lib.hid (ownsRow_iterAt hown.out (k := w.heap.size) (by omega) s (pos + wd))
        have Hbel := Lib.hid (Lib.below_iterAt hbel.out (Nat.le_refl _) s (pos + wd))
        have Hp := Lib.hid (iterPos_of hit)
        have hsz' : w.heap.size + 1 ≤ (wr.iterAt w.heap.size s (pos + wd)).heap.size := by rw [Lib.iterAt_size]; exact hsz
        generalize hW : wr.iterAt w.heap.size s (pos + wd) = W at *
        clear hW hit hown hbel hst
        go_wp2_with (at_builtin; (refine wpList_push1 rfl _ _ 27 9 (.string ByteArray.empty) 16 rfl Tryd.underlying27 Tryd.infoStr rfl (w.heap.size + 1) n _ (strVals acc) rfl Hown.out (.string (s.extract a pos)) rfl rfl (by omega) (by decide) (by omega) ?_; intro g1 c1 w1 hown1 hbel1 hsz1))
        have H1 := Lib.hid hown1
        have H2 := Lib.hid (Hbel.out.trans (hbel1.mono (Nat.le_succ _)))
        have H3 := Lib.hid (iter_later Hit.out hbel1 (Nat.lt_succ_self _))
        have Hc := Lib.hid (Hdec.out w1 (HT.out.later H2.out))
        clear hown1 hbel1 Hdec
        go_wp2_with fail
        go_fit Hc.out
        rintro e w2 ⟨rfl, hb2⟩
        have H4 := Lib.hid (owns_later H1.out hb2)
        have H5 := Lib.hid (H2.out.trans (hb2.mono H2.out.size))
        have H6 := Lib.hid (iter_later H3.out hb2 (by omega))
        have hsz2 := hb2.size
        clear hb2 H1 H2 H3
        go_wp2_with fail
        go_roundw
        case rel =>
          refine ⟨pos + wd, b, pos + wd, n + 1, _, H6.out, by go_num, Hst, by have := hn.out; simp [Hid, this], by omega, by omega, ?_, H5, by omega, by omega, by omega⟩
          rw [← strVals_snoc]; exact H4.out
        case measure => rw [Hp.out, iterPos_of H6.out]; omega
      · have Hst : Hid (acc ++ partsFrom s r b a (pos + (Utf8.decode s pos).2) = partsOf s r) := by
          have := hst.out
          rw [partsFrom_miss s r b a pos hlt hr] at this
          exact this
        generalize (Utf8.decode s pos).1 = x at *
        generalize (Utf8.decode s pos).2 = wd at *
        have Hit := Lib.hid (Lib.iterAt_heap wr w.heap.size s pos (pos + wd) hit)
        have Hown := Lib.hid (ownsRow_iterAt hown.out (k := w.heap.size) (by omega) s (pos + wd))
        have Hbel := Lib.hid (Lib.below_iterAt hbel.out (Nat.le_refl _) s (pos + wd))
        have Hp := Lib.hid (iterPos_of hit)
        have hsz' : w.heap.size + 1 ≤ (wr.iterAt w.heap.size s (pos + wd)).heap.size := by rw [Lib.iterAt_size]; exact hsz
        generalize hW : wr.iterAt w.heap.size s (pos + wd) = W at *
        clear hW hit hown hbel hst Hdec
        go_wp2_with fail
        go_roundw
        case rel => exact ⟨pos + wd, b, a, n, _, Hit.out, rfl, Hst, hn, by omega, by omega, Hown, Hbel, by omega, by omega, by omega⟩
        case measure => rw [Hp.out, iterPos_of Hit.out]; omega
    · have hnx : ∀ ty, (Instr.next (.pointer (some ⟨w.heap.size, 0, none⟩)) true ty).run Tryd.prog wr = _ := fun ty => Lib.run_next_end_at wr w.heap.size s pos ty hit hlt
      have E : Hid (acc ++ [s.extract a s.size] = partsOf s r) := by
        have := hst.out
        rw [partsFrom_end s r b a pos hlt] at this
        exact this
      clear hst hit
      go_wp2_with (at_builtin; (refine wpList_push1 rfl _ _ 27 9 (.string ByteArray.empty) 16 rfl Tryd.underlying27 Tryd.infoStr rfl (w.heap.size + 1) n _ (strVals acc) rfl hown.out (.string (s.extract a s.size)) rfl rfl (by omega) (by decide) (by omega) ?_; intro g1 c1 w1 hown1 hbel1 hsz1))
      have H1 := Lib.hid hown1
      have H2 := Lib.hid (hbel.out.trans (hbel1.mono (Nat.le_succ _)))
      clear hown1 hbel1
      go_wp2_with fail
      go_ret
      refine ⟨g1, n + 1, c1, rfl, ?_, ?_, H2.out⟩
      · rw [← E.out, List.length_append, hn.out]; rfl
      · rw [← E.out, ← strVals_snoc]; exact H1.out

end Go.Proofs.YthmibccjnhmegaaDoor
