/-
  The walk of TextMany.
-/
import Derived.Test.YthmibccjnhmegaaDoorPartsW
import Derived.Test.YthmibccjnhmegaaDoorM6
namespace Go.Proofs.YthmibccjnhmegaaDoor
set_option linter.unusedVariables false
set_option linter.unusedSimpArgs false
open Go.RowKit

set_option maxHeartbeats 2000000 in
theorem TextMany_walk (s : ByteArray) (r : Int) (w : World) (_hs : s.size ≤ 9223372036854775807) (hr0 : -2147483648 ≤ r) (hr1 : r ≤ 2147483647) (hT : TabIn w) :
    Calls Tryd.prog 13 #[.string s, .int .i32 r] w (Yes w) := by
  have HT := Lib.hid hT
  clear hT
  by_cases hm : s.size ≤ 16384
  · have hlen := (partsFrom_length s r s.size 0 0)
    have Hlen : Hid (1 ≤ (partsOf s r).length ∧ (partsOf s r).length ≤ s.size + 1) := hlen
    have Hcnt : Hid ((partsOf s r).length = 1 + hits s r (steps s s.size 0)) := parts_count s r s.size 0 0
    clear hlen
    go_enter Tryd.func13, Tryd.ntmps13
    go_wp2_with fail
    go_fit (Parts_any s r _ (by omega) hr0 hr1 HT.out)
    rintro e w1 ⟨g, N, c, rfl, hn, hown, hbel⟩
    have Hsz : Hid (∀ k, k < N → ((partsOf s r).getD k ByteArray.empty).size ≤ s.size) := fun k hk => parts_size s r k (by omega)
    have Hfree : Hid (∀ k, k < N → ∀ x ∈ steps ((partsOf s r).getD k ByteArray.empty) ((partsOf s r).getD k ByteArray.empty).size 0, (x.2 : Int) ≠ r) := fun k hk => partsOf_free s r k (by omega)
    have Hcell : Hid (∀ W, Below w1.heap.size w1 W → ∀ k, k < N → W.cell? ⟨g, k, none⟩ = some (.string ((partsOf s r).getD k ByteArray.empty))) := fun W hb k hk => by
      rw [owns_cell (owns_later hown hb) k hk, str_cell _ _ (by omega)]
    have Hbel := Lib.hid hbel
    have hnb : N ≤ s.size + 1 := by have := Hlen.out; omega
    have HN : Hid (N = 1 + hits s r (steps s s.size 0)) := by show _ = _; rw [hn]; exact Hcnt.out
    clear hown hbel hn Hlen Hcnt
    go_wp2
    go_loopw [6] (fun n wr => ∃ (pos b k : Nat) (pre : List (Nat × Nat)), wr = w1.iter s pos ∧ n = .int .i64 ((k : Int) + 1) ∧ Hid (steps s s.size 0 = pre ++ steps s b pos) ∧ Hid (hits s r pre = k) ∧ k ≤ pos ∧ s.size ≤ pos + b ∧ pos ≤ s.size)
      (fun _ wr => s.size - wr.iterPos w1.heap.size)
    case atStart => exact ⟨0, s.size, 0, [], rfl, rfl, rfl, rfl, Nat.zero_le _, by omega, Nat.zero_le _⟩
    case round =>
      obtain ⟨pos, b, k, pre, rfl, rfl, hst, hk, hkp, hb, hps⟩ := hrel
      by_cases hlt : pos < s.size
      · have hnx : ∀ ty, (Instr.next (.pointer (some ⟨w1.heap.size, 0, none⟩)) true ty).run Tryd.prog (w1.iter s pos) = _ := fun ty => run_next_any w1 s pos ty hlt
        have hd := decode_le s pos
        have hw := dec_pos s pos hlt
        have hi := dec_in s pos hlt
        obtain ⟨b, rfl⟩ : ∃ c, b = c + 1 := ⟨b - 1, by omega⟩
        have Hst := Lib.hid (step_on s hst.out hlt)
        generalize (Utf8.decode s pos).1 = x at *
        generalize (Utf8.decode s pos).2 = wd at *
        have Hs := Lib.hid (hits_snoc s r pre (pos, x))
        by_cases hx : (x : Int) = r
        · subst hx
          go_wp2_with fail
          go_roundw
          case rel => exact ⟨pos + wd, b, k + 1, _, rfl, by go_num, Hst, by show _ = _; rw [Hs.out, hk.out, if_pos rfl], by omega, by omega, by omega⟩
          case measure => simp; omega
        · go_wp2_with fail
          go_roundw
          case rel => exact ⟨pos + wd, b, k, _, rfl, rfl, Hst, by show _ = _; rw [Hs.out, hk.out, if_neg hx]; rfl, by omega, by omega, by omega⟩
          case measure => simp; omega
      · have hnx : ∀ ty, (Instr.next (.pointer (some ⟨w1.heap.size, 0, none⟩)) true ty).run Tryd.prog (w1.iter s pos) = _ := fun ty => run_next_end w1 s pos ty hlt
        have E : Hid (N = k + 1) := by show _ = _; rw [HN.out, all_at_end s hst.out hlt, hk.out]; omega
        have hkb : k ≤ 16384 := by omega
        clear hst hk hkp hb hps hlt
        have Hbi : Hid (Below w1.heap.size w1 (w1.iter s pos)) := (Below.refl _ _).alloc (Nat.le_refl _) _
        generalize hW1 : w1.iter s pos = W1 at *
        clear hW1
        go_wp2_with fail
        go_loopw [32] (fun i wr => ∃ j : Nat, j ≤ N ∧ i = .int .i64 j ∧ Hid (Below w1.heap.size w1 wr)) (fun i _ => N - (intOf i).toNat)
        case atStart => exact ⟨0, Nat.zero_le _, rfl, Hbi⟩
        case round =>
          obtain ⟨j, hj, rfl, hb⟩ := hrel
          by_cases hlt : j < N
          · have hcell := Hcell.out wr hb.out j hlt
            have hz := Hsz.out j hlt
            have Hf := Lib.hid (Hfree.out j hlt)
            generalize (partsOf s r).getD j ByteArray.empty = p at *
            obtain ⟨wo, rfl⟩ : ∃ wo : World, wo = wr := ⟨_, rfl⟩
            go_wp2
            go_loopw [12] (fun u wr => ∃ (pos b : Nat) (pre : List (Nat × Nat)), wr = wo.iter p pos ∧ Hid (steps p p.size 0 = pre ++ steps p b pos) ∧ p.size ≤ pos + b ∧ pos ≤ p.size)
              (fun _ wr => p.size - wr.iterPos wo.heap.size)
            case atStart => exact ⟨0, p.size, [], rfl, rfl, by omega, Nat.zero_le _⟩
            case round =>
              obtain ⟨pos, b, pre, rfl, hst, hbd, hps⟩ := hrel
              by_cases hlt2 : pos < p.size
              · have hnx : ∀ ty, (Instr.next (.pointer (some ⟨wo.heap.size, 0, none⟩)) true ty).run Tryd.prog (wo.iter p pos) = _ := fun ty => run_next_any wo p pos ty hlt2
                have hd := decode_le p pos
                have hw := dec_pos p pos hlt2
                have hi := dec_in p pos hlt2
                obtain ⟨b, rfl⟩ : ∃ c, b = c + 1 := ⟨b - 1, by omega⟩
                have Hst := Lib.hid (step_on p hst.out hlt2)
                have hne := Hf.out (pos, (Utf8.decode p pos).1) (by rw [Hst.out]; simp)
                generalize (Utf8.decode p pos).1 = x at *
                generalize (Utf8.decode p pos).2 = wd at *
                simp only at hne
                go_wp2_with fail
                go_roundw
                case rel => exact ⟨pos + wd, b, _, rfl, Hst, by omega, by omega⟩
                case measure => simp; omega
              · have hnx : ∀ ty, (Instr.next (.pointer (some ⟨wo.heap.size, 0, none⟩)) true ty).run Tryd.prog (wo.iter p pos) = _ := fun ty => run_next_end wo p pos ty hlt2
                clear hst hbd hps hlt2
                have Hbo : Hid (Below w1.heap.size w1 (wo.iter p pos)) := hb.out.alloc hb.out.size _
                generalize hW2 : wo.iter p pos = W2 at *
                clear hW2
                go_wp2_with fail
                go_roundw
                case rel => exact ⟨j + 1, by omega, by go_num, Hbo⟩
                case measure => simp [intOf]; omega
          · clear hj
            have hNk := E.out
            subst hNk
            go_wp2_with fail
            go_fit (awake_any _ (HT.out.later (Hbel.out.trans (hb.out.mono Hbel.out.size))))
            rintro e w7 ⟨rfl, hb7⟩
            have H7 := Lib.hid (Hbel.out.trans ((hb.out.trans (hb7.mono hb.out.size)).mono Hbel.out.size))
            clear hb7
            go_wp2_with fail
            go_ret
            exact ⟨rfl, H7.out⟩
  · go_enter Tryd.func13, Tryd.ntmps13
    go_wp2_with fail
    go_fit (awake_any _ HT.out)
    rintro e w7 ⟨rfl, hb⟩
    have H7 := Lib.hid hb
    clear hb
    go_wp2_with fail
    go_ret
    exact ⟨rfl, H7.out⟩

end Go.Proofs.YthmibccjnhmegaaDoor
