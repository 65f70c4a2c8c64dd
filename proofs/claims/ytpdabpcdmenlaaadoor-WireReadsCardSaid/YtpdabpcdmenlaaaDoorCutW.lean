/-
  The walk of WireCut.
-/
import Derived.Test.YtpdabpcdmenlaaaDoorAw
import Derived.Test.YtpdabpcdmenlaaaDoorM4
namespace Go.Proofs.YtpdabpcdmenlaaaDoor
set_option linter.unusedVariables false
set_option linter.unusedSimpArgs false
open Go.RowKit

theorem tmod_nat (U n : Nat) : (U : Int).tmod (n : Int) = ((U % n : Nat) : Int) := rfl

set_option maxHeartbeats 800000 in
theorem Cut_long (p : Option Addr) (n c : Nat) (k : Int) (w : World) (hT : TabIn w) (hn : 32768 < n) :
    Calls Tryd.prog 12 #[.slice p n c, .int .i64 k] w (Yes w) := by
  have HT := Lib.hid hT
  clear hT
  go_enter Tryd.func12, Tryd.ntmps12
  go_wp2_with fail
  go_fit (Frame_long p n c w hn)
  rintro e w' ⟨rfl, rfl⟩
  go_wp2_with fail
  go_fit (awake_any w HT.out)
  rintro e w1 ⟨rfl, hb1⟩
  go_wp2_with fail
  go_ret
  exact ⟨rfl, hb1⟩

set_option maxHeartbeats 800000 in
theorem Cut_short (p : Option Addr) (n c : Nat) (k : Int) (xs : List Int) (w : World) (hT : TabIn w) (hx : xs.length = n) (hb : Lib.BytesIn w p n xs) (hp : p = none → n = 0 ∧ c = 0) (hr : ∀ x ∈ xs, 0 ≤ x ∧ x < 256) (hn : n ≤ 32768) :
    Calls Tryd.prog 12 #[.slice p n c, .int .i64 k] w (Yes w) := by
  have HT := Lib.hid hT
  have Hf := Lib.hid (Frame_any p n c xs w hx hb hp hT hr hn)
  have hfl := frame_length xs
  have hxl : xs.length ≤ 32768 := by omega
  have hwl := wide_len xs.length (by omega)
  have Hby := Lib.hid (frame_bytes xs (by omega) hr)
  have Hcut := Lib.hid (fun j hj => frame_cut xs (by omega) j hj)
  have Hx := Lib.hid hx
  generalize frame xs = f at *
  clear hT hr hx hb
  go_enter Tryd.func12, Tryd.ntmps12
  go_wp2_with fail
  go_fit Hf.out
  rintro e w1 ⟨g1, n1, c1, rfl, hown1, hb1⟩
  have hn1 := owns_len hown1
  have h5 : 5 ≤ n1 := by omega
  have h32 : n1 ≤ 32775 := by omega
  have hin := owns_in hown1
  have hc1 : n1 ≤ c1 := by
    rcases hown1.2 with ⟨h, _⟩ | ⟨_, cap, _, h, _, _, h2, _⟩
    · cases h
    · simp only [Value.slice.injEq] at h; omega
  have hU := wrap_u64 k
  have hJ : u64 k % n1 < n1 := Nat.mod_lt _ (by omega)
  have hJ1 := tmod_nat (u64 k) n1
  have hJ2 : (u64 k : Int) % (n1 : Int) = ((u64 k % n1 : Nat) : Int) := by simp
  generalize u64 k % n1 = J at *
  generalize u64 k = U at *
  have hfJ : (f.take J).length = J := by simp; omega
  have Hn := Lib.hid (number_any (some ⟨g1, 0, none⟩) J c1 (f.take J) w1 hfJ (Lib.BytesIn.of_cells fun i hi => by
    obtain ⟨b', o', h, hc⟩ := hin.at (by omega)
    simp only [Option.some.injEq, Addr.mk.injEq] at h
    obtain ⟨rfl, rfl, _⟩ := h
    rw [addLit, List.getD_eq_getElem?_getD, List.getElem?_take, if_pos hi, ← List.getD_eq_getElem?_getD]; exact hc i (by omega)) (by omega) (by omega) (fun x h => Hby.out x (List.mem_of_mem_take h)))
  have Hnext : Hid (Calls Tryd.prog 46 #[.slice (some ⟨g1, 0, none⟩) J c1] w1 (NoneE 2 w1)) := by
    rcases Hcut.out J (by omega) with h | ⟨h, hlt⟩
    · exact Next_early (some ⟨g1, 0, none⟩) J c1 0 0 2 2 (f.take J) w1 Hn.out h (by omega) (by omega) (.inl ⟨by omega, rfl⟩)
    · exact Next_early (some ⟨g1, 0, none⟩) J c1 _ _ 0 2 (f.take J) w1 Hn.out h (by omega) (by omega) (.inr (.inr ⟨rfl, hxl, by omega, rfl⟩))
  clear Hn hfJ hin hown1
  go_wp2_with fail
  go_fit Hnext.out
  rintro e w2 ⟨rfl, q, rfl⟩
  have hbq : Hid (Below w.heap.size w (w1.drewN q)) := ⟨hb1.os, hb1.tape, hb1.output, hb1.size, hb1.block⟩
  go_wp2_with fail
  go_fit (awake_any (w1.drewN q) (HT.out.later hbq.out))
  rintro e w3 ⟨rfl, hb3⟩
  go_wp2_with fail
  go_ret
  exact ⟨rfl, hbq.out.trans (hb3.mono hbq.out.size)⟩

end Go.Proofs.YtpdabpcdmenlaaaDoor
