/-
  The walk of WireFrames.
-/
import Derived.Test.YtdihjidbcagplaaDoorAw
import Derived.Test.YtdihjidbcagplaaDoorR3
namespace Go.Proofs.YtdihjidbcagplaaDoor
open Go.RowKit

set_option maxHeartbeats 800000 in
theorem Frames_far (p : Option Addr) (n c : Nat) (w : World) (hT : TabIn w) (hn : 65536 < n) :
    Calls Tryd.prog 5 #[.slice p n c] w (Yes w) := by
  have HT := Lib.hid hT
  clear hT
  go_enter Tryd.func5, Tryd.ntmps5
  go_wp2_with fail
  go_fit (awake_any w HT.out)
  rintro e w1 ⟨rfl, hb1⟩
  go_wp2_with fail
  go_ret
  exact ⟨rfl, hb1⟩

set_option maxHeartbeats 800000 in
theorem Frames_long (p : Option Addr) (n c : Nat) (xs : List Int) (w : World) (hT : TabIn w) (hx : xs.length = n) (hb : Lib.BytesIn w p n xs) (hr : ∀ x ∈ xs, 0 ≤ x ∧ x < 256) (hn : n ≤ 65536) (hn2 : 32768 < n) :
    Calls Tryd.prog 5 #[.slice p n c] w (Yes w) := by
  have HT := Lib.hid hT
  have Hs := Lib.hid (Sum_any p n c xs w hx hb hT (by omega) hr)
  have Hr := Lib.hid (RSum_any p n c xs w hx hb (by omega) hr)
  have E : Hid ((4294967295 - crc xs : Nat) = sumOf xs) := rfl
  have Hs2 : Hid (Calls Tryd.prog 28 #[.slice p n c] w fun e w' => e = .returned (.int .u32 (sumOf xs : Int)) ∧ w = w') := Hs.out
  generalize sumOf xs = S at *
  clear hT hx hb hr Hs E
  go_enter Tryd.func5, Tryd.ntmps5
  go_wp2_with fail
  go_fit (Frame_long p n c w hn2)
  rintro e w' ⟨rfl, rfl⟩
  go_wp2_with fail
  go_fit (RFrame_long p n c w hn2)
  rintro e w' ⟨rfl, rfl⟩
  go_wp2_with fail
  go_fit Hs2.out
  rintro e w' ⟨rfl, rfl⟩
  go_wp2_with fail
  go_fit Hr.out
  rintro e w' ⟨rfl, rfl⟩
  go_wp2_with fail
  go_fit (Equal_same none none 0 0 0 0 [] w rfl rfl (Lib.BytesIn.nil _ _ _) (Lib.BytesIn.nil _ _ _))
  rintro e w' ⟨rfl, rfl⟩
  go_wp2_with fail
  go_fit (awake_any w HT.out)
  rintro e w1 ⟨rfl, hb1⟩
  go_wp2_with fail
  go_ret
  exact ⟨rfl, hb1⟩

set_option maxHeartbeats 800000 in
theorem Frames_short (p : Option Addr) (n c : Nat) (xs : List Int) (w : World) (hT : TabIn w) (hx : xs.length = n) (hb : Lib.BytesIn w p n xs) (hp : p = none → n = 0 ∧ c = 0) (hr : ∀ x ∈ xs, 0 ≤ x ∧ x < 256) (hn : n ≤ 32768) :
    Calls Tryd.prog 5 #[.slice p n c] w (Yes w) := by
  have HT := Lib.hid hT
  have Hf := Lib.hid (Frame_any p n c xs w hx hb hp hT hr hn)
  have Hg : Hid (∀ W : World, Below w.heap.size w W → Calls Tryd.prog 27 #[.slice p n c] W (MadeE W.heap.size W (frame xs) 0)) := fun W h => RFrame_any p n c xs W hx (later hb h) hp hr hn
  have Hs : Hid (∀ W : World, Below w.heap.size w W → Calls Tryd.prog 28 #[.slice p n c] W fun e w' => e = .returned (.int .u32 (sumOf xs : Int)) ∧ W = w') := fun W h => Sum_any p n c xs W hx (later hb h) (hT.later h) (by omega) hr
  have Hr : Hid (∀ W : World, Below w.heap.size w W → Calls Tryd.prog 29 #[.slice p n c] W fun e w' => e = .returned (.int .u32 (sumOf xs : Int)) ∧ W = w') := fun W h => RSum_any p n c xs W hx (later hb h) (by omega) hr
  generalize sumOf xs = S at *
  generalize frame xs = f at *
  clear hT hx hb hr
  go_enter Tryd.func5, Tryd.ntmps5
  go_wp2_with fail
  go_fit Hf.out
  rintro e w1 ⟨g1, n1, c1, rfl, hown1, hb1⟩
  go_wp2_with fail
  go_fit (Hg.out w1 hb1)
  rintro e w2 ⟨g2, n2, c2, rfl, hown2, hb2⟩
  have Hbel := Lib.hid (hb1.trans (hb2.mono hb1.size))
  have Heq := Lib.hid (Equal_same (some ⟨g1, 0, none⟩) (some ⟨g2, 0, none⟩) n1 c1 n2 c2 f w2 (owns_len hown1) (owns_len hown2) (later (owns_in hown1) hb2) (owns_in hown2))
  clear hown1 hown2 hb1 hb2
  go_wp2_with fail
  go_fit (Hs.out w2 Hbel.out)
  rintro e w' ⟨rfl, rfl⟩
  go_wp2_with fail
  go_fit (Hr.out w2 Hbel.out)
  rintro e w' ⟨rfl, rfl⟩
  go_wp2_with fail
  go_fit Heq.out
  rintro e w' ⟨rfl, rfl⟩
  go_wp2_with fail
  go_fit (awake_any w2 (HT.out.later Hbel.out))
  rintro e w3 ⟨rfl, hb3⟩
  go_wp2_with fail
  go_ret
  exact ⟨rfl, Hbel.out.trans (hb3.mono Hbel.out.size)⟩

end Go.Proofs.YtdihjidbcagplaaDoor
