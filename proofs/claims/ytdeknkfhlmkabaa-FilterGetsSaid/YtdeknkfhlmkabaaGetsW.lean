/-
  FilterGets walked. (Written by genf29.py.)
-/
import Derived.Test.YtdeknkfhlmkabaaF29
import Derived.Test.YtdeknkfhlmkabaaTakesW
import Derived.Test.YtdeknkfhlmkabaaPutsW
import Derived.Test.YtdeknkfhlmkabaaF30
namespace Go.Proofs.Ytdeknkfhlmkabaa
set_option linter.unusedVariables false
set_option linter.unusedSimpArgs false
open Go.RowKit

set_option maxRecDepth 100000 in
set_option maxHeartbeats 6400000 in
theorem Gets_any {w : World} {p : Option Addr} {n c : Nat} {xs : List Int} (hx : xs.length = n) (hb : Lib.BytesIn w p n xs) (hp : p = none → n = 0 ∧ c = 0) (hpb : ∀ ad, p = some ad → ad.block < w.heap.size) (hr : ∀ x ∈ xs, 0 ≤ x ∧ x < 256) (hnc : n ≤ c) :
    Calls Try.prog 6 #[.slice p n c] w (HoldP true w) := by
  by_cases hl : n ≤ 8192
  · have g1 : ((n : Nat) : Int) ≤ 8192 := by omega
    have HX := Lib.hid hx
    have HB := Lib.hid hb
    have HP := Lib.hid hp
    have HPB := Lib.hid hpb
    have HRG := Lib.hid hr
    have HNC := Lib.hid hnc
    have HNN : Hid (n ≤ 140737488355328) := by show _ ≤ _; omega
    have HC := Lib.hid (CloneU_any p n c xs w hx hb hp (by omega))
    clear hx hb hp hpb hr hnc
    go_enter Try.func6, Try.ntmps6
    go_wp2_with fail
    go_fit HC.out
    rintro e w1 ⟨hb1, a1, c1, rfl, hin1, hp1⟩
    have HB1 := Lib.hid hb1
    have HI1 := Lib.hid hin1
    have HP1 := Lib.hid hp1
    have HC2 := Lib.hid (Get_any a1 n c1 xs HX.out hin1 hp1 HRG.out HNN.out)
    clear hb1 hin1 hp1 HC
    go_wp2_with fail
    go_fit HC2.out
    rintro e w2 ⟨hb2, hres⟩
    have HB2 := Lib.hid (HB1.out.trans (hb2.mono HB1.out.size))
    have HI2 := Lib.hid (Wi.later HI1.out hb2)
    clear hb2 HC2 HI1
    rcases hres with ⟨hgd, u, he2, hks⟩ | ⟨hgd, he2⟩
    · generalize hT : tk xs 6 (0, 0) 0 = T at *
      subst he2
      obtain ⟨ua, uc, rfl, _, _⟩ := hks.slice
      unfold flV
      have hal := lay_alloc w2 (.cells #[.int .i64 T.f.kind, .string T.f.name, .string T.f.text, .slice ua T.f.kids.length uc] 24)
      have HD := Lib.hid (DC.alloc w2 [.int .i64 T.f.kind, .string T.f.name, .string T.f.text, .slice ua T.f.kids.length uc] 24)
      have HBA := Lib.hid (HB2.out.trans (hal.mono HB2.out.size))
      have HIA := Lib.hid (Wi.later HI2.out hal)
      have HKA := Lib.hid (hks.on hal)
      have HC3 := Lib.hid (rGet_any p n c xs HX.out (Wi.later HB.out HBA.out) HP.out (fun ad h => Nat.lt_of_lt_of_le (HPB.out ad h) HBA.out.size) HRG.out HNC.out HNN.out)
      clear hal HI2 hks
      go_wp2_with fail
      generalize w2.alloc _ = W4 at *
      generalize w2.heap.size = fb at *
      go_fit HC3.out
      rintro e w5 ⟨hb5, hres5⟩
      rcases hres5 with ⟨_, u5, he5, hks5⟩ | ⟨hgd5, _⟩
      rotate_left
      · rw [hgd] at hgd5; cases hgd5
      rw [hT] at he5 hks5
      subst he5
      obtain ⟨ua5, uc5, rfl, _, _⟩ := hks5.slice
      unfold flV
      have hal5 := lay_alloc w5 (.cells #[.int .i64 T.f.kind, .string T.f.name, .string T.f.text, .slice ua5 T.f.kids.length uc5] 24)
      have hb6 := hb5.trans (hal5.mono hb5.size)
      have HD5 := Lib.hid (HD.out.below hb6)
      have HE5 := Lib.hid (DC.alloc w5 [.int .i64 T.f.kind, .string T.f.name, .string T.f.text, .slice ua5 T.f.kids.length uc5] 24)
      have HB5 := Lib.hid (HBA.out.trans (hb6.mono HBA.out.size))
      have HI5 := Lib.hid (Wi.later HIA.out hb6)
      have HSa := Lib.hid (Same_any T.f _ _ _ (HKA.out.on hb6) (hks5.on hal5))
      unfold flV at HSa
      clear hks5 HKA
      clear hal5 hb5 hb6 HC3 HD HBA HIA
      have z0 := HD5.out.cells 0 _ rfl
      have z1 := HD5.out.cells 1 _ rfl
      have z2 := HD5.out.cells 2 _ rfl
      have z3 := HD5.out.cells 3 _ rfl
      have y0 := HE5.out.cells 0 _ rfl
      have y1 := HE5.out.cells 1 _ rfl
      have y2 := HE5.out.cells 2 _ rfl
      have y3 := HE5.out.cells 3 _ rfl
      go_wp2_with fail
      generalize w5.alloc _ = W6 at *
      go_fit HSa.out
      rintro e w7 ⟨rfl, hb7⟩
      have HB7 := Lib.hid (HB5.out.trans (hb7.mono HB5.out.size))
      have HI7 := Lib.hid (Wi.later HI5.out hb7)
      clear hb7 HSa z0 z1 z2 z3 y0 y1 y2 y3
      have HEq := Lib.hid (EqB_any a1 n c1 p n c xs w7 HX.out HX.out HI7.out (Wi.later HB.out HB7.out))
      go_wp2_with fail
      go_fit HEq.out
      rintro e w8 ⟨rfl, hw8⟩
      subst hw8
      go_wp2_with fail
      go_fit (awake_any w7)
      rintro e w10 ⟨rfl, hb10⟩
      have HBz := Lib.hid (HB7.out.trans (hb10.mono HB7.out.size))
      clear hb10
      go_wp2_with fail
      go_ret
      exact ⟨rfl, HBz.out⟩
    · subst he2
      unfold flV
      simp only [noF, Fl.kind, Fl.name, Fl.text]
      have hal := lay_alloc w2 (.cells #[.int .i64 0, .string ByteArray.empty, .string ByteArray.empty, .slice none 0 0] 24)
      have HD := Lib.hid (DC.alloc w2 [.int .i64 0, .string ByteArray.empty, .string ByteArray.empty, .slice none 0 0] 24)
      have HBA := Lib.hid (HB2.out.trans (hal.mono HB2.out.size))
      have HIA := Lib.hid (Wi.later HI2.out hal)
      have HC3 := Lib.hid (rGet_any p n c xs HX.out (Wi.later HB.out HBA.out) HP.out (fun ad h => Nat.lt_of_lt_of_le (HPB.out ad h) HBA.out.size) HRG.out HNC.out HNN.out)
      clear hal HI2
      go_wp2_with fail
      generalize w2.alloc _ = W4 at *
      generalize w2.heap.size = fb at *
      go_fit HC3.out
      rintro e w5 ⟨hb5, hres5⟩
      rcases hres5 with ⟨hgd5, _⟩ | ⟨_, he5⟩
      · rw [hgd] at hgd5; cases hgd5
      subst he5
      unfold flV
      simp only [noF, Fl.kind, Fl.name, Fl.text]
      have hal5 := lay_alloc w5 (.cells #[.int .i64 0, .string ByteArray.empty, .string ByteArray.empty, .slice none 0 0] 24)
      have hb6 := hb5.trans (hal5.mono hb5.size)
      have HD5 := Lib.hid (HD.out.below hb6)
      have HE5 := Lib.hid (DC.alloc w5 [.int .i64 0, .string ByteArray.empty, .string ByteArray.empty, .slice none 0 0] 24)
      have HB5 := Lib.hid (HBA.out.trans (hb6.mono HBA.out.size))
      have HI5 := Lib.hid (Wi.later HIA.out hb6)
      have hSa := Same_any noF (w5.alloc (.cells #[.int .i64 0, .string ByteArray.empty, .string ByteArray.empty, .slice none 0 0] 24)) (.slice none 0 0) (.slice none 0 0) (kids_none _ _) (kids_none _ _)
      unfold flV at hSa
      simp only [noF, Fl.kind, Fl.name, Fl.text] at hSa
      have HSa := Lib.hid hSa
      clear hSa
      clear hal5 hb5 hb6 HC3 HD HBA HIA
      have z0 := HD5.out.cells 0 _ rfl
      have z1 := HD5.out.cells 1 _ rfl
      have z2 := HD5.out.cells 2 _ rfl
      have z3 := HD5.out.cells 3 _ rfl
      have y0 := HE5.out.cells 0 _ rfl
      have y1 := HE5.out.cells 1 _ rfl
      have y2 := HE5.out.cells 2 _ rfl
      have y3 := HE5.out.cells 3 _ rfl
      go_wp2_with fail
      generalize w5.alloc _ = W6 at *
      go_fit HSa.out
      rintro e w7 ⟨rfl, hb7⟩
      have HB7 := Lib.hid (HB5.out.trans (hb7.mono HB5.out.size))
      have HI7 := Lib.hid (Wi.later HI5.out hb7)
      clear hb7 HSa z0 z1 z2 z3 y0 y1 y2 y3
      have HEq := Lib.hid (EqB_any a1 n c1 p n c xs w7 HX.out HX.out HI7.out (Wi.later HB.out HB7.out))
      go_wp2_with fail
      go_fit HEq.out
      rintro e w8 ⟨rfl, hw8⟩
      subst hw8
      go_wp2_with fail
      go_fit (awake_any w7)
      rintro e w10 ⟨rfl, hb10⟩
      have HBz := Lib.hid (HB7.out.trans (hb10.mono HB7.out.size))
      clear hb10
      go_wp2_with fail
      go_ret
      exact ⟨rfl, HBz.out⟩
  · have g1 : ¬ ((n : Nat) : Int) ≤ 8192 := by omega
    go_enter Try.func6, Try.ntmps6
    go_wp2_with fail
    go_fit (awake_any w)
    rintro e w10 ⟨rfl, hb10⟩
    have HBz := Lib.hid hb10
    clear hb10
    go_wp2_with fail
    go_ret
    exact ⟨rfl, HBz.out⟩
end Go.Proofs.Ytdeknkfhlmkabaa
