/-
  FilterPuts walked. (Written by genputs.py.)
-/
import Derived.Test.YtdeknkfhlmkabaaFw
import Derived.Test.YtdeknkfhlmkabaaF16
namespace Go.Proofs.Ytdeknkfhlmkabaa
set_option linter.unusedVariables false
set_option linter.unusedSimpArgs false
open Go.RowKit

/-- bytes.Equal of slices that read alike. -/
theorem EqB_any (p : Option Addr) (n c : Nat) (q : Option Addr) (m d : Nat) (xs : List Int) (w : World) (hx : xs.length = n) (hy : xs.length = m) (h1 : Lib.BytesIn w p n xs) (h2 : Lib.BytesIn w q m xs) :
    Calls Try.prog 26 #[.slice p n c, .slice q m d] w fun e w' => e = .returned (.bool true) ∧ w = w' :=
  (Try.bytes_Equal_all p q n c m d xs xs w hx hy h1 h2).mono fun _ _ ⟨h, e⟩ => ⟨by rw [h]; simp, e.symm⟩
set_option maxRecDepth 100000 in
set_option maxHeartbeats 3200000 in
theorem Puts_any {w : World} {u : Value} (f : Fl) (hk : KidsIn w w.heap.size u f.kids) (hfit : Fits f) : Calls Try.prog 5 #[flV f u] w (HoldP true w) := by
  obtain ⟨a, cap, rfl, _, _⟩ := hk.slice
  have hb0 := lay_alloc w (.cells #[.int .i64 f.kind, .string f.name, .string f.text, .slice a f.kids.length cap] 24)
  have hD := DC.alloc w [.int .i64 f.kind, .string f.name, .string f.text, .slice a f.kids.length cap] 24
  have hk0 := hk.on hb0
  unfold flV
  go_enter Try.func5, Try.ntmps5
  have HB0 := Lib.hid hb0
  have HF0 := Lib.hid hD
  have HL := Lib.hid (lightB_any f hfit hk0)
  have HK := Lib.hid hk0
  unfold flV at HL
  clear hk hfit hb0 hD hk0
  go_wp2_with fail
  go_fit HL.out
  rintro e w1 ⟨rfl, hli, hb1⟩
  have HF1 := Lib.hid (HF0.out.below hb1)
  have z0 := HF1.out.cells 0 _ rfl
  have z1 := HF1.out.cells 1 _ rfl
  have z2 := HF1.out.cells 2 _ rfl
  have z3 := HF1.out.cells 3 _ rfl
  have HB1 := Lib.hid (HB0.out.trans (hb1.mono (Nat.le_of_lt HF0.out.lt)))
  have HK1 := Lib.hid (HK.out.on hb1)
  have HLi := Lib.hid hli
  clear hli hb1 HK HL
  cases hlb : lightB f
  · clear hlb
    go_wp2_with fail
    go_fit (awake_any w1)
    rintro e w2 ⟨rfl, hb2⟩
    have HB2 := Lib.hid (HB1.out.trans (hb2.mono (Nat.le_of_lt HF1.out.lt)))
    clear hb2
    go_wp2_with fail
    go_ret
    exact ⟨rfl, HB2.out⟩
  · have HLL := Lib.hid (HLi.out hlb)
    have HP := Lib.hid (Put_any f HLL.out HK1.out)
    unfold flV at HP
    clear hlb HLi
    go_wp2_with fail
    go_fit HP.out
    rintro e w2 hp
    have hb2 : Below w1.heap.size w1 w2 := by rcases hp with ⟨_, _, _, _, _, _, h⟩ | ⟨_, _, h⟩ <;> exact h
    clear z0 z1 z2 z3 HP
    have HF2 := Lib.hid (HF1.out.below hb2)
    have z0 := HF2.out.cells 0 _ rfl
    have z1 := HF2.out.cells 1 _ rfl
    have z2 := HF2.out.cells 2 _ rfl
    have z3 := HF2.out.cells 3 _ rfl
    have HB2 := Lib.hid (HB1.out.trans (hb2.mono (Nat.le_of_lt HF1.out.lt)))
    have HQ := Lib.hid (rPut_any f HLL.out (HK1.out.on hb2))
    unfold flV at HQ
    clear hb2 HLL
    have HPP := Lib.hid hp
    clear hp
    by_cases h0 : ckF f = 0
    · have hp := HPP.out
      rcases hp with ⟨_, g1, n1, c1, rfl, how1, _⟩ | ⟨h, _⟩
      rotate_left
      · exact absurd h0 h
      have HO1 := Lib.hid how1
      clear how1 HPP
      go_wp2_with fail
      go_fit HQ.out
      rintro e w3 hq
      rcases hq with ⟨_, g2, n2, c2, rfl, how2, hb3⟩ | ⟨h, _⟩
      rotate_left
      · exact absurd h0 h
      have HE := Lib.hid (EqB_any (some ⟨g1, 0, none⟩) n1 c1 (some ⟨g2, 0, none⟩) n2 c2 (flB 6 f) w3 (Wi.owns_len HO1.out) (Wi.owns_len how2) (Wi.later (Wi.owns_in HO1.out) hb3) (Wi.owns_in how2))
      clear z0 z1 z2 z3 HO1 how2 HQ
      have HF3 := Lib.hid (HF2.out.below hb3)
      have z0 := HF3.out.cells 0 _ rfl
      have z1 := HF3.out.cells 1 _ rfl
      have z2 := HF3.out.cells 2 _ rfl
      have z3 := HF3.out.cells 3 _ rfl
      have HB3 := Lib.hid (HB2.out.trans (hb3.mono (Nat.le_of_lt HF2.out.lt)))
      clear hb3
      go_wp2_with fail
      go_fit HE.out
      rintro e w4 ⟨rfl, rfl⟩
      go_wp2_with fail
      go_fit (awake_any w3)
      rintro e w5 ⟨rfl, hb5⟩
      have HB5 := Lib.hid (HB3.out.trans (hb5.mono (Nat.le_of_lt HF3.out.lt)))
      clear hb5
      go_wp2_with fail
      go_ret
      exact ⟨rfl, HB5.out⟩
    · have hp := HPP.out
      rcases hp with ⟨h, _⟩ | ⟨_, rfl, _⟩
      · exact absurd h h0
      clear HPP
      go_wp2_with fail
      go_fit HQ.out
      rintro e w3 hq
      rcases hq with ⟨h, _⟩ | ⟨_, rfl, hb3⟩
      · exact absurd h h0
      have HE := Lib.hid (EqB_any none 0 0 none 0 0 [] w3 rfl rfl (fun h => absurd h (by decide)) (fun h => absurd h (by decide)))
      clear z0 z1 z2 z3 HQ
      have HF3 := Lib.hid (HF2.out.below hb3)
      have z0 := HF3.out.cells 0 _ rfl
      have z1 := HF3.out.cells 1 _ rfl
      have z2 := HF3.out.cells 2 _ rfl
      have z3 := HF3.out.cells 3 _ rfl
      have HB3 := Lib.hid (HB2.out.trans (hb3.mono (Nat.le_of_lt HF2.out.lt)))
      clear hb3
      go_wp2_with fail
      go_fit HE.out
      rintro e w4 ⟨rfl, rfl⟩
      go_wp2_with fail
      go_fit (awake_any w3)
      rintro e w5 ⟨rfl, hb5⟩
      have HB5 := Lib.hid (HB3.out.trans (hb5.mono (Nat.le_of_lt HF3.out.lt)))
      clear hb5
      go_wp2_with fail
      go_ret
      exact ⟨rfl, HB5.out⟩
end Go.Proofs.Ytdeknkfhlmkabaa
