/-
  FilterBack walked. (Written by genback.py.)
-/
import Derived.Test.YtdeknkfhlmkabaaF31
import Derived.Test.YtdeknkfhlmkabaaTakesW
import Derived.Test.YtdeknkfhlmkabaaPutsW
namespace Go.Proofs.Ytdeknkfhlmkabaa
set_option linter.unusedVariables false
set_option linter.unusedSimpArgs false
open Go.RowKit

set_option maxRecDepth 100000 in
set_option maxHeartbeats 12800000 in
theorem Back_any {w : World} {u : Value} (f : Fl) (hk : KidsIn w w.heap.size u f.kids) (hfit : Fits f) {p : Option Addr} {n c : Nat} {xs : List Int} (hx : xs.length = n) (hb : Lib.BytesIn w p n xs) (hp : p = none → n = 0 ∧ c = 0) (hpb : ∀ ad, p = some ad → ad.block < w.heap.size) (hr : ∀ x ∈ xs, 0 ≤ x ∧ x < 256) (hnc : n ≤ c) :
    Calls Try.prog 9 #[flV f u, .slice p n c] w (HoldP true w) := by
  obtain ⟨a, cap, rfl, _, _⟩ := hk.slice
  have hb0 := lay_alloc w (.cells #[.int .i64 f.kind, .string f.name, .string f.text, .slice a f.kids.length cap] 24)
  have HB0 := Lib.hid hb0
  have HF0 := Lib.hid (DC.alloc w [.int .i64 f.kind, .string f.name, .string f.text, .slice a f.kids.length cap] 24)
  have HL := Lib.hid (lightB_any f hfit (hk.on hb0))
  have HK0 := Lib.hid (hk.on hb0)
  have HI0 := Lib.hid (Wi.later hb hb0)
  have HX := Lib.hid hx
  have HP := Lib.hid hp
  have HRG := Lib.hid hr
  unfold flV at HL
  clear hk hfit hb0 hb hx hp hpb hr hnc
  unfold flV
  go_enter Try.func9, Try.ntmps9
  go_wp2_with fail
  go_fit HL.out
  rintro e w1 ⟨rfl, hli, hb1⟩
  have HF1 := Lib.hid (HF0.out.below hb1)
  have HB1 := Lib.hid (HB0.out.trans (hb1.mono HB0.out.size))
  have HK1 := Lib.hid (HK0.out.on hb1)
  have HI1 := Lib.hid (Wi.later HI0.out hb1)
  have HLi := Lib.hid hli
  clear hli hb1 HF0 HB0 HK0 HI0 HL
  cases hlb : lightB f
  · clear hlb
    go_wp2_with fail
    go_fit (awake_any _)
    rintro e wz ⟨rfl, hbz⟩
    have HBz := Lib.hid (HB1.out.trans (hbz.mono HB1.out.size))
    clear hbz
    go_wp2_with fail
    go_ret
    exact ⟨rfl, HBz.out⟩
  have HLL := Lib.hid (HLi.out hlb)
  clear hlb HLi
  by_cases hl : n ≤ 8192
  rotate_left
  · have g1 : ¬ ((n : Nat) : Int) ≤ 8192 := by omega
    go_wp2_with fail
    go_fit (awake_any _)
    rintro e wz ⟨rfl, hbz⟩
    have HBz := Lib.hid (HB1.out.trans (hbz.mono HB1.out.size))
    clear hbz
    go_wp2_with fail
    go_ret
    exact ⟨rfl, HBz.out⟩
  have g1 : ((n : Nat) : Int) ≤ 8192 := by omega
  have HNN : Hid (n ≤ 140737488355328) := by show _ ≤ _; omega
  have z0 := HF1.out.cells 0 _ rfl
  have z1 := HF1.out.cells 1 _ rfl
  have z2 := HF1.out.cells 2 _ rfl
  have z3 := HF1.out.cells 3 _ rfl
  have HPu := Lib.hid (Put_any f HLL.out HK1.out)
  unfold flV at HPu
  go_wp2_with fail
  go_fit HPu.out
  rintro e w2 hp2
  clear z0 z1 z2 z3 HPu
  rcases hp2 with ⟨hc, gb, nb, cb, he2, hob, hb2⟩ | ⟨hc, he2, hb2⟩
  · subst he2
    have HF2 := Lib.hid (HF1.out.below hb2)
    have HB2 := Lib.hid (HB1.out.trans (hb2.mono HB1.out.size))
    have HK2 := Lib.hid (HK1.out.on hb2)
    have HI2 := Lib.hid (Wi.later HI1.out hb2)
    obtain ⟨bl, bi⟩ := (show (flB 6 f).length = nb ∧ Lib.BytesIn w2 (some ⟨gb, 0, none⟩) nb (flB 6 f) from ⟨Wi.owns_len hob, Wi.owns_in hob⟩)
    obtain ⟨gk, gf⟩ := get_back hc HLL.out
    have hle := flB_le 6 f 0 hc HLL.out
    have h24 := (ec_le 6 f 0 (Nat.zero_le _)).1
    have HC := Lib.hid (Get_any (some ⟨gb, 0, none⟩) nb cb (flB 6 f) bl bi (fun h => by cases h) (flB_byte 6 f 0 hc HLL.out) (by omega))
    have HGK := Lib.hid gk
    have HGF := Lib.hid gf
    clear hb2 hob bl bi gk gf hle h24 HF1 HB1 HK1 HI1 hc
    go_wp2_with fail
    go_fit HC.out
    rintro e w3 ⟨hb3, hres⟩
    rcases hres with ⟨_, u3, he3, hk3⟩ | ⟨hgd, _⟩
    rotate_left
    · rw [HGK.out] at hgd; cases hgd
    rw [HGF.out] at he3 hk3
    subst he3
    obtain ⟨a3, c3, rfl, _, _⟩ := hk3.slice
    unfold flV
    have hal := lay_alloc w3 (.cells #[.int .i64 f.kind, .string f.name, .string f.text, .slice a3 f.kids.length c3] 24)
    have hb4 := hb3.trans (hal.mono hb3.size)
    have HF4 := Lib.hid (HF2.out.below hb4)
    have HB4 := Lib.hid (HB2.out.trans (hb4.mono HB2.out.size))
    have HI4 := Lib.hid (Wi.later HI2.out hb4)
    have HD4 := Lib.hid (DC.alloc w3 [.int .i64 f.kind, .string f.name, .string f.text, .slice a3 f.kids.length c3] 24)
    have HSa := Lib.hid (Same_any f _ _ _ (HK2.out.on hb4) (hk3.on hal))
    unfold flV at HSa
    have z0 := HF4.out.cells 0 _ rfl
    have z1 := HF4.out.cells 1 _ rfl
    have z2 := HF4.out.cells 2 _ rfl
    have z3 := HF4.out.cells 3 _ rfl
    have y0 := HD4.out.cells 0 _ rfl
    have y1 := HD4.out.cells 1 _ rfl
    have y2 := HD4.out.cells 2 _ rfl
    have y3 := HD4.out.cells 3 _ rfl
    clear hb3 hal hb4 hk3 HC HGK HGF HF2 HB2 HK2 HI2
    go_wp2_with fail
    generalize w3.alloc _ = W4 at *
    go_fit HSa.out
    rintro e w5 ⟨rfl, hb5⟩
    have HB5 := Lib.hid (HB4.out.trans (hb5.mono HB4.out.size))
    have HI5 := Lib.hid (Wi.later HI4.out hb5)
    clear hb5 HSa z0 z1 z2 z3 y0 y1 y2 y3 HF4 HB4 HI4 HD4
    have HC5 := Lib.hid (Get_any p n c xs HX.out HI5.out HP.out HRG.out HNN.out)
    go_wp2_with fail
    go_fit HC5.out
    rintro e w6 ⟨hb6, hres6⟩
    have HB6 := Lib.hid (HB5.out.trans (hb6.mono HB5.out.size))
    have HI6 := Lib.hid (Wi.later HI5.out hb6)
    clear hb6 HC5 HB5 HI5
    rcases hres6 with ⟨hgd, u6, he6, hk6⟩ | ⟨hgd, he6⟩
    · obtain ⟨t1, t2, t3⟩ := back_get HRG.out hgd
      generalize hT : tk xs 6 (0, 0) 0 = T at *
      subst he6
      obtain ⟨a6, c6, rfl, _, _⟩ := hk6.slice
      unfold flV
      have hal := lay_alloc w6 (.cells #[.int .i64 T.f.kind, .string T.f.name, .string T.f.text, .slice a6 T.f.kids.length c6] 24)
      have HD7 := Lib.hid (DC.alloc w6 [.int .i64 T.f.kind, .string T.f.name, .string T.f.text, .slice a6 T.f.kids.length c6] 24)
      have HB7 := Lib.hid (HB6.out.trans (hal.mono HB6.out.size))
      have HI7 := Lib.hid (Wi.later HI6.out hal)
      have HPu := Lib.hid (Put_any T.f t3 (hk6.on hal))
      unfold flV at HPu
      have HC0 := Lib.hid t1
      have HFB := Lib.hid t2
      have y0 := HD7.out.cells 0 _ rfl
      have y1 := HD7.out.cells 1 _ rfl
      have y2 := HD7.out.cells 2 _ rfl
      have y3 := HD7.out.cells 3 _ rfl
      clear hal hk6 t1 t2 t3 HB6 HI6
      go_wp2_with fail
      generalize w6.alloc _ = W7 at *
      go_fit HPu.out
      rintro e w8 hp8
      rcases hp8 with ⟨_, g8, n8, c8, he8, ho8, hb8⟩ | ⟨hc8, _⟩
      rotate_left
      · exact absurd HC0.out hc8
      subst he8
      have HB8 := Lib.hid (HB7.out.trans (hb8.mono HB7.out.size))
      have ho8' := ho8
      rw [HFB.out] at ho8'
      have HEq := Lib.hid (EqB_any (some ⟨g8, 0, none⟩) n8 c8 p n c xs w8 (Wi.owns_len ho8') HX.out (Wi.owns_in ho8') (Wi.later HI7.out hb8))
      clear hb8 ho8 ho8' y0 y1 y2 y3 HPu HB7 HI7 HD7
      go_wp2_with fail
      go_fit HEq.out
      rintro e w9 ⟨rfl, hw9⟩
      subst hw9
      go_wp2_with fail
      go_fit (awake_any w8)
      rintro e w10 ⟨rfl, hb10⟩
      have HBz := Lib.hid (HB8.out.trans (hb10.mono HB8.out.size))
      clear hb10
      go_wp2_with fail
      go_ret
      exact ⟨rfl, HBz.out⟩
    · subst he6
      unfold flV
      simp only [noF, Fl.kind, Fl.name, Fl.text]
      have hal := lay_alloc w6 (.cells #[.int .i64 0, .string ByteArray.empty, .string ByteArray.empty, .slice none 0 0] 24)
      have HD7 := Lib.hid (DC.alloc w6 [.int .i64 0, .string ByteArray.empty, .string ByteArray.empty, .slice none 0 0] 24)
      have HB7 := Lib.hid (HB6.out.trans (hal.mono HB6.out.size))
      have hSa := Same_any noF (w6.alloc (.cells #[.int .i64 0, .string ByteArray.empty, .string ByteArray.empty, .slice none 0 0] 24)) (.slice none 0 0) (.slice none 0 0) (kids_none _ _) (kids_none _ _)
      unfold flV at hSa
      simp only [noF, Fl.kind, Fl.name, Fl.text] at hSa
      have HSa := Lib.hid hSa
      have y0 := HD7.out.cells 0 _ rfl
      have y1 := HD7.out.cells 1 _ rfl
      have y2 := HD7.out.cells 2 _ rfl
      have y3 := HD7.out.cells 3 _ rfl
      clear hal hSa HB6 HI6
      go_wp2_with fail
      generalize w6.alloc _ = W7 at *
      go_fit HSa.out
      rintro e w8 ⟨rfl, hb8⟩
      have HB8 := Lib.hid (HB7.out.trans (hb8.mono HB7.out.size))
      clear hb8 HSa y0 y1 y2 y3
      go_wp2_with fail
      go_fit (awake_any w8)
      rintro e w10 ⟨rfl, hb10⟩
      have HBz := Lib.hid (HB8.out.trans (hb10.mono HB8.out.size))
      clear hb10
      go_wp2_with fail
      go_ret
      exact ⟨rfl, HBz.out⟩
  · subst he2
    have hcb : (ckF f != 0) = true := by simpa using hc
    have hcb2 : (ckF f == 0) = false := by simpa using hc
    have HB5 := Lib.hid (HB1.out.trans (hb2.mono HB1.out.size))
    have HI5 := Lib.hid (Wi.later HI1.out hb2)
    clear hb2 HF1 HB1 HK1 HI1 hc
    have HC5 := Lib.hid (Get_any p n c xs HX.out HI5.out HP.out HRG.out HNN.out)
    go_wp2_with fail
    go_fit HC5.out
    rintro e w6 ⟨hb6, hres6⟩
    have HB6 := Lib.hid (HB5.out.trans (hb6.mono HB5.out.size))
    have HI6 := Lib.hid (Wi.later HI5.out hb6)
    clear hb6 HC5 HB5 HI5
    rcases hres6 with ⟨hgd, u6, he6, hk6⟩ | ⟨hgd, he6⟩
    · obtain ⟨t1, t2, t3⟩ := back_get HRG.out hgd
      generalize hT : tk xs 6 (0, 0) 0 = T at *
      subst he6
      obtain ⟨a6, c6, rfl, _, _⟩ := hk6.slice
      unfold flV
      have hal := lay_alloc w6 (.cells #[.int .i64 T.f.kind, .string T.f.name, .string T.f.text, .slice a6 T.f.kids.length c6] 24)
      have HD7 := Lib.hid (DC.alloc w6 [.int .i64 T.f.kind, .string T.f.name, .string T.f.text, .slice a6 T.f.kids.length c6] 24)
      have HB7 := Lib.hid (HB6.out.trans (hal.mono HB6.out.size))
      have HI7 := Lib.hid (Wi.later HI6.out hal)
      have HPu := Lib.hid (Put_any T.f t3 (hk6.on hal))
      unfold flV at HPu
      have HC0 := Lib.hid t1
      have HFB := Lib.hid t2
      have y0 := HD7.out.cells 0 _ rfl
      have y1 := HD7.out.cells 1 _ rfl
      have y2 := HD7.out.cells 2 _ rfl
      have y3 := HD7.out.cells 3 _ rfl
      clear hal hk6 t1 t2 t3 HB6 HI6
      go_wp2_with fail
      generalize w6.alloc _ = W7 at *
      go_fit HPu.out
      rintro e w8 hp8
      rcases hp8 with ⟨_, g8, n8, c8, he8, ho8, hb8⟩ | ⟨hc8, _⟩
      rotate_left
      · exact absurd HC0.out hc8
      subst he8
      have HB8 := Lib.hid (HB7.out.trans (hb8.mono HB7.out.size))
      have ho8' := ho8
      rw [HFB.out] at ho8'
      have HEq := Lib.hid (EqB_any (some ⟨g8, 0, none⟩) n8 c8 p n c xs w8 (Wi.owns_len ho8') HX.out (Wi.owns_in ho8') (Wi.later HI7.out hb8))
      clear hb8 ho8 ho8' y0 y1 y2 y3 HPu HB7 HI7 HD7
      go_wp2_with fail
      go_fit HEq.out
      rintro e w9 ⟨rfl, hw9⟩
      subst hw9
      go_wp2_with fail
      go_fit (awake_any w8)
      rintro e w10 ⟨rfl, hb10⟩
      have HBz := Lib.hid (HB8.out.trans (hb10.mono HB8.out.size))
      clear hb10
      go_wp2_with fail
      go_ret
      exact ⟨rfl, HBz.out⟩
    · subst he6
      unfold flV
      simp only [noF, Fl.kind, Fl.name, Fl.text]
      have hal := lay_alloc w6 (.cells #[.int .i64 0, .string ByteArray.empty, .string ByteArray.empty, .slice none 0 0] 24)
      have HD7 := Lib.hid (DC.alloc w6 [.int .i64 0, .string ByteArray.empty, .string ByteArray.empty, .slice none 0 0] 24)
      have HB7 := Lib.hid (HB6.out.trans (hal.mono HB6.out.size))
      have hSa := Same_any noF (w6.alloc (.cells #[.int .i64 0, .string ByteArray.empty, .string ByteArray.empty, .slice none 0 0] 24)) (.slice none 0 0) (.slice none 0 0) (kids_none _ _) (kids_none _ _)
      unfold flV at hSa
      simp only [noF, Fl.kind, Fl.name, Fl.text] at hSa
      have HSa := Lib.hid hSa
      have y0 := HD7.out.cells 0 _ rfl
      have y1 := HD7.out.cells 1 _ rfl
      have y2 := HD7.out.cells 2 _ rfl
      have y3 := HD7.out.cells 3 _ rfl
      clear hal hSa HB6 HI6
      go_wp2_with fail
      generalize w6.alloc _ = W7 at *
      go_fit HSa.out
      rintro e w8 ⟨rfl, hb8⟩
      have HB8 := Lib.hid (HB7.out.trans (hb8.mono HB7.out.size))
      clear hb8 HSa y0 y1 y2 y3
      go_wp2_with fail
      go_fit (awake_any w8)
      rintro e w10 ⟨rfl, hb10⟩
      have HBz := Lib.hid (HB8.out.trans (hb10.mono HB8.out.size))
      clear hb10
      go_wp2_with fail
      go_ret
      exact ⟨rfl, HBz.out⟩
end Go.Proofs.Ytdeknkfhlmkabaa
