/-
  FilterTakes walked. (Written by gentakes.py.)
-/
import Derived.Test.YtdeknkfhlmkabaaF28
import Derived.Test.YtdeknkfhlmkabaaF20
import Derived.Test.YtdeknkfhlmkabaaF22
import Derived.Test.YtdeknkfhlmkabaaF24
namespace Go.Proofs.Ytdeknkfhlmkabaa
set_option linter.unusedVariables false
set_option linter.unusedSimpArgs false
open Go.RowKit

theorem kids_none (w : World) (B : Nat) : KidsIn w B (.slice none 0 0) [] := .nul none 0 (by decide)
set_option maxRecDepth 100000 in
set_option maxHeartbeats 6400000 in
theorem Takes_any {w : World} {p : Option Addr} {n c : Nat} {xs : List Int} (hx : xs.length = n) (hb : Lib.BytesIn w p n xs) (hp : p = none → n = 0 ∧ c = 0) (hpb : ∀ ad, p = some ad → ad.block < w.heap.size) (hr : ∀ x ∈ xs, 0 ≤ x ∧ x < 256) (hnc : n ≤ c) :
    Calls Try.prog 7 #[.slice p n c] w (HoldP true w) := by
  by_cases hl : n ≤ 8192
  · have g1 : ((n : Nat) : Int) ≤ 8192 := by omega
    have HR := Lib.hid (Wi.Read_any2 p n c xs hx hb hp hr (by omega))
    have HX := Lib.hid hx
    have HB := Lib.hid hb
    have HP := Lib.hid hp
    have HPB := Lib.hid hpb
    have HRG := Lib.hid hr
    clear hx hb hp hpb hr
    go_enter Try.func7, Try.ntmps7
    go_wp2_with fail
    go_fit HR.out
    rintro e w1 ⟨rb, g, cap, rfl, hrs, hb1, hrb, hrl, hgl⟩
    have hba := lay_alloc w1 (.cells #[.slice p n c, .int .i64 0, .int .i64 0] 52)
    have HRS := Lib.hid (RS_block hrs (hba.block rb hrl) (hba.block g hgl))
    have hd := DC.alloc w1 [.slice p n c, .int .i64 0, .int .i64 0] 52
    have HB2 := Lib.hid (hb1.trans (hba.mono hb1.size))
    have hpb1 : ∀ ad, p = some ad → ad.block ≠ w1.heap.size := fun ad h => by have := HPB.out ad h; have := hb1.size; omega
    have HXS : Hid (Wi.XS (w1.alloc (.cells #[.slice p n c, .int .i64 0, .int .i64 0] 52)) w1.heap.size p n c xs 0 0) := ⟨hd.cells 0 _ rfl, hd.cells 1 _ rfl, hd.cells 2 _ rfl, hd.fz 1, hd.fz 2, Wi.later HB.out HB2.out, HX.out, hnc, Nat.zero_le _, HP.out, hpb1, HRG.out, by omega⟩
    have hgl2 : g < (w1.alloc (.cells #[.slice p n c, .int .i64 0, .int .i64 0] 52)).heap.size := Nat.lt_of_lt_of_le hgl hba.size
    have hxr : w1.heap.size ≠ rb := by omega
    have hxg : w1.heap.size ≠ g := by omega
    have hwx : w.heap.size ≤ w1.heap.size := hb1.size
    have HPR : Hid (∀ ad, p = some ad → ad.block ≠ rb) := fun ad h => by have := HPB.out ad h; omega
    have HC := Lib.hid (Take_any HRS.out hgl2)
    clear hrs hb1 hba hd hpb1 HR hrl hgl
    go_wp2_with fail
    generalize w1.alloc (.cells #[.slice p n c, .int .i64 0, .int .i64 0] 52) = W2 at *
    generalize w1.heap.size = xb at *
    go_fit HC.out
    rintro e w3 ⟨hg3, hres⟩
    have HXS3 := Lib.hid (XS_block HXS.out (hg3.block xb (XS_xl HXS.out) (by simpa using hxr)) (fun hn ad ha => hg3.block _ (XS_pl HXS.out hn ad ha) (by simpa using HPR.out ad ha)))
    have HB3 := Lib.hid (show Below w.heap.size w w3 from ⟨hg3.os.trans HB2.out.os, hg3.tape.trans HB2.out.tape, hg3.output.trans HB2.out.output, Nat.le_trans HB2.out.size hg3.size, fun k hk => (hg3.block k (Nat.lt_of_lt_of_le hk HB2.out.size) (by simp; omega)).trans (HB2.out.block k hk)⟩)
    have HSZ : Hid (W2.heap.size ≤ w3.heap.size) := hg3.size
    clear hg3 HC
    rcases hres with ⟨hgd, u, he3, hks, hrs3⟩ | ⟨hgd, he3⟩
    · generalize hT : tk xs 6 (0, 0) 0 = T at *
      subst he3
      obtain ⟨ua, uc, rfl, _, _⟩ := hks.slice
      unfold flV
      have hal := lay_alloc w3 (.cells #[.int .i64 T.f.kind, .string T.f.name, .string T.f.text, .slice ua T.f.kids.length uc] 24)
      have HD := Lib.hid (DC.alloc w3 [.int .i64 T.f.kind, .string T.f.name, .string T.f.text, .slice ua T.f.kids.length uc] 24)
      have HKA := Lib.hid (hks.told.on hal)
      have HRA := Lib.hid (RS_block hrs3 (hal.block rb hrs3.rbl) (hal.block g (by have := HSZ.out; omega)))
      have HXA := Lib.hid (XS_below HXS3.out hal)
      have HBA := Lib.hid (HB3.out.trans (hal.mono HB3.out.size))
      have HC := Lib.hid (rTake_any HXA.out)
      have hga : g < (w3.alloc (.cells #[.int .i64 T.f.kind, .string T.f.name, .string T.f.text, .slice ua T.f.kids.length uc] 24)).heap.size := by have := HSZ.out; have := hal.size; omega
      have hfx : w3.heap.size ≠ xb := by have := XS_xl HXS3.out; omega
      have hwf : w.heap.size ≤ w3.heap.size := HB3.out.size
      have hwxb : w.heap.size ≤ xb := hwx
      have HKX := Lib.hid (hks.later hal)
      have HXl := Lib.hid (XS_xl HXA.out)
      clear hks hrs3 hal HB3 HXS3
      go_wp2_with fail
      generalize w3.alloc (.cells #[.int .i64 T.f.kind, .string T.f.name, .string T.f.text, .slice ua T.f.kids.length uc] 24) = W4 at *
      generalize w3.heap.size = fb at *
      go_fit HC.out
      rintro e w5 ⟨hg5, hres5⟩
      rcases hres5 with ⟨_, u5, he5, hks5, hxs5⟩ | ⟨hgd5, _⟩
      rotate_left
      · rw [hgd] at hgd5; cases hgd5
      rw [hT] at he5 hks5 hxs5
      subst he5
      obtain ⟨ua5, uc5, rfl, _, _⟩ := hks5.slice
      unfold flV
      have hal5 := lay_alloc w5 (.cells #[.int .i64 T.f.kind, .string T.f.name, .string T.f.text, .slice ua5 T.f.kids.length uc5] 24)
      have HD5 := Lib.hid ((HD.out.keep hg5.size (hg5.block fb HD.out.lt (by simpa using hfx))).below hal5)
      have HE5 := Lib.hid (DC.alloc w5 [.int .i64 T.f.kind, .string T.f.name, .string T.f.text, .slice ua5 T.f.kids.length uc5] 24)
      have HK5 := Lib.hid (hks5.told.on hal5)
      have HR5 := Lib.hid (RS_block HRA.out ((hal5.block rb (Nat.lt_of_lt_of_le HRA.out.rbl hg5.size)).trans (hg5.block rb HRA.out.rbl (by simpa using fun e => hxr e.symm))) ((hal5.block g (Nat.lt_of_lt_of_le hga hg5.size)).trans (hg5.block g hga (by simpa using fun e => hxg e.symm))))
      have HX5 := Lib.hid (XS_below hxs5 hal5)
      have HKA5 : Hid (KidsIn (w5.alloc (.cells #[.int .i64 T.f.kind, .string T.f.name, .string T.f.text, .slice ua5 T.f.kids.length uc5] 24)) (w5.alloc (.cells #[.int .i64 T.f.kind, .string T.f.name, .string T.f.text, .slice ua5 T.f.kids.length uc5] 24)).heap.size (.slice ua T.f.kids.length uc) T.f.kids) :=
        (((HKX.out.keep (w' := w5) (S' := fun b => W2.heap.size ≤ b) hg5.size (fun k hk hlt => hg5.block k hlt (by simp; have := XS_xl HXS.out; omega)) (fun _ h _ => h)).later hal5)).told
      have HB5 := Lib.hid (show Below w.heap.size w (w5.alloc (.cells #[.int .i64 T.f.kind, .string T.f.name, .string T.f.text, .slice ua5 T.f.kids.length uc5] 24)) from HBA.out.trans ⟨hal5.os.trans hg5.os, hal5.tape.trans hg5.tape, hal5.output.trans hg5.output, Nat.le_trans hg5.size hal5.size, fun k hk => (hal5.block k (by have := hg5.size; have := HBA.out.size; omega)).trans (hg5.block k (by have := HBA.out.size; omega) (by simp; omega))⟩)
      have HSa := Lib.hid (Same_any T.f _ _ _ HKA5.out HK5.out)
      unfold flV at HSa
      have HSZ6 : Hid (W4.heap.size ≤ (w5.alloc (.cells #[.int .i64 T.f.kind, .string T.f.name, .string T.f.text, .slice ua5 T.f.kids.length uc5] 24)).heap.size) := Nat.le_trans hg5.size hal5.size
      clear hks5 hxs5 hal5 hg5 HC HD HKX HRA HXA HKA
      have z0 := HD5.out.cells 0 _ rfl
      have z1 := HD5.out.cells 1 _ rfl
      have z2 := HD5.out.cells 2 _ rfl
      have z3 := HD5.out.cells 3 _ rfl
      have y0 := HE5.out.cells 0 _ rfl
      have y1 := HE5.out.cells 1 _ rfl
      have y2 := HE5.out.cells 2 _ rfl
      have y3 := HE5.out.cells 3 _ rfl
      go_wp2_with fail
      have hgl6 : g < (w5.alloc (.cells #[.int .i64 T.f.kind, .string T.f.name, .string T.f.text, .slice ua5 T.f.kids.length uc5] 24)).heap.size := by have := HSZ6.out; omega
      generalize w5.alloc _ = W6 at *
      go_fit HSa.out
      rintro e w7 ⟨rfl, hb7⟩
      have HR7 := Lib.hid (RS_block HR5.out (hb7.block rb HR5.out.rbl) (hb7.block g hgl6))
      have HX7 := Lib.hid (XS_below HX5.out hb7)
      have HB7 := Lib.hid (HB5.out.trans (hb7.mono HB5.out.size))
      clear hb7 HSa z0 z1 z2 z3 y0 y1 y2 y3
      have HL7 := Lib.hid (Wi.Left_rs HR7.out)
      go_wp2_with fail
      go_fit HL7.out
      rintro e w8 ⟨rfl, q8, rfl⟩
      have HL8 := Lib.hid (Wi.XLeft (HX7.out.drewN q8))
      go_wp2_with fail
      go_fit HL8.out
      rintro e w9 ⟨rfl, q9, rfl⟩
      have HB9 : Hid (Below w.heap.size w ((w7.drewN q8).drewN q9)) := ⟨HB7.out.os, HB7.out.tape, HB7.out.output, HB7.out.size, HB7.out.block⟩
      generalize (w7.drewN q8).drewN q9 = W9 at *
      clear HL7 HL8
      go_wp2_with fail
      go_fit (awake_any W9)
      rintro e w10 ⟨rfl, hb10⟩
      have HBz := Lib.hid (HB9.out.trans (hb10.mono HB9.out.size))
      clear hb10
      go_wp2_with fail
      go_ret
      exact ⟨rfl, HBz.out⟩
    · subst he3
      unfold flV
      have hal := lay_alloc w3 (.cells #[.int .i64 0, .string ByteArray.empty, .string ByteArray.empty, .slice none 0 0] 24)
      have HD := Lib.hid (DC.alloc w3 [.int .i64 0, .string ByteArray.empty, .string ByteArray.empty, .slice none 0 0] 24)
      have HXA := Lib.hid (XS_below HXS3.out hal)
      have HBA := Lib.hid (HB3.out.trans (hal.mono HB3.out.size))
      have HC := Lib.hid (rTake_any HXA.out)
      have hfx : w3.heap.size ≠ xb := by have := XS_xl HXS3.out; omega
      have hwxb : w.heap.size ≤ xb := hwx
      clear hal HB3 HXS3
      simp only [noF, Fl.kind, Fl.name, Fl.text]
      go_wp2_with fail
      generalize w3.alloc _ = W4 at *
      generalize w3.heap.size = fb at *
      go_fit HC.out
      rintro e w5 ⟨hg5, hres5⟩
      rcases hres5 with ⟨hgd5, _⟩ | ⟨_, he5⟩
      · rw [hgd] at hgd5; cases hgd5
      subst he5
      unfold flV
      simp only [noF, Fl.kind, Fl.name, Fl.text]
      have hal5 := lay_alloc w5 (.cells #[.int .i64 0, .string ByteArray.empty, .string ByteArray.empty, .slice none 0 0] 24)
      have HD5 := Lib.hid ((HD.out.keep hg5.size (hg5.block fb HD.out.lt (by simpa using hfx))).below hal5)
      have HE5 := Lib.hid (DC.alloc w5 [.int .i64 0, .string ByteArray.empty, .string ByteArray.empty, .slice none 0 0] 24)
      have HB5 := Lib.hid (show Below w.heap.size w (w5.alloc (.cells #[.int .i64 0, .string ByteArray.empty, .string ByteArray.empty, .slice none 0 0] 24)) from HBA.out.trans ⟨hal5.os.trans hg5.os, hal5.tape.trans hg5.tape, hal5.output.trans hg5.output, Nat.le_trans hg5.size hal5.size, fun k hk => (hal5.block k (by have := hg5.size; have := HBA.out.size; omega)).trans (hg5.block k (by have := HBA.out.size; omega) (by simp; omega))⟩)
      have hSa := Same_any noF (w5.alloc (.cells #[.int .i64 0, .string ByteArray.empty, .string ByteArray.empty, .slice none 0 0] 24)) (.slice none 0 0) (.slice none 0 0) (kids_none _ _) (kids_none _ _)
      unfold flV at hSa
      simp only [noF, Fl.kind, Fl.name, Fl.text] at hSa
      have HSa := Lib.hid hSa
      clear hal5 hg5 HC HD HXA hSa
      have z0 := HD5.out.cells 0 _ rfl
      have z1 := HD5.out.cells 1 _ rfl
      have z2 := HD5.out.cells 2 _ rfl
      have z3 := HD5.out.cells 3 _ rfl
      have y0 := HE5.out.cells 0 _ rfl
      have y1 := HE5.out.cells 1 _ rfl
      have y2 := HE5.out.cells 2 _ rfl
      have y3 := HE5.out.cells 3 _ rfl
      go_wp2_with fail
      generalize w5.alloc _ = W6 at *
      go_fit HSa.out
      rintro e w7 ⟨rfl, hb7⟩
      have HB7 := Lib.hid (HB5.out.trans (hb7.mono HB5.out.size))
      clear hb7 HSa z0 z1 z2 z3 y0 y1 y2 y3
      go_wp2_with fail
      go_fit (awake_any w7)
      rintro e w10 ⟨rfl, hb10⟩
      have HBz := Lib.hid (HB7.out.trans (hb10.mono HB7.out.size))
      clear hb10
      go_wp2_with fail
      go_ret
      exact ⟨rfl, HBz.out⟩
  · have g1 : ¬ ((n : Nat) : Int) ≤ 8192 := by omega
    go_enter Try.func7, Try.ntmps7
    go_wp2_with fail
    go_fit (awake_any w)
    rintro e w10 ⟨rfl, hb10⟩
    have HBz := Lib.hid hb10
    clear hb10
    go_wp2_with fail
    go_ret
    exact ⟨rfl, HBz.out⟩
end Go.Proofs.Ytdeknkfhlmkabaa
