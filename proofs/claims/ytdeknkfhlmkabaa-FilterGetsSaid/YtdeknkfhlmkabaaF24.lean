/-
  Walks: the examples.
-/
import Derived.Test.YtdeknkfhlmkabaaF23
namespace Go.Proofs.Ytdeknkfhlmkabaa
set_option linter.unusedVariables false
set_option linter.unusedSimpArgs false
open Go.RowKit

theorem aF_kids {w : World} {g : Nat} {cs : List Value} (h : DC w g cs) (hcs : cs = [.int .i64 1, .string ByteArray.empty, .string "a".toUTF8, .slice none 0 0, .int .i64 3, .string ByteArray.empty, .string ByteArray.empty, .slice none 0 0]) : KidsIn w w.heap.size (.slice (some ⟨g, 0, none⟩) 2 2) aF.kids := by
  subst hcs
  refine .more g 0 2 aF.kids (fun _ => .slice none 0 0) h.lt (by decide) (by decide) (by decide) ?_ ?_
  · intro i k hi
    match i with
    | 0 => simp only [aF, Fl.kids, List.getElem?_cons_zero, Option.some.injEq] at hi; subst hi; exact ⟨h.cells 0 _ rfl, h.cells 1 _ rfl, h.cells 2 _ rfl, h.cells 3 _ rfl⟩
    | 1 => simp only [aF, Fl.kids, List.getElem?_cons_succ, List.getElem?_cons_zero, Option.some.injEq] at hi; subst hi; exact ⟨h.cells 4 _ rfl, h.cells 5 _ rfl, h.cells 6 _ rfl, h.cells 7 _ rfl⟩
    | n + 2 => simp [aF, Fl.kids] at hi
  · intro i k hi
    match i with
    | 0 => simp only [aF, Fl.kids, List.getElem?_cons_zero, Option.some.injEq] at hi; subst hi; exact .nul none 0 (by decide)
    | 1 => simp only [aF, Fl.kids, List.getElem?_cons_succ, List.getElem?_cons_zero, Option.some.injEq] at hi; subst hi; exact .nul none 0 (by decide)
    | n + 2 => simp [aF, Fl.kids] at hi
set_option maxRecDepth 100000 in
set_option maxHeartbeats 3200000 in
theorem awake_any (w : World) : Calls Try.prog 16 #[] w (HoldP true w) := by
  go_enter Try.func16, Try.ntmps16
  go_wp2_with fail
  go_fit (kind_any 3 none 0 0 w)
  rintro e w1 ⟨rfl, hb1⟩
  have HB1 := Lib.hid hb1
  clear hb1
  go_wp2_with fail
  go_fit (kind_any 5 _ _ _ _)
  rintro e w2 ⟨rfl, hb2⟩
  have hD := (DC.alloc w1 [.int .i64 1, .string ByteArray.empty, .string "a".toUTF8, .slice none 0 0, .int .i64 3, .string ByteArray.empty, .string ByteArray.empty, .slice none 0 0] 24).below hb2
  have HB2 := Lib.hid (HB1.out.trans (((lay_alloc w1 _).trans (hb2.mono (by simp))).mono HB1.out.size))
  have hk := aF_kids hD rfl
  generalize w1.heap.size = g at *
  have hal := lay_alloc w2 (.cells #[.int .i64 5, .string ByteArray.empty, .string ByteArray.empty, .slice (some ⟨g, 0, none⟩) 2 2] 24)
  have HFB := Lib.hid (DC.alloc w2 [.int .i64 5, .string ByteArray.empty, .string ByteArray.empty, .slice (some ⟨g, 0, none⟩) 2 2] 24)
  have hk2 := hk.on hal
  have HK := Lib.hid hk2
  have HP := Lib.hid (Put_any aF aF_light hk2)
  have HB3 := Lib.hid (HB2.out.trans (hal.mono HB2.out.size))
  unfold flV at HP
  clear hD hb2 hk hk2 hal
  generalize hfb : w2.heap.size = fb at *
  go_wp2_with fail
  go_fit HP.out
  rintro e w3 hp
  rcases hp with ⟨_, pg, n, c, rfl, how, hb3⟩ | ⟨h, _⟩
  rotate_left
  · exact absurd aF_ck h
  have HL := Lib.hid (Wi.owns_len how)
  have HG := Lib.hid (Get_any (some ⟨pg, 0, none⟩) n c (flB 6 aF) (Wi.owns_len how) (Wi.owns_in how) (fun h => by cases h) (by rw [aF_b]; decide) (by have h := Wi.owns_len how; rw [aF_b] at h; have e : aB.length = 18 := rfl; omega))
  have HK3 := Lib.hid (HK.out.on hb3)
  have HF3 := Lib.hid (HFB.out.below hb3)
  have HB4 := Lib.hid (HB3.out.trans (hb3.mono HB3.out.size))
  clear how hb3 HP HK HFB
  go_wp2_with fail
  go_fit HG.out
  rintro e w4 ⟨hb4, hv⟩
  rw [aF_b, aF_tk] at hv
  rcases hv with ⟨_, u, rfl, hku⟩ | ⟨h, _⟩
  rotate_left
  · rw [aF_get] at h; cases h
  obtain ⟨ua, uc, rfl, _, _⟩ := hku.slice
  have HKU := Lib.hid hku
  have HK4 := Lib.hid (HK3.out.on hb4)
  have HF4 := Lib.hid (HF3.out.below hb4)
  have HB5 := Lib.hid (HB4.out.trans (hb4.mono HB4.out.size))
  have hal := lay_alloc w4 (.cells #[.int .i64 5, .string ByteArray.empty, .string ByteArray.empty, .slice ua 2 uc] 24)
  have hgb := DC.alloc w4 [.int .i64 5, .string ByteArray.empty, .string ByteArray.empty, .slice ua 2 uc] 24
  have hk5 := HK4.out.on hal
  have hs := Same_any aF _ _ _ hk5 (hku.on hal)
  have HS := Lib.hid hs
  have HK5 := Lib.hid hk5
  have hF5 := HF4.out.below hal
  have HF5 := Lib.hid hF5
  have HB6 := Lib.hid (HB5.out.trans (hal.mono HB5.out.size))
  have y0 := hgb.cells 0 _ rfl
  have y1 := hgb.cells 1 _ rfl
  have y2 := hgb.cells 2 _ rfl
  have y3 := hgb.cells 3 _ rfl
  have x0 := hF5.cells 0 _ rfl
  have x1 := hF5.cells 1 _ rfl
  have x2 := hF5.cells 2 _ rfl
  have x3 := hF5.cells 3 _ rfl
  clear hku hb4 HG hal hgb hk5 hs hF5
  have e1 : flV aF (.slice ua aF.kids.length uc) = .agg #[.int .i64 5, .string ByteArray.empty, .string ByteArray.empty, .slice ua 2 uc] := rfl
  have e2 : flV aF (.slice (some ⟨g, 0, none⟩) 2 2) = .agg #[.int .i64 5, .string ByteArray.empty, .string ByteArray.empty, .slice (some ⟨g, 0, none⟩) 2 2] := rfl
  rw [e1, e2] at HS
  rw [e1]
  go_wp2_with fail
  go_fit HS.out
  rintro e w5 ⟨rfl, hb5⟩
  have hh1 := Holds_any aF ⟨0, "ab".toUTF8, false, ByteArray.empty, true, ByteArray.empty⟩ aF_light (HK5.out.on hb5) (by decide)
  rw [aF_hold] at hh1
  have HH1 := Lib.hid hh1
  have hF6 := HF5.out.below hb5
  have HF6 := Lib.hid hF6
  have HK6 := Lib.hid (HK5.out.on hb5)
  have HB7 := Lib.hid (HB6.out.trans (hb5.mono HB6.out.size))
  clear x0 x1 x2 x3 y0 y1 y2 y3 hb5 HS hh1
  have x0 := hF6.cells 0 _ rfl
  have x1 := hF6.cells 1 _ rfl
  have x2 := hF6.cells 2 _ rfl
  have x3 := hF6.cells 3 _ rfl
  clear hF6
  rw [e2] at HH1
  unfold evV at HH1
  go_wp2_with fail
  go_fit HH1.out
  rintro e w6 ⟨rfl, hb6⟩
  have hh2 := Holds_any aF ⟨0, "ab".toUTF8, true, ByteArray.empty, false, ByteArray.empty⟩ aF_light (HK6.out.on hb6) (by decide)
  rw [aF_hold2] at hh2
  have HH2 := Lib.hid hh2
  have hF7 := HF6.out.below hb6
  have HB8 := Lib.hid (HB7.out.trans (hb6.mono HB7.out.size))
  clear x0 x1 x2 x3 hb6 HH1 hh2
  have x0 := hF7.cells 0 _ rfl
  have x1 := hF7.cells 1 _ rfl
  have x2 := hF7.cells 2 _ rfl
  have x3 := hF7.cells 3 _ rfl
  clear hF7
  rw [e2] at HH2
  unfold evV at HH2
  go_wp2_with fail
  go_fit HH2.out
  rintro e w7 ⟨rfl, hb7⟩
  have HB9 := Lib.hid (HB8.out.trans (hb7.mono HB8.out.size))
  clear x0 x1 x2 x3 hb7 HH2
  go_wp2_with fail
  go_fit (kind_any 4 none 0 0 w7)
  rintro e w8 ⟨rfl, hb8⟩
  have HBa := Lib.hid (HB9.out.trans (hb8.mono HB9.out.size))
  have hcc := Check_any aNot aNot_light (u := .slice none 0 0) (w := w8) (.nul none 0 (by decide))
  rw [aNot_ck] at hcc
  have HCC := Lib.hid hcc
  have e3 : flV aNot (.slice none 0 0) = .agg #[.int .i64 4, .string ByteArray.empty, .string ByteArray.empty, .slice none 0 0] := rfl
  rw [e3] at HCC
  clear hb8 hcc
  go_wp2_with fail
  go_fit HCC.out
  rintro e w9 ⟨rfl, hb9⟩
  have HBb := Lib.hid (HBa.out.trans (hb9.mono HBa.out.size))
  clear hb9
  go_wp2_with fail
  go_ret
  exact ⟨rfl, HBb.out⟩
end Go.Proofs.Ytdeknkfhlmkabaa
