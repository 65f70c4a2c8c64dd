/-
  FilterLogic walked. (Written by genlogic2.py.)
-/
import Derived.Test.YtfkiemmkflchoaaFj
import Derived.Test.YtfkiemmkflchoaaFlow6
import Derived.Test.YtfkiemmkflchoaaFlow2
namespace Go.Proofs.Ytfkiemmkflchoaa
set_option linter.unusedVariables false
set_option linter.unusedSimpArgs false
open Go.RowKit

set_option maxRecDepth 100000 in
set_option maxHeartbeats 12800000 in
theorem Logic_any {w : World} {u u2 : Value} (f : Fl) (hk : KidsIn w w.heap.size u f.kids) (hfit : Fits f) (f2 : Fl) (hk2 : KidsIn w w.heap.size u2 f2.kids) (hfit2 : Fits f2) (ev : Kev) (hev : FitE ev) : Calls Try.prog 8 #[flV f u, flV f2 u2, evV ev] w (HoldP true w) := by
  obtain ⟨a0, cap, rfl, hc1, hc2⟩ := hk.slice
  obtain ⟨a2, cap2, rfl, hc3, hc4⟩ := hk2.slice
  have hb1 := lay_alloc w (.cells #[.int .i64 f.kind, .string f.name, .string f.text, .slice a0 f.kids.length cap] 24)
  have hb2 := lay_alloc (w.alloc (.cells #[.int .i64 f.kind, .string f.name, .string f.text, .slice a0 f.kids.length cap] 24)) (.cells #[.int .i64 f2.kind, .string f2.name, .string f2.text, .slice a2 f2.kids.length cap2] 24)
  have hb3 := lay_alloc ((w.alloc (.cells #[.int .i64 f.kind, .string f.name, .string f.text, .slice a0 f.kids.length cap] 24)).alloc (.cells #[.int .i64 f2.kind, .string f2.name, .string f2.text, .slice a2 f2.kids.length cap2] 24)) (.cells #[.int .i64 ev.pos, .string ev.key, .bool ev.had, .string ev.old, .bool ev.has, .string ev.now] 32)
  have hb12 := hb1.trans (hb2.mono hb1.size)
  have hb0 := hb12.trans (hb3.mono hb12.size)
  have s1 : (w.alloc (.cells #[.int .i64 f.kind, .string f.name, .string f.text, .slice a0 f.kids.length cap] 24)).heap.size = w.heap.size + 1 := by simp
  have s2 : ((w.alloc (.cells #[.int .i64 f.kind, .string f.name, .string f.text, .slice a0 f.kids.length cap] 24)).alloc (.cells #[.int .i64 f2.kind, .string f2.name, .string f2.text, .slice a2 f2.kids.length cap2] 24)).heap.size = w.heap.size + 1 + 1 := by simp
  have hF := ((DC.alloc w [.int .i64 f.kind, .string f.name, .string f.text, .slice a0 f.kids.length cap] 24).below hb2).below hb3
  have hG := (DC.alloc (w.alloc (.cells #[.int .i64 f.kind, .string f.name, .string f.text, .slice a0 f.kids.length cap] 24)) [.int .i64 f2.kind, .string f2.name, .string f2.text, .slice a2 f2.kids.length cap2] 24).below hb3
  have hE := DC.alloc ((w.alloc (.cells #[.int .i64 f.kind, .string f.name, .string f.text, .slice a0 f.kids.length cap] 24)).alloc (.cells #[.int .i64 f2.kind, .string f2.name, .string f2.text, .slice a2 f2.kids.length cap2] 24)) [.int .i64 ev.pos, .string ev.key, .bool ev.had, .string ev.old, .bool ev.has, .string ev.now] 32
  rw [s1] at hG
  rw [s2] at hE
  have HF0 := Lib.hid hF
  have HG0 := Lib.hid hG
  have HE0 := Lib.hid hE
  have HB0 := Lib.hid hb0
  have HKF0 := Lib.hid (hk.on hb0)
  have HKG0 := Lib.hid (hk2.on hb0)
  have HL := Lib.hid (lightB_any f hfit (hk.on hb0))
  have HV := Lib.hid hev
  have HFG := Lib.hid hfit2
  unfold flV at HL
  clear hk hfit hk2 hfit2 hb0 hb1 hb2 hb3 hb12 s1 s2 hF hG hE hev
  unfold flV evV
  go_enter Try.func8, Try.ntmps8
  go_wp2_with fail
  go_fit HL.out
  rintro e w1 ⟨rfl, hli, hb⟩
  have HLi := Lib.hid hli
  have HF1 := Lib.hid (HF0.out.below hb)
  have HG1 := Lib.hid (HG0.out.below hb)
  have HE1 := Lib.hid (HE0.out.below hb)
  have HKF1 := Lib.hid (HKF0.out.on hb)
  have HKG1 := Lib.hid (HKG0.out.on hb)
  have HB1 := Lib.hid (HB0.out.trans (hb.mono HB0.out.size))
  clear HF0 HG0 HE0 HKF0 HKG0 HB0
  have fc0 := HF1.out.cells 0 _ rfl
  have fc1 := HF1.out.cells 1 _ rfl
  have fc2 := HF1.out.cells 2 _ rfl
  have fc3 := HF1.out.cells 3 _ rfl
  have gc0 := HG1.out.cells 0 _ rfl
  have gc1 := HG1.out.cells 1 _ rfl
  have gc2 := HG1.out.cells 2 _ rfl
  have gc3 := HG1.out.cells 3 _ rfl
  have ec0 := HE1.out.cells 0 _ rfl
  have ec1 := HE1.out.cells 1 _ rfl
  have ec2 := HE1.out.cells 2 _ rfl
  have ec3 := HE1.out.cells 3 _ rfl
  have ec4 := HE1.out.cells 4 _ rfl
  have ec5 := HE1.out.cells 5 _ rfl
  clear hli hb HL
  cases hlb : lightB f
  · clear hlb
    go_wp2_with fail
    go_fit (awake_any _)
    rintro e wz ⟨rfl, hbz⟩
    have HBz := Lib.hid (HB1.out.trans (hbz.mono HB1.out.size))
    clear hbz
    go_wp2_with fail
    go_ret
    exact ⟨rfl, HBz.out⟩
  have HLL := Lib.hid (HLi.out hlb)
  have HL2 := Lib.hid (lightB_any f2 HFG.out HKG1.out)
  unfold flV at HL2
  clear hlb HLi HFG
  go_wp2_with fail
  go_fit HL2.out
  rintro e w2 ⟨rfl, hli, hb⟩
  have HLi := Lib.hid hli
  clear fc0 fc1 fc2 fc3 gc0 gc1 gc2 gc3 ec0 ec1 ec2 ec3 ec4 ec5
  have HF2 := Lib.hid (HF1.out.below hb)
  have HG2 := Lib.hid (HG1.out.below hb)
  have HE2 := Lib.hid (HE1.out.below hb)
  have HKF2 := Lib.hid (HKF1.out.on hb)
  have HKG2 := Lib.hid (HKG1.out.on hb)
  have HB2 := Lib.hid (HB1.out.trans (hb.mono HB1.out.size))
  clear HF1 HG1 HE1 HKF1 HKG1 HB1
  have fc0 := HF2.out.cells 0 _ rfl
  have fc1 := HF2.out.cells 1 _ rfl
  have fc2 := HF2.out.cells 2 _ rfl
  have fc3 := HF2.out.cells 3 _ rfl
  have gc0 := HG2.out.cells 0 _ rfl
  have gc1 := HG2.out.cells 1 _ rfl
  have gc2 := HG2.out.cells 2 _ rfl
  have gc3 := HG2.out.cells 3 _ rfl
  have ec0 := HE2.out.cells 0 _ rfl
  have ec1 := HE2.out.cells 1 _ rfl
  have ec2 := HE2.out.cells 2 _ rfl
  have ec3 := HE2.out.cells 3 _ rfl
  have ec4 := HE2.out.cells 4 _ rfl
  have ec5 := HE2.out.cells 5 _ rfl
  clear hli hb HL2
  cases hlb : lightB f2
  · clear hlb
    go_wp2_with fail
    go_fit (awake_any _)
    rintro e wz ⟨rfl, hbz⟩
    have HBz := Lib.hid (HB2.out.trans (hbz.mono HB2.out.size))
    clear hbz
    go_wp2_with fail
    go_ret
    exact ⟨rfl, HBz.out⟩
  have HLG := Lib.hid (HLi.out hlb)
  have hal := lay_alloc w2 (.cells #[.int .i64 ev.pos, .string ev.key, .bool ev.had, .string ev.old, .bool ev.has, .string ev.now] 32)
  have HAL := Lib.hid hal
  have HW := Lib.hid (few_any [ev] (evl1_in (DC.alloc w2 [.int .i64 ev.pos, .string ev.key, .bool ev.had, .string ev.old, .bool ev.has, .string ev.now] 32)) (fun e he => by obtain rfl := List.mem_singleton.1 he; exact HV.out))
  clear hlb HLi HV hal
  go_wp2_with fail
  go_fit HW.out
  rintro e w3 ⟨rfl, hb0⟩
  have hb := HAL.out.trans (hb0.mono HAL.out.size)
  clear fc0 fc1 fc2 fc3 gc0 gc1 gc2 gc3 ec0 ec1 ec2 ec3 ec4 ec5
  have HF3 := Lib.hid (HF2.out.below hb)
  have HG3 := Lib.hid (HG2.out.below hb)
  have HE3 := Lib.hid (HE2.out.below hb)
  have HKF3 := Lib.hid (HKF2.out.on hb)
  have HKG3 := Lib.hid (HKG2.out.on hb)
  have HB3 := Lib.hid (HB2.out.trans (hb.mono HB2.out.size))
  clear HF2 HG2 HE2 HKF2 HKG2 HB2
  have fc0 := HF3.out.cells 0 _ rfl
  have fc1 := HF3.out.cells 1 _ rfl
  have fc2 := HF3.out.cells 2 _ rfl
  have fc3 := HF3.out.cells 3 _ rfl
  have gc0 := HG3.out.cells 0 _ rfl
  have gc1 := HG3.out.cells 1 _ rfl
  have gc2 := HG3.out.cells 2 _ rfl
  have gc3 := HG3.out.cells 3 _ rfl
  have ec0 := HE3.out.cells 0 _ rfl
  have ec1 := HE3.out.cells 1 _ rfl
  have ec2 := HE3.out.cells 2 _ rfl
  have ec3 := HE3.out.cells 3 _ rfl
  have ec4 := HE3.out.cells 4 _ rfl
  have ec5 := HE3.out.cells 5 _ rfl
  clear hb hb0 HAL HW
  cases hlb : fewB [ev]
  · clear hlb
    go_wp2_with fail
    go_fit (awake_any _)
    rintro e wz ⟨rfl, hbz⟩
    have HBz := Lib.hid (HB3.out.trans (hbz.mono HB3.out.size))
    clear hbz
    go_wp2_with fail
    go_ret
    exact ⟨rfl, HBz.out⟩
  have HSM : Hid (ev.now.size ≤ 1073741824) := by
    show _ ≤ _
    have := (few_small hlb).2 ev (by simp)
    omega
  clear hlb
  clear fc0 fc1 fc2 fc3 gc0 gc1 gc2 gc3 ec0 ec1 ec2 ec3 ec4 ec5
  go_wp2_with fail
  refine wp_region_flow (S := SLl [Kl.fil (andF []), Kl.val (evV ev), Kl.val (.bool true), Kl.val (.bool false), Kl.val (.bool false), Kl.fil (orF []), Kl.val (evV ev), Kl.val (.bool false), Kl.val (.bool false)]) (by kernel_rfl) (SLl_stable _) (by kernel_rfl) (by kernel_rfl) ?_ ?_
  · intro i hi
    match i, hi with
      | 0, _ =>
        refine fs_plain _ _ rfl rfl rfl ?_
        intro a w1 hb hrest hneed
        clear hneed hrest
        go_simp
        refine (kind_any 5 none 0 0 w1).mono ?_
        rintro e wk ⟨rfl, hb2⟩
        exact ⟨_, rfl, ⟨none, 0, rfl, .nul none 0 (by decide)⟩, hb2⟩
      | 1, _ =>
        refine fs_plain _ _ rfl rfl rfl ?_
        intro a w1 hb hrest hneed
        have p5 : a.tmps.getD 5 undef = .pointer (some ⟨w.heap.size + 1 + 1, 0, none⟩) := (hrest 5 (by kernel_rfl)).trans rfl
        have p5' := (Array.getD_eq_getD_getElem? ..).symm.trans p5
        have hq := HE3.out.below hb
        have x0 := hq.cells 0 _ rfl
        have x1 := hq.cells 1 _ rfl
        have x2 := hq.cells 2 _ rfl
        have x3 := hq.cells 3 _ rfl
        have x4 := hq.cells 4 _ rfl
        have x5 := hq.cells 5 _ rfl
        clear hq
        clear hneed hrest
        go_simp
        first | exact ⟨_, rfl, rfl, Below.refl _ _⟩ | exact ⟨_, rfl, (by show _ = _; simp), Below.refl _ _⟩
      | 2, _ =>
        refine fs_plain _ _ rfl rfl rfl ?_
        intro a w1 hb hrest hneed
        have r25 : SKl (.fil (andF [])) w1 (a.tmps.getD 25 undef) := hneed 0 25 rfl rfl
        obtain ⟨u25, e25⟩ : ∃ u, a.tmps.getD 25 undef = u := ⟨_, rfl⟩
        rw [e25] at r25
        have e25' := (Array.getD_eq_getD_getElem? ..).symm.trans e25
        have e26 : a.tmps.getD 26 undef = (evV ev) := hneed 1 26 rfl rfl
        have e26' := (Array.getD_eq_getD_getElem? ..).symm.trans e26
        clear hneed hrest
        obtain ⟨a25, c25, rfl, hk25⟩ := r25
        have H := Holds_any (andF []) ev (kk_light (fun f h => by simp at h) (by simp)) hk25 HSM.out
        rw [and0] at H
        go_simp
        refine H.mono ?_
        rintro e wk ⟨rfl, hb2⟩
        exact ⟨_, rfl, rfl, hb2⟩
      | 3, _ =>
        refine fs_plain _ _ rfl rfl rfl ?_
        intro a w1 hb hrest hneed
        have e27 : a.tmps.getD 27 undef = (.bool true) := hneed 2 27 rfl rfl
        have e27' := (Array.getD_eq_getD_getElem? ..).symm.trans e27
        clear hneed hrest
        go_simp
        first | exact ⟨_, rfl, rfl, Below.refl _ _⟩ | exact ⟨_, rfl, (by show _ = _; simp), Below.refl _ _⟩
      | 4, _ =>
        refine fs_plain _ _ rfl rfl rfl ?_
        intro a w1 hb hrest hneed
        have e28 : a.tmps.getD 28 undef = (.bool false) := hneed 3 28 rfl rfl
        have e28' := (Array.getD_eq_getD_getElem? ..).symm.trans e28
        clear hneed hrest
        go_simp
        first | exact ⟨_, rfl, rfl, Below.refl _ _⟩ | exact ⟨_, rfl, (by show _ = _; simp), Below.refl _ _⟩
      | 5, _ =>
        refine fs_guard _ _ 4 29 false rfl rfl rfl rfl rfl (fun w v h => h) ?_
        intro a w1 hb hrest hneed
        clear hneed hrest
        go_simp
        refine (kind_any 6 none 0 0 w1).mono ?_
        rintro e wk ⟨rfl, hb2⟩
        exact ⟨_, rfl, ⟨none, 0, rfl, .nul none 0 (by decide)⟩, hb2⟩
      | 6, _ =>
        refine fs_guard _ _ 4 29 false rfl rfl rfl rfl rfl (fun w v h => h) ?_
        intro a w1 hb hrest hneed
        have p5 : a.tmps.getD 5 undef = .pointer (some ⟨w.heap.size + 1 + 1, 0, none⟩) := (hrest 5 (by kernel_rfl)).trans rfl
        have p5' := (Array.getD_eq_getD_getElem? ..).symm.trans p5
        have hq := HE3.out.below hb
        have x0 := hq.cells 0 _ rfl
        have x1 := hq.cells 1 _ rfl
        have x2 := hq.cells 2 _ rfl
        have x3 := hq.cells 3 _ rfl
        have x4 := hq.cells 4 _ rfl
        have x5 := hq.cells 5 _ rfl
        clear hq
        clear hneed hrest
        go_simp
        first | exact ⟨_, rfl, rfl, Below.refl _ _⟩ | exact ⟨_, rfl, (by show _ = _; simp), Below.refl _ _⟩
      | 7, _ =>
        refine fs_guard _ _ 4 29 false rfl rfl rfl rfl rfl (fun w v h => h) ?_
        intro a w1 hb hrest hneed
        have r30 : SKl (.fil (orF [])) w1 (a.tmps.getD 30 undef) := hneed 5 30 rfl rfl
        obtain ⟨u30, e30⟩ : ∃ u, a.tmps.getD 30 undef = u := ⟨_, rfl⟩
        rw [e30] at r30
        have e30' := (Array.getD_eq_getD_getElem? ..).symm.trans e30
        have e31 : a.tmps.getD 31 undef = (evV ev) := hneed 6 31 rfl rfl
        have e31' := (Array.getD_eq_getD_getElem? ..).symm.trans e31
        clear hneed hrest
        obtain ⟨a30, c30, rfl, hk30⟩ := r30
        have H := Holds_any (orF []) ev (kk_light (fun f h => by simp at h) (by simp)) hk30 HSM.out
        rw [or0] at H
        go_simp
        refine H.mono ?_
        rintro e wk ⟨rfl, hb2⟩
        exact ⟨_, rfl, rfl, hb2⟩
      | 8, _ =>
        refine fs_plain _ _ rfl rfl rfl ?_
        intro a w1 hb hrest hneed
        have e29 : a.tmps.getD 29 undef = (.bool false) := hneed 4 29 rfl rfl
        have e29' := (Array.getD_eq_getD_getElem? ..).symm.trans e29
        have e32 : a.tmps.getD 32 undef = (.bool false) := hneed 7 32 rfl rfl
        have e32' := (Array.getD_eq_getD_getElem? ..).symm.trans e32
        clear hneed hrest
        go_simp
        first | exact ⟨_, rfl, rfl, Below.refl _ _⟩ | exact ⟨_, rfl, (by show _ = _; simp), Below.refl _ _⟩
      | n + 9, h => exact absurd h (by simp)
  · intro a w7 hb hd hs hr hg
    obtain ⟨u25, e25⟩ : ∃ u, a.tmps.getD 25 undef = u := ⟨_, rfl⟩
    obtain ⟨u26, e26⟩ : ∃ u, a.tmps.getD 26 undef = u := ⟨_, rfl⟩
    obtain ⟨u27, e27⟩ : ∃ u, a.tmps.getD 27 undef = u := ⟨_, rfl⟩
    obtain ⟨u28, e28⟩ : ∃ u, a.tmps.getD 28 undef = u := ⟨_, rfl⟩
    obtain ⟨u29, e29⟩ : ∃ u, a.tmps.getD 29 undef = u := ⟨_, rfl⟩
    obtain ⟨u30, e30⟩ : ∃ u, a.tmps.getD 30 undef = u := ⟨_, rfl⟩
    obtain ⟨u31, e31⟩ : ∃ u, a.tmps.getD 31 undef = u := ⟨_, rfl⟩
    obtain ⟨u32, e32⟩ : ∃ u, a.tmps.getD 32 undef = u := ⟨_, rfl⟩
    have e33 : a.tmps.getD 33 undef = .bool false := hg 8 (by decide) 33 rfl
    have ha := act_flow [25, 26, 27, 28, 29, 30, 31, 32, 33] (by kernel_rfl) hd hs hr
    simp only [putsOf, List.foldl_cons, List.foldl_nil, e25, e26, e27, e28, e29, e30, e31, e32, e33] at ha
    clear e25 e26 e27 e28 e29 e30 e31 e32 e33 hd hs hr hg
    subst ha
    go_simp
    have HF7 := Lib.hid (HF3.out.below hb)
    have HG7 := Lib.hid (HG3.out.below hb)
    have HE7 := Lib.hid (HE3.out.below hb)
    have HKF7 := Lib.hid (HKF3.out.on hb)
    have HKG7 := Lib.hid (HKG3.out.on hb)
    have HB7 := Lib.hid (HB3.out.trans (hb.mono HB3.out.size))
    clear HF3 HG3 HE3 HKF3 HKG3 HB3
    have fc0 := HF7.out.cells 0 _ rfl
    have fc1 := HF7.out.cells 1 _ rfl
    have fc2 := HF7.out.cells 2 _ rfl
    have fc3 := HF7.out.cells 3 _ rfl
    have gc0 := HG7.out.cells 0 _ rfl
    have gc1 := HG7.out.cells 1 _ rfl
    have gc2 := HG7.out.cells 2 _ rfl
    have gc3 := HG7.out.cells 3 _ rfl
    have ec0 := HE7.out.cells 0 _ rfl
    have ec1 := HE7.out.cells 1 _ rfl
    have ec2 := HE7.out.cells 2 _ rfl
    have ec3 := HE7.out.cells 3 _ rfl
    have ec4 := HE7.out.cells 4 _ rfl
    have ec5 := HE7.out.cells 5 _ rfl
    clear hb
    have hal := lay_alloc w7 (.cells #[.int .i64 f.kind, .string f.name, .string f.text, .slice a0 f.kids.length cap] 24)
    have HAL := Lib.hid hal
    have HAR := Lib.hid (kids1_in (f := f) (DC.alloc w7 [.int .i64 f.kind, .string f.name, .string f.text, .slice a0 f.kids.length cap] 24) (HKF7.out.on hal))
    clear hal
    go_wp2_with fail
    go_fit (kind_any 4 _ _ _ _)
    rintro e w8 ⟨rfl, hb0⟩
    have hb := HAL.out.trans (hb0.mono HAL.out.size)
    have HN18 := Lib.hid (HAR.out.on hb0)
    clear fc0 fc1 fc2 fc3 gc0 gc1 gc2 gc3 ec0 ec1 ec2 ec3 ec4 ec5
    have HF8 := Lib.hid (HF7.out.below hb)
    have HG8 := Lib.hid (HG7.out.below hb)
    have HE8 := Lib.hid (HE7.out.below hb)
    have HKF8 := Lib.hid (HKF7.out.on hb)
    have HKG8 := Lib.hid (HKG7.out.on hb)
    have HB8 := Lib.hid (HB7.out.trans (hb.mono HB7.out.size))
    clear HF7 HG7 HE7 HKF7 HKG7 HB7
    have fc0 := HF8.out.cells 0 _ rfl
    have fc1 := HF8.out.cells 1 _ rfl
    have fc2 := HF8.out.cells 2 _ rfl
    have fc3 := HF8.out.cells 3 _ rfl
    have gc0 := HG8.out.cells 0 _ rfl
    have gc1 := HG8.out.cells 1 _ rfl
    have gc2 := HG8.out.cells 2 _ rfl
    have gc3 := HG8.out.cells 3 _ rfl
    have ec0 := HE8.out.cells 0 _ rfl
    have ec1 := HE8.out.cells 1 _ rfl
    have ec2 := HE8.out.cells 2 _ rfl
    have ec3 := HE8.out.cells 3 _ rfl
    have ec4 := HE8.out.cells 4 _ rfl
    have ec5 := HE8.out.cells 5 _ rfl
    clear hb hb0 HAL HAR
    have hal := lay_alloc w8 (.cells #[.int .i64 4, .string ByteArray.empty, .string ByteArray.empty, .slice (some ⟨w7.heap.size, 0, none⟩) 1 1] 24)
    have HAL := Lib.hid hal
    have HAR := Lib.hid (kids1_in (f := (notF f)) (DC.alloc w8 [.int .i64 4, .string ByteArray.empty, .string ByteArray.empty, .slice (some ⟨w7.heap.size, 0, none⟩) 1 1] 24) (HN18.out.on hal))
    clear hal
    go_wp2_with fail
    go_fit (kind_any 4 _ _ _ _)
    rintro e w9 ⟨rfl, hb0⟩
    have hb := HAL.out.trans (hb0.mono HAL.out.size)
    have HN29 := Lib.hid (HAR.out.on hb0)
    clear fc0 fc1 fc2 fc3 gc0 gc1 gc2 gc3 ec0 ec1 ec2 ec3 ec4 ec5
    have HF9 := Lib.hid (HF8.out.below hb)
    have HG9 := Lib.hid (HG8.out.below hb)
    have HE9 := Lib.hid (HE8.out.below hb)
    have HKF9 := Lib.hid (HKF8.out.on hb)
    have HKG9 := Lib.hid (HKG8.out.on hb)
    have HN19 := Lib.hid (HN18.out.on hb)
    have HB9 := Lib.hid (HB8.out.trans (hb.mono HB8.out.size))
    clear HF8 HG8 HE8 HKF8 HKG8 HN18 HB8
    have fc0 := HF9.out.cells 0 _ rfl
    have fc1 := HF9.out.cells 1 _ rfl
    have fc2 := HF9.out.cells 2 _ rfl
    have fc3 := HF9.out.cells 3 _ rfl
    have gc0 := HG9.out.cells 0 _ rfl
    have gc1 := HG9.out.cells 1 _ rfl
    have gc2 := HG9.out.cells 2 _ rfl
    have gc3 := HG9.out.cells 3 _ rfl
    have ec0 := HE9.out.cells 0 _ rfl
    have ec1 := HE9.out.cells 1 _ rfl
    have ec2 := HE9.out.cells 2 _ rfl
    have ec3 := HE9.out.cells 3 _ rfl
    have ec4 := HE9.out.cells 4 _ rfl
    have ec5 := HE9.out.cells 5 _ rfl
    clear hb hb0 HAL HAR
    have hal := lay_alloc w9 (.cells #[.int .i64 4, .string ByteArray.empty, .string ByteArray.empty, .slice (some ⟨w8.heap.size, 0, none⟩) 1 1] 24)
    have HTA := Lib.hid (DC.alloc w9 [.int .i64 4, .string ByteArray.empty, .string ByteArray.empty, .slice (some ⟨w8.heap.size, 0, none⟩) 1 1] 24)
    have HAL := Lib.hid hal
    clear hal
    go_wp2_with fail
    generalize w9.alloc (.cells #[.int .i64 4, .string ByteArray.empty, .string ByteArray.empty, .slice (some ⟨w8.heap.size, 0, none⟩) 1 1] 24) = W9 at *
    have hb := HAL.out
    clear fc0 fc1 fc2 fc3 gc0 gc1 gc2 gc3 ec0 ec1 ec2 ec3 ec4 ec5
    have HFW9 := Lib.hid (HF9.out.below hb)
    have HGW9 := Lib.hid (HG9.out.below hb)
    have HEW9 := Lib.hid (HE9.out.below hb)
    have HKFW9 := Lib.hid (HKF9.out.on hb)
    have HKGW9 := Lib.hid (HKG9.out.on hb)
    have HN1W9 := Lib.hid (HN19.out.on hb)
    have HN2W9 := Lib.hid (HN29.out.on hb)
    have HBW9 := Lib.hid (HB9.out.trans (hb.mono HB9.out.size))
    clear HF9 HG9 HE9 HKF9 HKG9 HN19 HN29 HB9
    clear hb HAL
    by_cases hck : ckF (notF (notF f)) = 0
    · refine wp_region_flow (S := SLl [Kl.fil (notF (notF f)), Kl.val (.int .i64 0), Kl.val (.bool true), Kl.val (.bool true), Kl.fil (notF (notF f)), Kl.val (evV ev), Kl.val (.bool (holdsF f ev)), Kl.fil f, Kl.val (evV ev), Kl.val (.bool (holdsF f ev)), Kl.val (.bool false), Kl.val (.bool false)]) (by kernel_rfl) (SLl_stable _) (by kernel_rfl) (by kernel_rfl) ?_ ?_
      · intro i hi
        match i, hi with
          | 0, _ =>
            refine fs_plain _ _ rfl rfl rfl ?_
            intro a w1 hb hrest hneed
            have p7 : a.tmps.getD 7 undef = .pointer (some ⟨w9.heap.size, 0, none⟩) := (hrest 7 (by kernel_rfl)).trans rfl
            have p7' := (Array.getD_eq_getD_getElem? ..).symm.trans p7
            have hq := HTA.out.below hb
            have x0 := hq.cells 0 _ rfl
            have x1 := hq.cells 1 _ rfl
            have x2 := hq.cells 2 _ rfl
            have x3 := hq.cells 3 _ rfl
            clear hq
            clear hneed hrest
            go_simp
            exact ⟨_, rfl, ⟨_, _, rfl, HN2W9.out.on hb⟩, Below.refl _ _⟩
          | 1, _ =>
            refine fs_plain _ _ rfl rfl rfl ?_
            intro a w1 hb hrest hneed
            have r39 : SKl (.fil (notF (notF f))) w1 (a.tmps.getD 39 undef) := hneed 0 39 rfl rfl
            obtain ⟨u39, e39⟩ : ∃ u, a.tmps.getD 39 undef = u := ⟨_, rfl⟩
            rw [e39] at r39
            have e39' := (Array.getD_eq_getD_getElem? ..).symm.trans e39
            clear hneed hrest
            obtain ⟨a39, c39, rfl, hk39⟩ := r39
            have H := Check_any (notF (notF f)) (not_light (not_light HLL.out)) hk39
            rw [hck] at H
            go_simp
            refine H.mono ?_
            rintro e wk ⟨rfl, hb2⟩
            exact ⟨_, rfl, rfl, hb2⟩
          | 2, _ =>
            refine fs_plain _ _ rfl rfl rfl ?_
            intro a w1 hb hrest hneed
            have e40 : a.tmps.getD 40 undef = (.int .i64 0) := hneed 1 40 rfl rfl
            have e40' := (Array.getD_eq_getD_getElem? ..).symm.trans e40
            clear hneed hrest
            go_simp
            first | exact ⟨_, rfl, rfl, Below.refl _ _⟩ | exact ⟨_, rfl, (by show _ = _; simp), Below.refl _ _⟩
          | 3, _ =>
            refine fs_plain _ _ rfl rfl rfl ?_
            intro a w1 hb hrest hneed
            have e41 : a.tmps.getD 41 undef = (.bool true) := hneed 2 41 rfl rfl
            have e41' := (Array.getD_eq_getD_getElem? ..).symm.trans e41
            clear hneed hrest
            go_simp
            first | exact ⟨_, rfl, rfl, Below.refl _ _⟩ | exact ⟨_, rfl, (by show _ = _; simp), Below.refl _ _⟩
          | 4, _ =>
            refine fs_guard _ _ 3 42 true rfl rfl rfl rfl rfl (fun w v h => h) ?_
            intro a w1 hb hrest hneed
            have p7 : a.tmps.getD 7 undef = .pointer (some ⟨w9.heap.size, 0, none⟩) := (hrest 7 (by kernel_rfl)).trans rfl
            have p7' := (Array.getD_eq_getD_getElem? ..).symm.trans p7
            have hq := HTA.out.below hb
            have x0 := hq.cells 0 _ rfl
            have x1 := hq.cells 1 _ rfl
            have x2 := hq.cells 2 _ rfl
            have x3 := hq.cells 3 _ rfl
            clear hq
            clear hneed hrest
            go_simp
            exact ⟨_, rfl, ⟨_, _, rfl, HN2W9.out.on hb⟩, Below.refl _ _⟩
          | 5, _ =>
            refine fs_guard _ _ 3 42 true rfl rfl rfl rfl rfl (fun w v h => h) ?_
            intro a w1 hb hrest hneed
            have p5 : a.tmps.getD 5 undef = .pointer (some ⟨w.heap.size + 1 + 1, 0, none⟩) := (hrest 5 (by kernel_rfl)).trans rfl
            have p5' := (Array.getD_eq_getD_getElem? ..).symm.trans p5
            have hq := HEW9.out.below hb
            have x0 := hq.cells 0 _ rfl
            have x1 := hq.cells 1 _ rfl
            have x2 := hq.cells 2 _ rfl
            have x3 := hq.cells 3 _ rfl
            have x4 := hq.cells 4 _ rfl
            have x5 := hq.cells 5 _ rfl
            clear hq
            clear hneed hrest
            go_simp
            first | exact ⟨_, rfl, rfl, Below.refl _ _⟩ | exact ⟨_, rfl, (by show _ = _; simp), Below.refl _ _⟩
          | 6, _ =>
            refine fs_guard _ _ 3 42 true rfl rfl rfl rfl rfl (fun w v h => h) ?_
            intro a w1 hb hrest hneed
            have r43 : SKl (.fil (notF (notF f))) w1 (a.tmps.getD 43 undef) := hneed 4 43 rfl rfl
            obtain ⟨u43, e43⟩ : ∃ u, a.tmps.getD 43 undef = u := ⟨_, rfl⟩
            rw [e43] at r43
            have e43' := (Array.getD_eq_getD_getElem? ..).symm.trans e43
            have e44 : a.tmps.getD 44 undef = (evV ev) := hneed 5 44 rfl rfl
            have e44' := (Array.getD_eq_getD_getElem? ..).symm.trans e44
            clear hneed hrest
            obtain ⟨a43, c43, rfl, hk43⟩ := r43
            have H := Holds_any (notF (notF f)) ev (not_light (not_light HLL.out)) hk43 HSM.out
            rw [twice_law ev hck] at H
            go_simp
            refine H.mono ?_
            rintro e wk ⟨rfl, hb2⟩
            exact ⟨_, rfl, rfl, hb2⟩
          | 7, _ =>
            refine fs_guard _ _ 3 42 true rfl rfl rfl rfl rfl (fun w v h => h) ?_
            intro a w1 hb hrest hneed
            have p3 : a.tmps.getD 3 undef = .pointer (some ⟨w.heap.size, 0, none⟩) := (hrest 3 (by kernel_rfl)).trans rfl
            have p3' := (Array.getD_eq_getD_getElem? ..).symm.trans p3
            have hq := HFW9.out.below hb
            have x0 := hq.cells 0 _ rfl
            have x1 := hq.cells 1 _ rfl
            have x2 := hq.cells 2 _ rfl
            have x3 := hq.cells 3 _ rfl
            clear hq
            clear hneed hrest
            go_simp
            exact ⟨_, rfl, ⟨a0, cap, rfl, HKFW9.out.on hb⟩, Below.refl _ _⟩
          | 8, _ =>
            refine fs_guard _ _ 3 42 true rfl rfl rfl rfl rfl (fun w v h => h) ?_
            intro a w1 hb hrest hneed
            have p5 : a.tmps.getD 5 undef = .pointer (some ⟨w.heap.size + 1 + 1, 0, none⟩) := (hrest 5 (by kernel_rfl)).trans rfl
            have p5' := (Array.getD_eq_getD_getElem? ..).symm.trans p5
            have hq := HEW9.out.below hb
            have x0 := hq.cells 0 _ rfl
            have x1 := hq.cells 1 _ rfl
            have x2 := hq.cells 2 _ rfl
            have x3 := hq.cells 3 _ rfl
            have x4 := hq.cells 4 _ rfl
            have x5 := hq.cells 5 _ rfl
            clear hq
            clear hneed hrest
            go_simp
            first | exact ⟨_, rfl, rfl, Below.refl _ _⟩ | exact ⟨_, rfl, (by show _ = _; simp), Below.refl _ _⟩
          | 9, _ =>
            refine fs_guard _ _ 3 42 true rfl rfl rfl rfl rfl (fun w v h => h) ?_
            intro a w1 hb hrest hneed
            have r46 : SKl (.fil f) w1 (a.tmps.getD 46 undef) := hneed 7 46 rfl rfl
            obtain ⟨u46, e46⟩ : ∃ u, a.tmps.getD 46 undef = u := ⟨_, rfl⟩
            rw [e46] at r46
            have e46' := (Array.getD_eq_getD_getElem? ..).symm.trans e46
            have e47 : a.tmps.getD 47 undef = (evV ev) := hneed 8 47 rfl rfl
            have e47' := (Array.getD_eq_getD_getElem? ..).symm.trans e47
            clear hneed hrest
            obtain ⟨a46, c46, rfl, hk46⟩ := r46
            have H := Holds_any f ev HLL.out hk46 HSM.out
            go_simp
            refine H.mono ?_
            rintro e wk ⟨rfl, hb2⟩
            exact ⟨_, rfl, rfl, hb2⟩
          | 10, _ =>
            refine fs_guard _ _ 3 42 true rfl rfl rfl rfl rfl (fun w v h => h) ?_
            intro a w1 hb hrest hneed
            have e45 : a.tmps.getD 45 undef = (.bool (holdsF f ev)) := hneed 6 45 rfl rfl
            have e45' := (Array.getD_eq_getD_getElem? ..).symm.trans e45
            have e48 : a.tmps.getD 48 undef = (.bool (holdsF f ev)) := hneed 9 48 rfl rfl
            have e48' := (Array.getD_eq_getD_getElem? ..).symm.trans e48
            clear hneed hrest
            go_simp
            first | exact ⟨_, rfl, rfl, Below.refl _ _⟩ | exact ⟨_, rfl, (by show _ = _; simp), Below.refl _ _⟩
          | 11, _ =>
            refine fs_plain _ _ rfl rfl rfl ?_
            intro a w1 hb hrest hneed
            have e42 : a.tmps.getD 42 undef = (.bool true) := hneed 3 42 rfl rfl
            have e42' := (Array.getD_eq_getD_getElem? ..).symm.trans e42
            have e49 : a.tmps.getD 49 undef = (.bool false) := hneed 10 49 rfl rfl
            have e49' := (Array.getD_eq_getD_getElem? ..).symm.trans e49
            clear hneed hrest
            go_simp
            first | exact ⟨_, rfl, rfl, Below.refl _ _⟩ | exact ⟨_, rfl, (by show _ = _; simp), Below.refl _ _⟩
          | n + 12, h => exact absurd h (by simp)
      · intro a w10 hb hd hs hr hg
        obtain ⟨u39, e39⟩ : ∃ u, a.tmps.getD 39 undef = u := ⟨_, rfl⟩
        obtain ⟨u40, e40⟩ : ∃ u, a.tmps.getD 40 undef = u := ⟨_, rfl⟩
        obtain ⟨u41, e41⟩ : ∃ u, a.tmps.getD 41 undef = u := ⟨_, rfl⟩
        obtain ⟨u42, e42⟩ : ∃ u, a.tmps.getD 42 undef = u := ⟨_, rfl⟩
        obtain ⟨u43, e43⟩ : ∃ u, a.tmps.getD 43 undef = u := ⟨_, rfl⟩
        obtain ⟨u44, e44⟩ : ∃ u, a.tmps.getD 44 undef = u := ⟨_, rfl⟩
        obtain ⟨u45, e45⟩ : ∃ u, a.tmps.getD 45 undef = u := ⟨_, rfl⟩
        obtain ⟨u46, e46⟩ : ∃ u, a.tmps.getD 46 undef = u := ⟨_, rfl⟩
        obtain ⟨u47, e47⟩ : ∃ u, a.tmps.getD 47 undef = u := ⟨_, rfl⟩
        obtain ⟨u48, e48⟩ : ∃ u, a.tmps.getD 48 undef = u := ⟨_, rfl⟩
        obtain ⟨u49, e49⟩ : ∃ u, a.tmps.getD 49 undef = u := ⟨_, rfl⟩
        have e50 : a.tmps.getD 50 undef = .bool false := hg 11 (by decide) 50 rfl
        have ha := act_flow [39, 40, 41, 42, 43, 44, 45, 46, 47, 48, 49, 50] (by kernel_rfl) hd hs hr
        simp only [putsOf, List.foldl_cons, List.foldl_nil, e39, e40, e41, e42, e43, e44, e45, e46, e47, e48, e49, e50] at ha
        clear e39 e40 e41 e42 e43 e44 e45 e46 e47 e48 e49 e50 hd hs hr hg
        subst ha
        go_simp
        have HF10 := Lib.hid (HFW9.out.below hb)
        have HG10 := Lib.hid (HGW9.out.below hb)
        have HE10 := Lib.hid (HEW9.out.below hb)
        have HKF10 := Lib.hid (HKFW9.out.on hb)
        have HKG10 := Lib.hid (HKGW9.out.on hb)
        have HN110 := Lib.hid (HN1W9.out.on hb)
        have HN210 := Lib.hid (HN2W9.out.on hb)
        have HB10 := Lib.hid (HBW9.out.trans (hb.mono HBW9.out.size))
        clear HFW9 HGW9 HEW9 HKFW9 HKGW9 HN1W9 HN2W9 HBW9
        have fc0 := HF10.out.cells 0 _ rfl
        have fc1 := HF10.out.cells 1 _ rfl
        have fc2 := HF10.out.cells 2 _ rfl
        have fc3 := HF10.out.cells 3 _ rfl
        have gc0 := HG10.out.cells 0 _ rfl
        have gc1 := HG10.out.cells 1 _ rfl
        have gc2 := HG10.out.cells 2 _ rfl
        have gc3 := HG10.out.cells 3 _ rfl
        have ec0 := HE10.out.cells 0 _ rfl
        have ec1 := HE10.out.cells 1 _ rfl
        have ec2 := HE10.out.cells 2 _ rfl
        have ec3 := HE10.out.cells 3 _ rfl
        have ec4 := HE10.out.cells 4 _ rfl
        have ec5 := HE10.out.cells 5 _ rfl
        clear hb
        go_wp2_with fail
        have HKS : Hid (∀ k, 14 ≤ k → k < 16 → ([Kl.fil f, Kl.fil f2, Kl.kids [f, f2], Kl.fil (andF [f, f2]), Kl.kids [(andF [f, f2])], Kl.fil (notF (andF [f, f2])), Kl.fil f, Kl.kids [f], Kl.fil (notF f), Kl.fil f2, Kl.kids [f2], Kl.fil (notF f2), Kl.kids [(notF f), (notF f2)], Kl.fil (orF [notF f, notF f2]), Kl.fresh w10.heap.size, Kl.fresh w10.heap.size] : List Kl)[k]? = some (.fresh w10.heap.size)) := fun k h1 h2 => by
          obtain rfl | rfl : k = 14 ∨ k = 15 := by omega
          · rfl
          · rfl
        refine wp_region_flowG (S := SLl [Kl.fil f, Kl.fil f2, Kl.kids [f, f2], Kl.fil (andF [f, f2]), Kl.kids [(andF [f, f2])], Kl.fil (notF (andF [f, f2])), Kl.fil f, Kl.kids [f], Kl.fil (notF f), Kl.fil f2, Kl.kids [f2], Kl.fil (notF f2), Kl.kids [(notF f), (notF f2)], Kl.fil (orF [notF f, notF f2]), Kl.fresh w10.heap.size, Kl.fresh w10.heap.size]) (D := DLl [Kl.fil f, Kl.fil f2, Kl.kids [f, f2], Kl.fil (andF [f, f2]), Kl.kids [(andF [f, f2])], Kl.fil (notF (andF [f, f2])), Kl.fil f, Kl.kids [f], Kl.fil (notF f), Kl.fil f2, Kl.kids [f2], Kl.fil (notF f2), Kl.kids [(notF f), (notF f2)], Kl.fil (orF [notF f, notF f2]), Kl.fresh w10.heap.size, Kl.fresh w10.heap.size] 14) 16 2 (by kernel_rfl) rfl (SLl_stable _) (fun i j w w' v u h _ _ hb => DLl_stable _ _ i j w w' v u h hb) (by kernel_rfl) (by kernel_rfl) (by kernel_rfl) ?_ ?_
        · intro i hi
          match i, hi with
            | 0, _ =>
              refine fsE_plain _ _ rfl rfl rfl ?_
              intro L a w1 hb hrest hneed hp
              have p3 : a.tmps.getD 3 undef = .pointer (some ⟨w.heap.size, 0, none⟩) := (hrest 3 (by kernel_rfl)).trans rfl
              have p3' := (Array.getD_eq_getD_getElem? ..).symm.trans p3
              have hq := HF10.out.below hb
              have x0 := hq.cells 0 _ rfl
              have x1 := hq.cells 1 _ rfl
              have x2 := hq.cells 2 _ rfl
              have x3 := hq.cells 3 _ rfl
              clear hq
              clear hneed hrest hp
              go_simp
              refine ⟨_, rfl, ⟨a0, cap, rfl, HKF10.out.on hb⟩, Below.refl _ _, ?_⟩
              intro k hk hl hne e he hs
              exact dl_build (ki := .fil f) HKS.out rfl (by decide) hk hs fun hm g heq hB hg => AVk_low HKF10.out hB hb
            | 1, _ =>
              refine fsE_plain _ _ rfl rfl rfl ?_
              intro L a w1 hb hrest hneed hp
              have p4 : a.tmps.getD 4 undef = .pointer (some ⟨w.heap.size + 1, 0, none⟩) := (hrest 4 (by kernel_rfl)).trans rfl
              have p4' := (Array.getD_eq_getD_getElem? ..).symm.trans p4
              have hq := HG10.out.below hb
              have x0 := hq.cells 0 _ rfl
              have x1 := hq.cells 1 _ rfl
              have x2 := hq.cells 2 _ rfl
              have x3 := hq.cells 3 _ rfl
              clear hq
              clear hneed hrest hp
              go_simp
              refine ⟨_, rfl, ⟨a2, cap2, rfl, HKG10.out.on hb⟩, Below.refl _ _, ?_⟩
              intro k hk hl hne e he hs
              exact dl_build (ki := .fil f2) HKS.out rfl (by decide) hk hs fun hm g heq hB hg => AVk_low HKG10.out hB hb
            | 2, _ =>
              refine fsE_plain _ _ rfl rfl rfl ?_
              intro L a w1 hb hrest hneed hp
              have r51 : SKl (Kl.fil f) w1 (a.tmps.getD 51 undef) := hneed 0 51 rfl rfl
              have p51 := fun k hk hl hkn e he => And.right (hp 0 rfl k hk hl hkn 51 e rfl he)
              obtain ⟨u51, e51⟩ : ∃ u, a.tmps.getD 51 undef = u := ⟨_, rfl⟩
              rw [e51] at r51
              simp only [e51] at p51
              have e51' := (Array.getD_eq_getD_getElem? ..).symm.trans e51
              have r52 : SKl (Kl.fil f2) w1 (a.tmps.getD 52 undef) := hneed 1 52 rfl rfl
              have p52 := fun k hk hl hkn e he => And.right (hp 1 rfl k hk hl hkn 52 e rfl he)
              obtain ⟨u52, e52⟩ : ∃ u, a.tmps.getD 52 undef = u := ⟨_, rfl⟩
              rw [e52] at r52
              simp only [e52] at p52
              have e52' := (Array.getD_eq_getD_getElem? ..).symm.trans e52
              obtain ⟨a51, c51, rfl, hk51⟩ := r51
              obtain ⟨a52, c52, rfl, hk52⟩ := r52
              unfold flV at e51 e51' e52 e52'
              have hal := lay_alloc w1 (.cells #[.int .i64 f.kind, .string f.name, .string f.text, .slice a51 f.kids.length c51, .int .i64 f2.kind, .string f2.name, .string f2.text, .slice a52 f2.kids.length c52] 24)
              have hdc := DC.alloc w1 [.int .i64 f.kind, .string f.name, .string f.text, .slice a51 f.kids.length c51, .int .i64 f2.kind, .string f2.name, .string f2.text, .slice a52 f2.kids.length c52] 24
              clear hneed hrest hp
              go_simp
              refine ⟨_, rfl, ⟨_, rfl, kids2_in (f := f) (f2 := f2) hdc (hk51.on hal) (hk52.on hal)⟩, ?_⟩
              intro k hk hl hne e he hs
              exact dl_build (ki := .kids [f, f2]) HKS.out rfl (by decide) hk hs fun hm g heq hB hg => kidsE2_in (f := f) (f2 := f2) hdc (Nat.ne_of_gt hg) ((AVk_fil (p51 k hk hl (by omega) e he hm g ((Array.getD_eq_getD_getElem? ..).trans heq))).later hal) ((AVk_fil (p52 k hk hl (by omega) e he hm g ((Array.getD_eq_getD_getElem? ..).trans heq))).later hal)
            | 3, _ =>
              refine fsE_plain _ _ rfl rfl rfl ?_
              intro L a w1 hb hrest hneed hp
              have r53 : SKl (Kl.kids [f, f2]) w1 (a.tmps.getD 53 undef) := hneed 2 53 rfl rfl
              have p53 := fun k hk hl hkn e he => And.right (hp 2 rfl k hk hl hkn 53 e rfl he)
              obtain ⟨u53, e53⟩ : ∃ u, a.tmps.getD 53 undef = u := ⟨_, rfl⟩
              rw [e53] at r53
              simp only [e53] at p53
              have e53' := (Array.getD_eq_getD_getElem? ..).symm.trans e53
              obtain ⟨g53, rfl, hk53⟩ := r53
              clear hneed hrest hp
              go_simp
              refine (kind_any 5 _ _ _ w1).mono ?_
              rintro e wk ⟨rfl, hb2⟩
              refine ⟨_, rfl, ⟨_, _, rfl, hk53.on hb2⟩, hb2, ?_⟩
              intro k hk hl hne e he hs
              exact dl_build (ki := .fil (andF [f, f2])) HKS.out rfl (by decide) hk hs fun hm g heq hB hg => ⟨_, _, rfl, KidsS.later (p53 k hk hl (by omega) e he hm g ((Array.getD_eq_getD_getElem? ..).trans heq)) hb2⟩
            | 4, _ =>
              refine fsE_plain _ _ rfl rfl rfl ?_
              intro L a w1 hb hrest hneed hp
              have r54 : SKl (Kl.fil (andF [f, f2])) w1 (a.tmps.getD 54 undef) := hneed 3 54 rfl rfl
              have p54 := fun k hk hl hkn e he => And.right (hp 3 rfl k hk hl hkn 54 e rfl he)
              obtain ⟨u54, e54⟩ : ∃ u, a.tmps.getD 54 undef = u := ⟨_, rfl⟩
              rw [e54] at r54
              simp only [e54] at p54
              have e54' := (Array.getD_eq_getD_getElem? ..).symm.trans e54
              obtain ⟨a54, c54, rfl, hk54⟩ := r54
              have p := fun k hk hl hkn e he => p54 k hk hl hkn e he
              clear p54
              unfold flV at e54 e54'
              have hal := lay_alloc w1 (.cells #[.int .i64 (andF [f, f2]).kind, .string (andF [f, f2]).name, .string (andF [f, f2]).text, .slice a54 (andF [f, f2]).kids.length c54] 24)
              have hdc := DC.alloc w1 [.int .i64 (andF [f, f2]).kind, .string (andF [f, f2]).name, .string (andF [f, f2]).text, .slice a54 (andF [f, f2]).kids.length c54] 24
              clear hneed hrest hp
              go_simp
              refine ⟨_, rfl, ⟨_, rfl, kids1_in (f := (andF [f, f2])) hdc (hk54.on hal)⟩, ?_⟩
              intro k hk hl hne e he hs
              exact dl_build (ki := .kids [(andF [f, f2])]) HKS.out rfl (by decide) hk hs fun hm g heq hB hg => kidsE1_in (f := (andF [f, f2])) hdc (Nat.ne_of_gt hg) ((AVk_fil (p k hk hl (by omega) e he hm g ((Array.getD_eq_getD_getElem? ..).trans heq))).later hal)
            | 5, _ =>
              refine fsE_plain _ _ rfl rfl rfl ?_
              intro L a w1 hb hrest hneed hp
              have r55 : SKl (Kl.kids [(andF [f, f2])]) w1 (a.tmps.getD 55 undef) := hneed 4 55 rfl rfl
              have p55 := fun k hk hl hkn e he => And.right (hp 4 rfl k hk hl hkn 55 e rfl he)
              obtain ⟨u55, e55⟩ : ∃ u, a.tmps.getD 55 undef = u := ⟨_, rfl⟩
              rw [e55] at r55
              simp only [e55] at p55
              have e55' := (Array.getD_eq_getD_getElem? ..).symm.trans e55
              obtain ⟨g55, rfl, hk55⟩ := r55
              clear hneed hrest hp
              go_simp
              refine (kind_any 4 _ _ _ w1).mono ?_
              rintro e wk ⟨rfl, hb2⟩
              refine ⟨_, rfl, ⟨_, _, rfl, hk55.on hb2⟩, hb2, ?_⟩
              intro k hk hl hne e he hs
              exact dl_build (ki := .fil (notF (andF [f, f2]))) HKS.out rfl (by decide) hk hs fun hm g heq hB hg => ⟨_, _, rfl, KidsS.later (p55 k hk hl (by omega) e he hm g ((Array.getD_eq_getD_getElem? ..).trans heq)) hb2⟩
            | 6, _ =>
              refine fsE_plain _ _ rfl rfl rfl ?_
              intro L a w1 hb hrest hneed hp
              have p3 : a.tmps.getD 3 undef = .pointer (some ⟨w.heap.size, 0, none⟩) := (hrest 3 (by kernel_rfl)).trans rfl
              have p3' := (Array.getD_eq_getD_getElem? ..).symm.trans p3
              have hq := HF10.out.below hb
              have x0 := hq.cells 0 _ rfl
              have x1 := hq.cells 1 _ rfl
              have x2 := hq.cells 2 _ rfl
              have x3 := hq.cells 3 _ rfl
              clear hq
              clear hneed hrest hp
              go_simp
              refine ⟨_, rfl, ⟨a0, cap, rfl, HKF10.out.on hb⟩, Below.refl _ _, ?_⟩
              intro k hk hl hne e he hs
              exact dl_build (ki := .fil f) HKS.out rfl (by decide) hk hs fun hm g heq hB hg => AVk_low HKF10.out hB hb
            | 7, _ =>
              refine fsE_plain _ _ rfl rfl rfl ?_
              intro L a w1 hb hrest hneed hp
              have r57 : SKl (Kl.fil f) w1 (a.tmps.getD 57 undef) := hneed 6 57 rfl rfl
              have p57 := fun k hk hl hkn e he => And.right (hp 6 rfl k hk hl hkn 57 e rfl he)
              obtain ⟨u57, e57⟩ : ∃ u, a.tmps.getD 57 undef = u := ⟨_, rfl⟩
              rw [e57] at r57
              simp only [e57] at p57
              have e57' := (Array.getD_eq_getD_getElem? ..).symm.trans e57
              obtain ⟨a57, c57, rfl, hk57⟩ := r57
              have p := fun k hk hl hkn e he => p57 k hk hl hkn e he
              clear p57
              unfold flV at e57 e57'
              have hal := lay_alloc w1 (.cells #[.int .i64 f.kind, .string f.name, .string f.text, .slice a57 f.kids.length c57] 24)
              have hdc := DC.alloc w1 [.int .i64 f.kind, .string f.name, .string f.text, .slice a57 f.kids.length c57] 24
              clear hneed hrest hp
              go_simp
              refine ⟨_, rfl, ⟨_, rfl, kids1_in (f := f) hdc (hk57.on hal)⟩, ?_⟩
              intro k hk hl hne e he hs
              exact dl_build (ki := .kids [f]) HKS.out rfl (by decide) hk hs fun hm g heq hB hg => kidsE1_in (f := f) hdc (Nat.ne_of_gt hg) ((AVk_fil (p k hk hl (by omega) e he hm g ((Array.getD_eq_getD_getElem? ..).trans heq))).later hal)
            | 8, _ =>
              refine fsE_plain _ _ rfl rfl rfl ?_
              intro L a w1 hb hrest hneed hp
              have r58 : SKl (Kl.kids [f]) w1 (a.tmps.getD 58 undef) := hneed 7 58 rfl rfl
              have p58 := fun k hk hl hkn e he => And.right (hp 7 rfl k hk hl hkn 58 e rfl he)
              obtain ⟨u58, e58⟩ : ∃ u, a.tmps.getD 58 undef = u := ⟨_, rfl⟩
              rw [e58] at r58
              simp only [e58] at p58
              have e58' := (Array.getD_eq_getD_getElem? ..).symm.trans e58
              obtain ⟨g58, rfl, hk58⟩ := r58
              clear hneed hrest hp
              go_simp
              refine (kind_any 4 _ _ _ w1).mono ?_
              rintro e wk ⟨rfl, hb2⟩
              refine ⟨_, rfl, ⟨_, _, rfl, hk58.on hb2⟩, hb2, ?_⟩
              intro k hk hl hne e he hs
              exact dl_build (ki := .fil (notF f)) HKS.out rfl (by decide) hk hs fun hm g heq hB hg => ⟨_, _, rfl, KidsS.later (p58 k hk hl (by omega) e he hm g ((Array.getD_eq_getD_getElem? ..).trans heq)) hb2⟩
            | 9, _ =>
              refine fsE_plain _ _ rfl rfl rfl ?_
              intro L a w1 hb hrest hneed hp
              have p4 : a.tmps.getD 4 undef = .pointer (some ⟨w.heap.size + 1, 0, none⟩) := (hrest 4 (by kernel_rfl)).trans rfl
              have p4' := (Array.getD_eq_getD_getElem? ..).symm.trans p4
              have hq := HG10.out.below hb
              have x0 := hq.cells 0 _ rfl
              have x1 := hq.cells 1 _ rfl
              have x2 := hq.cells 2 _ rfl
              have x3 := hq.cells 3 _ rfl
              clear hq
              clear hneed hrest hp
              go_simp
              refine ⟨_, rfl, ⟨a2, cap2, rfl, HKG10.out.on hb⟩, Below.refl _ _, ?_⟩
              intro k hk hl hne e he hs
              exact dl_build (ki := .fil f2) HKS.out rfl (by decide) hk hs fun hm g heq hB hg => AVk_low HKG10.out hB hb
            | 10, _ =>
              refine fsE_plain _ _ rfl rfl rfl ?_
              intro L a w1 hb hrest hneed hp
              have r60 : SKl (Kl.fil f2) w1 (a.tmps.getD 60 undef) := hneed 9 60 rfl rfl
              have p60 := fun k hk hl hkn e he => And.right (hp 9 rfl k hk hl hkn 60 e rfl he)
              obtain ⟨u60, e60⟩ : ∃ u, a.tmps.getD 60 undef = u := ⟨_, rfl⟩
              rw [e60] at r60
              simp only [e60] at p60
              have e60' := (Array.getD_eq_getD_getElem? ..).symm.trans e60
              obtain ⟨a60, c60, rfl, hk60⟩ := r60
              have p := fun k hk hl hkn e he => p60 k hk hl hkn e he
              clear p60
              unfold flV at e60 e60'
              have hal := lay_alloc w1 (.cells #[.int .i64 f2.kind, .string f2.name, .string f2.text, .slice a60 f2.kids.length c60] 24)
              have hdc := DC.alloc w1 [.int .i64 f2.kind, .string f2.name, .string f2.text, .slice a60 f2.kids.length c60] 24
              clear hneed hrest hp
              go_simp
              refine ⟨_, rfl, ⟨_, rfl, kids1_in (f := f2) hdc (hk60.on hal)⟩, ?_⟩
              intro k hk hl hne e he hs
              exact dl_build (ki := .kids [f2]) HKS.out rfl (by decide) hk hs fun hm g heq hB hg => kidsE1_in (f := f2) hdc (Nat.ne_of_gt hg) ((AVk_fil (p k hk hl (by omega) e he hm g ((Array.getD_eq_getD_getElem? ..).trans heq))).later hal)
            | 11, _ =>
              refine fsE_plain _ _ rfl rfl rfl ?_
              intro L a w1 hb hrest hneed hp
              have r61 : SKl (Kl.kids [f2]) w1 (a.tmps.getD 61 undef) := hneed 10 61 rfl rfl
              have p61 := fun k hk hl hkn e he => And.right (hp 10 rfl k hk hl hkn 61 e rfl he)
              obtain ⟨u61, e61⟩ : ∃ u, a.tmps.getD 61 undef = u := ⟨_, rfl⟩
              rw [e61] at r61
              simp only [e61] at p61
              have e61' := (Array.getD_eq_getD_getElem? ..).symm.trans e61
              obtain ⟨g61, rfl, hk61⟩ := r61
              clear hneed hrest hp
              go_simp
              refine (kind_any 4 _ _ _ w1).mono ?_
              rintro e wk ⟨rfl, hb2⟩
              refine ⟨_, rfl, ⟨_, _, rfl, hk61.on hb2⟩, hb2, ?_⟩
              intro k hk hl hne e he hs
              exact dl_build (ki := .fil (notF f2)) HKS.out rfl (by decide) hk hs fun hm g heq hB hg => ⟨_, _, rfl, KidsS.later (p61 k hk hl (by omega) e he hm g ((Array.getD_eq_getD_getElem? ..).trans heq)) hb2⟩
            | 12, _ =>
              refine fsE_plain _ _ rfl rfl rfl ?_
              intro L a w1 hb hrest hneed hp
              have r59 : SKl (Kl.fil (notF f)) w1 (a.tmps.getD 59 undef) := hneed 8 59 rfl rfl
              have p59 := fun k hk hl hkn e he => And.right (hp 8 rfl k hk hl hkn 59 e rfl he)
              obtain ⟨u59, e59⟩ : ∃ u, a.tmps.getD 59 undef = u := ⟨_, rfl⟩
              rw [e59] at r59
              simp only [e59] at p59
              have e59' := (Array.getD_eq_getD_getElem? ..).symm.trans e59
              have r62 : SKl (Kl.fil (notF f2)) w1 (a.tmps.getD 62 undef) := hneed 11 62 rfl rfl
              have p62 := fun k hk hl hkn e he => And.right (hp 11 rfl k hk hl hkn 62 e rfl he)
              obtain ⟨u62, e62⟩ : ∃ u, a.tmps.getD 62 undef = u := ⟨_, rfl⟩
              rw [e62] at r62
              simp only [e62] at p62
              have e62' := (Array.getD_eq_getD_getElem? ..).symm.trans e62
              obtain ⟨a59, c59, rfl, hk59⟩ := r59
              obtain ⟨a62, c62, rfl, hk62⟩ := r62
              unfold flV at e59 e59' e62 e62'
              have hal := lay_alloc w1 (.cells #[.int .i64 (notF f).kind, .string (notF f).name, .string (notF f).text, .slice a59 (notF f).kids.length c59, .int .i64 (notF f2).kind, .string (notF f2).name, .string (notF f2).text, .slice a62 (notF f2).kids.length c62] 24)
              have hdc := DC.alloc w1 [.int .i64 (notF f).kind, .string (notF f).name, .string (notF f).text, .slice a59 (notF f).kids.length c59, .int .i64 (notF f2).kind, .string (notF f2).name, .string (notF f2).text, .slice a62 (notF f2).kids.length c62] 24
              clear hneed hrest hp
              go_simp
              refine ⟨_, rfl, ⟨_, rfl, kids2_in (f := (notF f)) (f2 := (notF f2)) hdc (hk59.on hal) (hk62.on hal)⟩, ?_⟩
              intro k hk hl hne e he hs
              exact dl_build (ki := .kids [(notF f), (notF f2)]) HKS.out rfl (by decide) hk hs fun hm g heq hB hg => kidsE2_in (f := (notF f)) (f2 := (notF f2)) hdc (Nat.ne_of_gt hg) ((AVk_fil (p59 k hk hl (by omega) e he hm g ((Array.getD_eq_getD_getElem? ..).trans heq))).later hal) ((AVk_fil (p62 k hk hl (by omega) e he hm g ((Array.getD_eq_getD_getElem? ..).trans heq))).later hal)
            | 13, _ =>
              refine fsE_plain _ _ rfl rfl rfl ?_
              intro L a w1 hb hrest hneed hp
              have r63 : SKl (Kl.kids [(notF f), (notF f2)]) w1 (a.tmps.getD 63 undef) := hneed 12 63 rfl rfl
              have p63 := fun k hk hl hkn e he => And.right (hp 12 rfl k hk hl hkn 63 e rfl he)
              obtain ⟨u63, e63⟩ : ∃ u, a.tmps.getD 63 undef = u := ⟨_, rfl⟩
              rw [e63] at r63
              simp only [e63] at p63
              have e63' := (Array.getD_eq_getD_getElem? ..).symm.trans e63
              obtain ⟨g63, rfl, hk63⟩ := r63
              clear hneed hrest hp
              go_simp
              refine (kind_any 6 _ _ _ w1).mono ?_
              rintro e wk ⟨rfl, hb2⟩
              refine ⟨_, rfl, ⟨_, _, rfl, hk63.on hb2⟩, hb2, ?_⟩
              intro k hk hl hne e he hs
              exact dl_build (ki := .fil (orF [notF f, notF f2])) HKS.out rfl (by decide) hk hs fun hm g heq hB hg => ⟨_, _, rfl, KidsS.later (p63 k hk hl (by omega) e he hm g ((Array.getD_eq_getD_getElem? ..).trans heq)) hb2⟩
            | 14, _ =>
              refine fsE_plain _ _ rfl rfl rfl ?_
              intro L a w1 hb hrest hneed hp
              have hal := lay_alloc w1 (.cells #[.int .i64 0, .string ByteArray.empty, .string ByteArray.empty, .slice none 0 0] 24)
              have hdc := DC.alloc w1 [.int .i64 0, .string ByteArray.empty, .string ByteArray.empty, .slice none 0 0] 24
              have hsz := hb.size
              clear hneed hrest hp
              go_simp
              refine ⟨_, rfl, ⟨_, rfl, hsz, _, _, _, _, hdc⟩, hal, ?_⟩
              intro k hk hl hne e he hs
              exact dl_alloc HKS.out (by decide) (by decide) hk hs hal
            | 15, _ =>
              refine fsE_plain _ _ rfl rfl rfl ?_
              intro L a w1 hb hrest hneed hp
              have hal := lay_alloc w1 (.cells #[.int .i64 0, .string ByteArray.empty, .string ByteArray.empty, .slice none 0 0] 24)
              have hdc := DC.alloc w1 [.int .i64 0, .string ByteArray.empty, .string ByteArray.empty, .slice none 0 0] 24
              have hsz := hb.size
              clear hneed hrest hp
              go_simp
              refine ⟨_, rfl, ⟨_, rfl, hsz, _, _, _, _, hdc⟩, hal, ?_⟩
              intro k hk hl hne e he hs
              exact dl_alloc HKS.out (by decide) (by decide) hk hs hal
            | n + 16, h => exact absurd h (by simp)
        · intro a w11 hb hd hs hr hg hp
          obtain ⟨a56, c56, e56, hk56⟩ : SKl (.fil (notF (andF [f, f2]))) w11 (a.tmps.getD 56 undef) := hg 5 (by decide) 56 rfl
          obtain ⟨a64, c64, e64, hk64⟩ : SKl (.fil (orF [notF f, notF f2])) w11 (a.tmps.getD 64 undef) := hg 13 (by decide) 64 rfl
          obtain ⟨g8, e8, hB8, x0, x1, x2, x3, hd8⟩ : SKl (.fresh w10.heap.size) w11 (a.tmps.getD 8 undef) := hg 14 (by decide) 8 rfl
          obtain ⟨g9, e9, hB9, y0, y1, y2, y3, hd9⟩ : SKl (.fresh w10.heap.size) w11 (a.tmps.getD 9 undef) := hg 15 (by decide) 9 rfl
          have q1 := hp 14 5 (by decide) (by decide) (by decide) 8 56 rfl rfl (by decide) g8 e8
          have q2 := hp 15 5 (by decide) (by decide) (by decide) 9 56 rfl rfl (by decide) g9 e9
          have q3 := hp 14 13 (by decide) (by decide) (by decide) 8 64 rfl rfl (by decide) g8 e8
          have q4 := hp 15 13 (by decide) (by decide) (by decide) 9 64 rfl rfl (by decide) g9 e9
          have q5 : a.tmps.getD 9 undef ≠ .pointer (some ⟨g8, 0, none⟩) := hp 14 15 (by decide) (by decide) (by decide) 8 9 rfl rfl (by decide) g8 e8
          rw [e56] at q1 q2
          rw [e64] at q3 q4
          rw [e9] at q5
          have h98 : ¬ g9 = g8 := fun e => q5 (by rw [e])
          have Q1 := Lib.hid (AVk_fil q1)
          have Q2 := Lib.hid (AVk_fil q2)
          have Q3 := Lib.hid (AVk_fil q3)
          have Q4 := Lib.hid (AVk_fil q4)
          clear q1 q2 q3 q4 q5 hk56 hk64 hp
          replace e56 : a.tmps.getD 56 undef = .agg #[.int .i64 4, .string ByteArray.empty, .string ByteArray.empty, .slice a56 1 c56] := e56
          replace e64 : a.tmps.getD 64 undef = .agg #[.int .i64 6, .string ByteArray.empty, .string ByteArray.empty, .slice a64 2 c64] := e64
          obtain ⟨u51, e51⟩ : ∃ u, a.tmps.getD 51 undef = u := ⟨_, rfl⟩
          obtain ⟨u52, e52⟩ : ∃ u, a.tmps.getD 52 undef = u := ⟨_, rfl⟩
          obtain ⟨u53, e53⟩ : ∃ u, a.tmps.getD 53 undef = u := ⟨_, rfl⟩
          obtain ⟨u54, e54⟩ : ∃ u, a.tmps.getD 54 undef = u := ⟨_, rfl⟩
          obtain ⟨u55, e55⟩ : ∃ u, a.tmps.getD 55 undef = u := ⟨_, rfl⟩
          obtain ⟨u57, e57⟩ : ∃ u, a.tmps.getD 57 undef = u := ⟨_, rfl⟩
          obtain ⟨u58, e58⟩ : ∃ u, a.tmps.getD 58 undef = u := ⟨_, rfl⟩
          obtain ⟨u59, e59⟩ : ∃ u, a.tmps.getD 59 undef = u := ⟨_, rfl⟩
          obtain ⟨u60, e60⟩ : ∃ u, a.tmps.getD 60 undef = u := ⟨_, rfl⟩
          obtain ⟨u61, e61⟩ : ∃ u, a.tmps.getD 61 undef = u := ⟨_, rfl⟩
          obtain ⟨u62, e62⟩ : ∃ u, a.tmps.getD 62 undef = u := ⟨_, rfl⟩
          obtain ⟨u63, e63⟩ : ∃ u, a.tmps.getD 63 undef = u := ⟨_, rfl⟩
          have ha := act_flow [51, 52, 53, 54, 55, 56, 57, 58, 59, 60, 61, 62, 63, 64, 8, 9] (by kernel_rfl) hd hs (fun t ht => hr t fun j hj => ht j (Nat.lt_trans hj (by decide)))
          simp only [putsOf, List.foldl_cons, List.foldl_nil, e51, e52, e53, e54, e55, e56, e57, e58, e59, e60, e61, e62, e63, e64, e8, e9] at ha
          clear e51 e52 e53 e54 e55 e56 e57 e58 e59 e60 e61 e62 e63 e64 e8 e9 hd hs hr hg
          subst ha
          have z0 := hd8.cells 0 _ rfl
          have zf0 := hd8.fz 0
          have z1 := hd8.cells 1 _ rfl
          have zf1 := hd8.fz 1
          have z2 := hd8.cells 2 _ rfl
          have zf2 := hd8.fz 2
          have z3 := hd8.cells 3 _ rfl
          have zf3 := hd8.fz 3
          show wpOps _ _ _ [16, 17] _ _
          rw [wpOps_cons]
          refine flow_plain rfl rfl ?_
          go_simp
          change wpOps _ _ _ [17] _ (put4 w11 g8 (.int .i64 4) (.string ByteArray.empty) (.string ByteArray.empty) (.slice a56 1 c56))
          have D8 := put4_dc (v0 := .int .i64 4) (v1 := .string ByteArray.empty) (v2 := .string ByteArray.empty) (v3 := .slice a56 1 c56) hd8
          have D9 := put4_other (b := g8) (v0 := .int .i64 4) (v1 := .string ByteArray.empty) (v2 := .string ByteArray.empty) (v3 := .slice a56 1 c56) hd9 h98
          have HA := Lib.hid (put4_l (.int .i64 4) (.string ByteArray.empty) (.string ByteArray.empty) (.slice a56 1 c56) (Q1.out.both Q2.out))
          have HC := Lib.hid (put4_l (.int .i64 4) (.string ByteArray.empty) (.string ByteArray.empty) (.slice a56 1 c56) (Q3.out.both Q4.out))
          have HW := Lib.hid (put4_below (.int .i64 4) (.string ByteArray.empty) (.string ByteArray.empty) (.slice a56 1 c56) hb hB8)
          clear Q1 Q2 Q3 Q4 hb hd8 hd9 z0 zf0 z1 zf1 z2 zf2 z3 zf3
          generalize put4 w11 g8 _ _ _ _ = W1 at *
          have z0 := D9.cells 0 _ rfl
          have zf0 := D9.fz 0
          have z1 := D9.cells 1 _ rfl
          have zf1 := D9.fz 1
          have z2 := D9.cells 2 _ rfl
          have zf2 := D9.fz 2
          have z3 := D9.cells 3 _ rfl
          have zf3 := D9.fz 3
          rw [wpOps_cons]
          refine flow_plain rfl rfl ?_
          go_simp
          change Exit.then _ _ .normal _ (put4 W1 g9 (.int .i64 6) (.string ByteArray.empty) (.string ByteArray.empty) (.slice a64 2 c64))
          have D8' := put4_other (b := g9) (v0 := .int .i64 6) (v1 := .string ByteArray.empty) (v2 := .string ByteArray.empty) (v3 := .slice a64 2 c64) D8 (fun e => h98 e.symm)
          have D9' := put4_dc (v0 := .int .i64 6) (v1 := .string ByteArray.empty) (v2 := .string ByteArray.empty) (v3 := .slice a64 2 c64) D9
          have HA' := put4_r (.int .i64 6) (.string ByteArray.empty) (.string ByteArray.empty) (.slice a64 2 c64) HA.out
          have HC' := put4_r (.int .i64 6) (.string ByteArray.empty) (.string ByteArray.empty) (.slice a64 2 c64) HC.out
          have hb := put4_below (.int .i64 6) (.string ByteArray.empty) (.string ByteArray.empty) (.slice a64 2 c64) HW.out hB9
          clear HA HC HW D8 D9 h98 hB8 hB9 z0 zf0 z1 zf1 z2 zf2 z3 zf3
          generalize put4 W1 g9 _ _ _ _ = w12 at *
          have HA12 := Lib.hid D8'
          have HC12 := Lib.hid D9'
          have HKA12 := Lib.hid HA'.told
          have HKC12 := Lib.hid HC'.told
          clear D8' D9' HA' HC'
          have HF12 := Lib.hid (HF10.out.below hb)
          have HG12 := Lib.hid (HG10.out.below hb)
          have HE12 := Lib.hid (HE10.out.below hb)
          have HKF12 := Lib.hid (HKF10.out.on hb)
          have HKG12 := Lib.hid (HKG10.out.on hb)
          have HN112 := Lib.hid (HN110.out.on hb)
          have HN212 := Lib.hid (HN210.out.on hb)
          have HB12 := Lib.hid (HB10.out.trans (hb.mono HB10.out.size))
          clear HF10 HG10 HE10 HKF10 HKG10 HN110 HN210 HB10
          clear hb
          have fc0 := HF12.out.cells 0 _ rfl
          have fc1 := HF12.out.cells 1 _ rfl
          have fc2 := HF12.out.cells 2 _ rfl
          have fc3 := HF12.out.cells 3 _ rfl
          have gc0 := HG12.out.cells 0 _ rfl
          have gc1 := HG12.out.cells 1 _ rfl
          have gc2 := HG12.out.cells 2 _ rfl
          have gc3 := HG12.out.cells 3 _ rfl
          have ec0 := HE12.out.cells 0 _ rfl
          have ec1 := HE12.out.cells 1 _ rfl
          have ec2 := HE12.out.cells 2 _ rfl
          have ec3 := HE12.out.cells 3 _ rfl
          have ec4 := HE12.out.cells 4 _ rfl
          have ec5 := HE12.out.cells 5 _ rfl
          have ac0 := HA12.out.cells 0 _ rfl
          have ac1 := HA12.out.cells 1 _ rfl
          have ac2 := HA12.out.cells 2 _ rfl
          have ac3 := HA12.out.cells 3 _ rfl
          have cc0 := HC12.out.cells 0 _ rfl
          have cc1 := HC12.out.cells 1 _ rfl
          have cc2 := HC12.out.cells 2 _ rfl
          have cc3 := HC12.out.cells 3 _ rfl
          have hck1 := Check_any (notF (andF [f, f2])) (not_light (two_light HLL.out HLG.out)) HKA12.out
          have hck2 : flV (notF (andF [f, f2])) (.slice a56 (notF (andF [f, f2])).kids.length c56) = .agg #[.int .i64 4, .string ByteArray.empty, .string ByteArray.empty, .slice a56 1 c56] := rfl
          rw [hck2] at hck1
          have HC1 := Lib.hid hck1
          clear hck1 hck2
          by_cases hca : ckF (notF (andF [f, f2])) = 0
          · have b1 : (ckF (notF (andF [f, f2])) != 0) = false := by rw [hca]; rfl
            go_wp2_with fail
            go_fit HC1.out
            rintro e w13 ⟨rfl, hb⟩
            clear fc0 fc1 fc2 fc3 gc0 gc1 gc2 gc3 ec0 ec1 ec2 ec3 ec4 ec5 ac0 ac1 ac2 ac3 cc0 cc1 cc2 cc3
            have HF13 := Lib.hid (HF12.out.below hb)
            have HG13 := Lib.hid (HG12.out.below hb)
            have HE13 := Lib.hid (HE12.out.below hb)
            have HA13 := Lib.hid (HA12.out.below hb)
            have HC13 := Lib.hid (HC12.out.below hb)
            have HKF13 := Lib.hid (HKF12.out.on hb)
            have HKG13 := Lib.hid (HKG12.out.on hb)
            have HN113 := Lib.hid (HN112.out.on hb)
            have HN213 := Lib.hid (HN212.out.on hb)
            have HKA13 := Lib.hid (HKA12.out.on hb)
            have HKC13 := Lib.hid (HKC12.out.on hb)
            have HB13 := Lib.hid (HB12.out.trans (hb.mono HB12.out.size))
            clear HF12 HG12 HE12 HA12 HC12 HKF12 HKG12 HN112 HN212 HKA12 HKC12 HB12
            have fc0 := HF13.out.cells 0 _ rfl
            have fc1 := HF13.out.cells 1 _ rfl
            have fc2 := HF13.out.cells 2 _ rfl
            have fc3 := HF13.out.cells 3 _ rfl
            have gc0 := HG13.out.cells 0 _ rfl
            have gc1 := HG13.out.cells 1 _ rfl
            have gc2 := HG13.out.cells 2 _ rfl
            have gc3 := HG13.out.cells 3 _ rfl
            have ec0 := HE13.out.cells 0 _ rfl
            have ec1 := HE13.out.cells 1 _ rfl
            have ec2 := HE13.out.cells 2 _ rfl
            have ec3 := HE13.out.cells 3 _ rfl
            have ec4 := HE13.out.cells 4 _ rfl
            have ec5 := HE13.out.cells 5 _ rfl
            have ac0 := HA13.out.cells 0 _ rfl
            have ac1 := HA13.out.cells 1 _ rfl
            have ac2 := HA13.out.cells 2 _ rfl
            have ac3 := HA13.out.cells 3 _ rfl
            have cc0 := HC13.out.cells 0 _ rfl
            have cc1 := HC13.out.cells 1 _ rfl
            have cc2 := HC13.out.cells 2 _ rfl
            have cc3 := HC13.out.cells 3 _ rfl
            clear hb
            have hck1 := Check_any (orF [notF f, notF f2]) (two_light (not_light HLL.out) (not_light HLG.out)) HKC13.out
            have hck2 : flV (orF [notF f, notF f2]) (.slice a64 (orF [notF f, notF f2]).kids.length c64) = .agg #[.int .i64 6, .string ByteArray.empty, .string ByteArray.empty, .slice a64 2 c64] := rfl
            rw [hck2] at hck1
            have HC2 := Lib.hid hck1
            clear hck1 hck2 HC1
            by_cases hco : ckF (orF [notF f, notF f2]) = 0
            · have b2 : (ckF (orF [notF f, notF f2]) != 0) = false := by rw [hco]; rfl
              go_wp2_with fail
              go_fit HC2.out
              rintro e w14 ⟨rfl, hb⟩
              clear fc0 fc1 fc2 fc3 gc0 gc1 gc2 gc3 ec0 ec1 ec2 ec3 ec4 ec5 ac0 ac1 ac2 ac3 cc0 cc1 cc2 cc3
              have HF14 := Lib.hid (HF13.out.below hb)
              have HG14 := Lib.hid (HG13.out.below hb)
              have HE14 := Lib.hid (HE13.out.below hb)
              have HA14 := Lib.hid (HA13.out.below hb)
              have HC14 := Lib.hid (HC13.out.below hb)
              have HKF14 := Lib.hid (HKF13.out.on hb)
              have HKG14 := Lib.hid (HKG13.out.on hb)
              have HN114 := Lib.hid (HN113.out.on hb)
              have HN214 := Lib.hid (HN213.out.on hb)
              have HKA14 := Lib.hid (HKA13.out.on hb)
              have HKC14 := Lib.hid (HKC13.out.on hb)
              have HB14 := Lib.hid (HB13.out.trans (hb.mono HB13.out.size))
              clear HF13 HG13 HE13 HA13 HC13 HKF13 HKG13 HN113 HN213 HKA13 HKC13 HB13
              clear hb HC2 b1 b2
              go_wp2_with fail
              cases hF : holdsF f ev
              · refine wp_region_flow (S := SLl [Kl.fil (notF (andF [f, f2])), Kl.val (evV ev), Kl.val (.bool (holdsF (notF (andF [f, f2])) ev)), Kl.fil (orF [notF f, notF f2]), Kl.val (evV ev), Kl.val (.bool (holdsF (notF (andF [f, f2])) ev)), Kl.val (.bool true), Kl.val (.bool true), Kl.fil f, Kl.fil f2, Kl.kids [f, f2], Kl.fil (andF [f, f2]), Kl.val (evV ev), Kl.val (.bool false), Kl.fil f, Kl.val (evV ev), Kl.val (.bool false), Kl.val (.bool false), Kl.val undef, Kl.val undef, Kl.val undef, Kl.val (.bool false), Kl.val (.bool true), Kl.val (.bool true), Kl.val (.bool true), Kl.val (.bool true), Kl.val (.bool true), Kl.val (.bool true)]) (by kernel_rfl) (SLl_stable _) (by kernel_rfl) (by kernel_rfl) ?_ ?_
                · intro i hi
                  match i, hi with
                    | 0, _ =>
                      refine fs_plain _ _ rfl rfl rfl ?_
                      intro a w1 hb hrest hneed
                      have p8 : a.tmps.getD 8 undef = .pointer (some ⟨g8, 0, none⟩) := (hrest 8 (by kernel_rfl)).trans rfl
                      have p8' := (Array.getD_eq_getD_getElem? ..).symm.trans p8
                      have hq := HA14.out.below hb
                      have x0 := hq.cells 0 _ rfl
                      have x1 := hq.cells 1 _ rfl
                      have x2 := hq.cells 2 _ rfl
                      have x3 := hq.cells 3 _ rfl
                      clear hq
                      clear hneed hrest
                      go_simp
                      exact ⟨_, rfl, ⟨_, _, rfl, HKA14.out.on hb⟩, Below.refl _ _⟩
                    | 1, _ =>
                      refine fs_plain _ _ rfl rfl rfl ?_
                      intro a w1 hb hrest hneed
                      have p5 : a.tmps.getD 5 undef = .pointer (some ⟨w.heap.size + 1 + 1, 0, none⟩) := (hrest 5 (by kernel_rfl)).trans rfl
                      have p5' := (Array.getD_eq_getD_getElem? ..).symm.trans p5
                      have hq := HE14.out.below hb
                      have x0 := hq.cells 0 _ rfl
                      have x1 := hq.cells 1 _ rfl
                      have x2 := hq.cells 2 _ rfl
                      have x3 := hq.cells 3 _ rfl
                      have x4 := hq.cells 4 _ rfl
                      have x5 := hq.cells 5 _ rfl
                      clear hq
                      clear hneed hrest
                      go_simp
                      first | exact ⟨_, rfl, rfl, Below.refl _ _⟩ | exact ⟨_, rfl, (by show _ = _; simp), Below.refl _ _⟩
                    | 2, _ =>
                      refine fs_plain _ _ rfl rfl rfl ?_
                      intro a w1 hb hrest hneed
                      have r74 : SKl (.fil (notF (andF [f, f2]))) w1 (a.tmps.getD 74 undef) := hneed 0 74 rfl rfl
                      obtain ⟨u74, e74⟩ : ∃ u, a.tmps.getD 74 undef = u := ⟨_, rfl⟩
                      rw [e74] at r74
                      have e74' := (Array.getD_eq_getD_getElem? ..).symm.trans e74
                      have e75 : a.tmps.getD 75 undef = (evV ev) := hneed 1 75 rfl rfl
                      have e75' := (Array.getD_eq_getD_getElem? ..).symm.trans e75
                      clear hneed hrest
                      obtain ⟨a74, c74, rfl, hk74⟩ := r74
                      have H := Holds_any (notF (andF [f, f2])) ev (not_light (two_light HLL.out HLG.out)) hk74 HSM.out
                      go_simp
                      refine H.mono ?_
                      rintro e wk ⟨rfl, hb2⟩
                      exact ⟨_, rfl, rfl, hb2⟩
                    | 3, _ =>
                      refine fs_plain _ _ rfl rfl rfl ?_
                      intro a w1 hb hrest hneed
                      have p9 : a.tmps.getD 9 undef = .pointer (some ⟨g9, 0, none⟩) := (hrest 9 (by kernel_rfl)).trans rfl
                      have p9' := (Array.getD_eq_getD_getElem? ..).symm.trans p9
                      have hq := HC14.out.below hb
                      have x0 := hq.cells 0 _ rfl
                      have x1 := hq.cells 1 _ rfl
                      have x2 := hq.cells 2 _ rfl
                      have x3 := hq.cells 3 _ rfl
                      clear hq
                      clear hneed hrest
                      go_simp
                      exact ⟨_, rfl, ⟨_, _, rfl, HKC14.out.on hb⟩, Below.refl _ _⟩
                    | 4, _ =>
                      refine fs_plain _ _ rfl rfl rfl ?_
                      intro a w1 hb hrest hneed
                      have p5 : a.tmps.getD 5 undef = .pointer (some ⟨w.heap.size + 1 + 1, 0, none⟩) := (hrest 5 (by kernel_rfl)).trans rfl
                      have p5' := (Array.getD_eq_getD_getElem? ..).symm.trans p5
                      have hq := HE14.out.below hb
                      have x0 := hq.cells 0 _ rfl
                      have x1 := hq.cells 1 _ rfl
                      have x2 := hq.cells 2 _ rfl
                      have x3 := hq.cells 3 _ rfl
                      have x4 := hq.cells 4 _ rfl
                      have x5 := hq.cells 5 _ rfl
                      clear hq
                      clear hneed hrest
                      go_simp
                      first | exact ⟨_, rfl, rfl, Below.refl _ _⟩ | exact ⟨_, rfl, (by show _ = _; simp), Below.refl _ _⟩
                    | 5, _ =>
                      refine fs_plain _ _ rfl rfl rfl ?_
                      intro a w1 hb hrest hneed
                      have r77 : SKl (.fil (orF [notF f, notF f2])) w1 (a.tmps.getD 77 undef) := hneed 3 77 rfl rfl
                      obtain ⟨u77, e77⟩ : ∃ u, a.tmps.getD 77 undef = u := ⟨_, rfl⟩
                      rw [e77] at r77
                      have e77' := (Array.getD_eq_getD_getElem? ..).symm.trans e77
                      have e78 : a.tmps.getD 78 undef = (evV ev) := hneed 4 78 rfl rfl
                      have e78' := (Array.getD_eq_getD_getElem? ..).symm.trans e78
                      clear hneed hrest
                      obtain ⟨a77, c77, rfl, hk77⟩ := r77
                      have H := Holds_any (orF [notF f, notF f2]) ev (two_light (not_light HLL.out) (not_light HLG.out)) hk77 HSM.out
                      rw [← (morgan ev hca hco).1] at H
                      go_simp
                      refine H.mono ?_
                      rintro e wk ⟨rfl, hb2⟩
                      exact ⟨_, rfl, rfl, hb2⟩
                    | 6, _ =>
                      refine fs_plain _ _ rfl rfl rfl ?_
                      intro a w1 hb hrest hneed
                      have e76 : a.tmps.getD 76 undef = (.bool (holdsF (notF (andF [f, f2])) ev)) := hneed 2 76 rfl rfl
                      have e76' := (Array.getD_eq_getD_getElem? ..).symm.trans e76
                      have e79 : a.tmps.getD 79 undef = (.bool (holdsF (notF (andF [f, f2])) ev)) := hneed 5 79 rfl rfl
                      have e79' := (Array.getD_eq_getD_getElem? ..).symm.trans e79
                      clear hneed hrest
                      go_simp
                      first | exact ⟨_, rfl, rfl, Below.refl _ _⟩ | exact ⟨_, rfl, (by show _ = _; simp), Below.refl _ _⟩
                    | 7, _ =>
                      refine fs_plain _ _ rfl rfl rfl ?_
                      intro a w1 hb hrest hneed
                      have e80 : a.tmps.getD 80 undef = (.bool true) := hneed 6 80 rfl rfl
                      have e80' := (Array.getD_eq_getD_getElem? ..).symm.trans e80
                      clear hneed hrest
                      go_simp
                      first | exact ⟨_, rfl, rfl, Below.refl _ _⟩ | exact ⟨_, rfl, (by show _ = _; simp), Below.refl _ _⟩
                    | 8, _ =>
                      refine fs_guard _ _ 7 81 true rfl rfl rfl rfl rfl (fun w v h => h) ?_
                      intro a w1 hb hrest hneed
                      have p3 : a.tmps.getD 3 undef = .pointer (some ⟨w.heap.size, 0, none⟩) := (hrest 3 (by kernel_rfl)).trans rfl
                      have p3' := (Array.getD_eq_getD_getElem? ..).symm.trans p3
                      have hq := HF14.out.below hb
                      have x0 := hq.cells 0 _ rfl
                      have x1 := hq.cells 1 _ rfl
                      have x2 := hq.cells 2 _ rfl
                      have x3 := hq.cells 3 _ rfl
                      clear hq
                      clear hneed hrest
                      go_simp
                      exact ⟨_, rfl, ⟨a0, cap, rfl, HKF14.out.on hb⟩, Below.refl _ _⟩
                    | 9, _ =>
                      refine fs_guard _ _ 7 81 true rfl rfl rfl rfl rfl (fun w v h => h) ?_
                      intro a w1 hb hrest hneed
                      have p4 : a.tmps.getD 4 undef = .pointer (some ⟨w.heap.size + 1, 0, none⟩) := (hrest 4 (by kernel_rfl)).trans rfl
                      have p4' := (Array.getD_eq_getD_getElem? ..).symm.trans p4
                      have hq := HG14.out.below hb
                      have x0 := hq.cells 0 _ rfl
                      have x1 := hq.cells 1 _ rfl
                      have x2 := hq.cells 2 _ rfl
                      have x3 := hq.cells 3 _ rfl
                      clear hq
                      clear hneed hrest
                      go_simp
                      exact ⟨_, rfl, ⟨a2, cap2, rfl, HKG14.out.on hb⟩, Below.refl _ _⟩
                    | 10, _ =>
                      refine fs_guard _ _ 7 81 true rfl rfl rfl rfl rfl (fun w v h => h) ?_
                      intro a w1 hb hrest hneed
                      have r82 : SKl (.fil f) w1 (a.tmps.getD 82 undef) := hneed 8 82 rfl rfl
                      obtain ⟨u82, e82⟩ : ∃ u, a.tmps.getD 82 undef = u := ⟨_, rfl⟩
                      rw [e82] at r82
                      have e82' := (Array.getD_eq_getD_getElem? ..).symm.trans e82
                      have r83 : SKl (.fil f2) w1 (a.tmps.getD 83 undef) := hneed 9 83 rfl rfl
                      obtain ⟨u83, e83⟩ : ∃ u, a.tmps.getD 83 undef = u := ⟨_, rfl⟩
                      rw [e83] at r83
                      have e83' := (Array.getD_eq_getD_getElem? ..).symm.trans e83
                      clear hneed hrest
                      obtain ⟨a82, c82, rfl, hk82⟩ := r82
                      obtain ⟨a83, c83, rfl, hk83⟩ := r83
                      unfold flV at e82 e82' e83 e83'
                      have hal := lay_alloc w1 (.cells #[.int .i64 f.kind, .string f.name, .string f.text, .slice a82 f.kids.length c82, .int .i64 f2.kind, .string f2.name, .string f2.text, .slice a83 f2.kids.length c83] 24)
                      have hdc := DC.alloc w1 [.int .i64 f.kind, .string f.name, .string f.text, .slice a82 f.kids.length c82, .int .i64 f2.kind, .string f2.name, .string f2.text, .slice a83 f2.kids.length c83] 24
                      go_simp
                      exact ⟨_, rfl, ⟨_, rfl, kids2_in (f := f) (f2 := f2) hdc (hk82.on hal) (hk83.on hal)⟩⟩
                    | 11, _ =>
                      refine fs_guard _ _ 7 81 true rfl rfl rfl rfl rfl (fun w v h => h) ?_
                      intro a w1 hb hrest hneed
                      have r84 : SKl (.kids [f, f2]) w1 (a.tmps.getD 84 undef) := hneed 10 84 rfl rfl
                      obtain ⟨u84, e84⟩ : ∃ u, a.tmps.getD 84 undef = u := ⟨_, rfl⟩
                      rw [e84] at r84
                      have e84' := (Array.getD_eq_getD_getElem? ..).symm.trans e84
                      clear hneed hrest
                      obtain ⟨g84, rfl, hk84⟩ := r84
                      go_simp
                      refine (kind_any 5 _ _ _ w1).mono ?_
                      rintro e wk ⟨rfl, hb2⟩
                      exact ⟨_, rfl, ⟨_, _, rfl, hk84.on hb2⟩, hb2⟩
                    | 12, _ =>
                      refine fs_guard _ _ 7 81 true rfl rfl rfl rfl rfl (fun w v h => h) ?_
                      intro a w1 hb hrest hneed
                      have p5 : a.tmps.getD 5 undef = .pointer (some ⟨w.heap.size + 1 + 1, 0, none⟩) := (hrest 5 (by kernel_rfl)).trans rfl
                      have p5' := (Array.getD_eq_getD_getElem? ..).symm.trans p5
                      have hq := HE14.out.below hb
                      have x0 := hq.cells 0 _ rfl
                      have x1 := hq.cells 1 _ rfl
                      have x2 := hq.cells 2 _ rfl
                      have x3 := hq.cells 3 _ rfl
                      have x4 := hq.cells 4 _ rfl
                      have x5 := hq.cells 5 _ rfl
                      clear hq
                      clear hneed hrest
                      go_simp
                      first | exact ⟨_, rfl, rfl, Below.refl _ _⟩ | exact ⟨_, rfl, (by show _ = _; simp), Below.refl _ _⟩
                    | 13, _ =>
                      refine fs_guard _ _ 7 81 true rfl rfl rfl rfl rfl (fun w v h => h) ?_
                      intro a w1 hb hrest hneed
                      have r85 : SKl (.fil (andF [f, f2])) w1 (a.tmps.getD 85 undef) := hneed 11 85 rfl rfl
                      obtain ⟨u85, e85⟩ : ∃ u, a.tmps.getD 85 undef = u := ⟨_, rfl⟩
                      rw [e85] at r85
                      have e85' := (Array.getD_eq_getD_getElem? ..).symm.trans e85
                      have e86 : a.tmps.getD 86 undef = (evV ev) := hneed 12 86 rfl rfl
                      have e86' := (Array.getD_eq_getD_getElem? ..).symm.trans e86
                      clear hneed hrest
                      obtain ⟨a85, c85, rfl, hk85⟩ := r85
                      have H := Holds_any (andF [f, f2]) ev (two_light HLL.out HLG.out) hk85 HSM.out
                      rw [(morgan ev hca hco).2, hF, Bool.false_and] at H
                      go_simp
                      refine H.mono ?_
                      rintro e wk ⟨rfl, hb2⟩
                      exact ⟨_, rfl, rfl, hb2⟩
                    | 14, _ =>
                      refine fs_guard _ _ 7 81 true rfl rfl rfl rfl rfl (fun w v h => h) ?_
                      intro a w1 hb hrest hneed
                      have p3 : a.tmps.getD 3 undef = .pointer (some ⟨w.heap.size, 0, none⟩) := (hrest 3 (by kernel_rfl)).trans rfl
                      have p3' := (Array.getD_eq_getD_getElem? ..).symm.trans p3
                      have hq := HF14.out.below hb
                      have x0 := hq.cells 0 _ rfl
                      have x1 := hq.cells 1 _ rfl
                      have x2 := hq.cells 2 _ rfl
                      have x3 := hq.cells 3 _ rfl
                      clear hq
                      clear hneed hrest
                      go_simp
                      exact ⟨_, rfl, ⟨a0, cap, rfl, HKF14.out.on hb⟩, Below.refl _ _⟩
                    | 15, _ =>
                      refine fs_guard _ _ 7 81 true rfl rfl rfl rfl rfl (fun w v h => h) ?_
                      intro a w1 hb hrest hneed
                      have p5 : a.tmps.getD 5 undef = .pointer (some ⟨w.heap.size + 1 + 1, 0, none⟩) := (hrest 5 (by kernel_rfl)).trans rfl
                      have p5' := (Array.getD_eq_getD_getElem? ..).symm.trans p5
                      have hq := HE14.out.below hb
                      have x0 := hq.cells 0 _ rfl
                      have x1 := hq.cells 1 _ rfl
                      have x2 := hq.cells 2 _ rfl
                      have x3 := hq.cells 3 _ rfl
                      have x4 := hq.cells 4 _ rfl
                      have x5 := hq.cells 5 _ rfl
                      clear hq
                      clear hneed hrest
                      go_simp
                      first | exact ⟨_, rfl, rfl, Below.refl _ _⟩ | exact ⟨_, rfl, (by show _ = _; simp), Below.refl _ _⟩
                    | 16, _ =>
                      refine fs_guard _ _ 7 81 true rfl rfl rfl rfl rfl (fun w v h => h) ?_
                      intro a w1 hb hrest hneed
                      have r88 : SKl (.fil f) w1 (a.tmps.getD 88 undef) := hneed 14 88 rfl rfl
                      obtain ⟨u88, e88⟩ : ∃ u, a.tmps.getD 88 undef = u := ⟨_, rfl⟩
                      rw [e88] at r88
                      have e88' := (Array.getD_eq_getD_getElem? ..).symm.trans e88
                      have e89 : a.tmps.getD 89 undef = (evV ev) := hneed 15 89 rfl rfl
                      have e89' := (Array.getD_eq_getD_getElem? ..).symm.trans e89
                      clear hneed hrest
                      obtain ⟨a88, c88, rfl, hk88⟩ := r88
                      have H := Holds_any f ev HLL.out hk88 HSM.out
                      rw [hF] at H
                      go_simp
                      refine H.mono ?_
                      rintro e wk ⟨rfl, hb2⟩
                      exact ⟨_, rfl, rfl, hb2⟩
                    | 17, _ =>
                      refine fs_guard _ _ 7 81 true rfl rfl rfl rfl rfl (fun w v h => h) ?_
                      intro a w1 hb hrest hneed
                      have e90 : a.tmps.getD 90 undef = (.bool false) := hneed 16 90 rfl rfl
                      have e90' := (Array.getD_eq_getD_getElem? ..).symm.trans e90
                      clear hneed hrest
                      go_simp
                      first | exact ⟨_, rfl, rfl, Below.refl _ _⟩ | exact ⟨_, rfl, (by show _ = _; simp), Below.refl _ _⟩
                    | 18, _ => exact fs_skip _ _ 17 91 true rfl rfl rfl rfl rfl (fun w v h => h) (fun w => rfl)
                    | 19, _ => exact fs_skip _ _ 17 91 true rfl rfl rfl rfl rfl (fun w v h => h) (fun w => rfl)
                    | 20, _ => exact fs_skip _ _ 17 91 true rfl rfl rfl rfl rfl (fun w v h => h) (fun w => rfl)
                    | 21, _ =>
                      refine fs_guard _ _ 7 81 true rfl rfl rfl rfl rfl (fun w v h => h) ?_
                      intro a w1 hb hrest hneed
                      have e91 : a.tmps.getD 91 undef = (.bool false) := hneed 17 91 rfl rfl
                      have e91' := (Array.getD_eq_getD_getElem? ..).symm.trans e91
                      clear hneed hrest
                      go_simp
                      first | exact ⟨_, rfl, rfl, Below.refl _ _⟩ | exact ⟨_, rfl, (by show _ = _; simp), Below.refl _ _⟩
                    | 22, _ =>
                      refine fs_guard _ _ 7 81 true rfl rfl rfl rfl rfl (fun w v h => h) ?_
                      intro a w1 hb hrest hneed
                      have e87 : a.tmps.getD 87 undef = (.bool false) := hneed 13 87 rfl rfl
                      have e87' := (Array.getD_eq_getD_getElem? ..).symm.trans e87
                      have e95 : a.tmps.getD 95 undef = (.bool false) := hneed 21 95 rfl rfl
                      have e95' := (Array.getD_eq_getD_getElem? ..).symm.trans e95
                      clear hneed hrest
                      go_simp
                      first | exact ⟨_, rfl, rfl, Below.refl _ _⟩ | exact ⟨_, rfl, (by show _ = _; simp), Below.refl _ _⟩
                    | 23, _ =>
                      refine fs_plain _ _ rfl rfl rfl ?_
                      intro a w1 hb hrest hneed
                      have e81 : a.tmps.getD 81 undef = (.bool true) := hneed 7 81 rfl rfl
                      have e81' := (Array.getD_eq_getD_getElem? ..).symm.trans e81
                      have e96 : a.tmps.getD 96 undef = (.bool true) := hneed 22 96 rfl rfl
                      have e96' := (Array.getD_eq_getD_getElem? ..).symm.trans e96
                      clear hneed hrest
                      go_simp
                      first | exact ⟨_, rfl, rfl, Below.refl _ _⟩ | exact ⟨_, rfl, (by show _ = _; simp), Below.refl _ _⟩
                    | 24, _ =>
                      refine fs_plain _ _ rfl rfl rfl ?_
                      intro a w1 hb hrest hneed
                      have e97 : a.tmps.getD 97 undef = (.bool true) := hneed 23 97 rfl rfl
                      have e97' := (Array.getD_eq_getD_getElem? ..).symm.trans e97
                      clear hneed hrest
                      go_simp
                      first | exact ⟨_, rfl, rfl, Below.refl _ _⟩ | exact ⟨_, rfl, (by show _ = _; simp), Below.refl _ _⟩
                    | 25, _ =>
                      refine fs_guard _ _ 24 98 true rfl rfl rfl rfl rfl (fun w v h => h) ?_
                      intro a w1 hb hrest hneed
                      clear hneed hrest
                      go_simp
                      refine (awake_any _).mono ?_
                      rintro e wz ⟨rfl, hbz⟩
                      exact ⟨_, rfl, rfl, hbz⟩
                    | 26, _ =>
                      refine fs_plain _ _ rfl rfl rfl ?_
                      intro a w1 hb hrest hneed
                      have e98 : a.tmps.getD 98 undef = (.bool true) := hneed 24 98 rfl rfl
                      have e98' := (Array.getD_eq_getD_getElem? ..).symm.trans e98
                      have e99 : a.tmps.getD 99 undef = (.bool true) := hneed 25 99 rfl rfl
                      have e99' := (Array.getD_eq_getD_getElem? ..).symm.trans e99
                      clear hneed hrest
                      go_simp
                      first | exact ⟨_, rfl, rfl, Below.refl _ _⟩ | exact ⟨_, rfl, (by show _ = _; simp), Below.refl _ _⟩
                    | 27, _ =>
                      refine fs_plain _ _ rfl rfl rfl ?_
                      intro a w1 hb hrest hneed
                      have e100 : a.tmps.getD 100 undef = (.bool true) := hneed 26 100 rfl rfl
                      have e100' := (Array.getD_eq_getD_getElem? ..).symm.trans e100
                      clear hneed hrest
                      go_simp
                      first | exact ⟨_, rfl, rfl, Below.refl _ _⟩ | exact ⟨_, rfl, (by show _ = _; simp), Below.refl _ _⟩
                    | n + 28, h => exact absurd h (by simp)
                · intro a w15 hb hd hs hr hg
                  obtain ⟨u74, e74⟩ : ∃ u, a.tmps.getD 74 undef = u := ⟨_, rfl⟩
                  obtain ⟨u75, e75⟩ : ∃ u, a.tmps.getD 75 undef = u := ⟨_, rfl⟩
                  obtain ⟨u76, e76⟩ : ∃ u, a.tmps.getD 76 undef = u := ⟨_, rfl⟩
                  obtain ⟨u77, e77⟩ : ∃ u, a.tmps.getD 77 undef = u := ⟨_, rfl⟩
                  obtain ⟨u78, e78⟩ : ∃ u, a.tmps.getD 78 undef = u := ⟨_, rfl⟩
                  obtain ⟨u79, e79⟩ : ∃ u, a.tmps.getD 79 undef = u := ⟨_, rfl⟩
                  obtain ⟨u80, e80⟩ : ∃ u, a.tmps.getD 80 undef = u := ⟨_, rfl⟩
                  obtain ⟨u81, e81⟩ : ∃ u, a.tmps.getD 81 undef = u := ⟨_, rfl⟩
                  obtain ⟨u82, e82⟩ : ∃ u, a.tmps.getD 82 undef = u := ⟨_, rfl⟩
                  obtain ⟨u83, e83⟩ : ∃ u, a.tmps.getD 83 undef = u := ⟨_, rfl⟩
                  obtain ⟨u84, e84⟩ : ∃ u, a.tmps.getD 84 undef = u := ⟨_, rfl⟩
                  obtain ⟨u85, e85⟩ : ∃ u, a.tmps.getD 85 undef = u := ⟨_, rfl⟩
                  obtain ⟨u86, e86⟩ : ∃ u, a.tmps.getD 86 undef = u := ⟨_, rfl⟩
                  obtain ⟨u87, e87⟩ : ∃ u, a.tmps.getD 87 undef = u := ⟨_, rfl⟩
                  obtain ⟨u88, e88⟩ : ∃ u, a.tmps.getD 88 undef = u := ⟨_, rfl⟩
                  obtain ⟨u89, e89⟩ : ∃ u, a.tmps.getD 89 undef = u := ⟨_, rfl⟩
                  obtain ⟨u90, e90⟩ : ∃ u, a.tmps.getD 90 undef = u := ⟨_, rfl⟩
                  obtain ⟨u91, e91⟩ : ∃ u, a.tmps.getD 91 undef = u := ⟨_, rfl⟩
                  obtain ⟨u92, e92⟩ : ∃ u, a.tmps.getD 92 undef = u := ⟨_, rfl⟩
                  obtain ⟨u93, e93⟩ : ∃ u, a.tmps.getD 93 undef = u := ⟨_, rfl⟩
                  obtain ⟨u94, e94⟩ : ∃ u, a.tmps.getD 94 undef = u := ⟨_, rfl⟩
                  obtain ⟨u95, e95⟩ : ∃ u, a.tmps.getD 95 undef = u := ⟨_, rfl⟩
                  obtain ⟨u96, e96⟩ : ∃ u, a.tmps.getD 96 undef = u := ⟨_, rfl⟩
                  obtain ⟨u97, e97⟩ : ∃ u, a.tmps.getD 97 undef = u := ⟨_, rfl⟩
                  obtain ⟨u98, e98⟩ : ∃ u, a.tmps.getD 98 undef = u := ⟨_, rfl⟩
                  obtain ⟨u99, e99⟩ : ∃ u, a.tmps.getD 99 undef = u := ⟨_, rfl⟩
                  obtain ⟨u100, e100⟩ : ∃ u, a.tmps.getD 100 undef = u := ⟨_, rfl⟩
                  have e6 : a.tmps.getD 6 undef = .bool true := hg 27 (by decide) 6 rfl
                  have ha := act_flow [74, 75, 76, 77, 78, 79, 80, 81, 82, 83, 84, 85, 86, 87, 88, 89, 90, 91, 92, 93, 94, 95, 96, 97, 98, 99, 100, 6] (by kernel_rfl) hd hs hr
                  simp only [putsOf, List.foldl_cons, List.foldl_nil, e74, e75, e76, e77, e78, e79, e80, e81, e82, e83, e84, e85, e86, e87, e88, e89, e90, e91, e92, e93, e94, e95, e96, e97, e98, e99, e100, e6] at ha
                  clear e74 e75 e76 e77 e78 e79 e80 e81 e82 e83 e84 e85 e86 e87 e88 e89 e90 e91 e92 e93 e94 e95 e96 e97 e98 e99 e100 e6 hd hs hr hg
                  subst ha
                  go_simp
                  have HB15 := Lib.hid (HB14.out.trans (hb.mono HB14.out.size))
                  clear hb
                  go_wp2_with fail
                  go_ret
                  exact ⟨rfl, HB15.out⟩
              · refine wp_region_flow (S := SLl [Kl.fil (notF (andF [f, f2])), Kl.val (evV ev), Kl.val (.bool (holdsF (notF (andF [f, f2])) ev)), Kl.fil (orF [notF f, notF f2]), Kl.val (evV ev), Kl.val (.bool (holdsF (notF (andF [f, f2])) ev)), Kl.val (.bool true), Kl.val (.bool true), Kl.fil f, Kl.fil f2, Kl.kids [f, f2], Kl.fil (andF [f, f2]), Kl.val (evV ev), Kl.val (.bool (holdsF f2 ev)), Kl.fil f, Kl.val (evV ev), Kl.val (.bool true), Kl.val (.bool true), Kl.fil f2, Kl.val (evV ev), Kl.val (.bool (holdsF f2 ev)), Kl.val (.bool (holdsF f2 ev)), Kl.val (.bool true), Kl.val (.bool true), Kl.val (.bool true), Kl.val (.bool true), Kl.val (.bool true), Kl.val (.bool true)]) (by kernel_rfl) (SLl_stable _) (by kernel_rfl) (by kernel_rfl) ?_ ?_
                · intro i hi
                  match i, hi with
                    | 0, _ =>
                      refine fs_plain _ _ rfl rfl rfl ?_
                      intro a w1 hb hrest hneed
                      have p8 : a.tmps.getD 8 undef = .pointer (some ⟨g8, 0, none⟩) := (hrest 8 (by kernel_rfl)).trans rfl
                      have p8' := (Array.getD_eq_getD_getElem? ..).symm.trans p8
                      have hq := HA14.out.below hb
                      have x0 := hq.cells 0 _ rfl
                      have x1 := hq.cells 1 _ rfl
                      have x2 := hq.cells 2 _ rfl
                      have x3 := hq.cells 3 _ rfl
                      clear hq
                      clear hneed hrest
                      go_simp
                      exact ⟨_, rfl, ⟨_, _, rfl, HKA14.out.on hb⟩, Below.refl _ _⟩
                    | 1, _ =>
                      refine fs_plain _ _ rfl rfl rfl ?_
                      intro a w1 hb hrest hneed
                      have p5 : a.tmps.getD 5 undef = .pointer (some ⟨w.heap.size + 1 + 1, 0, none⟩) := (hrest 5 (by kernel_rfl)).trans rfl
                      have p5' := (Array.getD_eq_getD_getElem? ..).symm.trans p5
                      have hq := HE14.out.below hb
                      have x0 := hq.cells 0 _ rfl
                      have x1 := hq.cells 1 _ rfl
                      have x2 := hq.cells 2 _ rfl
                      have x3 := hq.cells 3 _ rfl
                      have x4 := hq.cells 4 _ rfl
                      have x5 := hq.cells 5 _ rfl
                      clear hq
                      clear hneed hrest
                      go_simp
                      first | exact ⟨_, rfl, rfl, Below.refl _ _⟩ | exact ⟨_, rfl, (by show _ = _; simp), Below.refl _ _⟩
                    | 2, _ =>
                      refine fs_plain _ _ rfl rfl rfl ?_
                      intro a w1 hb hrest hneed
                      have r74 : SKl (.fil (notF (andF [f, f2]))) w1 (a.tmps.getD 74 undef) := hneed 0 74 rfl rfl
                      obtain ⟨u74, e74⟩ : ∃ u, a.tmps.getD 74 undef = u := ⟨_, rfl⟩
                      rw [e74] at r74
                      have e74' := (Array.getD_eq_getD_getElem? ..).symm.trans e74
                      have e75 : a.tmps.getD 75 undef = (evV ev) := hneed 1 75 rfl rfl
                      have e75' := (Array.getD_eq_getD_getElem? ..).symm.trans e75
                      clear hneed hrest
                      obtain ⟨a74, c74, rfl, hk74⟩ := r74
                      have H := Holds_any (notF (andF [f, f2])) ev (not_light (two_light HLL.out HLG.out)) hk74 HSM.out
                      go_simp
                      refine H.mono ?_
                      rintro e wk ⟨rfl, hb2⟩
                      exact ⟨_, rfl, rfl, hb2⟩
                    | 3, _ =>
                      refine fs_plain _ _ rfl rfl rfl ?_
                      intro a w1 hb hrest hneed
                      have p9 : a.tmps.getD 9 undef = .pointer (some ⟨g9, 0, none⟩) := (hrest 9 (by kernel_rfl)).trans rfl
                      have p9' := (Array.getD_eq_getD_getElem? ..).symm.trans p9
                      have hq := HC14.out.below hb
                      have x0 := hq.cells 0 _ rfl
                      have x1 := hq.cells 1 _ rfl
                      have x2 := hq.cells 2 _ rfl
                      have x3 := hq.cells 3 _ rfl
                      clear hq
                      clear hneed hrest
                      go_simp
                      exact ⟨_, rfl, ⟨_, _, rfl, HKC14.out.on hb⟩, Below.refl _ _⟩
                    | 4, _ =>
                      refine fs_plain _ _ rfl rfl rfl ?_
                      intro a w1 hb hrest hneed
                      have p5 : a.tmps.getD 5 undef = .pointer (some ⟨w.heap.size + 1 + 1, 0, none⟩) := (hrest 5 (by kernel_rfl)).trans rfl
                      have p5' := (Array.getD_eq_getD_getElem? ..).symm.trans p5
                      have hq := HE14.out.below hb
                      have x0 := hq.cells 0 _ rfl
                      have x1 := hq.cells 1 _ rfl
                      have x2 := hq.cells 2 _ rfl
                      have x3 := hq.cells 3 _ rfl
                      have x4 := hq.cells 4 _ rfl
                      have x5 := hq.cells 5 _ rfl
                      clear hq
                      clear hneed hrest
                      go_simp
                      first | exact ⟨_, rfl, rfl, Below.refl _ _⟩ | exact ⟨_, rfl, (by show _ = _; simp), Below.refl _ _⟩
                    | 5, _ =>
                      refine fs_plain _ _ rfl rfl rfl ?_
                      intro a w1 hb hrest hneed
                      have r77 : SKl (.fil (orF [notF f, notF f2])) w1 (a.tmps.getD 77 undef) := hneed 3 77 rfl rfl
                      obtain ⟨u77, e77⟩ : ∃ u, a.tmps.getD 77 undef = u := ⟨_, rfl⟩
                      rw [e77] at r77
                      have e77' := (Array.getD_eq_getD_getElem? ..).symm.trans e77
                      have e78 : a.tmps.getD 78 undef = (evV ev) := hneed 4 78 rfl rfl
                      have e78' := (Array.getD_eq_getD_getElem? ..).symm.trans e78
                      clear hneed hrest
                      obtain ⟨a77, c77, rfl, hk77⟩ := r77
                      have H := Holds_any (orF [notF f, notF f2]) ev (two_light (not_light HLL.out) (not_light HLG.out)) hk77 HSM.out
                      rw [← (morgan ev hca hco).1] at H
                      go_simp
                      refine H.mono ?_
                      rintro e wk ⟨rfl, hb2⟩
                      exact ⟨_, rfl, rfl, hb2⟩
                    | 6, _ =>
                      refine fs_plain _ _ rfl rfl rfl ?_
                      intro a w1 hb hrest hneed
                      have e76 : a.tmps.getD 76 undef = (.bool (holdsF (notF (andF [f, f2])) ev)) := hneed 2 76 rfl rfl
                      have e76' := (Array.getD_eq_getD_getElem? ..).symm.trans e76
                      have e79 : a.tmps.getD 79 undef = (.bool (holdsF (notF (andF [f, f2])) ev)) := hneed 5 79 rfl rfl
                      have e79' := (Array.getD_eq_getD_getElem? ..).symm.trans e79
                      clear hneed hrest
                      go_simp
                      first | exact ⟨_, rfl, rfl, Below.refl _ _⟩ | exact ⟨_, rfl, (by show _ = _; simp), Below.refl _ _⟩
                    | 7, _ =>
                      refine fs_plain _ _ rfl rfl rfl ?_
                      intro a w1 hb hrest hneed
                      have e80 : a.tmps.getD 80 undef = (.bool true) := hneed 6 80 rfl rfl
                      have e80' := (Array.getD_eq_getD_getElem? ..).symm.trans e80
                      clear hneed hrest
                      go_simp
                      first | exact ⟨_, rfl, rfl, Below.refl _ _⟩ | exact ⟨_, rfl, (by show _ = _; simp), Below.refl _ _⟩
                    | 8, _ =>
                      refine fs_guard _ _ 7 81 true rfl rfl rfl rfl rfl (fun w v h => h) ?_
                      intro a w1 hb hrest hneed
                      have p3 : a.tmps.getD 3 undef = .pointer (some ⟨w.heap.size, 0, none⟩) := (hrest 3 (by kernel_rfl)).trans rfl
                      have p3' := (Array.getD_eq_getD_getElem? ..).symm.trans p3
                      have hq := HF14.out.below hb
                      have x0 := hq.cells 0 _ rfl
                      have x1 := hq.cells 1 _ rfl
                      have x2 := hq.cells 2 _ rfl
                      have x3 := hq.cells 3 _ rfl
                      clear hq
                      clear hneed hrest
                      go_simp
                      exact ⟨_, rfl, ⟨a0, cap, rfl, HKF14.out.on hb⟩, Below.refl _ _⟩
                    | 9, _ =>
                      refine fs_guard _ _ 7 81 true rfl rfl rfl rfl rfl (fun w v h => h) ?_
                      intro a w1 hb hrest hneed
                      have p4 : a.tmps.getD 4 undef = .pointer (some ⟨w.heap.size + 1, 0, none⟩) := (hrest 4 (by kernel_rfl)).trans rfl
                      have p4' := (Array.getD_eq_getD_getElem? ..).symm.trans p4
                      have hq := HG14.out.below hb
                      have x0 := hq.cells 0 _ rfl
                      have x1 := hq.cells 1 _ rfl
                      have x2 := hq.cells 2 _ rfl
                      have x3 := hq.cells 3 _ rfl
                      clear hq
                      clear hneed hrest
                      go_simp
                      exact ⟨_, rfl, ⟨a2, cap2, rfl, HKG14.out.on hb⟩, Below.refl _ _⟩
                    | 10, _ =>
                      refine fs_guard _ _ 7 81 true rfl rfl rfl rfl rfl (fun w v h => h) ?_
                      intro a w1 hb hrest hneed
                      have r82 : SKl (.fil f) w1 (a.tmps.getD 82 undef) := hneed 8 82 rfl rfl
                      obtain ⟨u82, e82⟩ : ∃ u, a.tmps.getD 82 undef = u := ⟨_, rfl⟩
                      rw [e82] at r82
                      have e82' := (Array.getD_eq_getD_getElem? ..).symm.trans e82
                      have r83 : SKl (.fil f2) w1 (a.tmps.getD 83 undef) := hneed 9 83 rfl rfl
                      obtain ⟨u83, e83⟩ : ∃ u, a.tmps.getD 83 undef = u := ⟨_, rfl⟩
                      rw [e83] at r83
                      have e83' := (Array.getD_eq_getD_getElem? ..).symm.trans e83
                      clear hneed hrest
                      obtain ⟨a82, c82, rfl, hk82⟩ := r82
                      obtain ⟨a83, c83, rfl, hk83⟩ := r83
                      unfold flV at e82 e82' e83 e83'
                      have hal := lay_alloc w1 (.cells #[.int .i64 f.kind, .string f.name, .string f.text, .slice a82 f.kids.length c82, .int .i64 f2.kind, .string f2.name, .string f2.text, .slice a83 f2.kids.length c83] 24)
                      have hdc := DC.alloc w1 [.int .i64 f.kind, .string f.name, .string f.text, .slice a82 f.kids.length c82, .int .i64 f2.kind, .string f2.name, .string f2.text, .slice a83 f2.kids.length c83] 24
                      go_simp
                      exact ⟨_, rfl, ⟨_, rfl, kids2_in (f := f) (f2 := f2) hdc (hk82.on hal) (hk83.on hal)⟩⟩
                    | 11, _ =>
                      refine fs_guard _ _ 7 81 true rfl rfl rfl rfl rfl (fun w v h => h) ?_
                      intro a w1 hb hrest hneed
                      have r84 : SKl (.kids [f, f2]) w1 (a.tmps.getD 84 undef) := hneed 10 84 rfl rfl
                      obtain ⟨u84, e84⟩ : ∃ u, a.tmps.getD 84 undef = u := ⟨_, rfl⟩
                      rw [e84] at r84
                      have e84' := (Array.getD_eq_getD_getElem? ..).symm.trans e84
                      clear hneed hrest
                      obtain ⟨g84, rfl, hk84⟩ := r84
                      go_simp
                      refine (kind_any 5 _ _ _ w1).mono ?_
                      rintro e wk ⟨rfl, hb2⟩
                      exact ⟨_, rfl, ⟨_, _, rfl, hk84.on hb2⟩, hb2⟩
                    | 12, _ =>
                      refine fs_guard _ _ 7 81 true rfl rfl rfl rfl rfl (fun w v h => h) ?_
                      intro a w1 hb hrest hneed
                      have p5 : a.tmps.getD 5 undef = .pointer (some ⟨w.heap.size + 1 + 1, 0, none⟩) := (hrest 5 (by kernel_rfl)).trans rfl
                      have p5' := (Array.getD_eq_getD_getElem? ..).symm.trans p5
                      have hq := HE14.out.below hb
                      have x0 := hq.cells 0 _ rfl
                      have x1 := hq.cells 1 _ rfl
                      have x2 := hq.cells 2 _ rfl
                      have x3 := hq.cells 3 _ rfl
                      have x4 := hq.cells 4 _ rfl
                      have x5 := hq.cells 5 _ rfl
                      clear hq
                      clear hneed hrest
                      go_simp
                      first | exact ⟨_, rfl, rfl, Below.refl _ _⟩ | exact ⟨_, rfl, (by show _ = _; simp), Below.refl _ _⟩
                    | 13, _ =>
                      refine fs_guard _ _ 7 81 true rfl rfl rfl rfl rfl (fun w v h => h) ?_
                      intro a w1 hb hrest hneed
                      have r85 : SKl (.fil (andF [f, f2])) w1 (a.tmps.getD 85 undef) := hneed 11 85 rfl rfl
                      obtain ⟨u85, e85⟩ : ∃ u, a.tmps.getD 85 undef = u := ⟨_, rfl⟩
                      rw [e85] at r85
                      have e85' := (Array.getD_eq_getD_getElem? ..).symm.trans e85
                      have e86 : a.tmps.getD 86 undef = (evV ev) := hneed 12 86 rfl rfl
                      have e86' := (Array.getD_eq_getD_getElem? ..).symm.trans e86
                      clear hneed hrest
                      obtain ⟨a85, c85, rfl, hk85⟩ := r85
                      have H := Holds_any (andF [f, f2]) ev (two_light HLL.out HLG.out) hk85 HSM.out
                      rw [(morgan ev hca hco).2, hF, Bool.true_and] at H
                      go_simp
                      refine H.mono ?_
                      rintro e wk ⟨rfl, hb2⟩
                      exact ⟨_, rfl, rfl, hb2⟩
                    | 14, _ =>
                      refine fs_guard _ _ 7 81 true rfl rfl rfl rfl rfl (fun w v h => h) ?_
                      intro a w1 hb hrest hneed
                      have p3 : a.tmps.getD 3 undef = .pointer (some ⟨w.heap.size, 0, none⟩) := (hrest 3 (by kernel_rfl)).trans rfl
                      have p3' := (Array.getD_eq_getD_getElem? ..).symm.trans p3
                      have hq := HF14.out.below hb
                      have x0 := hq.cells 0 _ rfl
                      have x1 := hq.cells 1 _ rfl
                      have x2 := hq.cells 2 _ rfl
                      have x3 := hq.cells 3 _ rfl
                      clear hq
                      clear hneed hrest
                      go_simp
                      exact ⟨_, rfl, ⟨a0, cap, rfl, HKF14.out.on hb⟩, Below.refl _ _⟩
                    | 15, _ =>
                      refine fs_guard _ _ 7 81 true rfl rfl rfl rfl rfl (fun w v h => h) ?_
                      intro a w1 hb hrest hneed
                      have p5 : a.tmps.getD 5 undef = .pointer (some ⟨w.heap.size + 1 + 1, 0, none⟩) := (hrest 5 (by kernel_rfl)).trans rfl
                      have p5' := (Array.getD_eq_getD_getElem? ..).symm.trans p5
                      have hq := HE14.out.below hb
                      have x0 := hq.cells 0 _ rfl
                      have x1 := hq.cells 1 _ rfl
                      have x2 := hq.cells 2 _ rfl
                      have x3 := hq.cells 3 _ rfl
                      have x4 := hq.cells 4 _ rfl
                      have x5 := hq.cells 5 _ rfl
                      clear hq
                      clear hneed hrest
                      go_simp
                      first | exact ⟨_, rfl, rfl, Below.refl _ _⟩ | exact ⟨_, rfl, (by show _ = _; simp), Below.refl _ _⟩
                    | 16, _ =>
                      refine fs_guard _ _ 7 81 true rfl rfl rfl rfl rfl (fun w v h => h) ?_
                      intro a w1 hb hrest hneed
                      have r88 : SKl (.fil f) w1 (a.tmps.getD 88 undef) := hneed 14 88 rfl rfl
                      obtain ⟨u88, e88⟩ : ∃ u, a.tmps.getD 88 undef = u := ⟨_, rfl⟩
                      rw [e88] at r88
                      have e88' := (Array.getD_eq_getD_getElem? ..).symm.trans e88
                      have e89 : a.tmps.getD 89 undef = (evV ev) := hneed 15 89 rfl rfl
                      have e89' := (Array.getD_eq_getD_getElem? ..).symm.trans e89
                      clear hneed hrest
                      obtain ⟨a88, c88, rfl, hk88⟩ := r88
                      have H := Holds_any f ev HLL.out hk88 HSM.out
                      rw [hF] at H
                      go_simp
                      refine H.mono ?_
                      rintro e wk ⟨rfl, hb2⟩
                      exact ⟨_, rfl, rfl, hb2⟩
                    | 17, _ =>
                      refine fs_guard _ _ 7 81 true rfl rfl rfl rfl rfl (fun w v h => h) ?_
                      intro a w1 hb hrest hneed
                      have e90 : a.tmps.getD 90 undef = (.bool true) := hneed 16 90 rfl rfl
                      have e90' := (Array.getD_eq_getD_getElem? ..).symm.trans e90
                      clear hneed hrest
                      go_simp
                      first | exact ⟨_, rfl, rfl, Below.refl _ _⟩ | exact ⟨_, rfl, (by show _ = _; simp), Below.refl _ _⟩
                    | 18, _ =>
                      refine fs_guard _ _ 17 91 true rfl rfl rfl rfl rfl (fun w v h => h) ?_
                      intro a w1 hb hrest hneed
                      have p4 : a.tmps.getD 4 undef = .pointer (some ⟨w.heap.size + 1, 0, none⟩) := (hrest 4 (by kernel_rfl)).trans rfl
                      have p4' := (Array.getD_eq_getD_getElem? ..).symm.trans p4
                      have hq := HG14.out.below hb
                      have x0 := hq.cells 0 _ rfl
                      have x1 := hq.cells 1 _ rfl
                      have x2 := hq.cells 2 _ rfl
                      have x3 := hq.cells 3 _ rfl
                      clear hq
                      clear hneed hrest
                      go_simp
                      exact ⟨_, rfl, ⟨a2, cap2, rfl, HKG14.out.on hb⟩, Below.refl _ _⟩
                    | 19, _ =>
                      refine fs_guard _ _ 17 91 true rfl rfl rfl rfl rfl (fun w v h => h) ?_
                      intro a w1 hb hrest hneed
                      have p5 : a.tmps.getD 5 undef = .pointer (some ⟨w.heap.size + 1 + 1, 0, none⟩) := (hrest 5 (by kernel_rfl)).trans rfl
                      have p5' := (Array.getD_eq_getD_getElem? ..).symm.trans p5
                      have hq := HE14.out.below hb
                      have x0 := hq.cells 0 _ rfl
                      have x1 := hq.cells 1 _ rfl
                      have x2 := hq.cells 2 _ rfl
                      have x3 := hq.cells 3 _ rfl
                      have x4 := hq.cells 4 _ rfl
                      have x5 := hq.cells 5 _ rfl
                      clear hq
                      clear hneed hrest
                      go_simp
                      first | exact ⟨_, rfl, rfl, Below.refl _ _⟩ | exact ⟨_, rfl, (by show _ = _; simp), Below.refl _ _⟩
                    | 20, _ =>
                      refine fs_guard _ _ 17 91 true rfl rfl rfl rfl rfl (fun w v h => h) ?_
                      intro a w1 hb hrest hneed
                      have r92 : SKl (.fil f2) w1 (a.tmps.getD 92 undef) := hneed 18 92 rfl rfl
                      obtain ⟨u92, e92⟩ : ∃ u, a.tmps.getD 92 undef = u := ⟨_, rfl⟩
                      rw [e92] at r92
                      have e92' := (Array.getD_eq_getD_getElem? ..).symm.trans e92
                      have e93 : a.tmps.getD 93 undef = (evV ev) := hneed 19 93 rfl rfl
                      have e93' := (Array.getD_eq_getD_getElem? ..).symm.trans e93
                      clear hneed hrest
                      obtain ⟨a92, c92, rfl, hk92⟩ := r92
                      have H := Holds_any f2 ev HLG.out hk92 HSM.out
                      go_simp
                      refine H.mono ?_
                      rintro e wk ⟨rfl, hb2⟩
                      exact ⟨_, rfl, rfl, hb2⟩
                    | 21, _ =>
                      refine fs_guard _ _ 7 81 true rfl rfl rfl rfl rfl (fun w v h => h) ?_
                      intro a w1 hb hrest hneed
                      have e91 : a.tmps.getD 91 undef = (.bool true) := hneed 17 91 rfl rfl
                      have e91' := (Array.getD_eq_getD_getElem? ..).symm.trans e91
                      have e94 : a.tmps.getD 94 undef = (.bool (holdsF f2 ev)) := hneed 20 94 rfl rfl
                      have e94' := (Array.getD_eq_getD_getElem? ..).symm.trans e94
                      clear hneed hrest
                      go_simp
                      first | exact ⟨_, rfl, rfl, Below.refl _ _⟩ | exact ⟨_, rfl, (by show _ = _; simp), Below.refl _ _⟩
                    | 22, _ =>
                      refine fs_guard _ _ 7 81 true rfl rfl rfl rfl rfl (fun w v h => h) ?_
                      intro a w1 hb hrest hneed
                      have e87 : a.tmps.getD 87 undef = (.bool (holdsF f2 ev)) := hneed 13 87 rfl rfl
                      have e87' := (Array.getD_eq_getD_getElem? ..).symm.trans e87
                      have e95 : a.tmps.getD 95 undef = (.bool (holdsF f2 ev)) := hneed 21 95 rfl rfl
                      have e95' := (Array.getD_eq_getD_getElem? ..).symm.trans e95
                      clear hneed hrest
                      go_simp
                      first | exact ⟨_, rfl, rfl, Below.refl _ _⟩ | exact ⟨_, rfl, (by show _ = _; simp), Below.refl _ _⟩
                    | 23, _ =>
                      refine fs_plain _ _ rfl rfl rfl ?_
                      intro a w1 hb hrest hneed
                      have e81 : a.tmps.getD 81 undef = (.bool true) := hneed 7 81 rfl rfl
                      have e81' := (Array.getD_eq_getD_getElem? ..).symm.trans e81
                      have e96 : a.tmps.getD 96 undef = (.bool true) := hneed 22 96 rfl rfl
                      have e96' := (Array.getD_eq_getD_getElem? ..).symm.trans e96
                      clear hneed hrest
                      go_simp
                      first | exact ⟨_, rfl, rfl, Below.refl _ _⟩ | exact ⟨_, rfl, (by show _ = _; simp), Below.refl _ _⟩
                    | 24, _ =>
                      refine fs_plain _ _ rfl rfl rfl ?_
                      intro a w1 hb hrest hneed
                      have e97 : a.tmps.getD 97 undef = (.bool true) := hneed 23 97 rfl rfl
                      have e97' := (Array.getD_eq_getD_getElem? ..).symm.trans e97
                      clear hneed hrest
                      go_simp
                      first | exact ⟨_, rfl, rfl, Below.refl _ _⟩ | exact ⟨_, rfl, (by show _ = _; simp), Below.refl _ _⟩
                    | 25, _ =>
                      refine fs_guard _ _ 24 98 true rfl rfl rfl rfl rfl (fun w v h => h) ?_
                      intro a w1 hb hrest hneed
                      clear hneed hrest
                      go_simp
                      refine (awake_any _).mono ?_
                      rintro e wz ⟨rfl, hbz⟩
                      exact ⟨_, rfl, rfl, hbz⟩
                    | 26, _ =>
                      refine fs_plain _ _ rfl rfl rfl ?_
                      intro a w1 hb hrest hneed
                      have e98 : a.tmps.getD 98 undef = (.bool true) := hneed 24 98 rfl rfl
                      have e98' := (Array.getD_eq_getD_getElem? ..).symm.trans e98
                      have e99 : a.tmps.getD 99 undef = (.bool true) := hneed 25 99 rfl rfl
                      have e99' := (Array.getD_eq_getD_getElem? ..).symm.trans e99
                      clear hneed hrest
                      go_simp
                      first | exact ⟨_, rfl, rfl, Below.refl _ _⟩ | exact ⟨_, rfl, (by show _ = _; simp), Below.refl _ _⟩
                    | 27, _ =>
                      refine fs_plain _ _ rfl rfl rfl ?_
                      intro a w1 hb hrest hneed
                      have e100 : a.tmps.getD 100 undef = (.bool true) := hneed 26 100 rfl rfl
                      have e100' := (Array.getD_eq_getD_getElem? ..).symm.trans e100
                      clear hneed hrest
                      go_simp
                      first | exact ⟨_, rfl, rfl, Below.refl _ _⟩ | exact ⟨_, rfl, (by show _ = _; simp), Below.refl _ _⟩
                    | n + 28, h => exact absurd h (by simp)
                · intro a w15 hb hd hs hr hg
                  obtain ⟨u74, e74⟩ : ∃ u, a.tmps.getD 74 undef = u := ⟨_, rfl⟩
                  obtain ⟨u75, e75⟩ : ∃ u, a.tmps.getD 75 undef = u := ⟨_, rfl⟩
                  obtain ⟨u76, e76⟩ : ∃ u, a.tmps.getD 76 undef = u := ⟨_, rfl⟩
                  obtain ⟨u77, e77⟩ : ∃ u, a.tmps.getD 77 undef = u := ⟨_, rfl⟩
                  obtain ⟨u78, e78⟩ : ∃ u, a.tmps.getD 78 undef = u := ⟨_, rfl⟩
                  obtain ⟨u79, e79⟩ : ∃ u, a.tmps.getD 79 undef = u := ⟨_, rfl⟩
                  obtain ⟨u80, e80⟩ : ∃ u, a.tmps.getD 80 undef = u := ⟨_, rfl⟩
                  obtain ⟨u81, e81⟩ : ∃ u, a.tmps.getD 81 undef = u := ⟨_, rfl⟩
                  obtain ⟨u82, e82⟩ : ∃ u, a.tmps.getD 82 undef = u := ⟨_, rfl⟩
                  obtain ⟨u83, e83⟩ : ∃ u, a.tmps.getD 83 undef = u := ⟨_, rfl⟩
                  obtain ⟨u84, e84⟩ : ∃ u, a.tmps.getD 84 undef = u := ⟨_, rfl⟩
                  obtain ⟨u85, e85⟩ : ∃ u, a.tmps.getD 85 undef = u := ⟨_, rfl⟩
                  obtain ⟨u86, e86⟩ : ∃ u, a.tmps.getD 86 undef = u := ⟨_, rfl⟩
                  obtain ⟨u87, e87⟩ : ∃ u, a.tmps.getD 87 undef = u := ⟨_, rfl⟩
                  obtain ⟨u88, e88⟩ : ∃ u, a.tmps.getD 88 undef = u := ⟨_, rfl⟩
                  obtain ⟨u89, e89⟩ : ∃ u, a.tmps.getD 89 undef = u := ⟨_, rfl⟩
                  obtain ⟨u90, e90⟩ : ∃ u, a.tmps.getD 90 undef = u := ⟨_, rfl⟩
                  obtain ⟨u91, e91⟩ : ∃ u, a.tmps.getD 91 undef = u := ⟨_, rfl⟩
                  obtain ⟨u92, e92⟩ : ∃ u, a.tmps.getD 92 undef = u := ⟨_, rfl⟩
                  obtain ⟨u93, e93⟩ : ∃ u, a.tmps.getD 93 undef = u := ⟨_, rfl⟩
                  obtain ⟨u94, e94⟩ : ∃ u, a.tmps.getD 94 undef = u := ⟨_, rfl⟩
                  obtain ⟨u95, e95⟩ : ∃ u, a.tmps.getD 95 undef = u := ⟨_, rfl⟩
                  obtain ⟨u96, e96⟩ : ∃ u, a.tmps.getD 96 undef = u := ⟨_, rfl⟩
                  obtain ⟨u97, e97⟩ : ∃ u, a.tmps.getD 97 undef = u := ⟨_, rfl⟩
                  obtain ⟨u98, e98⟩ : ∃ u, a.tmps.getD 98 undef = u := ⟨_, rfl⟩
                  obtain ⟨u99, e99⟩ : ∃ u, a.tmps.getD 99 undef = u := ⟨_, rfl⟩
                  obtain ⟨u100, e100⟩ : ∃ u, a.tmps.getD 100 undef = u := ⟨_, rfl⟩
                  have e6 : a.tmps.getD 6 undef = .bool true := hg 27 (by decide) 6 rfl
                  have ha := act_flow [74, 75, 76, 77, 78, 79, 80, 81, 82, 83, 84, 85, 86, 87, 88, 89, 90, 91, 92, 93, 94, 95, 96, 97, 98, 99, 100, 6] (by kernel_rfl) hd hs hr
                  simp only [putsOf, List.foldl_cons, List.foldl_nil, e74, e75, e76, e77, e78, e79, e80, e81, e82, e83, e84, e85, e86, e87, e88, e89, e90, e91, e92, e93, e94, e95, e96, e97, e98, e99, e100, e6] at ha
                  clear e74 e75 e76 e77 e78 e79 e80 e81 e82 e83 e84 e85 e86 e87 e88 e89 e90 e91 e92 e93 e94 e95 e96 e97 e98 e99 e100 e6 hd hs hr hg
                  subst ha
                  go_simp
                  have HB15 := Lib.hid (HB14.out.trans (hb.mono HB14.out.size))
                  clear hb
                  go_wp2_with fail
                  go_ret
                  exact ⟨rfl, HB15.out⟩
            · have b2 : (ckF (orF [notF f, notF f2]) != 0) = true := by rw [bne_iff_ne]; exact hco
              go_wp2_with fail
              go_fit HC2.out
              rintro e w14 ⟨rfl, hb⟩
              clear fc0 fc1 fc2 fc3 gc0 gc1 gc2 gc3 ec0 ec1 ec2 ec3 ec4 ec5 ac0 ac1 ac2 ac3 cc0 cc1 cc2 cc3
              have HF14 := Lib.hid (HF13.out.below hb)
              have HG14 := Lib.hid (HG13.out.below hb)
              have HE14 := Lib.hid (HE13.out.below hb)
              have HA14 := Lib.hid (HA13.out.below hb)
              have HC14 := Lib.hid (HC13.out.below hb)
              have HKF14 := Lib.hid (HKF13.out.on hb)
              have HKG14 := Lib.hid (HKG13.out.on hb)
              have HN114 := Lib.hid (HN113.out.on hb)
              have HN214 := Lib.hid (HN213.out.on hb)
              have HKA14 := Lib.hid (HKA13.out.on hb)
              have HKC14 := Lib.hid (HKC13.out.on hb)
              have HB14 := Lib.hid (HB13.out.trans (hb.mono HB13.out.size))
              clear HF13 HG13 HE13 HA13 HC13 HKF13 HKG13 HN113 HN213 HKA13 HKC13 HB13
              clear hb HC2
              go_wp2_with fail
              go_fit (awake_any _)
              rintro e wz ⟨rfl, hbz⟩
              have HBz := Lib.hid (HB14.out.trans (hbz.mono HB14.out.size))
              clear hbz
              go_wp2_with fail
              go_ret
              exact ⟨rfl, HBz.out⟩
          · have b1 : (ckF (notF (andF [f, f2])) != 0) = true := by rw [bne_iff_ne]; exact hca
            go_wp2_with fail
            go_fit HC1.out
            rintro e w13 ⟨rfl, hb⟩
            clear fc0 fc1 fc2 fc3 gc0 gc1 gc2 gc3 ec0 ec1 ec2 ec3 ec4 ec5 ac0 ac1 ac2 ac3 cc0 cc1 cc2 cc3
            have HF13 := Lib.hid (HF12.out.below hb)
            have HG13 := Lib.hid (HG12.out.below hb)
            have HE13 := Lib.hid (HE12.out.below hb)
            have HA13 := Lib.hid (HA12.out.below hb)
            have HC13 := Lib.hid (HC12.out.below hb)
            have HKF13 := Lib.hid (HKF12.out.on hb)
            have HKG13 := Lib.hid (HKG12.out.on hb)
            have HN113 := Lib.hid (HN112.out.on hb)
            have HN213 := Lib.hid (HN212.out.on hb)
            have HKA13 := Lib.hid (HKA12.out.on hb)
            have HKC13 := Lib.hid (HKC12.out.on hb)
            have HB13 := Lib.hid (HB12.out.trans (hb.mono HB12.out.size))
            clear HF12 HG12 HE12 HA12 HC12 HKF12 HKG12 HN112 HN212 HKA12 HKC12 HB12
            clear hb HC1
            go_wp2_with fail
            go_fit (awake_any _)
            rintro e wz ⟨rfl, hbz⟩
            have HBz := Lib.hid (HB13.out.trans (hbz.mono HB13.out.size))
            clear hbz
            go_wp2_with fail
            go_ret
            exact ⟨rfl, HBz.out⟩
    · refine wp_region_flow (S := SLl [Kl.fil (notF (notF f)), Kl.val (.int .i64 (ckF (notF (notF f)))), Kl.val (.bool false), Kl.val (.bool false), Kl.val undef, Kl.val undef, Kl.val undef, Kl.val undef, Kl.val undef, Kl.val undef, Kl.val undef, Kl.val (.bool false)]) (by kernel_rfl) (SLl_stable _) (by kernel_rfl) (by kernel_rfl) ?_ ?_
      · intro i hi
        match i, hi with
          | 0, _ =>
            refine fs_plain _ _ rfl rfl rfl ?_
            intro a w1 hb hrest hneed
            have p7 : a.tmps.getD 7 undef = .pointer (some ⟨w9.heap.size, 0, none⟩) := (hrest 7 (by kernel_rfl)).trans rfl
            have p7' := (Array.getD_eq_getD_getElem? ..).symm.trans p7
            have hq := HTA.out.below hb
            have x0 := hq.cells 0 _ rfl
            have x1 := hq.cells 1 _ rfl
            have x2 := hq.cells 2 _ rfl
            have x3 := hq.cells 3 _ rfl
            clear hq
            clear hneed hrest
            go_simp
            exact ⟨_, rfl, ⟨_, _, rfl, HN2W9.out.on hb⟩, Below.refl _ _⟩
          | 1, _ =>
            refine fs_plain _ _ rfl rfl rfl ?_
            intro a w1 hb hrest hneed
            have r39 : SKl (.fil (notF (notF f))) w1 (a.tmps.getD 39 undef) := hneed 0 39 rfl rfl
            obtain ⟨u39, e39⟩ : ∃ u, a.tmps.getD 39 undef = u := ⟨_, rfl⟩
            rw [e39] at r39
            have e39' := (Array.getD_eq_getD_getElem? ..).symm.trans e39
            clear hneed hrest
            obtain ⟨a39, c39, rfl, hk39⟩ := r39
            have H := Check_any (notF (notF f)) (not_light (not_light HLL.out)) hk39
            go_simp
            refine H.mono ?_
            rintro e wk ⟨rfl, hb2⟩
            exact ⟨_, rfl, rfl, hb2⟩
          | 2, _ =>
            refine fs_plain _ _ rfl rfl rfl ?_
            intro a w1 hb hrest hneed
            have e40 : a.tmps.getD 40 undef = (.int .i64 (ckF (notF (notF f)))) := hneed 1 40 rfl rfl
            have e40' := (Array.getD_eq_getD_getElem? ..).symm.trans e40
            clear hneed hrest
            go_simp
            exact ⟨_, rfl, (by show _ = _; simp [hck]), Below.refl _ _⟩
          | 3, _ =>
            refine fs_plain _ _ rfl rfl rfl ?_
            intro a w1 hb hrest hneed
            have e41 : a.tmps.getD 41 undef = (.bool false) := hneed 2 41 rfl rfl
            have e41' := (Array.getD_eq_getD_getElem? ..).symm.trans e41
            clear hneed hrest
            go_simp
            first | exact ⟨_, rfl, rfl, Below.refl _ _⟩ | exact ⟨_, rfl, (by show _ = _; simp), Below.refl _ _⟩
          | 4, _ => exact fs_skip _ _ 3 42 true rfl rfl rfl rfl rfl (fun w v h => h) (fun w => rfl)
          | 5, _ => exact fs_skip _ _ 3 42 true rfl rfl rfl rfl rfl (fun w v h => h) (fun w => rfl)
          | 6, _ => exact fs_skip _ _ 3 42 true rfl rfl rfl rfl rfl (fun w v h => h) (fun w => rfl)
          | 7, _ => exact fs_skip _ _ 3 42 true rfl rfl rfl rfl rfl (fun w v h => h) (fun w => rfl)
          | 8, _ => exact fs_skip _ _ 3 42 true rfl rfl rfl rfl rfl (fun w v h => h) (fun w => rfl)
          | 9, _ => exact fs_skip _ _ 3 42 true rfl rfl rfl rfl rfl (fun w v h => h) (fun w => rfl)
          | 10, _ => exact fs_skip _ _ 3 42 true rfl rfl rfl rfl rfl (fun w v h => h) (fun w => rfl)
          | 11, _ =>
            refine fs_plain _ _ rfl rfl rfl ?_
            intro a w1 hb hrest hneed
            have e42 : a.tmps.getD 42 undef = (.bool false) := hneed 3 42 rfl rfl
            have e42' := (Array.getD_eq_getD_getElem? ..).symm.trans e42
            clear hneed hrest
            go_simp
            first | exact ⟨_, rfl, rfl, Below.refl _ _⟩ | exact ⟨_, rfl, (by show _ = _; simp), Below.refl _ _⟩
          | n + 12, h => exact absurd h (by simp)
      · intro a w10 hb hd hs hr hg
        obtain ⟨u39, e39⟩ : ∃ u, a.tmps.getD 39 undef = u := ⟨_, rfl⟩
        obtain ⟨u40, e40⟩ : ∃ u, a.tmps.getD 40 undef = u := ⟨_, rfl⟩
        obtain ⟨u41, e41⟩ : ∃ u, a.tmps.getD 41 undef = u := ⟨_, rfl⟩
        obtain ⟨u42, e42⟩ : ∃ u, a.tmps.getD 42 undef = u := ⟨_, rfl⟩
        obtain ⟨u43, e43⟩ : ∃ u, a.tmps.getD 43 undef = u := ⟨_, rfl⟩
        obtain ⟨u44, e44⟩ : ∃ u, a.tmps.getD 44 undef = u := ⟨_, rfl⟩
        obtain ⟨u45, e45⟩ : ∃ u, a.tmps.getD 45 undef = u := ⟨_, rfl⟩
        obtain ⟨u46, e46⟩ : ∃ u, a.tmps.getD 46 undef = u := ⟨_, rfl⟩
        obtain ⟨u47, e47⟩ : ∃ u, a.tmps.getD 47 undef = u := ⟨_, rfl⟩
        obtain ⟨u48, e48⟩ : ∃ u, a.tmps.getD 48 undef = u := ⟨_, rfl⟩
        obtain ⟨u49, e49⟩ : ∃ u, a.tmps.getD 49 undef = u := ⟨_, rfl⟩
        have e50 : a.tmps.getD 50 undef = .bool false := hg 11 (by decide) 50 rfl
        have ha := act_flow [39, 40, 41, 42, 43, 44, 45, 46, 47, 48, 49, 50] (by kernel_rfl) hd hs hr
        simp only [putsOf, List.foldl_cons, List.foldl_nil, e39, e40, e41, e42, e43, e44, e45, e46, e47, e48, e49, e50] at ha
        clear e39 e40 e41 e42 e43 e44 e45 e46 e47 e48 e49 e50 hd hs hr hg
        subst ha
        go_simp
        have HF10 := Lib.hid (HFW9.out.below hb)
        have HG10 := Lib.hid (HGW9.out.below hb)
        have HE10 := Lib.hid (HEW9.out.below hb)
        have HKF10 := Lib.hid (HKFW9.out.on hb)
        have HKG10 := Lib.hid (HKGW9.out.on hb)
        have HN110 := Lib.hid (HN1W9.out.on hb)
        have HN210 := Lib.hid (HN2W9.out.on hb)
        have HB10 := Lib.hid (HBW9.out.trans (hb.mono HBW9.out.size))
        clear HFW9 HGW9 HEW9 HKFW9 HKGW9 HN1W9 HN2W9 HBW9
        have fc0 := HF10.out.cells 0 _ rfl
        have fc1 := HF10.out.cells 1 _ rfl
        have fc2 := HF10.out.cells 2 _ rfl
        have fc3 := HF10.out.cells 3 _ rfl
        have gc0 := HG10.out.cells 0 _ rfl
        have gc1 := HG10.out.cells 1 _ rfl
        have gc2 := HG10.out.cells 2 _ rfl
        have gc3 := HG10.out.cells 3 _ rfl
        have ec0 := HE10.out.cells 0 _ rfl
        have ec1 := HE10.out.cells 1 _ rfl
        have ec2 := HE10.out.cells 2 _ rfl
        have ec3 := HE10.out.cells 3 _ rfl
        have ec4 := HE10.out.cells 4 _ rfl
        have ec5 := HE10.out.cells 5 _ rfl
        clear hb
        go_wp2_with fail
        have HKS : Hid (∀ k, 14 ≤ k → k < 16 → ([Kl.fil f, Kl.fil f2, Kl.kids [f, f2], Kl.fil (andF [f, f2]), Kl.kids [(andF [f, f2])], Kl.fil (notF (andF [f, f2])), Kl.fil f, Kl.kids [f], Kl.fil (notF f), Kl.fil f2, Kl.kids [f2], Kl.fil (notF f2), Kl.kids [(notF f), (notF f2)], Kl.fil (orF [notF f, notF f2]), Kl.fresh w10.heap.size, Kl.fresh w10.heap.size] : List Kl)[k]? = some (.fresh w10.heap.size)) := fun k h1 h2 => by
          obtain rfl | rfl : k = 14 ∨ k = 15 := by omega
          · rfl
          · rfl
        refine wp_region_flowG (S := SLl [Kl.fil f, Kl.fil f2, Kl.kids [f, f2], Kl.fil (andF [f, f2]), Kl.kids [(andF [f, f2])], Kl.fil (notF (andF [f, f2])), Kl.fil f, Kl.kids [f], Kl.fil (notF f), Kl.fil f2, Kl.kids [f2], Kl.fil (notF f2), Kl.kids [(notF f), (notF f2)], Kl.fil (orF [notF f, notF f2]), Kl.fresh w10.heap.size, Kl.fresh w10.heap.size]) (D := DLl [Kl.fil f, Kl.fil f2, Kl.kids [f, f2], Kl.fil (andF [f, f2]), Kl.kids [(andF [f, f2])], Kl.fil (notF (andF [f, f2])), Kl.fil f, Kl.kids [f], Kl.fil (notF f), Kl.fil f2, Kl.kids [f2], Kl.fil (notF f2), Kl.kids [(notF f), (notF f2)], Kl.fil (orF [notF f, notF f2]), Kl.fresh w10.heap.size, Kl.fresh w10.heap.size] 14) 16 2 (by kernel_rfl) rfl (SLl_stable _) (fun i j w w' v u h _ _ hb => DLl_stable _ _ i j w w' v u h hb) (by kernel_rfl) (by kernel_rfl) (by kernel_rfl) ?_ ?_
        · intro i hi
          match i, hi with
            | 0, _ =>
              refine fsE_plain _ _ rfl rfl rfl ?_
              intro L a w1 hb hrest hneed hp
              have p3 : a.tmps.getD 3 undef = .pointer (some ⟨w.heap.size, 0, none⟩) := (hrest 3 (by kernel_rfl)).trans rfl
              have p3' := (Array.getD_eq_getD_getElem? ..).symm.trans p3
              have hq := HF10.out.below hb
              have x0 := hq.cells 0 _ rfl
              have x1 := hq.cells 1 _ rfl
              have x2 := hq.cells 2 _ rfl
              have x3 := hq.cells 3 _ rfl
              clear hq
              clear hneed hrest hp
              go_simp
              refine ⟨_, rfl, ⟨a0, cap, rfl, HKF10.out.on hb⟩, Below.refl _ _, ?_⟩
              intro k hk hl hne e he hs
              exact dl_build (ki := .fil f) HKS.out rfl (by decide) hk hs fun hm g heq hB hg => AVk_low HKF10.out hB hb
            | 1, _ =>
              refine fsE_plain _ _ rfl rfl rfl ?_
              intro L a w1 hb hrest hneed hp
              have p4 : a.tmps.getD 4 undef = .pointer (some ⟨w.heap.size + 1, 0, none⟩) := (hrest 4 (by kernel_rfl)).trans rfl
              have p4' := (Array.getD_eq_getD_getElem? ..).symm.trans p4
              have hq := HG10.out.below hb
              have x0 := hq.cells 0 _ rfl
              have x1 := hq.cells 1 _ rfl
              have x2 := hq.cells 2 _ rfl
              have x3 := hq.cells 3 _ rfl
              clear hq
              clear hneed hrest hp
              go_simp
              refine ⟨_, rfl, ⟨a2, cap2, rfl, HKG10.out.on hb⟩, Below.refl _ _, ?_⟩
              intro k hk hl hne e he hs
              exact dl_build (ki := .fil f2) HKS.out rfl (by decide) hk hs fun hm g heq hB hg => AVk_low HKG10.out hB hb
            | 2, _ =>
              refine fsE_plain _ _ rfl rfl rfl ?_
              intro L a w1 hb hrest hneed hp
              have r51 : SKl (Kl.fil f) w1 (a.tmps.getD 51 undef) := hneed 0 51 rfl rfl
              have p51 := fun k hk hl hkn e he => And.right (hp 0 rfl k hk hl hkn 51 e rfl he)
              obtain ⟨u51, e51⟩ : ∃ u, a.tmps.getD 51 undef = u := ⟨_, rfl⟩
              rw [e51] at r51
              simp only [e51] at p51
              have e51' := (Array.getD_eq_getD_getElem? ..).symm.trans e51
              have r52 : SKl (Kl.fil f2) w1 (a.tmps.getD 52 undef) := hneed 1 52 rfl rfl
              have p52 := fun k hk hl hkn e he => And.right (hp 1 rfl k hk hl hkn 52 e rfl he)
              obtain ⟨u52, e52⟩ : ∃ u, a.tmps.getD 52 undef = u := ⟨_, rfl⟩
              rw [e52] at r52
              simp only [e52] at p52
              have e52' := (Array.getD_eq_getD_getElem? ..).symm.trans e52
              obtain ⟨a51, c51, rfl, hk51⟩ := r51
              obtain ⟨a52, c52, rfl, hk52⟩ := r52
              unfold flV at e51 e51' e52 e52'
              have hal := lay_alloc w1 (.cells #[.int .i64 f.kind, .string f.name, .string f.text, .slice a51 f.kids.length c51, .int .i64 f2.kind, .string f2.name, .string f2.text, .slice a52 f2.kids.length c52] 24)
              have hdc := DC.alloc w1 [.int .i64 f.kind, .string f.name, .string f.text, .slice a51 f.kids.length c51, .int .i64 f2.kind, .string f2.name, .string f2.text, .slice a52 f2.kids.length c52] 24
              clear hneed hrest hp
              go_simp
              refine ⟨_, rfl, ⟨_, rfl, kids2_in (f := f) (f2 := f2) hdc (hk51.on hal) (hk52.on hal)⟩, ?_⟩
              intro k hk hl hne e he hs
              exact dl_build (ki := .kids [f, f2]) HKS.out rfl (by decide) hk hs fun hm g heq hB hg => kidsE2_in (f := f) (f2 := f2) hdc (Nat.ne_of_gt hg) ((AVk_fil (p51 k hk hl (by omega) e he hm g ((Array.getD_eq_getD_getElem? ..).trans heq))).later hal) ((AVk_fil (p52 k hk hl (by omega) e he hm g ((Array.getD_eq_getD_getElem? ..).trans heq))).later hal)
            | 3, _ =>
              refine fsE_plain _ _ rfl rfl rfl ?_
              intro L a w1 hb hrest hneed hp
              have r53 : SKl (Kl.kids [f, f2]) w1 (a.tmps.getD 53 undef) := hneed 2 53 rfl rfl
              have p53 := fun k hk hl hkn e he => And.right (hp 2 rfl k hk hl hkn 53 e rfl he)
              obtain ⟨u53, e53⟩ : ∃ u, a.tmps.getD 53 undef = u := ⟨_, rfl⟩
              rw [e53] at r53
              simp only [e53] at p53
              have e53' := (Array.getD_eq_getD_getElem? ..).symm.trans e53
              obtain ⟨g53, rfl, hk53⟩ := r53
              clear hneed hrest hp
              go_simp
              refine (kind_any 5 _ _ _ w1).mono ?_
              rintro e wk ⟨rfl, hb2⟩
              refine ⟨_, rfl, ⟨_, _, rfl, hk53.on hb2⟩, hb2, ?_⟩
              intro k hk hl hne e he hs
              exact dl_build (ki := .fil (andF [f, f2])) HKS.out rfl (by decide) hk hs fun hm g heq hB hg => ⟨_, _, rfl, KidsS.later (p53 k hk hl (by omega) e he hm g ((Array.getD_eq_getD_getElem? ..).trans heq)) hb2⟩
            | 4, _ =>
              refine fsE_plain _ _ rfl rfl rfl ?_
              intro L a w1 hb hrest hneed hp
              have r54 : SKl (Kl.fil (andF [f, f2])) w1 (a.tmps.getD 54 undef) := hneed 3 54 rfl rfl
              have p54 := fun k hk hl hkn e he => And.right (hp 3 rfl k hk hl hkn 54 e rfl he)
              obtain ⟨u54, e54⟩ : ∃ u, a.tmps.getD 54 undef = u := ⟨_, rfl⟩
              rw [e54] at r54
              simp only [e54] at p54
              have e54' := (Array.getD_eq_getD_getElem? ..).symm.trans e54
              obtain ⟨a54, c54, rfl, hk54⟩ := r54
              have p := fun k hk hl hkn e he => p54 k hk hl hkn e he
              clear p54
              unfold flV at e54 e54'
              have hal := lay_alloc w1 (.cells #[.int .i64 (andF [f, f2]).kind, .string (andF [f, f2]).name, .string (andF [f, f2]).text, .slice a54 (andF [f, f2]).kids.length c54] 24)
              have hdc := DC.alloc w1 [.int .i64 (andF [f, f2]).kind, .string (andF [f, f2]).name, .string (andF [f, f2]).text, .slice a54 (andF [f, f2]).kids.length c54] 24
              clear hneed hrest hp
              go_simp
              refine ⟨_, rfl, ⟨_, rfl, kids1_in (f := (andF [f, f2])) hdc (hk54.on hal)⟩, ?_⟩
              intro k hk hl hne e he hs
              exact dl_build (ki := .kids [(andF [f, f2])]) HKS.out rfl (by decide) hk hs fun hm g heq hB hg => kidsE1_in (f := (andF [f, f2])) hdc (Nat.ne_of_gt hg) ((AVk_fil (p k hk hl (by omega) e he hm g ((Array.getD_eq_getD_getElem? ..).trans heq))).later hal)
            | 5, _ =>
              refine fsE_plain _ _ rfl rfl rfl ?_
              intro L a w1 hb hrest hneed hp
              have r55 : SKl (Kl.kids [(andF [f, f2])]) w1 (a.tmps.getD 55 undef) := hneed 4 55 rfl rfl
              have p55 := fun k hk hl hkn e he => And.right (hp 4 rfl k hk hl hkn 55 e rfl he)
              obtain ⟨u55, e55⟩ : ∃ u, a.tmps.getD 55 undef = u := ⟨_, rfl⟩
              rw [e55] at r55
              simp only [e55] at p55
              have e55' := (Array.getD_eq_getD_getElem? ..).symm.trans e55
              obtain ⟨g55, rfl, hk55⟩ := r55
              clear hneed hrest hp
              go_simp
              refine (kind_any 4 _ _ _ w1).mono ?_
              rintro e wk ⟨rfl, hb2⟩
              refine ⟨_, rfl, ⟨_, _, rfl, hk55.on hb2⟩, hb2, ?_⟩
              intro k hk hl hne e he hs
              exact dl_build (ki := .fil (notF (andF [f, f2]))) HKS.out rfl (by decide) hk hs fun hm g heq hB hg => ⟨_, _, rfl, KidsS.later (p55 k hk hl (by omega) e he hm g ((Array.getD_eq_getD_getElem? ..).trans heq)) hb2⟩
            | 6, _ =>
              refine fsE_plain _ _ rfl rfl rfl ?_
              intro L a w1 hb hrest hneed hp
              have p3 : a.tmps.getD 3 undef = .pointer (some ⟨w.heap.size, 0, none⟩) := (hrest 3 (by kernel_rfl)).trans rfl
              have p3' := (Array.getD_eq_getD_getElem? ..).symm.trans p3
              have hq := HF10.out.below hb
              have x0 := hq.cells 0 _ rfl
              have x1 := hq.cells 1 _ rfl
              have x2 := hq.cells 2 _ rfl
              have x3 := hq.cells 3 _ rfl
              clear hq
              clear hneed hrest hp
              go_simp
              refine ⟨_, rfl, ⟨a0, cap, rfl, HKF10.out.on hb⟩, Below.refl _ _, ?_⟩
              intro k hk hl hne e he hs
              exact dl_build (ki := .fil f) HKS.out rfl (by decide) hk hs fun hm g heq hB hg => AVk_low HKF10.out hB hb
            | 7, _ =>
              refine fsE_plain _ _ rfl rfl rfl ?_
              intro L a w1 hb hrest hneed hp
              have r57 : SKl (Kl.fil f) w1 (a.tmps.getD 57 undef) := hneed 6 57 rfl rfl
              have p57 := fun k hk hl hkn e he => And.right (hp 6 rfl k hk hl hkn 57 e rfl he)
              obtain ⟨u57, e57⟩ : ∃ u, a.tmps.getD 57 undef = u := ⟨_, rfl⟩
              rw [e57] at r57
              simp only [e57] at p57
              have e57' := (Array.getD_eq_getD_getElem? ..).symm.trans e57
              obtain ⟨a57, c57, rfl, hk57⟩ := r57
              have p := fun k hk hl hkn e he => p57 k hk hl hkn e he
              clear p57
              unfold flV at e57 e57'
              have hal := lay_alloc w1 (.cells #[.int .i64 f.kind, .string f.name, .string f.text, .slice a57 f.kids.length c57] 24)
              have hdc := DC.alloc w1 [.int .i64 f.kind, .string f.name, .string f.text, .slice a57 f.kids.length c57] 24
              clear hneed hrest hp
              go_simp
              refine ⟨_, rfl, ⟨_, rfl, kids1_in (f := f) hdc (hk57.on hal)⟩, ?_⟩
              intro k hk hl hne e he hs
              exact dl_build (ki := .kids [f]) HKS.out rfl (by decide) hk hs fun hm g heq hB hg => kidsE1_in (f := f) hdc (Nat.ne_of_gt hg) ((AVk_fil (p k hk hl (by omega) e he hm g ((Array.getD_eq_getD_getElem? ..).trans heq))).later hal)
            | 8, _ =>
              refine fsE_plain _ _ rfl rfl rfl ?_
              intro L a w1 hb hrest hneed hp
              have r58 : SKl (Kl.kids [f]) w1 (a.tmps.getD 58 undef) := hneed 7 58 rfl rfl
              have p58 := fun k hk hl hkn e he => And.right (hp 7 rfl k hk hl hkn 58 e rfl he)
              obtain ⟨u58, e58⟩ : ∃ u, a.tmps.getD 58 undef = u := ⟨_, rfl⟩
              rw [e58] at r58
              simp only [e58] at p58
              have e58' := (Array.getD_eq_getD_getElem? ..).symm.trans e58
              obtain ⟨g58, rfl, hk58⟩ := r58
              clear hneed hrest hp
              go_simp
              refine (kind_any 4 _ _ _ w1).mono ?_
              rintro e wk ⟨rfl, hb2⟩
              refine ⟨_, rfl, ⟨_, _, rfl, hk58.on hb2⟩, hb2, ?_⟩
              intro k hk hl hne e he hs
              exact dl_build (ki := .fil (notF f)) HKS.out rfl (by decide) hk hs fun hm g heq hB hg => ⟨_, _, rfl, KidsS.later (p58 k hk hl (by omega) e he hm g ((Array.getD_eq_getD_getElem? ..).trans heq)) hb2⟩
            | 9, _ =>
              refine fsE_plain _ _ rfl rfl rfl ?_
              intro L a w1 hb hrest hneed hp
              have p4 : a.tmps.getD 4 undef = .pointer (some ⟨w.heap.size + 1, 0, none⟩) := (hrest 4 (by kernel_rfl)).trans rfl
              have p4' := (Array.getD_eq_getD_getElem? ..).symm.trans p4
              have hq := HG10.out.below hb
              have x0 := hq.cells 0 _ rfl
              have x1 := hq.cells 1 _ rfl
              have x2 := hq.cells 2 _ rfl
              have x3 := hq.cells 3 _ rfl
              clear hq
              clear hneed hrest hp
              go_simp
              refine ⟨_, rfl, ⟨a2, cap2, rfl, HKG10.out.on hb⟩, Below.refl _ _, ?_⟩
              intro k hk hl hne e he hs
              exact dl_build (ki := .fil f2) HKS.out rfl (by decide) hk hs fun hm g heq hB hg => AVk_low HKG10.out hB hb
            | 10, _ =>
              refine fsE_plain _ _ rfl rfl rfl ?_
              intro L a w1 hb hrest hneed hp
              have r60 : SKl (Kl.fil f2) w1 (a.tmps.getD 60 undef) := hneed 9 60 rfl rfl
              have p60 := fun k hk hl hkn e he => And.right (hp 9 rfl k hk hl hkn 60 e rfl he)
              obtain ⟨u60, e60⟩ : ∃ u, a.tmps.getD 60 undef = u := ⟨_, rfl⟩
              rw [e60] at r60
              simp only [e60] at p60
              have e60' := (Array.getD_eq_getD_getElem? ..).symm.trans e60
              obtain ⟨a60, c60, rfl, hk60⟩ := r60
              have p := fun k hk hl hkn e he => p60 k hk hl hkn e he
              clear p60
              unfold flV at e60 e60'
              have hal := lay_alloc w1 (.cells #[.int .i64 f2.kind, .string f2.name, .string f2.text, .slice a60 f2.kids.length c60] 24)
              have hdc := DC.alloc w1 [.int .i64 f2.kind, .string f2.name, .string f2.text, .slice a60 f2.kids.length c60] 24
              clear hneed hrest hp
              go_simp
              refine ⟨_, rfl, ⟨_, rfl, kids1_in (f := f2) hdc (hk60.on hal)⟩, ?_⟩
              intro k hk hl hne e he hs
              exact dl_build (ki := .kids [f2]) HKS.out rfl (by decide) hk hs fun hm g heq hB hg => kidsE1_in (f := f2) hdc (Nat.ne_of_gt hg) ((AVk_fil (p k hk hl (by omega) e he hm g ((Array.getD_eq_getD_getElem? ..).trans heq))).later hal)
            | 11, _ =>
              refine fsE_plain _ _ rfl rfl rfl ?_
              intro L a w1 hb hrest hneed hp
              have r61 : SKl (Kl.kids [f2]) w1 (a.tmps.getD 61 undef) := hneed 10 61 rfl rfl
              have p61 := fun k hk hl hkn e he => And.right (hp 10 rfl k hk hl hkn 61 e rfl he)
              obtain ⟨u61, e61⟩ : ∃ u, a.tmps.getD 61 undef = u := ⟨_, rfl⟩
              rw [e61] at r61
              simp only [e61] at p61
              have e61' := (Array.getD_eq_getD_getElem? ..).symm.trans e61
              obtain ⟨g61, rfl, hk61⟩ := r61
              clear hneed hrest hp
              go_simp
              refine (kind_any 4 _ _ _ w1).mono ?_
              rintro e wk ⟨rfl, hb2⟩
              refine ⟨_, rfl, ⟨_, _, rfl, hk61.on hb2⟩, hb2, ?_⟩
              intro k hk hl hne e he hs
              exact dl_build (ki := .fil (notF f2)) HKS.out rfl (by decide) hk hs fun hm g heq hB hg => ⟨_, _, rfl, KidsS.later (p61 k hk hl (by omega) e he hm g ((Array.getD_eq_getD_getElem? ..).trans heq)) hb2⟩
            | 12, _ =>
              refine fsE_plain _ _ rfl rfl rfl ?_
              intro L a w1 hb hrest hneed hp
              have r59 : SKl (Kl.fil (notF f)) w1 (a.tmps.getD 59 undef) := hneed 8 59 rfl rfl
              have p59 := fun k hk hl hkn e he => And.right (hp 8 rfl k hk hl hkn 59 e rfl he)
              obtain ⟨u59, e59⟩ : ∃ u, a.tmps.getD 59 undef = u := ⟨_, rfl⟩
              rw [e59] at r59
              simp only [e59] at p59
              have e59' := (Array.getD_eq_getD_getElem? ..).symm.trans e59
              have r62 : SKl (Kl.fil (notF f2)) w1 (a.tmps.getD 62 undef) := hneed 11 62 rfl rfl
              have p62 := fun k hk hl hkn e he => And.right (hp 11 rfl k hk hl hkn 62 e rfl he)
              obtain ⟨u62, e62⟩ : ∃ u, a.tmps.getD 62 undef = u := ⟨_, rfl⟩
              rw [e62] at r62
              simp only [e62] at p62
              have e62' := (Array.getD_eq_getD_getElem? ..).symm.trans e62
              obtain ⟨a59, c59, rfl, hk59⟩ := r59
              obtain ⟨a62, c62, rfl, hk62⟩ := r62
              unfold flV at e59 e59' e62 e62'
              have hal := lay_alloc w1 (.cells #[.int .i64 (notF f).kind, .string (notF f).name, .string (notF f).text, .slice a59 (notF f).kids.length c59, .int .i64 (notF f2).kind, .string (notF f2).name, .string (notF f2).text, .slice a62 (notF f2).kids.length c62] 24)
              have hdc := DC.alloc w1 [.int .i64 (notF f).kind, .string (notF f).name, .string (notF f).text, .slice a59 (notF f).kids.length c59, .int .i64 (notF f2).kind, .string (notF f2).name, .string (notF f2).text, .slice a62 (notF f2).kids.length c62] 24
              clear hneed hrest hp
              go_simp
              refine ⟨_, rfl, ⟨_, rfl, kids2_in (f := (notF f)) (f2 := (notF f2)) hdc (hk59.on hal) (hk62.on hal)⟩, ?_⟩
              intro k hk hl hne e he hs
              exact dl_build (ki := .kids [(notF f), (notF f2)]) HKS.out rfl (by decide) hk hs fun hm g heq hB hg => kidsE2_in (f := (notF f)) (f2 := (notF f2)) hdc (Nat.ne_of_gt hg) ((AVk_fil (p59 k hk hl (by omega) e he hm g ((Array.getD_eq_getD_getElem? ..).trans heq))).later hal) ((AVk_fil (p62 k hk hl (by omega) e he hm g ((Array.getD_eq_getD_getElem? ..).trans heq))).later hal)
            | 13, _ =>
              refine fsE_plain _ _ rfl rfl rfl ?_
              intro L a w1 hb hrest hneed hp
              have r63 : SKl (Kl.kids [(notF f), (notF f2)]) w1 (a.tmps.getD 63 undef) := hneed 12 63 rfl rfl
              have p63 := fun k hk hl hkn e he => And.right (hp 12 rfl k hk hl hkn 63 e rfl he)
              obtain ⟨u63, e63⟩ : ∃ u, a.tmps.getD 63 undef = u := ⟨_, rfl⟩
              rw [e63] at r63
              simp only [e63] at p63
              have e63' := (Array.getD_eq_getD_getElem? ..).symm.trans e63
              obtain ⟨g63, rfl, hk63⟩ := r63
              clear hneed hrest hp
              go_simp
              refine (kind_any 6 _ _ _ w1).mono ?_
              rintro e wk ⟨rfl, hb2⟩
              refine ⟨_, rfl, ⟨_, _, rfl, hk63.on hb2⟩, hb2, ?_⟩
              intro k hk hl hne e he hs
              exact dl_build (ki := .fil (orF [notF f, notF f2])) HKS.out rfl (by decide) hk hs fun hm g heq hB hg => ⟨_, _, rfl, KidsS.later (p63 k hk hl (by omega) e he hm g ((Array.getD_eq_getD_getElem? ..).trans heq)) hb2⟩
            | 14, _ =>
              refine fsE_plain _ _ rfl rfl rfl ?_
              intro L a w1 hb hrest hneed hp
              have hal := lay_alloc w1 (.cells #[.int .i64 0, .string ByteArray.empty, .string ByteArray.empty, .slice none 0 0] 24)
              have hdc := DC.alloc w1 [.int .i64 0, .string ByteArray.empty, .string ByteArray.empty, .slice none 0 0] 24
              have hsz := hb.size
              clear hneed hrest hp
              go_simp
              refine ⟨_, rfl, ⟨_, rfl, hsz, _, _, _, _, hdc⟩, hal, ?_⟩
              intro k hk hl hne e he hs
              exact dl_alloc HKS.out (by decide) (by decide) hk hs hal
            | 15, _ =>
              refine fsE_plain _ _ rfl rfl rfl ?_
              intro L a w1 hb hrest hneed hp
              have hal := lay_alloc w1 (.cells #[.int .i64 0, .string ByteArray.empty, .string ByteArray.empty, .slice none 0 0] 24)
              have hdc := DC.alloc w1 [.int .i64 0, .string ByteArray.empty, .string ByteArray.empty, .slice none 0 0] 24
              have hsz := hb.size
              clear hneed hrest hp
              go_simp
              refine ⟨_, rfl, ⟨_, rfl, hsz, _, _, _, _, hdc⟩, hal, ?_⟩
              intro k hk hl hne e he hs
              exact dl_alloc HKS.out (by decide) (by decide) hk hs hal
            | n + 16, h => exact absurd h (by simp)
        · intro a w11 hb hd hs hr hg hp
          obtain ⟨a56, c56, e56, hk56⟩ : SKl (.fil (notF (andF [f, f2]))) w11 (a.tmps.getD 56 undef) := hg 5 (by decide) 56 rfl
          obtain ⟨a64, c64, e64, hk64⟩ : SKl (.fil (orF [notF f, notF f2])) w11 (a.tmps.getD 64 undef) := hg 13 (by decide) 64 rfl
          obtain ⟨g8, e8, hB8, x0, x1, x2, x3, hd8⟩ : SKl (.fresh w10.heap.size) w11 (a.tmps.getD 8 undef) := hg 14 (by decide) 8 rfl
          obtain ⟨g9, e9, hB9, y0, y1, y2, y3, hd9⟩ : SKl (.fresh w10.heap.size) w11 (a.tmps.getD 9 undef) := hg 15 (by decide) 9 rfl
          have q1 := hp 14 5 (by decide) (by decide) (by decide) 8 56 rfl rfl (by decide) g8 e8
          have q2 := hp 15 5 (by decide) (by decide) (by decide) 9 56 rfl rfl (by decide) g9 e9
          have q3 := hp 14 13 (by decide) (by decide) (by decide) 8 64 rfl rfl (by decide) g8 e8
          have q4 := hp 15 13 (by decide) (by decide) (by decide) 9 64 rfl rfl (by decide) g9 e9
          have q5 : a.tmps.getD 9 undef ≠ .pointer (some ⟨g8, 0, none⟩) := hp 14 15 (by decide) (by decide) (by decide) 8 9 rfl rfl (by decide) g8 e8
          rw [e56] at q1 q2
          rw [e64] at q3 q4
          rw [e9] at q5
          have h98 : ¬ g9 = g8 := fun e => q5 (by rw [e])
          have Q1 := Lib.hid (AVk_fil q1)
          have Q2 := Lib.hid (AVk_fil q2)
          have Q3 := Lib.hid (AVk_fil q3)
          have Q4 := Lib.hid (AVk_fil q4)
          clear q1 q2 q3 q4 q5 hk56 hk64 hp
          replace e56 : a.tmps.getD 56 undef = .agg #[.int .i64 4, .string ByteArray.empty, .string ByteArray.empty, .slice a56 1 c56] := e56
          replace e64 : a.tmps.getD 64 undef = .agg #[.int .i64 6, .string ByteArray.empty, .string ByteArray.empty, .slice a64 2 c64] := e64
          obtain ⟨u51, e51⟩ : ∃ u, a.tmps.getD 51 undef = u := ⟨_, rfl⟩
          obtain ⟨u52, e52⟩ : ∃ u, a.tmps.getD 52 undef = u := ⟨_, rfl⟩
          obtain ⟨u53, e53⟩ : ∃ u, a.tmps.getD 53 undef = u := ⟨_, rfl⟩
          obtain ⟨u54, e54⟩ : ∃ u, a.tmps.getD 54 undef = u := ⟨_, rfl⟩
          obtain ⟨u55, e55⟩ : ∃ u, a.tmps.getD 55 undef = u := ⟨_, rfl⟩
          obtain ⟨u57, e57⟩ : ∃ u, a.tmps.getD 57 undef = u := ⟨_, rfl⟩
          obtain ⟨u58, e58⟩ : ∃ u, a.tmps.getD 58 undef = u := ⟨_, rfl⟩
          obtain ⟨u59, e59⟩ : ∃ u, a.tmps.getD 59 undef = u := ⟨_, rfl⟩
          obtain ⟨u60, e60⟩ : ∃ u, a.tmps.getD 60 undef = u := ⟨_, rfl⟩
          obtain ⟨u61, e61⟩ : ∃ u, a.tmps.getD 61 undef = u := ⟨_, rfl⟩
          obtain ⟨u62, e62⟩ : ∃ u, a.tmps.getD 62 undef = u := ⟨_, rfl⟩
          obtain ⟨u63, e63⟩ : ∃ u, a.tmps.getD 63 undef = u := ⟨_, rfl⟩
          have ha := act_flow [51, 52, 53, 54, 55, 56, 57, 58, 59, 60, 61, 62, 63, 64, 8, 9] (by kernel_rfl) hd hs (fun t ht => hr t fun j hj => ht j (Nat.lt_trans hj (by decide)))
          simp only [putsOf, List.foldl_cons, List.foldl_nil, e51, e52, e53, e54, e55, e56, e57, e58, e59, e60, e61, e62, e63, e64, e8, e9] at ha
          clear e51 e52 e53 e54 e55 e56 e57 e58 e59 e60 e61 e62 e63 e64 e8 e9 hd hs hr hg
          subst ha
          have z0 := hd8.cells 0 _ rfl
          have zf0 := hd8.fz 0
          have z1 := hd8.cells 1 _ rfl
          have zf1 := hd8.fz 1
          have z2 := hd8.cells 2 _ rfl
          have zf2 := hd8.fz 2
          have z3 := hd8.cells 3 _ rfl
          have zf3 := hd8.fz 3
          show wpOps _ _ _ [16, 17] _ _
          rw [wpOps_cons]
          refine flow_plain rfl rfl ?_
          go_simp
          change wpOps _ _ _ [17] _ (put4 w11 g8 (.int .i64 4) (.string ByteArray.empty) (.string ByteArray.empty) (.slice a56 1 c56))
          have D8 := put4_dc (v0 := .int .i64 4) (v1 := .string ByteArray.empty) (v2 := .string ByteArray.empty) (v3 := .slice a56 1 c56) hd8
          have D9 := put4_other (b := g8) (v0 := .int .i64 4) (v1 := .string ByteArray.empty) (v2 := .string ByteArray.empty) (v3 := .slice a56 1 c56) hd9 h98
          have HA := Lib.hid (put4_l (.int .i64 4) (.string ByteArray.empty) (.string ByteArray.empty) (.slice a56 1 c56) (Q1.out.both Q2.out))
          have HC := Lib.hid (put4_l (.int .i64 4) (.string ByteArray.empty) (.string ByteArray.empty) (.slice a56 1 c56) (Q3.out.both Q4.out))
          have HW := Lib.hid (put4_below (.int .i64 4) (.string ByteArray.empty) (.string ByteArray.empty) (.slice a56 1 c56) hb hB8)
          clear Q1 Q2 Q3 Q4 hb hd8 hd9 z0 zf0 z1 zf1 z2 zf2 z3 zf3
          generalize put4 w11 g8 _ _ _ _ = W1 at *
          have z0 := D9.cells 0 _ rfl
          have zf0 := D9.fz 0
          have z1 := D9.cells 1 _ rfl
          have zf1 := D9.fz 1
          have z2 := D9.cells 2 _ rfl
          have zf2 := D9.fz 2
          have z3 := D9.cells 3 _ rfl
          have zf3 := D9.fz 3
          rw [wpOps_cons]
          refine flow_plain rfl rfl ?_
          go_simp
          change Exit.then _ _ .normal _ (put4 W1 g9 (.int .i64 6) (.string ByteArray.empty) (.string ByteArray.empty) (.slice a64 2 c64))
          have D8' := put4_other (b := g9) (v0 := .int .i64 6) (v1 := .string ByteArray.empty) (v2 := .string ByteArray.empty) (v3 := .slice a64 2 c64) D8 (fun e => h98 e.symm)
          have D9' := put4_dc (v0 := .int .i64 6) (v1 := .string ByteArray.empty) (v2 := .string ByteArray.empty) (v3 := .slice a64 2 c64) D9
          have HA' := put4_r (.int .i64 6) (.string ByteArray.empty) (.string ByteArray.empty) (.slice a64 2 c64) HA.out
          have HC' := put4_r (.int .i64 6) (.string ByteArray.empty) (.string ByteArray.empty) (.slice a64 2 c64) HC.out
          have hb := put4_below (.int .i64 6) (.string ByteArray.empty) (.string ByteArray.empty) (.slice a64 2 c64) HW.out hB9
          clear HA HC HW D8 D9 h98 hB8 hB9 z0 zf0 z1 zf1 z2 zf2 z3 zf3
          generalize put4 W1 g9 _ _ _ _ = w12 at *
          have HA12 := Lib.hid D8'
          have HC12 := Lib.hid D9'
          have HKA12 := Lib.hid HA'.told
          have HKC12 := Lib.hid HC'.told
          clear D8' D9' HA' HC'
          have HF12 := Lib.hid (HF10.out.below hb)
          have HG12 := Lib.hid (HG10.out.below hb)
          have HE12 := Lib.hid (HE10.out.below hb)
          have HKF12 := Lib.hid (HKF10.out.on hb)
          have HKG12 := Lib.hid (HKG10.out.on hb)
          have HN112 := Lib.hid (HN110.out.on hb)
          have HN212 := Lib.hid (HN210.out.on hb)
          have HB12 := Lib.hid (HB10.out.trans (hb.mono HB10.out.size))
          clear HF10 HG10 HE10 HKF10 HKG10 HN110 HN210 HB10
          clear hb
          have fc0 := HF12.out.cells 0 _ rfl
          have fc1 := HF12.out.cells 1 _ rfl
          have fc2 := HF12.out.cells 2 _ rfl
          have fc3 := HF12.out.cells 3 _ rfl
          have gc0 := HG12.out.cells 0 _ rfl
          have gc1 := HG12.out.cells 1 _ rfl
          have gc2 := HG12.out.cells 2 _ rfl
          have gc3 := HG12.out.cells 3 _ rfl
          have ec0 := HE12.out.cells 0 _ rfl
          have ec1 := HE12.out.cells 1 _ rfl
          have ec2 := HE12.out.cells 2 _ rfl
          have ec3 := HE12.out.cells 3 _ rfl
          have ec4 := HE12.out.cells 4 _ rfl
          have ec5 := HE12.out.cells 5 _ rfl
          have ac0 := HA12.out.cells 0 _ rfl
          have ac1 := HA12.out.cells 1 _ rfl
          have ac2 := HA12.out.cells 2 _ rfl
          have ac3 := HA12.out.cells 3 _ rfl
          have cc0 := HC12.out.cells 0 _ rfl
          have cc1 := HC12.out.cells 1 _ rfl
          have cc2 := HC12.out.cells 2 _ rfl
          have cc3 := HC12.out.cells 3 _ rfl
          have hck1 := Check_any (notF (andF [f, f2])) (not_light (two_light HLL.out HLG.out)) HKA12.out
          have hck2 : flV (notF (andF [f, f2])) (.slice a56 (notF (andF [f, f2])).kids.length c56) = .agg #[.int .i64 4, .string ByteArray.empty, .string ByteArray.empty, .slice a56 1 c56] := rfl
          rw [hck2] at hck1
          have HC1 := Lib.hid hck1
          clear hck1 hck2
          by_cases hca : ckF (notF (andF [f, f2])) = 0
          · have b1 : (ckF (notF (andF [f, f2])) != 0) = false := by rw [hca]; rfl
            go_wp2_with fail
            go_fit HC1.out
            rintro e w13 ⟨rfl, hb⟩
            clear fc0 fc1 fc2 fc3 gc0 gc1 gc2 gc3 ec0 ec1 ec2 ec3 ec4 ec5 ac0 ac1 ac2 ac3 cc0 cc1 cc2 cc3
            have HF13 := Lib.hid (HF12.out.below hb)
            have HG13 := Lib.hid (HG12.out.below hb)
            have HE13 := Lib.hid (HE12.out.below hb)
            have HA13 := Lib.hid (HA12.out.below hb)
            have HC13 := Lib.hid (HC12.out.below hb)
            have HKF13 := Lib.hid (HKF12.out.on hb)
            have HKG13 := Lib.hid (HKG12.out.on hb)
            have HN113 := Lib.hid (HN112.out.on hb)
            have HN213 := Lib.hid (HN212.out.on hb)
            have HKA13 := Lib.hid (HKA12.out.on hb)
            have HKC13 := Lib.hid (HKC12.out.on hb)
            have HB13 := Lib.hid (HB12.out.trans (hb.mono HB12.out.size))
            clear HF12 HG12 HE12 HA12 HC12 HKF12 HKG12 HN112 HN212 HKA12 HKC12 HB12
            have fc0 := HF13.out.cells 0 _ rfl
            have fc1 := HF13.out.cells 1 _ rfl
            have fc2 := HF13.out.cells 2 _ rfl
            have fc3 := HF13.out.cells 3 _ rfl
            have gc0 := HG13.out.cells 0 _ rfl
            have gc1 := HG13.out.cells 1 _ rfl
            have gc2 := HG13.out.cells 2 _ rfl
            have gc3 := HG13.out.cells 3 _ rfl
            have ec0 := HE13.out.cells 0 _ rfl
            have ec1 := HE13.out.cells 1 _ rfl
            have ec2 := HE13.out.cells 2 _ rfl
            have ec3 := HE13.out.cells 3 _ rfl
            have ec4 := HE13.out.cells 4 _ rfl
            have ec5 := HE13.out.cells 5 _ rfl
            have ac0 := HA13.out.cells 0 _ rfl
            have ac1 := HA13.out.cells 1 _ rfl
            have ac2 := HA13.out.cells 2 _ rfl
            have ac3 := HA13.out.cells 3 _ rfl
            have cc0 := HC13.out.cells 0 _ rfl
            have cc1 := HC13.out.cells 1 _ rfl
            have cc2 := HC13.out.cells 2 _ rfl
            have cc3 := HC13.out.cells 3 _ rfl
            clear hb
            have hck1 := Check_any (orF [notF f, notF f2]) (two_light (not_light HLL.out) (not_light HLG.out)) HKC13.out
            have hck2 : flV (orF [notF f, notF f2]) (.slice a64 (orF [notF f, notF f2]).kids.length c64) = .agg #[.int .i64 6, .string ByteArray.empty, .string ByteArray.empty, .slice a64 2 c64] := rfl
            rw [hck2] at hck1
            have HC2 := Lib.hid hck1
            clear hck1 hck2 HC1
            by_cases hco : ckF (orF [notF f, notF f2]) = 0
            · have b2 : (ckF (orF [notF f, notF f2]) != 0) = false := by rw [hco]; rfl
              go_wp2_with fail
              go_fit HC2.out
              rintro e w14 ⟨rfl, hb⟩
              clear fc0 fc1 fc2 fc3 gc0 gc1 gc2 gc3 ec0 ec1 ec2 ec3 ec4 ec5 ac0 ac1 ac2 ac3 cc0 cc1 cc2 cc3
              have HF14 := Lib.hid (HF13.out.below hb)
              have HG14 := Lib.hid (HG13.out.below hb)
              have HE14 := Lib.hid (HE13.out.below hb)
              have HA14 := Lib.hid (HA13.out.below hb)
              have HC14 := Lib.hid (HC13.out.below hb)
              have HKF14 := Lib.hid (HKF13.out.on hb)
              have HKG14 := Lib.hid (HKG13.out.on hb)
              have HN114 := Lib.hid (HN113.out.on hb)
              have HN214 := Lib.hid (HN213.out.on hb)
              have HKA14 := Lib.hid (HKA13.out.on hb)
              have HKC14 := Lib.hid (HKC13.out.on hb)
              have HB14 := Lib.hid (HB13.out.trans (hb.mono HB13.out.size))
              clear HF13 HG13 HE13 HA13 HC13 HKF13 HKG13 HN113 HN213 HKA13 HKC13 HB13
              clear hb HC2 b1 b2
              go_wp2_with fail
              cases hF : holdsF f ev
              · refine wp_region_flow (S := SLl [Kl.fil (notF (andF [f, f2])), Kl.val (evV ev), Kl.val (.bool (holdsF (notF (andF [f, f2])) ev)), Kl.fil (orF [notF f, notF f2]), Kl.val (evV ev), Kl.val (.bool (holdsF (notF (andF [f, f2])) ev)), Kl.val (.bool true), Kl.val (.bool true), Kl.fil f, Kl.fil f2, Kl.kids [f, f2], Kl.fil (andF [f, f2]), Kl.val (evV ev), Kl.val (.bool false), Kl.fil f, Kl.val (evV ev), Kl.val (.bool false), Kl.val (.bool false), Kl.val undef, Kl.val undef, Kl.val undef, Kl.val (.bool false), Kl.val (.bool true), Kl.val (.bool true), Kl.val (.bool true), Kl.val (.bool true), Kl.val (.bool true), Kl.val (.bool true)]) (by kernel_rfl) (SLl_stable _) (by kernel_rfl) (by kernel_rfl) ?_ ?_
                · intro i hi
                  match i, hi with
                    | 0, _ =>
                      refine fs_plain _ _ rfl rfl rfl ?_
                      intro a w1 hb hrest hneed
                      have p8 : a.tmps.getD 8 undef = .pointer (some ⟨g8, 0, none⟩) := (hrest 8 (by kernel_rfl)).trans rfl
                      have p8' := (Array.getD_eq_getD_getElem? ..).symm.trans p8
                      have hq := HA14.out.below hb
                      have x0 := hq.cells 0 _ rfl
                      have x1 := hq.cells 1 _ rfl
                      have x2 := hq.cells 2 _ rfl
                      have x3 := hq.cells 3 _ rfl
                      clear hq
                      clear hneed hrest
                      go_simp
                      exact ⟨_, rfl, ⟨_, _, rfl, HKA14.out.on hb⟩, Below.refl _ _⟩
                    | 1, _ =>
                      refine fs_plain _ _ rfl rfl rfl ?_
                      intro a w1 hb hrest hneed
                      have p5 : a.tmps.getD 5 undef = .pointer (some ⟨w.heap.size + 1 + 1, 0, none⟩) := (hrest 5 (by kernel_rfl)).trans rfl
                      have p5' := (Array.getD_eq_getD_getElem? ..).symm.trans p5
                      have hq := HE14.out.below hb
                      have x0 := hq.cells 0 _ rfl
                      have x1 := hq.cells 1 _ rfl
                      have x2 := hq.cells 2 _ rfl
                      have x3 := hq.cells 3 _ rfl
                      have x4 := hq.cells 4 _ rfl
                      have x5 := hq.cells 5 _ rfl
                      clear hq
                      clear hneed hrest
                      go_simp
                      first | exact ⟨_, rfl, rfl, Below.refl _ _⟩ | exact ⟨_, rfl, (by show _ = _; simp), Below.refl _ _⟩
                    | 2, _ =>
                      refine fs_plain _ _ rfl rfl rfl ?_
                      intro a w1 hb hrest hneed
                      have r74 : SKl (.fil (notF (andF [f, f2]))) w1 (a.tmps.getD 74 undef) := hneed 0 74 rfl rfl
                      obtain ⟨u74, e74⟩ : ∃ u, a.tmps.getD 74 undef = u := ⟨_, rfl⟩
                      rw [e74] at r74
                      have e74' := (Array.getD_eq_getD_getElem? ..).symm.trans e74
                      have e75 : a.tmps.getD 75 undef = (evV ev) := hneed 1 75 rfl rfl
                      have e75' := (Array.getD_eq_getD_getElem? ..).symm.trans e75
                      clear hneed hrest
                      obtain ⟨a74, c74, rfl, hk74⟩ := r74
                      have H := Holds_any (notF (andF [f, f2])) ev (not_light (two_light HLL.out HLG.out)) hk74 HSM.out
                      go_simp
                      refine H.mono ?_
                      rintro e wk ⟨rfl, hb2⟩
                      exact ⟨_, rfl, rfl, hb2⟩
                    | 3, _ =>
                      refine fs_plain _ _ rfl rfl rfl ?_
                      intro a w1 hb hrest hneed
                      have p9 : a.tmps.getD 9 undef = .pointer (some ⟨g9, 0, none⟩) := (hrest 9 (by kernel_rfl)).trans rfl
                      have p9' := (Array.getD_eq_getD_getElem? ..).symm.trans p9
                      have hq := HC14.out.below hb
                      have x0 := hq.cells 0 _ rfl
                      have x1 := hq.cells 1 _ rfl
                      have x2 := hq.cells 2 _ rfl
                      have x3 := hq.cells 3 _ rfl
                      clear hq
                      clear hneed hrest
                      go_simp
                      exact ⟨_, rfl, ⟨_, _, rfl, HKC14.out.on hb⟩, Below.refl _ _⟩
                    | 4, _ =>
                      refine fs_plain _ _ rfl rfl rfl ?_
                      intro a w1 hb hrest hneed
                      have p5 : a.tmps.getD 5 undef = .pointer (some ⟨w.heap.size + 1 + 1, 0, none⟩) := (hrest 5 (by kernel_rfl)).trans rfl
                      have p5' := (Array.getD_eq_getD_getElem? ..).symm.trans p5
                      have hq := HE14.out.below hb
                      have x0 := hq.cells 0 _ rfl
                      have x1 := hq.cells 1 _ rfl
                      have x2 := hq.cells 2 _ rfl
                      have x3 := hq.cells 3 _ rfl
                      have x4 := hq.cells 4 _ rfl
                      have x5 := hq.cells 5 _ rfl
                      clear hq
                      clear hneed hrest
                      go_simp
                      first | exact ⟨_, rfl, rfl, Below.refl _ _⟩ | exact ⟨_, rfl, (by show _ = _; simp), Below.refl _ _⟩
                    | 5, _ =>
                      refine fs_plain _ _ rfl rfl rfl ?_
                      intro a w1 hb hrest hneed
                      have r77 : SKl (.fil (orF [notF f, notF f2])) w1 (a.tmps.getD 77 undef) := hneed 3 77 rfl rfl
                      obtain ⟨u77, e77⟩ : ∃ u, a.tmps.getD 77 undef = u := ⟨_, rfl⟩
                      rw [e77] at r77
                      have e77' := (Array.getD_eq_getD_getElem? ..).symm.trans e77
                      have e78 : a.tmps.getD 78 undef = (evV ev) := hneed 4 78 rfl rfl
                      have e78' := (Array.getD_eq_getD_getElem? ..).symm.trans e78
                      clear hneed hrest
                      obtain ⟨a77, c77, rfl, hk77⟩ := r77
                      have H := Holds_any (orF [notF f, notF f2]) ev (two_light (not_light HLL.out) (not_light HLG.out)) hk77 HSM.out
                      rw [← (morgan ev hca hco).1] at H
                      go_simp
                      refine H.mono ?_
                      rintro e wk ⟨rfl, hb2⟩
                      exact ⟨_, rfl, rfl, hb2⟩
                    | 6, _ =>
                      refine fs_plain _ _ rfl rfl rfl ?_
                      intro a w1 hb hrest hneed
                      have e76 : a.tmps.getD 76 undef = (.bool (holdsF (notF (andF [f, f2])) ev)) := hneed 2 76 rfl rfl
                      have e76' := (Array.getD_eq_getD_getElem? ..).symm.trans e76
                      have e79 : a.tmps.getD 79 undef = (.bool (holdsF (notF (andF [f, f2])) ev)) := hneed 5 79 rfl rfl
                      have e79' := (Array.getD_eq_getD_getElem? ..).symm.trans e79
                      clear hneed hrest
                      go_simp
                      first | exact ⟨_, rfl, rfl, Below.refl _ _⟩ | exact ⟨_, rfl, (by show _ = _; simp), Below.refl _ _⟩
                    | 7, _ =>
                      refine fs_plain _ _ rfl rfl rfl ?_
                      intro a w1 hb hrest hneed
                      have e80 : a.tmps.getD 80 undef = (.bool true) := hneed 6 80 rfl rfl
                      have e80' := (Array.getD_eq_getD_getElem? ..).symm.trans e80
                      clear hneed hrest
                      go_simp
                      first | exact ⟨_, rfl, rfl, Below.refl _ _⟩ | exact ⟨_, rfl, (by show _ = _; simp), Below.refl _ _⟩
                    | 8, _ =>
                      refine fs_guard _ _ 7 81 true rfl rfl rfl rfl rfl (fun w v h => h) ?_
                      intro a w1 hb hrest hneed
                      have p3 : a.tmps.getD 3 undef = .pointer (some ⟨w.heap.size, 0, none⟩) := (hrest 3 (by kernel_rfl)).trans rfl
                      have p3' := (Array.getD_eq_getD_getElem? ..).symm.trans p3
                      have hq := HF14.out.below hb
                      have x0 := hq.cells 0 _ rfl
                      have x1 := hq.cells 1 _ rfl
                      have x2 := hq.cells 2 _ rfl
                      have x3 := hq.cells 3 _ rfl
                      clear hq
                      clear hneed hrest
                      go_simp
                      exact ⟨_, rfl, ⟨a0, cap, rfl, HKF14.out.on hb⟩, Below.refl _ _⟩
                    | 9, _ =>
                      refine fs_guard _ _ 7 81 true rfl rfl rfl rfl rfl (fun w v h => h) ?_
                      intro a w1 hb hrest hneed
                      have p4 : a.tmps.getD 4 undef = .pointer (some ⟨w.heap.size + 1, 0, none⟩) := (hrest 4 (by kernel_rfl)).trans rfl
                      have p4' := (Array.getD_eq_getD_getElem? ..).symm.trans p4
                      have hq := HG14.out.below hb
                      have x0 := hq.cells 0 _ rfl
                      have x1 := hq.cells 1 _ rfl
                      have x2 := hq.cells 2 _ rfl
                      have x3 := hq.cells 3 _ rfl
                      clear hq
                      clear hneed hrest
                      go_simp
                      exact ⟨_, rfl, ⟨a2, cap2, rfl, HKG14.out.on hb⟩, Below.refl _ _⟩
                    | 10, _ =>
                      refine fs_guard _ _ 7 81 true rfl rfl rfl rfl rfl (fun w v h => h) ?_
                      intro a w1 hb hrest hneed
                      have r82 : SKl (.fil f) w1 (a.tmps.getD 82 undef) := hneed 8 82 rfl rfl
                      obtain ⟨u82, e82⟩ : ∃ u, a.tmps.getD 82 undef = u := ⟨_, rfl⟩
                      rw [e82] at r82
                      have e82' := (Array.getD_eq_getD_getElem? ..).symm.trans e82
                      have r83 : SKl (.fil f2) w1 (a.tmps.getD 83 undef) := hneed 9 83 rfl rfl
                      obtain ⟨u83, e83⟩ : ∃ u, a.tmps.getD 83 undef = u := ⟨_, rfl⟩
                      rw [e83] at r83
                      have e83' := (Array.getD_eq_getD_getElem? ..).symm.trans e83
                      clear hneed hrest
                      obtain ⟨a82, c82, rfl, hk82⟩ := r82
                      obtain ⟨a83, c83, rfl, hk83⟩ := r83
                      unfold flV at e82 e82' e83 e83'
                      have hal := lay_alloc w1 (.cells #[.int .i64 f.kind, .string f.name, .string f.text, .slice a82 f.kids.length c82, .int .i64 f2.kind, .string f2.name, .string f2.text, .slice a83 f2.kids.length c83] 24)
                      have hdc := DC.alloc w1 [.int .i64 f.kind, .string f.name, .string f.text, .slice a82 f.kids.length c82, .int .i64 f2.kind, .string f2.name, .string f2.text, .slice a83 f2.kids.length c83] 24
                      go_simp
                      exact ⟨_, rfl, ⟨_, rfl, kids2_in (f := f) (f2 := f2) hdc (hk82.on hal) (hk83.on hal)⟩⟩
                    | 11, _ =>
                      refine fs_guard _ _ 7 81 true rfl rfl rfl rfl rfl (fun w v h => h) ?_
                      intro a w1 hb hrest hneed
                      have r84 : SKl (.kids [f, f2]) w1 (a.tmps.getD 84 undef) := hneed 10 84 rfl rfl
                      obtain ⟨u84, e84⟩ : ∃ u, a.tmps.getD 84 undef = u := ⟨_, rfl⟩
                      rw [e84] at r84
                      have e84' := (Array.getD_eq_getD_getElem? ..).symm.trans e84
                      clear hneed hrest
                      obtain ⟨g84, rfl, hk84⟩ := r84
                      go_simp
                      refine (kind_any 5 _ _ _ w1).mono ?_
                      rintro e wk ⟨rfl, hb2⟩
                      exact ⟨_, rfl, ⟨_, _, rfl, hk84.on hb2⟩, hb2⟩
                    | 12, _ =>
                      refine fs_guard _ _ 7 81 true rfl rfl rfl rfl rfl (fun w v h => h) ?_
                      intro a w1 hb hrest hneed
                      have p5 : a.tmps.getD 5 undef = .pointer (some ⟨w.heap.size + 1 + 1, 0, none⟩) := (hrest 5 (by kernel_rfl)).trans rfl
                      have p5' := (Array.getD_eq_getD_getElem? ..).symm.trans p5
                      have hq := HE14.out.below hb
                      have x0 := hq.cells 0 _ rfl
                      have x1 := hq.cells 1 _ rfl
                      have x2 := hq.cells 2 _ rfl
                      have x3 := hq.cells 3 _ rfl
                      have x4 := hq.cells 4 _ rfl
                      have x5 := hq.cells 5 _ rfl
                      clear hq
                      clear hneed hrest
                      go_simp
                      first | exact ⟨_, rfl, rfl, Below.refl _ _⟩ | exact ⟨_, rfl, (by show _ = _; simp), Below.refl _ _⟩
                    | 13, _ =>
                      refine fs_guard _ _ 7 81 true rfl rfl rfl rfl rfl (fun w v h => h) ?_
                      intro a w1 hb hrest hneed
                      have r85 : SKl (.fil (andF [f, f2])) w1 (a.tmps.getD 85 undef) := hneed 11 85 rfl rfl
                      obtain ⟨u85, e85⟩ : ∃ u, a.tmps.getD 85 undef = u := ⟨_, rfl⟩
                      rw [e85] at r85
                      have e85' := (Array.getD_eq_getD_getElem? ..).symm.trans e85
                      have e86 : a.tmps.getD 86 undef = (evV ev) := hneed 12 86 rfl rfl
                      have e86' := (Array.getD_eq_getD_getElem? ..).symm.trans e86
                      clear hneed hrest
                      obtain ⟨a85, c85, rfl, hk85⟩ := r85
                      have H := Holds_any (andF [f, f2]) ev (two_light HLL.out HLG.out) hk85 HSM.out
                      rw [(morgan ev hca hco).2, hF, Bool.false_and] at H
                      go_simp
                      refine H.mono ?_
                      rintro e wk ⟨rfl, hb2⟩
                      exact ⟨_, rfl, rfl, hb2⟩
                    | 14, _ =>
                      refine fs_guard _ _ 7 81 true rfl rfl rfl rfl rfl (fun w v h => h) ?_
                      intro a w1 hb hrest hneed
                      have p3 : a.tmps.getD 3 undef = .pointer (some ⟨w.heap.size, 0, none⟩) := (hrest 3 (by kernel_rfl)).trans rfl
                      have p3' := (Array.getD_eq_getD_getElem? ..).symm.trans p3
                      have hq := HF14.out.below hb
                      have x0 := hq.cells 0 _ rfl
                      have x1 := hq.cells 1 _ rfl
                      have x2 := hq.cells 2 _ rfl
                      have x3 := hq.cells 3 _ rfl
                      clear hq
                      clear hneed hrest
                      go_simp
                      exact ⟨_, rfl, ⟨a0, cap, rfl, HKF14.out.on hb⟩, Below.refl _ _⟩
                    | 15, _ =>
                      refine fs_guard _ _ 7 81 true rfl rfl rfl rfl rfl (fun w v h => h) ?_
                      intro a w1 hb hrest hneed
                      have p5 : a.tmps.getD 5 undef = .pointer (some ⟨w.heap.size + 1 + 1, 0, none⟩) := (hrest 5 (by kernel_rfl)).trans rfl
                      have p5' := (Array.getD_eq_getD_getElem? ..).symm.trans p5
                      have hq := HE14.out.below hb
                      have x0 := hq.cells 0 _ rfl
                      have x1 := hq.cells 1 _ rfl
                      have x2 := hq.cells 2 _ rfl
                      have x3 := hq.cells 3 _ rfl
                      have x4 := hq.cells 4 _ rfl
                      have x5 := hq.cells 5 _ rfl
                      clear hq
                      clear hneed hrest
                      go_simp
                      first | exact ⟨_, rfl, rfl, Below.refl _ _⟩ | exact ⟨_, rfl, (by show _ = _; simp), Below.refl _ _⟩
                    | 16, _ =>
                      refine fs_guard _ _ 7 81 true rfl rfl rfl rfl rfl (fun w v h => h) ?_
                      intro a w1 hb hrest hneed
                      have r88 : SKl (.fil f) w1 (a.tmps.getD 88 undef) := hneed 14 88 rfl rfl
                      obtain ⟨u88, e88⟩ : ∃ u, a.tmps.getD 88 undef = u := ⟨_, rfl⟩
                      rw [e88] at r88
                      have e88' := (Array.getD_eq_getD_getElem? ..).symm.trans e88
                      have e89 : a.tmps.getD 89 undef = (evV ev) := hneed 15 89 rfl rfl
                      have e89' := (Array.getD_eq_getD_getElem? ..).symm.trans e89
                      clear hneed hrest
                      obtain ⟨a88, c88, rfl, hk88⟩ := r88
                      have H := Holds_any f ev HLL.out hk88 HSM.out
                      rw [hF] at H
                      go_simp
                      refine H.mono ?_
                      rintro e wk ⟨rfl, hb2⟩
                      exact ⟨_, rfl, rfl, hb2⟩
                    | 17, _ =>
                      refine fs_guard _ _ 7 81 true rfl rfl rfl rfl rfl (fun w v h => h) ?_
                      intro a w1 hb hrest hneed
                      have e90 : a.tmps.getD 90 undef = (.bool false) := hneed 16 90 rfl rfl
                      have e90' := (Array.getD_eq_getD_getElem? ..).symm.trans e90
                      clear hneed hrest
                      go_simp
                      first | exact ⟨_, rfl, rfl, Below.refl _ _⟩ | exact ⟨_, rfl, (by show _ = _; simp), Below.refl _ _⟩
                    | 18, _ => exact fs_skip _ _ 17 91 true rfl rfl rfl rfl rfl (fun w v h => h) (fun w => rfl)
                    | 19, _ => exact fs_skip _ _ 17 91 true rfl rfl rfl rfl rfl (fun w v h => h) (fun w => rfl)
                    | 20, _ => exact fs_skip _ _ 17 91 true rfl rfl rfl rfl rfl (fun w v h => h) (fun w => rfl)
                    | 21, _ =>
                      refine fs_guard _ _ 7 81 true rfl rfl rfl rfl rfl (fun w v h => h) ?_
                      intro a w1 hb hrest hneed
                      have e91 : a.tmps.getD 91 undef = (.bool false) := hneed 17 91 rfl rfl
                      have e91' := (Array.getD_eq_getD_getElem? ..).symm.trans e91
                      clear hneed hrest
                      go_simp
                      first | exact ⟨_, rfl, rfl, Below.refl _ _⟩ | exact ⟨_, rfl, (by show _ = _; simp), Below.refl _ _⟩
                    | 22, _ =>
                      refine fs_guard _ _ 7 81 true rfl rfl rfl rfl rfl (fun w v h => h) ?_
                      intro a w1 hb hrest hneed
                      have e87 : a.tmps.getD 87 undef = (.bool false) := hneed 13 87 rfl rfl
                      have e87' := (Array.getD_eq_getD_getElem? ..).symm.trans e87
                      have e95 : a.tmps.getD 95 undef = (.bool false) := hneed 21 95 rfl rfl
                      have e95' := (Array.getD_eq_getD_getElem? ..).symm.trans e95
                      clear hneed hrest
                      go_simp
                      first | exact ⟨_, rfl, rfl, Below.refl _ _⟩ | exact ⟨_, rfl, (by show _ = _; simp), Below.refl _ _⟩
                    | 23, _ =>
                      refine fs_plain _ _ rfl rfl rfl ?_
                      intro a w1 hb hrest hneed
                      have e81 : a.tmps.getD 81 undef = (.bool true) := hneed 7 81 rfl rfl
                      have e81' := (Array.getD_eq_getD_getElem? ..).symm.trans e81
                      have e96 : a.tmps.getD 96 undef = (.bool true) := hneed 22 96 rfl rfl
                      have e96' := (Array.getD_eq_getD_getElem? ..).symm.trans e96
                      clear hneed hrest
                      go_simp
                      first | exact ⟨_, rfl, rfl, Below.refl _ _⟩ | exact ⟨_, rfl, (by show _ = _; simp), Below.refl _ _⟩
                    | 24, _ =>
                      refine fs_plain _ _ rfl rfl rfl ?_
                      intro a w1 hb hrest hneed
                      have e97 : a.tmps.getD 97 undef = (.bool true) := hneed 23 97 rfl rfl
                      have e97' := (Array.getD_eq_getD_getElem? ..).symm.trans e97
                      clear hneed hrest
                      go_simp
                      first | exact ⟨_, rfl, rfl, Below.refl _ _⟩ | exact ⟨_, rfl, (by show _ = _; simp), Below.refl _ _⟩
                    | 25, _ =>
                      refine fs_guard _ _ 24 98 true rfl rfl rfl rfl rfl (fun w v h => h) ?_
                      intro a w1 hb hrest hneed
                      clear hneed hrest
                      go_simp
                      refine (awake_any _).mono ?_
                      rintro e wz ⟨rfl, hbz⟩
                      exact ⟨_, rfl, rfl, hbz⟩
                    | 26, _ =>
                      refine fs_plain _ _ rfl rfl rfl ?_
                      intro a w1 hb hrest hneed
                      have e98 : a.tmps.getD 98 undef = (.bool true) := hneed 24 98 rfl rfl
                      have e98' := (Array.getD_eq_getD_getElem? ..).symm.trans e98
                      have e99 : a.tmps.getD 99 undef = (.bool true) := hneed 25 99 rfl rfl
                      have e99' := (Array.getD_eq_getD_getElem? ..).symm.trans e99
                      clear hneed hrest
                      go_simp
                      first | exact ⟨_, rfl, rfl, Below.refl _ _⟩ | exact ⟨_, rfl, (by show _ = _; simp), Below.refl _ _⟩
                    | 27, _ =>
                      refine fs_plain _ _ rfl rfl rfl ?_
                      intro a w1 hb hrest hneed
                      have e100 : a.tmps.getD 100 undef = (.bool true) := hneed 26 100 rfl rfl
                      have e100' := (Array.getD_eq_getD_getElem? ..).symm.trans e100
                      clear hneed hrest
                      go_simp
                      first | exact ⟨_, rfl, rfl, Below.refl _ _⟩ | exact ⟨_, rfl, (by show _ = _; simp), Below.refl _ _⟩
                    | n + 28, h => exact absurd h (by simp)
                · intro a w15 hb hd hs hr hg
                  obtain ⟨u74, e74⟩ : ∃ u, a.tmps.getD 74 undef = u := ⟨_, rfl⟩
                  obtain ⟨u75, e75⟩ : ∃ u, a.tmps.getD 75 undef = u := ⟨_, rfl⟩
                  obtain ⟨u76, e76⟩ : ∃ u, a.tmps.getD 76 undef = u := ⟨_, rfl⟩
                  obtain ⟨u77, e77⟩ : ∃ u, a.tmps.getD 77 undef = u := ⟨_, rfl⟩
                  obtain ⟨u78, e78⟩ : ∃ u, a.tmps.getD 78 undef = u := ⟨_, rfl⟩
                  obtain ⟨u79, e79⟩ : ∃ u, a.tmps.getD 79 undef = u := ⟨_, rfl⟩
                  obtain ⟨u80, e80⟩ : ∃ u, a.tmps.getD 80 undef = u := ⟨_, rfl⟩
                  obtain ⟨u81, e81⟩ : ∃ u, a.tmps.getD 81 undef = u := ⟨_, rfl⟩
                  obtain ⟨u82, e82⟩ : ∃ u, a.tmps.getD 82 undef = u := ⟨_, rfl⟩
                  obtain ⟨u83, e83⟩ : ∃ u, a.tmps.getD 83 undef = u := ⟨_, rfl⟩
                  obtain ⟨u84, e84⟩ : ∃ u, a.tmps.getD 84 undef = u := ⟨_, rfl⟩
                  obtain ⟨u85, e85⟩ : ∃ u, a.tmps.getD 85 undef = u := ⟨_, rfl⟩
                  obtain ⟨u86, e86⟩ : ∃ u, a.tmps.getD 86 undef = u := ⟨_, rfl⟩
                  obtain ⟨u87, e87⟩ : ∃ u, a.tmps.getD 87 undef = u := ⟨_, rfl⟩
                  obtain ⟨u88, e88⟩ : ∃ u, a.tmps.getD 88 undef = u := ⟨_, rfl⟩
                  obtain ⟨u89, e89⟩ : ∃ u, a.tmps.getD 89 undef = u := ⟨_, rfl⟩
                  obtain ⟨u90, e90⟩ : ∃ u, a.tmps.getD 90 undef = u := ⟨_, rfl⟩
                  obtain ⟨u91, e91⟩ : ∃ u, a.tmps.getD 91 undef = u := ⟨_, rfl⟩
                  obtain ⟨u92, e92⟩ : ∃ u, a.tmps.getD 92 undef = u := ⟨_, rfl⟩
                  obtain ⟨u93, e93⟩ : ∃ u, a.tmps.getD 93 undef = u := ⟨_, rfl⟩
                  obtain ⟨u94, e94⟩ : ∃ u, a.tmps.getD 94 undef = u := ⟨_, rfl⟩
                  obtain ⟨u95, e95⟩ : ∃ u, a.tmps.getD 95 undef = u := ⟨_, rfl⟩
                  obtain ⟨u96, e96⟩ : ∃ u, a.tmps.getD 96 undef = u := ⟨_, rfl⟩
                  obtain ⟨u97, e97⟩ : ∃ u, a.tmps.getD 97 undef = u := ⟨_, rfl⟩
                  obtain ⟨u98, e98⟩ : ∃ u, a.tmps.getD 98 undef = u := ⟨_, rfl⟩
                  obtain ⟨u99, e99⟩ : ∃ u, a.tmps.getD 99 undef = u := ⟨_, rfl⟩
                  obtain ⟨u100, e100⟩ : ∃ u, a.tmps.getD 100 undef = u := ⟨_, rfl⟩
                  have e6 : a.tmps.getD 6 undef = .bool true := hg 27 (by decide) 6 rfl
                  have ha := act_flow [74, 75, 76, 77, 78, 79, 80, 81, 82, 83, 84, 85, 86, 87, 88, 89, 90, 91, 92, 93, 94, 95, 96, 97, 98, 99, 100, 6] (by kernel_rfl) hd hs hr
                  simp only [putsOf, List.foldl_cons, List.foldl_nil, e74, e75, e76, e77, e78, e79, e80, e81, e82, e83, e84, e85, e86, e87, e88, e89, e90, e91, e92, e93, e94, e95, e96, e97, e98, e99, e100, e6] at ha
                  clear e74 e75 e76 e77 e78 e79 e80 e81 e82 e83 e84 e85 e86 e87 e88 e89 e90 e91 e92 e93 e94 e95 e96 e97 e98 e99 e100 e6 hd hs hr hg
                  subst ha
                  go_simp
                  have HB15 := Lib.hid (HB14.out.trans (hb.mono HB14.out.size))
                  clear hb
                  go_wp2_with fail
                  go_ret
                  exact ⟨rfl, HB15.out⟩
              · refine wp_region_flow (S := SLl [Kl.fil (notF (andF [f, f2])), Kl.val (evV ev), Kl.val (.bool (holdsF (notF (andF [f, f2])) ev)), Kl.fil (orF [notF f, notF f2]), Kl.val (evV ev), Kl.val (.bool (holdsF (notF (andF [f, f2])) ev)), Kl.val (.bool true), Kl.val (.bool true), Kl.fil f, Kl.fil f2, Kl.kids [f, f2], Kl.fil (andF [f, f2]), Kl.val (evV ev), Kl.val (.bool (holdsF f2 ev)), Kl.fil f, Kl.val (evV ev), Kl.val (.bool true), Kl.val (.bool true), Kl.fil f2, Kl.val (evV ev), Kl.val (.bool (holdsF f2 ev)), Kl.val (.bool (holdsF f2 ev)), Kl.val (.bool true), Kl.val (.bool true), Kl.val (.bool true), Kl.val (.bool true), Kl.val (.bool true), Kl.val (.bool true)]) (by kernel_rfl) (SLl_stable _) (by kernel_rfl) (by kernel_rfl) ?_ ?_
                · intro i hi
                  match i, hi with
                    | 0, _ =>
                      refine fs_plain _ _ rfl rfl rfl ?_
                      intro a w1 hb hrest hneed
                      have p8 : a.tmps.getD 8 undef = .pointer (some ⟨g8, 0, none⟩) := (hrest 8 (by kernel_rfl)).trans rfl
                      have p8' := (Array.getD_eq_getD_getElem? ..).symm.trans p8
                      have hq := HA14.out.below hb
                      have x0 := hq.cells 0 _ rfl
                      have x1 := hq.cells 1 _ rfl
                      have x2 := hq.cells 2 _ rfl
                      have x3 := hq.cells 3 _ rfl
                      clear hq
                      clear hneed hrest
                      go_simp
                      exact ⟨_, rfl, ⟨_, _, rfl, HKA14.out.on hb⟩, Below.refl _ _⟩
                    | 1, _ =>
                      refine fs_plain _ _ rfl rfl rfl ?_
                      intro a w1 hb hrest hneed
                      have p5 : a.tmps.getD 5 undef = .pointer (some ⟨w.heap.size + 1 + 1, 0, none⟩) := (hrest 5 (by kernel_rfl)).trans rfl
                      have p5' := (Array.getD_eq_getD_getElem? ..).symm.trans p5
                      have hq := HE14.out.below hb
                      have x0 := hq.cells 0 _ rfl
                      have x1 := hq.cells 1 _ rfl
                      have x2 := hq.cells 2 _ rfl
                      have x3 := hq.cells 3 _ rfl
                      have x4 := hq.cells 4 _ rfl
                      have x5 := hq.cells 5 _ rfl
                      clear hq
                      clear hneed hrest
                      go_simp
                      first | exact ⟨_, rfl, rfl, Below.refl _ _⟩ | exact ⟨_, rfl, (by show _ = _; simp), Below.refl _ _⟩
                    | 2, _ =>
                      refine fs_plain _ _ rfl rfl rfl ?_
                      intro a w1 hb hrest hneed
                      have r74 : SKl (.fil (notF (andF [f, f2]))) w1 (a.tmps.getD 74 undef) := hneed 0 74 rfl rfl
                      obtain ⟨u74, e74⟩ : ∃ u, a.tmps.getD 74 undef = u := ⟨_, rfl⟩
                      rw [e74] at r74
                      have e74' := (Array.getD_eq_getD_getElem? ..).symm.trans e74
                      have e75 : a.tmps.getD 75 undef = (evV ev) := hneed 1 75 rfl rfl
                      have e75' := (Array.getD_eq_getD_getElem? ..).symm.trans e75
                      clear hneed hrest
                      obtain ⟨a74, c74, rfl, hk74⟩ := r74
                      have H := Holds_any (notF (andF [f, f2])) ev (not_light (two_light HLL.out HLG.out)) hk74 HSM.out
                      go_simp
                      refine H.mono ?_
                      rintro e wk ⟨rfl, hb2⟩
                      exact ⟨_, rfl, rfl, hb2⟩
                    | 3, _ =>
                      refine fs_plain _ _ rfl rfl rfl ?_
                      intro a w1 hb hrest hneed
                      have p9 : a.tmps.getD 9 undef = .pointer (some ⟨g9, 0, none⟩) := (hrest 9 (by kernel_rfl)).trans rfl
                      have p9' := (Array.getD_eq_getD_getElem? ..).symm.trans p9
                      have hq := HC14.out.below hb
                      have x0 := hq.cells 0 _ rfl
                      have x1 := hq.cells 1 _ rfl
                      have x2 := hq.cells 2 _ rfl
                      have x3 := hq.cells 3 _ rfl
                      clear hq
                      clear hneed hrest
                      go_simp
                      exact ⟨_, rfl, ⟨_, _, rfl, HKC14.out.on hb⟩, Below.refl _ _⟩
                    | 4, _ =>
                      refine fs_plain _ _ rfl rfl rfl ?_
                      intro a w1 hb hrest hneed
                      have p5 : a.tmps.getD 5 undef = .pointer (some ⟨w.heap.size + 1 + 1, 0, none⟩) := (hrest 5 (by kernel_rfl)).trans rfl
                      have p5' := (Array.getD_eq_getD_getElem? ..).symm.trans p5
                      have hq := HE14.out.below hb
                      have x0 := hq.cells 0 _ rfl
                      have x1 := hq.cells 1 _ rfl
                      have x2 := hq.cells 2 _ rfl
                      have x3 := hq.cells 3 _ rfl
                      have x4 := hq.cells 4 _ rfl
                      have x5 := hq.cells 5 _ rfl
                      clear hq
                      clear hneed hrest
                      go_simp
                      first | exact ⟨_, rfl, rfl, Below.refl _ _⟩ | exact ⟨_, rfl, (by show _ = _; simp), Below.refl _ _⟩
                    | 5, _ =>
                      refine fs_plain _ _ rfl rfl rfl ?_
                      intro a w1 hb hrest hneed
                      have r77 : SKl (.fil (orF [notF f, notF f2])) w1 (a.tmps.getD 77 undef) := hneed 3 77 rfl rfl
                      obtain ⟨u77, e77⟩ : ∃ u, a.tmps.getD 77 undef = u := ⟨_, rfl⟩
                      rw [e77] at r77
                      have e77' := (Array.getD_eq_getD_getElem? ..).symm.trans e77
                      have e78 : a.tmps.getD 78 undef = (evV ev) := hneed 4 78 rfl rfl
                      have e78' := (Array.getD_eq_getD_getElem? ..).symm.trans e78
                      clear hneed hrest
                      obtain ⟨a77, c77, rfl, hk77⟩ := r77
                      have H := Holds_any (orF [notF f, notF f2]) ev (two_light (not_light HLL.out) (not_light HLG.out)) hk77 HSM.out
                      rw [← (morgan ev hca hco).1] at H
                      go_simp
                      refine H.mono ?_
                      rintro e wk ⟨rfl, hb2⟩
                      exact ⟨_, rfl, rfl, hb2⟩
                    | 6, _ =>
                      refine fs_plain _ _ rfl rfl rfl ?_
                      intro a w1 hb hrest hneed
                      have e76 : a.tmps.getD 76 undef = (.bool (holdsF (notF (andF [f, f2])) ev)) := hneed 2 76 rfl rfl
                      have e76' := (Array.getD_eq_getD_getElem? ..).symm.trans e76
                      have e79 : a.tmps.getD 79 undef = (.bool (holdsF (notF (andF [f, f2])) ev)) := hneed 5 79 rfl rfl
                      have e79' := (Array.getD_eq_getD_getElem? ..).symm.trans e79
                      clear hneed hrest
                      go_simp
                      first | exact ⟨_, rfl, rfl, Below.refl _ _⟩ | exact ⟨_, rfl, (by show _ = _; simp), Below.refl _ _⟩
                    | 7, _ =>
                      refine fs_plain _ _ rfl rfl rfl ?_
                      intro a w1 hb hrest hneed
                      have e80 : a.tmps.getD 80 undef = (.bool true) := hneed 6 80 rfl rfl
                      have e80' := (Array.getD_eq_getD_getElem? ..).symm.trans e80
                      clear hneed hrest
                      go_simp
                      first | exact ⟨_, rfl, rfl, Below.refl _ _⟩ | exact ⟨_, rfl, (by show _ = _; simp), Below.refl _ _⟩
                    | 8, _ =>
                      refine fs_guard _ _ 7 81 true rfl rfl rfl rfl rfl (fun w v h => h) ?_
                      intro a w1 hb hrest hneed
                      have p3 : a.tmps.getD 3 undef = .pointer (some ⟨w.heap.size, 0, none⟩) := (hrest 3 (by kernel_rfl)).trans rfl
                      have p3' := (Array.getD_eq_getD_getElem? ..).symm.trans p3
                      have hq := HF14.out.below hb
                      have x0 := hq.cells 0 _ rfl
                      have x1 := hq.cells 1 _ rfl
                      have x2 := hq.cells 2 _ rfl
                      have x3 := hq.cells 3 _ rfl
                      clear hq
                      clear hneed hrest
                      go_simp
                      exact ⟨_, rfl, ⟨a0, cap, rfl, HKF14.out.on hb⟩, Below.refl _ _⟩
                    | 9, _ =>
                      refine fs_guard _ _ 7 81 true rfl rfl rfl rfl rfl (fun w v h => h) ?_
                      intro a w1 hb hrest hneed
                      have p4 : a.tmps.getD 4 undef = .pointer (some ⟨w.heap.size + 1, 0, none⟩) := (hrest 4 (by kernel_rfl)).trans rfl
                      have p4' := (Array.getD_eq_getD_getElem? ..).symm.trans p4
                      have hq := HG14.out.below hb
                      have x0 := hq.cells 0 _ rfl
                      have x1 := hq.cells 1 _ rfl
                      have x2 := hq.cells 2 _ rfl
                      have x3 := hq.cells 3 _ rfl
                      clear hq
                      clear hneed hrest
                      go_simp
                      exact ⟨_, rfl, ⟨a2, cap2, rfl, HKG14.out.on hb⟩, Below.refl _ _⟩
                    | 10, _ =>
                      refine fs_guard _ _ 7 81 true rfl rfl rfl rfl rfl (fun w v h => h) ?_
                      intro a w1 hb hrest hneed
                      have r82 : SKl (.fil f) w1 (a.tmps.getD 82 undef) := hneed 8 82 rfl rfl
                      obtain ⟨u82, e82⟩ : ∃ u, a.tmps.getD 82 undef = u := ⟨_, rfl⟩
                      rw [e82] at r82
                      have e82' := (Array.getD_eq_getD_getElem? ..).symm.trans e82
                      have r83 : SKl (.fil f2) w1 (a.tmps.getD 83 undef) := hneed 9 83 rfl rfl
                      obtain ⟨u83, e83⟩ : ∃ u, a.tmps.getD 83 undef = u := ⟨_, rfl⟩
                      rw [e83] at r83
                      have e83' := (Array.getD_eq_getD_getElem? ..).symm.trans e83
                      clear hneed hrest
                      obtain ⟨a82, c82, rfl, hk82⟩ := r82
                      obtain ⟨a83, c83, rfl, hk83⟩ := r83
                      unfold flV at e82 e82' e83 e83'
                      have hal := lay_alloc w1 (.cells #[.int .i64 f.kind, .string f.name, .string f.text, .slice a82 f.kids.length c82, .int .i64 f2.kind, .string f2.name, .string f2.text, .slice a83 f2.kids.length c83] 24)
                      have hdc := DC.alloc w1 [.int .i64 f.kind, .string f.name, .string f.text, .slice a82 f.kids.length c82, .int .i64 f2.kind, .string f2.name, .string f2.text, .slice a83 f2.kids.length c83] 24
                      go_simp
                      exact ⟨_, rfl, ⟨_, rfl, kids2_in (f := f) (f2 := f2) hdc (hk82.on hal) (hk83.on hal)⟩⟩
                    | 11, _ =>
                      refine fs_guard _ _ 7 81 true rfl rfl rfl rfl rfl (fun w v h => h) ?_
                      intro a w1 hb hrest hneed
                      have r84 : SKl (.kids [f, f2]) w1 (a.tmps.getD 84 undef) := hneed 10 84 rfl rfl
                      obtain ⟨u84, e84⟩ : ∃ u, a.tmps.getD 84 undef = u := ⟨_, rfl⟩
                      rw [e84] at r84
                      have e84' := (Array.getD_eq_getD_getElem? ..).symm.trans e84
                      clear hneed hrest
                      obtain ⟨g84, rfl, hk84⟩ := r84
                      go_simp
                      refine (kind_any 5 _ _ _ w1).mono ?_
                      rintro e wk ⟨rfl, hb2⟩
                      exact ⟨_, rfl, ⟨_, _, rfl, hk84.on hb2⟩, hb2⟩
                    | 12, _ =>
                      refine fs_guard _ _ 7 81 true rfl rfl rfl rfl rfl (fun w v h => h) ?_
                      intro a w1 hb hrest hneed
                      have p5 : a.tmps.getD 5 undef = .pointer (some ⟨w.heap.size + 1 + 1, 0, none⟩) := (hrest 5 (by kernel_rfl)).trans rfl
                      have p5' := (Array.getD_eq_getD_getElem? ..).symm.trans p5
                      have hq := HE14.out.below hb
                      have x0 := hq.cells 0 _ rfl
                      have x1 := hq.cells 1 _ rfl
                      have x2 := hq.cells 2 _ rfl
                      have x3 := hq.cells 3 _ rfl
                      have x4 := hq.cells 4 _ rfl
                      have x5 := hq.cells 5 _ rfl
                      clear hq
                      clear hneed hrest
                      go_simp
                      first | exact ⟨_, rfl, rfl, Below.refl _ _⟩ | exact ⟨_, rfl, (by show _ = _; simp), Below.refl _ _⟩
                    | 13, _ =>
                      refine fs_guard _ _ 7 81 true rfl rfl rfl rfl rfl (fun w v h => h) ?_
                      intro a w1 hb hrest hneed
                      have r85 : SKl (.fil (andF [f, f2])) w1 (a.tmps.getD 85 undef) := hneed 11 85 rfl rfl
                      obtain ⟨u85, e85⟩ : ∃ u, a.tmps.getD 85 undef = u := ⟨_, rfl⟩
                      rw [e85] at r85
                      have e85' := (Array.getD_eq_getD_getElem? ..).symm.trans e85
                      have e86 : a.tmps.getD 86 undef = (evV ev) := hneed 12 86 rfl rfl
                      have e86' := (Array.getD_eq_getD_getElem? ..).symm.trans e86
                      clear hneed hrest
                      obtain ⟨a85, c85, rfl, hk85⟩ := r85
                      have H := Holds_any (andF [f, f2]) ev (two_light HLL.out HLG.out) hk85 HSM.out
                      rw [(morgan ev hca hco).2, hF, Bool.true_and] at H
                      go_simp
                      refine H.mono ?_
                      rintro e wk ⟨rfl, hb2⟩
                      exact ⟨_, rfl, rfl, hb2⟩
                    | 14, _ =>
                      refine fs_guard _ _ 7 81 true rfl rfl rfl rfl rfl (fun w v h => h) ?_
                      intro a w1 hb hrest hneed
                      have p3 : a.tmps.getD 3 undef = .pointer (some ⟨w.heap.size, 0, none⟩) := (hrest 3 (by kernel_rfl)).trans rfl
                      have p3' := (Array.getD_eq_getD_getElem? ..).symm.trans p3
                      have hq := HF14.out.below hb
                      have x0 := hq.cells 0 _ rfl
                      have x1 := hq.cells 1 _ rfl
                      have x2 := hq.cells 2 _ rfl
                      have x3 := hq.cells 3 _ rfl
                      clear hq
                      clear hneed hrest
                      go_simp
                      exact ⟨_, rfl, ⟨a0, cap, rfl, HKF14.out.on hb⟩, Below.refl _ _⟩
                    | 15, _ =>
                      refine fs_guard _ _ 7 81 true rfl rfl rfl rfl rfl (fun w v h => h) ?_
                      intro a w1 hb hrest hneed
                      have p5 : a.tmps.getD 5 undef = .pointer (some ⟨w.heap.size + 1 + 1, 0, none⟩) := (hrest 5 (by kernel_rfl)).trans rfl
                      have p5' := (Array.getD_eq_getD_getElem? ..).symm.trans p5
                      have hq := HE14.out.below hb
                      have x0 := hq.cells 0 _ rfl
                      have x1 := hq.cells 1 _ rfl
                      have x2 := hq.cells 2 _ rfl
                      have x3 := hq.cells 3 _ rfl
                      have x4 := hq.cells 4 _ rfl
                      have x5 := hq.cells 5 _ rfl
                      clear hq
                      clear hneed hrest
                      go_simp
                      first | exact ⟨_, rfl, rfl, Below.refl _ _⟩ | exact ⟨_, rfl, (by show _ = _; simp), Below.refl _ _⟩
                    | 16, _ =>
                      refine fs_guard _ _ 7 81 true rfl rfl rfl rfl rfl (fun w v h => h) ?_
                      intro a w1 hb hrest hneed
                      have r88 : SKl (.fil f) w1 (a.tmps.getD 88 undef) := hneed 14 88 rfl rfl
                      obtain ⟨u88, e88⟩ : ∃ u, a.tmps.getD 88 undef = u := ⟨_, rfl⟩
                      rw [e88] at r88
                      have e88' := (Array.getD_eq_getD_getElem? ..).symm.trans e88
                      have e89 : a.tmps.getD 89 undef = (evV ev) := hneed 15 89 rfl rfl
                      have e89' := (Array.getD_eq_getD_getElem? ..).symm.trans e89
                      clear hneed hrest
                      obtain ⟨a88, c88, rfl, hk88⟩ := r88
                      have H := Holds_any f ev HLL.out hk88 HSM.out
                      rw [hF] at H
                      go_simp
                      refine H.mono ?_
                      rintro e wk ⟨rfl, hb2⟩
                      exact ⟨_, rfl, rfl, hb2⟩
                    | 17, _ =>
                      refine fs_guard _ _ 7 81 true rfl rfl rfl rfl rfl (fun w v h => h) ?_
                      intro a w1 hb hrest hneed
                      have e90 : a.tmps.getD 90 undef = (.bool true) := hneed 16 90 rfl rfl
                      have e90' := (Array.getD_eq_getD_getElem? ..).symm.trans e90
                      clear hneed hrest
                      go_simp
                      first | exact ⟨_, rfl, rfl, Below.refl _ _⟩ | exact ⟨_, rfl, (by show _ = _; simp), Below.refl _ _⟩
                    | 18, _ =>
                      refine fs_guard _ _ 17 91 true rfl rfl rfl rfl rfl (fun w v h => h) ?_
                      intro a w1 hb hrest hneed
                      have p4 : a.tmps.getD 4 undef = .pointer (some ⟨w.heap.size + 1, 0, none⟩) := (hrest 4 (by kernel_rfl)).trans rfl
                      have p4' := (Array.getD_eq_getD_getElem? ..).symm.trans p4
                      have hq := HG14.out.below hb
                      have x0 := hq.cells 0 _ rfl
                      have x1 := hq.cells 1 _ rfl
                      have x2 := hq.cells 2 _ rfl
                      have x3 := hq.cells 3 _ rfl
                      clear hq
                      clear hneed hrest
                      go_simp
                      exact ⟨_, rfl, ⟨a2, cap2, rfl, HKG14.out.on hb⟩, Below.refl _ _⟩
                    | 19, _ =>
                      refine fs_guard _ _ 17 91 true rfl rfl rfl rfl rfl (fun w v h => h) ?_
                      intro a w1 hb hrest hneed
                      have p5 : a.tmps.getD 5 undef = .pointer (some ⟨w.heap.size + 1 + 1, 0, none⟩) := (hrest 5 (by kernel_rfl)).trans rfl
                      have p5' := (Array.getD_eq_getD_getElem? ..).symm.trans p5
                      have hq := HE14.out.below hb
                      have x0 := hq.cells 0 _ rfl
                      have x1 := hq.cells 1 _ rfl
                      have x2 := hq.cells 2 _ rfl
                      have x3 := hq.cells 3 _ rfl
                      have x4 := hq.cells 4 _ rfl
                      have x5 := hq.cells 5 _ rfl
                      clear hq
                      clear hneed hrest
                      go_simp
                      first | exact ⟨_, rfl, rfl, Below.refl _ _⟩ | exact ⟨_, rfl, (by show _ = _; simp), Below.refl _ _⟩
                    | 20, _ =>
                      refine fs_guard _ _ 17 91 true rfl rfl rfl rfl rfl (fun w v h => h) ?_
                      intro a w1 hb hrest hneed
                      have r92 : SKl (.fil f2) w1 (a.tmps.getD 92 undef) := hneed 18 92 rfl rfl
                      obtain ⟨u92, e92⟩ : ∃ u, a.tmps.getD 92 undef = u := ⟨_, rfl⟩
                      rw [e92] at r92
                      have e92' := (Array.getD_eq_getD_getElem? ..).symm.trans e92
                      have e93 : a.tmps.getD 93 undef = (evV ev) := hneed 19 93 rfl rfl
                      have e93' := (Array.getD_eq_getD_getElem? ..).symm.trans e93
                      clear hneed hrest
                      obtain ⟨a92, c92, rfl, hk92⟩ := r92
                      have H := Holds_any f2 ev HLG.out hk92 HSM.out
                      go_simp
                      refine H.mono ?_
                      rintro e wk ⟨rfl, hb2⟩
                      exact ⟨_, rfl, rfl, hb2⟩
                    | 21, _ =>
                      refine fs_guard _ _ 7 81 true rfl rfl rfl rfl rfl (fun w v h => h) ?_
                      intro a w1 hb hrest hneed
                      have e91 : a.tmps.getD 91 undef = (.bool true) := hneed 17 91 rfl rfl
                      have e91' := (Array.getD_eq_getD_getElem? ..).symm.trans e91
                      have e94 : a.tmps.getD 94 undef = (.bool (holdsF f2 ev)) := hneed 20 94 rfl rfl
                      have e94' := (Array.getD_eq_getD_getElem? ..).symm.trans e94
                      clear hneed hrest
                      go_simp
                      first | exact ⟨_, rfl, rfl, Below.refl _ _⟩ | exact ⟨_, rfl, (by show _ = _; simp), Below.refl _ _⟩
                    | 22, _ =>
                      refine fs_guard _ _ 7 81 true rfl rfl rfl rfl rfl (fun w v h => h) ?_
                      intro a w1 hb hrest hneed
                      have e87 : a.tmps.getD 87 undef = (.bool (holdsF f2 ev)) := hneed 13 87 rfl rfl
                      have e87' := (Array.getD_eq_getD_getElem? ..).symm.trans e87
                      have e95 : a.tmps.getD 95 undef = (.bool (holdsF f2 ev)) := hneed 21 95 rfl rfl
                      have e95' := (Array.getD_eq_getD_getElem? ..).symm.trans e95
                      clear hneed hrest
                      go_simp
                      first | exact ⟨_, rfl, rfl, Below.refl _ _⟩ | exact ⟨_, rfl, (by show _ = _; simp), Below.refl _ _⟩
                    | 23, _ =>
                      refine fs_plain _ _ rfl rfl rfl ?_
                      intro a w1 hb hrest hneed
                      have e81 : a.tmps.getD 81 undef = (.bool true) := hneed 7 81 rfl rfl
                      have e81' := (Array.getD_eq_getD_getElem? ..).symm.trans e81
                      have e96 : a.tmps.getD 96 undef = (.bool true) := hneed 22 96 rfl rfl
                      have e96' := (Array.getD_eq_getD_getElem? ..).symm.trans e96
                      clear hneed hrest
                      go_simp
                      first | exact ⟨_, rfl, rfl, Below.refl _ _⟩ | exact ⟨_, rfl, (by show _ = _; simp), Below.refl _ _⟩
                    | 24, _ =>
                      refine fs_plain _ _ rfl rfl rfl ?_
                      intro a w1 hb hrest hneed
                      have e97 : a.tmps.getD 97 undef = (.bool true) := hneed 23 97 rfl rfl
                      have e97' := (Array.getD_eq_getD_getElem? ..).symm.trans e97
                      clear hneed hrest
                      go_simp
                      first | exact ⟨_, rfl, rfl, Below.refl _ _⟩ | exact ⟨_, rfl, (by show _ = _; simp), Below.refl _ _⟩
                    | 25, _ =>
                      refine fs_guard _ _ 24 98 true rfl rfl rfl rfl rfl (fun w v h => h) ?_
                      intro a w1 hb hrest hneed
                      clear hneed hrest
                      go_simp
                      refine (awake_any _).mono ?_
                      rintro e wz ⟨rfl, hbz⟩
                      exact ⟨_, rfl, rfl, hbz⟩
                    | 26, _ =>
                      refine fs_plain _ _ rfl rfl rfl ?_
                      intro a w1 hb hrest hneed
                      have e98 : a.tmps.getD 98 undef = (.bool true) := hneed 24 98 rfl rfl
                      have e98' := (Array.getD_eq_getD_getElem? ..).symm.trans e98
                      have e99 : a.tmps.getD 99 undef = (.bool true) := hneed 25 99 rfl rfl
                      have e99' := (Array.getD_eq_getD_getElem? ..).symm.trans e99
                      clear hneed hrest
                      go_simp
                      first | exact ⟨_, rfl, rfl, Below.refl _ _⟩ | exact ⟨_, rfl, (by show _ = _; simp), Below.refl _ _⟩
                    | 27, _ =>
                      refine fs_plain _ _ rfl rfl rfl ?_
                      intro a w1 hb hrest hneed
                      have e100 : a.tmps.getD 100 undef = (.bool true) := hneed 26 100 rfl rfl
                      have e100' := (Array.getD_eq_getD_getElem? ..).symm.trans e100
                      clear hneed hrest
                      go_simp
                      first | exact ⟨_, rfl, rfl, Below.refl _ _⟩ | exact ⟨_, rfl, (by show _ = _; simp), Below.refl _ _⟩
                    | n + 28, h => exact absurd h (by simp)
                · intro a w15 hb hd hs hr hg
                  obtain ⟨u74, e74⟩ : ∃ u, a.tmps.getD 74 undef = u := ⟨_, rfl⟩
                  obtain ⟨u75, e75⟩ : ∃ u, a.tmps.getD 75 undef = u := ⟨_, rfl⟩
                  obtain ⟨u76, e76⟩ : ∃ u, a.tmps.getD 76 undef = u := ⟨_, rfl⟩
                  obtain ⟨u77, e77⟩ : ∃ u, a.tmps.getD 77 undef = u := ⟨_, rfl⟩
                  obtain ⟨u78, e78⟩ : ∃ u, a.tmps.getD 78 undef = u := ⟨_, rfl⟩
                  obtain ⟨u79, e79⟩ : ∃ u, a.tmps.getD 79 undef = u := ⟨_, rfl⟩
                  obtain ⟨u80, e80⟩ : ∃ u, a.tmps.getD 80 undef = u := ⟨_, rfl⟩
                  obtain ⟨u81, e81⟩ : ∃ u, a.tmps.getD 81 undef = u := ⟨_, rfl⟩
                  obtain ⟨u82, e82⟩ : ∃ u, a.tmps.getD 82 undef = u := ⟨_, rfl⟩
                  obtain ⟨u83, e83⟩ : ∃ u, a.tmps.getD 83 undef = u := ⟨_, rfl⟩
                  obtain ⟨u84, e84⟩ : ∃ u, a.tmps.getD 84 undef = u := ⟨_, rfl⟩
                  obtain ⟨u85, e85⟩ : ∃ u, a.tmps.getD 85 undef = u := ⟨_, rfl⟩
                  obtain ⟨u86, e86⟩ : ∃ u, a.tmps.getD 86 undef = u := ⟨_, rfl⟩
                  obtain ⟨u87, e87⟩ : ∃ u, a.tmps.getD 87 undef = u := ⟨_, rfl⟩
                  obtain ⟨u88, e88⟩ : ∃ u, a.tmps.getD 88 undef = u := ⟨_, rfl⟩
                  obtain ⟨u89, e89⟩ : ∃ u, a.tmps.getD 89 undef = u := ⟨_, rfl⟩
                  obtain ⟨u90, e90⟩ : ∃ u, a.tmps.getD 90 undef = u := ⟨_, rfl⟩
                  obtain ⟨u91, e91⟩ : ∃ u, a.tmps.getD 91 undef = u := ⟨_, rfl⟩
                  obtain ⟨u92, e92⟩ : ∃ u, a.tmps.getD 92 undef = u := ⟨_, rfl⟩
                  obtain ⟨u93, e93⟩ : ∃ u, a.tmps.getD 93 undef = u := ⟨_, rfl⟩
                  obtain ⟨u94, e94⟩ : ∃ u, a.tmps.getD 94 undef = u := ⟨_, rfl⟩
                  obtain ⟨u95, e95⟩ : ∃ u, a.tmps.getD 95 undef = u := ⟨_, rfl⟩
                  obtain ⟨u96, e96⟩ : ∃ u, a.tmps.getD 96 undef = u := ⟨_, rfl⟩
                  obtain ⟨u97, e97⟩ : ∃ u, a.tmps.getD 97 undef = u := ⟨_, rfl⟩
                  obtain ⟨u98, e98⟩ : ∃ u, a.tmps.getD 98 undef = u := ⟨_, rfl⟩
                  obtain ⟨u99, e99⟩ : ∃ u, a.tmps.getD 99 undef = u := ⟨_, rfl⟩
                  obtain ⟨u100, e100⟩ : ∃ u, a.tmps.getD 100 undef = u := ⟨_, rfl⟩
                  have e6 : a.tmps.getD 6 undef = .bool true := hg 27 (by decide) 6 rfl
                  have ha := act_flow [74, 75, 76, 77, 78, 79, 80, 81, 82, 83, 84, 85, 86, 87, 88, 89, 90, 91, 92, 93, 94, 95, 96, 97, 98, 99, 100, 6] (by kernel_rfl) hd hs hr
                  simp only [putsOf, List.foldl_cons, List.foldl_nil, e74, e75, e76, e77, e78, e79, e80, e81, e82, e83, e84, e85, e86, e87, e88, e89, e90, e91, e92, e93, e94, e95, e96, e97, e98, e99, e100, e6] at ha
                  clear e74 e75 e76 e77 e78 e79 e80 e81 e82 e83 e84 e85 e86 e87 e88 e89 e90 e91 e92 e93 e94 e95 e96 e97 e98 e99 e100 e6 hd hs hr hg
                  subst ha
                  go_simp
                  have HB15 := Lib.hid (HB14.out.trans (hb.mono HB14.out.size))
                  clear hb
                  go_wp2_with fail
                  go_ret
                  exact ⟨rfl, HB15.out⟩
            · have b2 : (ckF (orF [notF f, notF f2]) != 0) = true := by rw [bne_iff_ne]; exact hco
              go_wp2_with fail
              go_fit HC2.out
              rintro e w14 ⟨rfl, hb⟩
              clear fc0 fc1 fc2 fc3 gc0 gc1 gc2 gc3 ec0 ec1 ec2 ec3 ec4 ec5 ac0 ac1 ac2 ac3 cc0 cc1 cc2 cc3
              have HF14 := Lib.hid (HF13.out.below hb)
              have HG14 := Lib.hid (HG13.out.below hb)
              have HE14 := Lib.hid (HE13.out.below hb)
              have HA14 := Lib.hid (HA13.out.below hb)
              have HC14 := Lib.hid (HC13.out.below hb)
              have HKF14 := Lib.hid (HKF13.out.on hb)
              have HKG14 := Lib.hid (HKG13.out.on hb)
              have HN114 := Lib.hid (HN113.out.on hb)
              have HN214 := Lib.hid (HN213.out.on hb)
              have HKA14 := Lib.hid (HKA13.out.on hb)
              have HKC14 := Lib.hid (HKC13.out.on hb)
              have HB14 := Lib.hid (HB13.out.trans (hb.mono HB13.out.size))
              clear HF13 HG13 HE13 HA13 HC13 HKF13 HKG13 HN113 HN213 HKA13 HKC13 HB13
              clear hb HC2
              go_wp2_with fail
              go_fit (awake_any _)
              rintro e wz ⟨rfl, hbz⟩
              have HBz := Lib.hid (HB14.out.trans (hbz.mono HB14.out.size))
              clear hbz
              go_wp2_with fail
              go_ret
              exact ⟨rfl, HBz.out⟩
          · have b1 : (ckF (notF (andF [f, f2])) != 0) = true := by rw [bne_iff_ne]; exact hca
            go_wp2_with fail
            go_fit HC1.out
            rintro e w13 ⟨rfl, hb⟩
            clear fc0 fc1 fc2 fc3 gc0 gc1 gc2 gc3 ec0 ec1 ec2 ec3 ec4 ec5 ac0 ac1 ac2 ac3 cc0 cc1 cc2 cc3
            have HF13 := Lib.hid (HF12.out.below hb)
            have HG13 := Lib.hid (HG12.out.below hb)
            have HE13 := Lib.hid (HE12.out.below hb)
            have HA13 := Lib.hid (HA12.out.below hb)
            have HC13 := Lib.hid (HC12.out.below hb)
            have HKF13 := Lib.hid (HKF12.out.on hb)
            have HKG13 := Lib.hid (HKG12.out.on hb)
            have HN113 := Lib.hid (HN112.out.on hb)
            have HN213 := Lib.hid (HN212.out.on hb)
            have HKA13 := Lib.hid (HKA12.out.on hb)
            have HKC13 := Lib.hid (HKC12.out.on hb)
            have HB13 := Lib.hid (HB12.out.trans (hb.mono HB12.out.size))
            clear HF12 HG12 HE12 HA12 HC12 HKF12 HKG12 HN112 HN212 HKA12 HKC12 HB12
            clear hb HC1
            go_wp2_with fail
            go_fit (awake_any _)
            rintro e wz ⟨rfl, hbz⟩
            have HBz := Lib.hid (HB13.out.trans (hbz.mono HB13.out.size))
            clear hbz
            go_wp2_with fail
            go_ret
            exact ⟨rfl, HBz.out⟩
end Go.Proofs.Ytfkiemmkflchoaa
