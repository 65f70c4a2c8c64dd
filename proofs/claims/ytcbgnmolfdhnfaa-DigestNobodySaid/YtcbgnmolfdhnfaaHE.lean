/-
  The example walked.
-/
import Derived.Test.YtcbgnmolfdhnfaaHD
namespace Go.Proofs.Ytcbgnmolfdhnfaa
set_option linter.unusedVariables false
set_option linter.unusedSimpArgs false
open Go.RowKit Go.Joins

theorem ex_in (w : World) : Lib.BytesIn (w.alloc (.cells #[.int .u8 0, .int .u8 1, .int .u8 2, .int .u8 3, .int .u8 4, .int .u8 5, .int .u8 6, .int .u8 7, .int .u8 8, .int .u8 9, .int .u8 10, .int .u8 11, .int .u8 12, .int .u8 13, .int .u8 14] 5)) (some ⟨w.heap.size, 0, none⟩) 15 [0, 1, 2, 3, 4, 5, 6, 7, 8, 9, 10, 11, 12, 13, 14] := by
  intro _
  refine ⟨_, _, rfl, fun i hi => ?_⟩
  rw [Nat.zero_add]
  have h := cell_of_block (w := w.alloc (.cells #[.int .u8 0, .int .u8 1, .int .u8 2, .int .u8 3, .int .u8 4, .int .u8 5, .int .u8 6, .int .u8 7, .int .u8 8, .int .u8 9, .int .u8 10, .int .u8 11, .int .u8 12, .int .u8 13, .int .u8 14] 5)) (Go.heap_alloc_new w _) i
  rw [h]
  rcases i with _|_|_|_|_|_|_|_|_|_|_|_|_|_|_|i
  all_goals first | rfl | (exfalso; omega)
theorem ex_oct : Oct [0, 1, 2, 3, 4, 5, 6, 7, 8, 9, 10, 11, 12, 13, 14] := by
  intro x hx
  simp only [List.mem_cons, List.not_mem_nil, or_false] at hx
  omega
theorem ex_slim : Slim [(exK, exV)] := by
  intro p hp
  obtain rfl : p = (exK, exV) := by simpa using hp
  exact ⟨by decide, by decide⟩

set_option maxRecDepth 100000 in
set_option maxHeartbeats 6400000 in
theorem awake_any (w : World) : Calls Try.prog 11 #[] w fun e w' => e = .returned (.bool true) ∧ Below w.heap.size w w' := by
  have HI := Lib.hid (ex_in w)
  have HB1 := Lib.hid (below_alloc w (.cells #[.int .u8 0, .int .u8 1, .int .u8 2, .int .u8 3, .int .u8 4, .int .u8 5, .int .u8 6, .int .u8 7, .int .u8 8, .int .u8 9, .int .u8 10, .int .u8 11, .int .u8 12, .int .u8 13, .int .u8 14] 5))
  go_enter Try.func11, Try.ntmps11
  go_upto_region 2 with fail
  generalize w.alloc (.cells #[.int .u8 0, .int .u8 1, .int .u8 2, .int .u8 3, .int .u8 4, .int .u8 5, .int .u8 6, .int .u8 7, .int .u8 8, .int .u8 9, .int .u8 10, .int .u8 11, .int .u8 12, .int .u8 13, .int .u8 14] 5) = w1 at *
  go_wp2_with fail
  go_fit (seed_any w1)
  rintro e w2 ⟨rfl, hb2⟩
  have HB2 : Hid (Below w.heap.size w w2) := Lib.hid (HB1.out.trans (hb2.mono HB1.out.size))
  have HI2 := Lib.hid (in_later HI.out hb2)
  have HL : Hid (prL.In (w2.alloc (.cells #[.string ⟨#[97]⟩, .string ⟨#[49]⟩] 27)) (.slice (some ⟨w2.heap.size, 0, none⟩) 1 1) [(exK, exV)]) := by
    refine Lib.hid ⟨_, 1, rfl, Nat.le_refl _, by decide, .inr ⟨w2.heap.size, 0, rfl, by simp, fun i x hx j v hv => ?_⟩⟩
    rcases i with _ | i
    · cases hx
      rcases j with _ | _ | j
      · cases hv; go_simp; rfl
      · cases hv; go_simp; rfl
      · simp [prL] at hv
    · simp at hx
  have HB3 : Hid (Below w.heap.size w (w2.alloc (.cells #[.string ⟨#[97]⟩, .string ⟨#[49]⟩] 27))) := Lib.hid (HB2.out.alloc HB2.out.size _)
  have HI3 := Lib.hid (in_later HI2.out (below_alloc w2 (.cells #[.string ⟨#[97]⟩, .string ⟨#[49]⟩] 27)))
  have HOf := Lib.hid (Of_any exS_ok (build_any exS_ok 4 (by decide)) HL.out (by decide) ex_slim)
  rw [ex_place] at HOf
  clear hb2 HB2 HI2 HL HI HB1
  go_wp2_with fail
  go_fit HOf.out
  rintro e w3 ⟨ta, rfl, hta, hb3⟩
  have HT3 := Lib.hid hta
  have HB3' : Hid (Below w.heap.size w w3) := Lib.hid (HB3.out.trans (hb3.mono HB3.out.size))
  have HI4 := Lib.hid (in_later HI3.out hb3)
  clear hta hb3 HOf HB3 HI3
  go_wp2_with fail
  go_fit (seed_any w3)
  rintro e w4 ⟨rfl, hb4⟩
  have HT4 := Lib.hid (HT3.out.later hb4)
  have HB4 : Hid (Below w.heap.size w w4) := Lib.hid (HB3'.out.trans (hb4.mono HB3'.out.size))
  have HI5 := Lib.hid (in_later HI4.out hb4)
  clear hb4 HT3 HB3' HI4
  have HOf2 := Lib.hid (Of_any (w := w4) exS_ok (build_any exS_ok 4 (by decide)) (Lay.In.nil (I := prL) w4) (by decide) (fun p hp => by simp at hp))
  rw [ex_place0] at HOf2
  go_wp2_with fail
  go_fit HOf2.out
  rintro e w5 ⟨tb, rfl, htb, hb5⟩
  have HT5 := Lib.hid (HT4.out.later hb5)
  have HTb := Lib.hid htb
  have HB5 : Hid (Below w.heap.size w w5) := Lib.hid (HB4.out.trans (hb5.mono HB4.out.size))
  have HI6 := Lib.hid (in_later HI5.out hb5)
  have HU := Lib.hid (Unlike_one HT5.out htb (by decide) ex_uk)
  clear hb5 htb HT4 HB4 HI5 HOf2
  go_wp2_with fail
  go_fit HU.out
  rintro e w6 ⟨g, c, dg, pr, rfl, hg, hc, hb6⟩
  have HT6 := Lib.hid ((HT5.out.later hb6).later (below_alloc w6 (.cells #[.int .i64 dg, .int .i64 pr] 51)))
  have HB6 : Hid (Below w.heap.size w (w6.alloc (.cells #[.int .i64 dg, .int .i64 pr] 51))) := Lib.hid ((HB5.out.trans (hb6.mono HB5.out.size)).alloc (Nat.le_trans HB5.out.size hb6.size) _)
  have HI7 := Lib.hid (in_later (in_later HI6.out hb6) (below_alloc w6 (.cells #[.int .i64 dg, .int .i64 pr] 51)))
  have HG := Lib.hid (cell_later (below_alloc w6 (.cells #[.int .i64 dg, .int .i64 pr] 51)) hg)
  clear hg hb6 HU HT5 HTb HB5 HI6
  go_upto_region 4 with fail
  generalize w6.alloc (.cells #[.int .i64 dg, .int .i64 pr] 51) = w7 at *
  go_wp2_with fail
  go_fit (seed_any w7)
  rintro e w8 ⟨rfl, hb8⟩
  have HT8 := Lib.hid (HT6.out.later hb8)
  have HB8 : Hid (Below w.heap.size w w8) := Lib.hid (HB6.out.trans (hb8.mono HB6.out.size))
  have HG8 := Lib.hid (cell_later hb8 HG.out)
  have HSu := Lib.hid (Sum_any (c := 15) exS_ok.1 exS_ok.2 (in_later HI7.out hb8) rfl ex_oct (Nat.le_refl _) (by decide))
  rw [ex_bytes] at HSu
  clear hb8 HT6 HB6 HG HI7
  go_wp2_with fail
  go_fit HSu.out
  rintro e w9 ⟨rfl, hb9⟩
  have HT9 := Lib.hid (HT8.out.later hb9)
  have HB9 : Hid (Below w.heap.size w w9) := Lib.hid (HB8.out.trans (hb9.mono HB8.out.size))
  have HG9 := Lib.hid (cell_later hb9 HG8.out)
  have HRt := Lib.hid (Root_any HT9.out)
  rw [ex_t4] at HRt
  clear hb9 HT8 HB8 HG8 HSu
  go_wp2_with fail
  go_fit HRt.out
  rintro e w' ⟨rfl, rfl⟩
  go_wp2_with fail
  go_fit (Len_any HT9.out)
  rintro e w' ⟨rfl, rfl⟩
  have HE : Hid (Calls Try.prog 28 #[.slice (some ⟨g, 0, none⟩) 1 c, .slice (some ⟨w9.heap.size, 0, none⟩) 1 1] (w9.alloc (.cells #[.string ⟨#[97]⟩] 9)) fun e w' => e = .returned (.bool true) ∧ ∃ q, w' = (w9.alloc (.cells #[.string ⟨#[97]⟩] 9)).drewN q) := by
    have hg := cell_later (below_alloc w9 (.cells #[.string ⟨#[97]⟩] 9)) HG9.out
    have h := Try.slices_Equal_string g 0 1 c w9.heap.size 0 1 1 [exK] [exK] (w9.alloc (.cells #[.string ⟨#[97]⟩] 9)) (by decide) (by decide) (by decide) (by decide) (fun j hj => by
      obtain rfl : j = 0 := by simp at hj; omega
      exact hg) (fun j hj => by
      obtain rfl : j = 0 := by simp at hj; omega
      go_simp; rfl)
    exact Lib.hid (h.mono fun e w' hh => ⟨by rw [hh.1]; rfl, hh.2⟩)
  have HBe : Hid (Below w.heap.size w (w9.alloc (.cells #[.string ⟨#[97]⟩] 9))) := Lib.hid (HB9.out.alloc HB9.out.size _)
  clear HT9 HG9 HRt HB9
  go_wp2_with fail
  go_fit HE.out
  rintro e w10 ⟨rfl, q, rfl⟩
  go_wp2_with fail
  go_ret
  exact ⟨rfl, below_drewN HBe.out q⟩
end Go.Proofs.Ytcbgnmolfdhnfaa
