/-
  The example walked.
-/
import Derived.Test.YtdgnjalbpiciiaaSt
namespace Go.Proofs.Ytdgnjalbpiciiaa
set_option linter.unusedVariables false
set_option linter.unusedSimpArgs false
open Go.RowKit Go.Shelf

theorem block_in {α : Type} (I : Lay α) (w : World) (l : List α) (cs : Array Value) (E : TypeId) (n : Nat) (h : cs = (I.all l).toArray) (hn : n = l.length) (hl : n ≤ 1000000) : I.In (w.alloc (.cells cs E)) (.slice (some ⟨w.heap.size, 0, none⟩) n n) l := by
  subst hn
  refine Lay.in_own (B := 0) (E := E) (n := l.length) ?_ rfl
  have := World.ownsRow_lit (base := 0) (e := E) (size := I.sz) w cs l.length (Nat.zero_le _) (by unfold maxLen; omega) (by rw [h]; simp [Lay.all_len])
  rw [h] at this ⊢
  simpa using this

set_option maxRecDepth 100000 in
set_option maxHeartbeats 6400000 in
theorem awake_any (w : World) : Calls Try.prog 13 #[] w fun e w' => e = .returned (.bool true) ∧ Below w.heap.size w w' := by
  go_enter Try.func13, Try.ntmps13
  go_wp2_with fail
  go_fit (St.new (w := w))
  rintro e w1 ⟨rfl, h1⟩
  have H1 := Lib.hid (h1.add kg 4 1 0 (by decide))
  rw [aw1] at H1
  unfold kg at H1
  clear h1
  go_wp2_with fail
  go_fit H1.out
  rintro e w2 ⟨rfl, L2, h2, _⟩
  have H2 := Lib.hid (h2.join kg)
  rw [aw2] at H2
  unfold kg at H2
  clear h2 H1
  go_wp2_with fail
  go_fit H2.out
  rintro e w3 ⟨rfl, L3, h3, _⟩
  have H3 := Lib.hid (h3.join kg)
  rw [aw3] at H3
  unfold kg at H3
  clear h3 H2
  go_wp2_with fail
  go_fit H3.out
  rintro e w4 ⟨rfl, L4, h4, _⟩
  have H4 := Lib.hid (h4.get kg)
  have S4 := Lib.hid h4
  unfold GetP at H4
  rw [aw4] at H4
  unfold A2 at H4
  unfold kg at H4
  clear h4 H3
  go_wp2_with fail
  go_fit H4.out
  rintro e w5 ⟨u5, v5, t5, rfl, hu5, hv5, ht5⟩
  have S5 := Lib.hid (S4.out.below hv5.grown)
  have V5 := Lib.hid hv5.own'
  obtain ⟨ua, uc, rfl, _, _⟩ := hu5.slice
  obtain ⟨va, vc, rfl, _, _⟩ := hv5.slice
  obtain ⟨ta, tc, rfl, _, _⟩ := ht5.slice
  have N5 := Lib.hid S4.out.gk.llt
  clear H4 S4 hu5 hv5 ht5
  go_wp2_with fail
  have D5 := Lib.hid (DC.alloc w5 [.string ⟨#[103]⟩, .int .i64 1, .int .i64 2, .int .i64 3, .slice ua 2 uc, .slice va 4 vc, .slice ta 4 tc] 45)
  have hb5 := below_alloc w5 (.cells #[.string ⟨#[103]⟩, .int .i64 1, .int .i64 2, .int .i64 3, .slice ua 2 uc, .slice va 4 vc, .slice ta 4 tc] 45)
  have S6 := S5.out.below hb5
  have V6 : Hid (∃ s : Sl, Value.slice va 4 vc = s.v ∧ Own intL 3 (w5.alloc (.cells #[.string ⟨#[103]⟩, .int .i64 1, .int .i64 2, .int .i64 3, .slice ua 2 uc, .slice va 4 vc, .slice ta 4 tc] 45)) s [1, 1, 2, 2] ∧ ∀ k ∈ blk s, w4.heap.size ≤ k) := by
    obtain ⟨s, h1, h2, h3, _⟩ := V5.out
    exact ⟨s, h1, h2.kept fun k hk => hb5.block k (h2.lt k hk), h3⟩
  have N6 : Hid (w5.heap.size ∉ L4) := fun hm => by have := S5.out.gk.llt _ hm; omega
  generalize w5.alloc _ = w6 at *
  have H6 := Lib.hid (S6.com kg 1 1 0 5)
  rw [aw5] at H6
  unfold kg at H6
  clear S5 V5 hb5 S6
  go_fit H6.out
  rintro e w7 ⟨rfl, L7, h7, x7⟩
  have X7 := Lib.hid x7
  have H7 := Lib.hid (h7.com kg 1 2 0 5)
  rw [aw6] at H7
  unfold kg at H7
  clear h7 H6 x7
  go_wp2_with fail
  go_fit H7.out
  rintro e w8 ⟨rfl, L8, h8, x8⟩
  have X8 := Lib.hid (X7.out.trans x8)
  have H8 := Lib.hid (h8.lows kg)
  rw [aw7] at H8
  unfold kg at H8
  have S8 := Lib.hid h8
  clear h8 H7 X7 x8
  go_wp2_with fail
  go_fit H8.out
  rintro e w9 ⟨rfl, hb9⟩
  have h9 := S8.out.below hb9
  have X9 := Lib.hid (X8.out.trans (Ext.of_below (L := L8) hb9))
  have H9 := Lib.hid (h9.leave kg 1)
  rw [aw8] at H9
  unfold kg at H9
  clear h9 hb9 H8 S8 X8
  go_wp2_with fail
  go_fit H9.out
  rintro e w10 ⟨rfl, L10, h10, x10⟩
  have X10 := Lib.hid (X9.out.trans x10)
  have H10 := Lib.hid (h10.get kg)
  have S10 := Lib.hid h10
  unfold GetP at H10
  rw [aw9] at H10
  unfold A4 at H10
  unfold kg at H10
  clear h10 H9 x10 X9
  go_wp2_with fail
  go_fit H10.out
  rintro e w11 ⟨x11, y11, z11, rfl, hx11, hy11, hz11⟩
  have S11 := S10.out.below hy11.grown
  have X11 := X10.out.trans (Ext.of_below (L := L10) hy11.grown)
  have Y11 := hy11.told
  have D11 := D5.out.ext X11 N6.out
  have V11 : intL.In w11 (.slice va 4 vc) [1, 1, 2, 2] := by
    obtain ⟨s, h1, h2, h3⟩ := V6.out
    rw [h1]
    exact (h2.ext X11 fun k hk hm => by have := N5.out k hm; have := h3 k hk; omega).told
  obtain ⟨xa, xc, rfl, _, _⟩ := hx11.slice
  obtain ⟨ya, yc, rfl, _, _⟩ := hy11.slice
  obtain ⟨za, zc, rfl, _, _⟩ := hz11.slice
  have HB11 := Lib.hid S11.bel
  have hb12 := below_alloc w11 (.cells #[.string ⟨#[103]⟩, .int .i64 1, .int .i64 3, .int .i64 3, .slice xa 1 xc, .slice ya 4 yc, .slice za 4 zc] 45)
  have HB12 := Lib.hid (S11.bel.trans (hb12.mono S11.bel.size))
  have D12 := D11.below hb12
  have E12 := DC.alloc w11 [.string ⟨#[103]⟩, .int .i64 1, .int .i64 3, .int .i64 3, .slice xa 1 xc, .slice ya 4 yc, .slice za 4 zc] 45
  have V12 := Lib.hid (V11.later hb12)
  have Y12 := Lib.hid (Y11.later hb12)
  have d2 := D12.cells 2 _ rfl
  have d5 := D12.cells 5 _ rfl
  have e5 := E12.cells 5 _ rfl
  have DD := Lib.hid D12
  have EE := Lib.hid E12
  clear H10 S10 hx11 hy11 hz11 hb12 D12 E12 S11 X11 D11 V11 Y11 D5 V6 N6 N5 HB11 X10
  go_wp2_with fail
  have hz : (w11.alloc (.cells #[.string ⟨#[103]⟩, .int .i64 1, .int .i64 3, .int .i64 3, .slice xa 1 xc, .slice ya 4 yc, .slice za 4 zc] 45)).heap.size = w11.heap.size + 1 := by simp
  clear d2 d5 e5
  generalize w11.alloc _ = w12 at *
  have b13 := below_alloc w12 (.cells #[.int .i64 1, .int .i64 1, .int .i64 2, .int .i64 2] 3)
  have r13 := block_in intL w12 [1, 1, 2, 2] #[.int .i64 1, .int .i64 1, .int .i64 2, .int .i64 2] 3 4 rfl rfl (by decide)
  rw [hz] at r13
  have HQ := Lib.hid (Equal_any (V12.out.later b13) r13)
  have HB13 := Lib.hid (HB12.out.trans (b13.mono HB12.out.size))
  have EE13 := Lib.hid (EE.out.below b13)
  have Y13 := Lib.hid (Y12.out.later b13)
  clear r13 b13 hz HB12 V12 Y12 EE DD
  generalize w12.alloc _ = w13 at *
  go_fit HQ.out
  rintro e w14 ⟨rfl, q, rfl⟩
  have e5 := EE13.out.cells 5 _ rfl
  have b14 := below_alloc (w13.drewN q) (.cells #[.int .i64 2, .int .i64 2, .int .i64 2, .int .i64 2] 3)
  have r14 := block_in intL (w13.drewN q) [2, 2, 2, 2] #[.int .i64 2, .int .i64 2, .int .i64 2, .int .i64 2] 3 4 rfl rfl (by decide)
  have HQ2 := Lib.hid (Equal_any ((Y13.out.drewN q).later b14) r14)
  have HB14 : Hid (Below w.heap.size w ((w13.drewN q).alloc (.cells #[.int .i64 2, .int .i64 2, .int .i64 2, .int .i64 2] 3))) := by
    have h := below_drewN HB13.out q
    exact h.trans (b14.mono h.size)
  clear HQ b14 r14 Y13 HB13
  go_wp2_with fail
  go_fit HQ2.out
  rintro e w15 ⟨rfl, hd⟩
  have HF := hd.below HB14.out
  clear HQ2
  go_wp2_with fail
  go_ret
  exact ⟨rfl, HF⟩
end Go.Proofs.Ytdgnjalbpiciiaa
