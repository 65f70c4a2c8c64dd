/-
  The document's Get. (Written by genf29.py.)
-/
import Derived.Test.YtdeknkfhlmkabaaF28
namespace Go.Proofs.Ytdeknkfhlmkabaa
set_option linter.unusedVariables false
set_option linter.unusedSimpArgs false
open Go.RowKit

set_option maxRecDepth 100000 in
set_option maxHeartbeats 3200000 in
theorem rGet_any {w : World} (p : Option Addr) (n c : Nat) (xs : List Int) (hx : xs.length = n) (hb : Lib.BytesIn w p n xs) (hp : p = none → n = 0 ∧ c = 0) (hpb : ∀ ad, p = some ad → ad.block < w.heap.size) (hr : ∀ x ∈ xs, 0 ≤ x ∧ x < 256) (hnc : n ≤ c) (hn : n ≤ 140737488355328) :
    Calls Try.prog 29 #[.slice p n c] w (GetP xs w) := by
  have hb0 := lay_alloc w (.cells #[.int .i64 0, .string ByteArray.empty, .string ByteArray.empty, .slice none 0 0] 24)
  have hb1 := lay_alloc (w.alloc (.cells #[.int .i64 0, .string ByteArray.empty, .string ByteArray.empty, .slice none 0 0] 24)) (.cells #[.slice p n c, .int .i64 0, .int .i64 0] 52)
  have e1 : (w.alloc (.cells #[.int .i64 0, .string ByteArray.empty, .string ByteArray.empty, .slice none 0 0] 24)).heap.size = w.heap.size + 1 := by simp
  have HX1 := Lib.hid ((DC.alloc w [.int .i64 0, .string ByteArray.empty, .string ByteArray.empty, .slice none 0 0] 24).below hb1)
  have hd := DC.alloc (w.alloc (.cells #[.int .i64 0, .string ByteArray.empty, .string ByteArray.empty, .slice none 0 0] 24)) [.slice p n c, .int .i64 0, .int .i64 0] 52
  rw [e1] at hd
  have HB1 := Lib.hid (hb0.trans (hb1.mono hb0.size))
  have hpb1 : ∀ ad, p = some ad → ad.block ≠ w.heap.size + 1 := fun ad h => by have := hpb ad h; omega
  have HXS : Hid (Wi.XS ((w.alloc (.cells #[.int .i64 0, .string ByteArray.empty, .string ByteArray.empty, .slice none 0 0] 24)).alloc (.cells #[.slice p n c, .int .i64 0, .int .i64 0] 52)) (w.heap.size + 1) p n c xs 0 0) := ⟨hd.cells 0 _ rfl, hd.cells 1 _ rfl, hd.cells 2 _ rfl, hd.fz 1, hd.fz 2, Wi.later hb HB1.out, hx, hnc, Nat.zero_le _, hp, hpb1, hr, hn⟩
  have HT := Lib.hid (rTake_any HXS.out)
  have HX := Lib.hid hx
  have HSW : Hid (((w.alloc (.cells #[.int .i64 0, .string ByteArray.empty, .string ByteArray.empty, .slice none 0 0] 24)).alloc (.cells #[.slice p n c, .int .i64 0, .int .i64 0] 52)).heap.size = w.heap.size + 2) := by show _ = _; simp
  have HS1 : Hid (w.heap.size ≤ ((w.alloc (.cells #[.int .i64 0, .string ByteArray.empty, .string ByteArray.empty, .slice none 0 0] 24)).alloc (.cells #[.slice p n c, .int .i64 0, .int .i64 0] 52)).heap.size) := HB1.out.size
  clear hb hp hr hx hb0 hb1 e1 hd hpb1 hpb
  go_enter Try.func29, Try.ntmps29
  go_wp2_with fail
  go_fit HT.out
  rintro e w2 ⟨hg2, hv⟩
  generalize (w.alloc _).alloc _ = w1 at *
  have HB2 := Lib.hid (below_from HB1.out (by omega) hg2 HS1.out)
  have HX2 := Lib.hid (HX1.out.grown hg2 (by omega))
  have HSZ1 : Hid (w1.heap.size ≤ w2.heap.size) := hg2.size
  clear hg2 HT
  have HSZ2 : Hid (w.heap.size + 1 ≤ w2.heap.size) := by show _ ≤ _; have := HSW.out; have := HSZ1.out; omega
  rcases hv with ⟨hgd, u, rfl, hkd, hrs⟩ | ⟨hgd, rfl⟩
  · obtain ⟨ua, uc, rfl, _, _⟩ := hkd.slice
    generalize hr : tk xs 6 (0, 0) 0 = r at *
    have hal := lay_alloc w2 (.cells #[.int .i64 r.f.kind, .string r.f.name, .string r.f.text, .slice ua r.f.kids.length uc] 24)
    have HFB := Lib.hid (DC.alloc w2 [.int .i64 r.f.kind, .string r.f.name, .string r.f.text, .slice ua r.f.kids.length uc] 24)
    have HE := Lib.hid (Wi.XEnd (XS_below hrs hal))
    have hkS := hkd.keep (w' := w2) (S' := fun b => w.heap.size + 1 ≤ b) (Nat.le_refl _) (fun _ _ _ => rfl) (fun b hb _ => by have := HSW.out; omega)
    have HK := Lib.hid (hkS.later hal)
    have HB3 := Lib.hid (HB2.out.trans (hal.mono HB2.out.size))
    have hX3 := HX2.out.below hal
    have x0 := hX3.cells 0 _ rfl
    have x1 := hX3.cells 1 _ rfl
    have x2 := hX3.cells 2 _ rfl
    have x3 := hX3.cells 3 _ rfl
    have v0 := hX3.fz 0
    have v1 := hX3.fz 1
    have v2 := hX3.fz 2
    have v3 := hX3.fz 3
    have f0 := HFB.out.cells 0 _ rfl
    have f1 := HFB.out.cells 1 _ rfl
    have f2 := HFB.out.cells 2 _ rfl
    have f3 := HFB.out.cells 3 _ rfl
    clear hal hkS hX3
    by_cases h0 : endI r.st n = 0
    · have HG : Hid (getOk xs = true) := by show _ = _; unfold getOk; rw [hgd, HX.out, hr, h0]; rfl
      have h0' : (if r.st.2 ≠ 0 then r.st.2 else if r.st.1 < n then 3 else 0 : Int) = 0 := h0
      rw [h0'] at HE
      have HRR := Lib.hid hr
      clear h0 h0' hgd hkd hrs hr
      unfold flV
      go_wp2_with fail
      go_fit HE.out
      rintro e w3 ⟨rfl, q, rfl⟩
      go_wp2_with fail
      (try simp only [Exit.inBlock, Exit.then])
      refine bodyPost_ret (v := .tuple #[flV r.f (.slice ua r.f.kids.length uc), .int .i64 0]) ?_ rfl ⟨below_puts _ 0 (below_puts _ 0 (below_puts _ 0 (below_puts _ 0 (below_drewN HB3.out q)))), .inl ⟨HG.out, .slice ua r.f.kids.length uc, by rw [HRR.out], ?_⟩⟩
      rotate_left
      · rw [HRR.out]; exact (kidsS_put _ _ (kidsS_put _ _ (kidsS_put _ _ (kidsS_put _ _ (HK.out.later (below_drewN (Below.refl _ _) q)))))).told
      rw [results_cell_tmp rfl]
      go_simp
      rfl
    · have HG : Hid (getOk xs = false) := by show _ = _; unfold getOk; rw [hgd, HX.out, hr, decide_eq_false h0]; rfl
      have h0' : ¬ (if r.st.2 ≠ 0 then r.st.2 else if r.st.1 < n then 3 else 0 : Int) = 0 := h0
      generalize (if r.st.2 ≠ 0 then r.st.2 else if r.st.1 < n then 3 else 0 : Int) = E at HE h0'
      have hz : (E != 0) = true := by simpa using h0'
      have hz2 : (E == 0) = false := by simpa using h0'
      clear h0 h0' hgd hkd hrs hr
      unfold flV
      go_wp2_with fail
      go_fit HE.out
      rintro e w3 ⟨rfl, q, rfl⟩
      go_wp2_with fail
      (try simp only [Exit.inBlock, Exit.then])
      refine bodyPost_ret (v := .tuple #[flV noF (.slice none 0 0), .int .i64 50]) ?_ rfl ⟨below_puts _ 0 (below_puts _ 0 (below_puts _ 0 (below_puts _ 0 (below_drewN HB3.out q)))), .inr ⟨HG.out, rfl⟩⟩
      rw [results_cell_tmp rfl]
      go_simp
      rfl
  · have HG : Hid (getOk xs = false) := by show _ = _; unfold getOk; rw [hgd]; rfl
    have hal := lay_alloc w2 (.cells #[.int .i64 noF.kind, .string noF.name, .string noF.text, .slice none 0 0] 24)
    have HB3 := Lib.hid (HB2.out.trans (hal.mono HB2.out.size))
    have hX3 := HX2.out.below hal
    have x0 := hX3.cells 0 _ rfl
    have x1 := hX3.cells 1 _ rfl
    have x2 := hX3.cells 2 _ rfl
    have x3 := hX3.cells 3 _ rfl
    have v0 := hX3.fz 0
    have v1 := hX3.fz 1
    have v2 := hX3.fz 2
    have v3 := hX3.fz 3
    clear hgd hX3 hal
    unfold flV
    go_wp2_with fail
    (try simp only [Exit.inBlock, Exit.then])
    refine bodyPost_ret (v := .tuple #[flV noF (.slice none 0 0), .int .i64 50]) ?_ rfl ⟨below_puts _ 0 (below_puts _ 0 (below_puts _ 0 (below_puts _ 0 HB3.out))), .inr ⟨HG.out, rfl⟩⟩
    rw [results_cell_tmp rfl]
    go_simp
    rfl

end Go.Proofs.Ytdeknkfhlmkabaa
