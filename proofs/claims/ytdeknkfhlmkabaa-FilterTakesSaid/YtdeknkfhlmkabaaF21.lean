/-
  Walks: Get; whether two filters are the same.
-/
import Derived.Test.YtdeknkfhlmkabaaF20
import Derived.Test.YtdeknkfhlmkabaaWB
namespace Go.Proofs.Ytdeknkfhlmkabaa
set_option linter.unusedVariables false
set_option linter.unusedSimpArgs false
open Go.RowKit

theorem below_from {B : Nat} {w w1 w2 : World} {rb : Nat} (hb : Below B w w1) (hB : B ≤ rb) (hg : w1.grownBy w2 (some rb)) (hs : B ≤ w1.heap.size) : Below B w w2 :=
  ⟨hg.os.trans hb.os, hg.tape.trans hb.tape, hg.output.trans hb.output, Nat.le_trans hb.size hg.size, fun k hk => (hg.block k (by omega) (by simp; omega)).trans (hb.block k hk)⟩
theorem below_puts {w w1 : World} {o : Nat} (x : Value) (k : Nat) (h : Below w.heap.size w w1) : Below w.heap.size w (w1.setCell ⟨w.heap.size, o, none⟩ x) :=
  ⟨h.os, h.tape, h.output, by have := h.size; simpa [World.setCell] using this, fun j hj => (Below.heap_setCell _ _ _ _ (by simp only; omega)).trans (h.block j hj)⟩
def endI (st : Nat × Int) (n : Nat) : Int := if st.2 ≠ 0 then st.2 else if st.1 < n then 3 else 0
def getOk (xs : List Int) : Bool := goodF xs (0, 0) && decide (endI (tk xs 6 (0, 0) 0).st xs.length = 0)
/-- What Get leaves. -/
def GetP (xs : List Int) (w : World) (e : Ending) (w' : World) : Prop :=
  Below w.heap.size w w' ∧
  ((getOk xs = true ∧ ∃ u, e = .returned (.tuple #[flV (tk xs 6 (0, 0) 0).f u, .int .i64 0]) ∧ KidsIn w' w'.heap.size u (tk xs 6 (0, 0) 0).f.kids) ∨
   (getOk xs = false ∧ e = .returned (.tuple #[flV noF (.slice none 0 0), .int .i64 50])))
set_option maxRecDepth 100000 in
set_option maxHeartbeats 3200000 in
theorem Get_any {w : World} (p : Option Addr) (n c : Nat) (xs : List Int) (hx : xs.length = n) (hb : Lib.BytesIn w p n xs) (hp : p = none → n = 0 ∧ c = 0) (hr : ∀ x ∈ xs, 0 ≤ x ∧ x < 256) (hn : n ≤ 140737488355328) :
    Calls Try.prog 28 #[.slice p n c] w (GetP xs w) := by
  have hb0 := lay_alloc w (.cells #[.int .i64 0, .string ByteArray.empty, .string ByteArray.empty, .slice none 0 0] 24)
  have HB0 := Lib.hid hb0
  have HX0 := Lib.hid (DC.alloc w [.int .i64 0, .string ByteArray.empty, .string ByteArray.empty, .slice none 0 0] 24)
  have HC := Lib.hid (Wi.Read_any2 p n c xs hx (Wi.later hb hb0) hp hr hn)
  have HX := Lib.hid hx
  clear hb hp hr hx hb0
  go_enter Try.func28, Try.ntmps28
  go_wp2_with fail
  go_fit HC.out
  rintro e w1 ⟨rb, g, cap, rfl, hrs, hb1, hle, hlt, hgl⟩
  have HT := Lib.hid (Take_any hrs hgl)
  have HB1 := Lib.hid (HB0.out.trans (hb1.mono HB0.out.size))
  have HS1 : Hid (w.heap.size ≤ w1.heap.size) := HB1.out.size
  have HX1 := Lib.hid (HX0.out.below hb1)
  have hle2 : w.heap.size + 1 ≤ rb := by simpa using hle
  have HGL := Lib.hid hgl
  clear HC hrs hgl hb1 hlt
  go_wp2_with fail
  go_fit HT.out
  rintro e w2 ⟨hg2, hv⟩
  have HB2 := Lib.hid (below_from HB1.out (by omega) hg2 HS1.out)
  have HX2 := Lib.hid (HX1.out.grown hg2 (by omega))
  have HSZ1 : Hid (w1.heap.size ≤ w2.heap.size) := hg2.size
  clear hg2 HT
  have HSZ2 : Hid (w.heap.size + 1 ≤ w2.heap.size) := by show _ ≤ _; have := HX1.out.lt; have := HSZ1.out; omega
  rcases hv with ⟨hgd, u, rfl, hkd, hrs⟩ | ⟨hgd, rfl⟩
  · obtain ⟨ua, uc, rfl, _, _⟩ := hkd.slice
    generalize hr : tk xs 6 (0, 0) 0 = r at *
    have hal := lay_alloc w2 (.cells #[.int .i64 r.f.kind, .string r.f.name, .string r.f.text, .slice ua r.f.kids.length uc] 24)
    have HFB := Lib.hid (DC.alloc w2 [.int .i64 r.f.kind, .string r.f.name, .string r.f.text, .slice ua r.f.kids.length uc] 24)
    have HE := Lib.hid (Wi.End_rs (RS_block hrs (hal.block rb hrs.rbl) (hal.block g (by have := HGL.out; have := HSZ1.out; omega))))
    have hkS := hkd.keep (w' := w2) (S' := fun b => w.heap.size + 1 ≤ b) (Nat.le_refl _) (fun _ _ _ => rfl) (fun b hb _ => by have := HX1.out.lt; omega)
    have HK := Lib.hid (hkS.later hal)
    have HB3 := Lib.hid (HB2.out.trans (hal.mono HB2.out.size))
    have hX3 := HX2.out.below hal
    have x0 := hX3.cells 0 _ rfl
    have x1 := hX3.cells 1 _ rfl
    have x2 := hX3.cells 2 _ rfl
    have x3 := hX3.cells 3 _ rfl
    have v0 := hX3.fz 0
    have v1 := hX3.fz 1
    have v2 := hX3.fz 2
    have v3 := hX3.fz 3
    have f0 := HFB.out.cells 0 _ rfl
    have f1 := HFB.out.cells 1 _ rfl
    have f2 := HFB.out.cells 2 _ rfl
    have f3 := HFB.out.cells 3 _ rfl
    clear hal hkS hX3
    by_cases h0 : endI r.st n = 0
    · have HG : Hid (getOk xs = true) := by show _ = _; unfold getOk; rw [hgd, HX.out, hr, h0]; rfl
      have h0' : (if r.st.2 ≠ 0 then r.st.2 else if r.st.1 < n then 3 else 0 : Int) = 0 := h0
      rw [h0'] at HE
      have HRR := Lib.hid hr
      clear h0 h0' hgd hkd hrs hr
      unfold flV
      go_wp2_with fail
      go_fit HE.out
      rintro e w3 ⟨rfl, q, rfl⟩
      go_wp2_with fail
      (try simp only [Exit.inBlock, Exit.then])
      refine bodyPost_ret (v := .tuple #[flV r.f (.slice ua r.f.kids.length uc), .int .i64 0]) ?_ rfl ⟨below_puts _ 0 (below_puts _ 0 (below_puts _ 0 (below_puts _ 0 (below_drewN HB3.out q)))), .inl ⟨HG.out, .slice ua r.f.kids.length uc, by rw [HRR.out], ?_⟩⟩
      rotate_left
      · rw [HRR.out]; exact (kidsS_put _ _ (kidsS_put _ _ (kidsS_put _ _ (kidsS_put _ _ (HK.out.later (below_drewN (Below.refl _ _) q)))))).told
      rw [results_cell_tmp rfl]
      go_simp
      rfl
    · have HG : Hid (getOk xs = false) := by show _ = _; unfold getOk; rw [hgd, HX.out, hr, decide_eq_false h0]; rfl
      have h0' : ¬ (if r.st.2 ≠ 0 then r.st.2 else if r.st.1 < n then 3 else 0 : Int) = 0 := h0
      generalize (if r.st.2 ≠ 0 then r.st.2 else if r.st.1 < n then 3 else 0 : Int) = E at HE h0'
      have hz : (E != 0) = true := by simpa using h0'
      have hz2 : (E == 0) = false := by simpa using h0'
      clear h0 h0' hgd hkd hrs hr
      unfold flV
      go_wp2_with fail
      go_fit HE.out
      rintro e w3 ⟨rfl, q, rfl⟩
      go_wp2_with fail
      (try simp only [Exit.inBlock, Exit.then])
      refine bodyPost_ret (v := .tuple #[flV noF (.slice none 0 0), .int .i64 50]) ?_ rfl ⟨below_puts _ 0 (below_puts _ 0 (below_puts _ 0 (below_puts _ 0 (below_drewN HB3.out q)))), .inr ⟨HG.out, rfl⟩⟩
      rw [results_cell_tmp rfl]
      go_simp
      rfl
  · have HG : Hid (getOk xs = false) := by show _ = _; unfold getOk; rw [hgd]; rfl
    have hal := lay_alloc w2 (.cells #[.int .i64 noF.kind, .string noF.name, .string noF.text, .slice none 0 0] 24)
    have HB3 := Lib.hid (HB2.out.trans (hal.mono HB2.out.size))
    have hX3 := HX2.out.below hal
    have x0 := hX3.cells 0 _ rfl
    have x1 := hX3.cells 1 _ rfl
    have x2 := hX3.cells 2 _ rfl
    have x3 := hX3.cells 3 _ rfl
    have v0 := hX3.fz 0
    have v1 := hX3.fz 1
    have v2 := hX3.fz 2
    have v3 := hX3.fz 3
    clear hgd hX3 hal
    unfold flV
    go_wp2_with fail
    (try simp only [Exit.inBlock, Exit.then])
    refine bodyPost_ret (v := .tuple #[flV noF (.slice none 0 0), .int .i64 50]) ?_ rfl ⟨below_puts _ 0 (below_puts _ 0 (below_puts _ 0 (below_puts _ 0 HB3.out))), .inr ⟨HG.out, rfl⟩⟩
    rw [results_cell_tmp rfl]
    go_simp
    rfl

end Go.Proofs.Ytdeknkfhlmkabaa
