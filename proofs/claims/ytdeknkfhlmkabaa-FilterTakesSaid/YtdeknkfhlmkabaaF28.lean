/-
  The document's Take. (Written by genf28.py.)
-/
import Derived.Test.YtdeknkfhlmkabaaF26
import Derived.Test.YtdeknkfhlmkabaaF27
import Derived.Test.YtdeknkfhlmkabaaF16
namespace Go.Proofs.Ytdeknkfhlmkabaa
set_option linter.unusedVariables false
set_option linter.unusedSimpArgs false
open Go.RowKit

theorem rds_all {F : Nat × Int → Rd} {P : Fl → Prop} (h : ∀ st, P (F st).f) (st : Nat × Int) : ∀ N, ∀ k ∈ (rds F N st).1, P k
  | 0 => by intro k hk; simp [rds] at hk
  | N + 1 => by
    intro k hk
    simp only [rds] at hk
    split at hk
    · simp only [List.mem_append, List.mem_cons, List.not_mem_nil, or_false] at hk
      rcases hk with hk | rfl
      · exact rds_all h st N k hk
      · exact h _
    · exact rds_all h st N k hk
theorem rd_light (xs : List Int) : ∀ (m : Nat) (st : Nat × Int), Light (rdF xs m st).f
  | 0, st => by
    refine .mk _ ?_ ?_ ?_ ?_
    · have := tx_size xs 192 (rd1 xs st).2
      simp only [rdF, Fl.name, rd2]; omega
    · have := tx_size xs 192 (rd2 xs st).2
      simp only [rdF, Fl.text, rd3]; omega
    · simp [rdF, Fl.kids]
    · intro k hk; simp [rdF, Fl.kids] at hk
  | m + 1, st => by
    refine .mk _ ?_ ?_ ?_ ?_
    · have := tx_size xs 192 (rd1 xs st).2
      simp only [rdF, Fl.name, rd2]; omega
    · have := tx_size xs 192 (rd2 xs st).2
      simp only [rdF, Fl.text, rd3]; omega
    · have h1 := rds_len (F := rdF xs m) (st := (wnF xs (rd3 xs st).2).2) (wnF xs (rd3 xs st).2).1
      have h2 := wn_le xs (rd3 xs st).2
      simp only [rdF, Fl.kids]; omega
    · intro k hk
      simp only [rdF, Fl.kids] at hk
      exact rds_all (fun s => rd_light xs m s) _ _ k hk
theorem flB_pos (f : Fl) : 0 < (flB 6 f).length := by
  simp only [flB, headB, List.length_append, Wi.num, List.length_cons]
  omega
theorem bytes_own {w : World} {B g n c : Nat} {xs : List Int} (h : w.ownsRow B 5 1 (.slice (some ⟨g, 0, none⟩) n c) n (u8v xs)) : xs.length = n ∧ Lib.BytesIn w (some ⟨g, 0, none⟩) n xs := by
  have hl : xs.length = n := by have := h.1; simpa [u8v] using this
  refine ⟨hl, fun _ => ⟨g, 0, rfl, fun j hj => ?_⟩⟩
  have hx : (u8v xs)[j]? = some (.int .u8 (xs.getD j 0)) := by
    unfold u8v
    rw [List.getElem?_map, List.getElem?_eq_getElem (by omega), List.getD_eq_getElem?_getD, List.getElem?_eq_getElem (by omega)]
    rfl
  have := h.cells (g := g) rfl _ _ hx
  rw [lay_add] at this
  exact this
theorem in_sub {w : World} {b o n : Nat} {xs : List Int} (h : Lib.BytesIn w (some ⟨b, o, none⟩) n xs) (i k : Nat) (hk : i + k ≤ n) (h0 : 0 < k) : Lib.BytesIn w (some ⟨b, o + i, none⟩) k ((xs.drop i).take k) := by
  intro _
  obtain ⟨b', o', hbo, hc⟩ := h (by omega)
  cases hbo
  refine ⟨b, o + i, rfl, fun j hj => ?_⟩
  have := hc (i + j) (by omega)
  rw [show o + i + j = o + (i + j) by omega, this, List.getD_eq_getElem?_getD, List.getD_eq_getElem?_getD, List.getElem?_take, if_pos hj, List.getElem?_drop]
/-- What the document's Take leaves. -/
def rTakeP (xs : List Int) (st : Nat × Int) (xb : Nat) (p : Option Addr) (n c : Nat) (w : World) (e : Ending) (w' : World) : Prop :=
  w.grownBy w' (some xb) ∧
  ((goodF xs st = true ∧ ∃ u, e = .returned (.tuple #[flV (tk xs 6 st 0).f u, .bool true]) ∧ KidsS w' (fun b => w.heap.size ≤ b) u (tk xs 6 st 0).f.kids ∧ Wi.XS w' xb p n c xs (tk xs 6 st 0).st.1 (tk xs 6 st 0).st.2) ∨
   (goodF xs st = false ∧ e = .returned (.tuple #[flV noF (.slice none 0 0), .bool false])))
set_option maxRecDepth 100000 in
set_option maxHeartbeats 6400000 in
theorem rTake_any {w : World} {xb n c : Nat} {p : Option Addr} {xs : List Int} {i : Nat} {err : Int} (h : Wi.XS w xb p n c xs i err) : Calls Try.prog 33 #[.pointer (some ⟨xb, 0, none⟩)] w (rTakeP xs (i, err) xb p n c w) := by
  have hal := lay_alloc w (.cells #[.int .i64 0, .string ByteArray.empty, .string ByteArray.empty, .slice none 0 0] 24)
  have hxl := XS_xl h
  have HPL := Lib.hid (XS_pl h)
  have HR0 := Lib.hid (XS_below h hal)
  have HK0 : Hid (w.grownBy (w.alloc (.cells #[.int .i64 0, .string ByteArray.empty, .string ByteArray.empty, .slice none 0 0] 24)) (some xb)) := grown_alloc w _ _
  have HX := Lib.hid (DC.alloc w [.int .i64 0, .string ByteArray.empty, .string ByteArray.empty, .slice none 0 0] 24)
  have hxb1 : w.heap.size ≠ xb := by omega
  have hC := read_any 7 (w.alloc (.cells #[.int .i64 0, .string ByteArray.empty, .string ByteArray.empty, .slice none 0 0] 24)) xb p n c xs i err HR0.out (Nat.le_refl _)
  rw [show ((7 - 7 : Nat) : Int) = 0 from rfl] at hC
  have HC := Lib.hid hC
  have e1 : (w.alloc (.cells #[.int .i64 0, .string ⟨#[]⟩, .string ⟨#[]⟩, .slice none 0 0] 24)).cell? ⟨xb, 1, none⟩ = some (.int .i64 i) := HR0.out.c1
  have HRNG := Lib.hid h.rng
  have HLEN := Lib.hid h.len
  have HNC := Lib.hid h.ncap
  have HNB := Lib.hid h.nb
  have HS0 : Hid (w.heap.size ≤ (w.alloc (.cells #[.int .i64 0, .string ByteArray.empty, .string ByteArray.empty, .slice none 0 0] 24)).heap.size) := hal.size
  have HGD := Lib.hid (good_rd xs (i, err))
  have HLI := Lib.hid (rd_light xs 7 (i, err))
  have HTB : Hid (goodF xs (i, err) = true → (xs.drop i).take ((tk xs 6 (i, err) 0).st.1 - i) = flB 6 (tk xs 6 (i, err) 0).f ∧ i ≤ (tk xs 6 (i, err) 0).st.1 ∧ (tk xs 6 (i, err) 0).st.1 ≤ xs.length) := fun hg => by
    unfold goodF at hg
    simp only [Bool.and_eq_true] at hg
    exact ⟨tk_between h.rng (st := (i, err)) (by omega) hg.1, (tk_bytes h.rng 6 (i, err) 0 (by omega) hg.1).2.2⟩
  clear hal h hC
  go_enter Try.func33, Try.ntmps33
  go_wp2_with fail
  go_fit HC.out
  rintro e w1 ⟨hg1, u, he1, hks, hr1⟩
  subst he1
  generalize hr : rdF xs 7 (i, err) = r at *
  obtain ⟨ua, uc, rfl, _, _⟩ := hks.slice
  have hal1 := lay_alloc w1 (.cells #[.int .i64 r.f.kind, .string r.f.name, .string r.f.text, .slice ua r.f.kids.length uc] 24)
  have HG1 := Lib.hid (grown_trans HK0.out (show (w.alloc (.cells #[.int .i64 0, .string ByteArray.empty, .string ByteArray.empty, .slice none 0 0] 24)).grownBy w1 (some xb) from hg1))
  have HX1 := Lib.hid (HX.out.grown hg1 hxb1)
  have HG2 := Lib.hid (grown_trans HG1.out (grown_below hal1 (some xb)))
  have HX2 := Lib.hid (HX1.out.below hal1)
  have HR2 := Lib.hid (XS_below hr1 hal1)
  have HF2 := Lib.hid (DC.alloc w1 [.int .i64 r.f.kind, .string r.f.name, .string r.f.text, .slice ua r.f.kids.length uc] 24)
  have hkS := hks.keep (w' := w1) (S' := fun b => w.heap.size + 1 ≤ b) (Nat.le_refl _) (fun _ _ _ => rfl) (fun b hb _ => by have hb' : (w.alloc (.cells #[.int .i64 0, .string ByteArray.empty, .string ByteArray.empty, .slice none 0 0] 24)).heap.size ≤ b := hb; simpa using hb')
  have HKS2 := Lib.hid (hkS.later hal1)
  have HC2 := Lib.hid (rPut_any r.f HLI.out (hks.told.on hal1))
  have hfx : w.heap.size ≠ w1.heap.size := by have := HX1.out.lt; omega
  unfold flV at HC2
  unfold flV
  clear hg1 hks hr1 hal1 hkS HC e1 HK0 HR0 HX HG1 HX1
  go_wp2_with fail
  go_fit HC2.out
  rintro e w2 hP
  have putg : ∀ (W : World) (o : Nat) (x : Value), w.grownBy W (some xb) → w.grownBy (W.setCell ⟨w.heap.size, o, none⟩ x) (some xb) := fun W o x hg => ⟨hg.os, hg.tape, hg.output, by have := hg.size; simpa [World.setCell] using this, fun k h1 h2 => (Below.heap_setCell _ _ _ _ (by simp only; omega)).trans (hg.block k h1 h2)⟩
  have HPG := Lib.hid putg
  clear putg HC2
  generalize w1.alloc (.cells #[.int .i64 r.f.kind, .string r.f.name, .string r.f.text, .slice ua r.f.kids.length uc] 24) = W1 at *
  rcases hP with ⟨hc, gb, nb, cb, he2, hob, hb⟩ | ⟨hc, he2, hb⟩
  · subst he2
    have HOB := Lib.hid hob
    have HG3 := Lib.hid (grown_trans HG2.out (grown_below hb (some xb)))
    have HX3 := Lib.hid (HX2.out.below hb)
    have HR3 := Lib.hid (XS_below HR2.out hb)
    have HF3 := Lib.hid (HF2.out.below hb)
    have HKS3 := Lib.hid (HKS2.out.later hb)
    clear hb HG2 HX2 HR2 HF2 HKS2
    have d0 := HR3.out.c0
    have d1 := HR3.out.c1
    have d2 := HR3.out.c2
    have f0 := HF3.out.cells 0 _ rfl
    have f1 := HF3.out.cells 1 _ rfl
    have f2 := HF3.out.cells 2 _ rfl
    have f3 := HF3.out.cells 3 _ rfl
    have x0 := HX3.out.cells 0 _ rfl
    have x1 := HX3.out.cells 1 _ rfl
    have x2 := HX3.out.cells 2 _ rfl
    have x3 := HX3.out.cells 3 _ rfl
    have v0 := HX3.out.fz 0
    have v1 := HX3.out.fz 1
    have v2 := HX3.out.fz 2
    have v3 := HX3.out.fz 3
    clear hob
    by_cases hE : r.st.2 = 0
    · have hEb : (r.st.2 != 0) = false := by simpa using hE
      have HGT : Hid (goodF xs (i, err) = true) := by show _ = _; rw [HGD.out.1]; unfold rdOk; rw [hr, decide_eq_true hE, decide_eq_true hc]; rfl
      have hrr := HGD.out.2 HGT.out
      have hf : r.f = (tk xs 6 (i, err) 0).f := by rw [hrr]
      have hs : r.st = (tk xs 6 (i, err) 0).st := by rw [hrr]
      obtain ⟨t1, t2, t3⟩ := HTB.out HGT.out
      rw [← hf, ← hs] at t1
      rw [← hs] at t2 t3
      have HFE := Lib.hid hf
      have HSE := Lib.hid hs
      obtain ⟨bl, bi⟩ := bytes_own HOB.out
      have hfp := flB_pos r.f
      have hlt : i < r.st.1 := by
        have := congrArg List.length t1
        rw [List.length_take] at this
        omega
      have hn0 : 0 < n := by have := HLEN.out; omega
      obtain ⟨b, o, hpo, hbc⟩ := HR3.out.inn hn0
      subst hpo
      have hin := (show Lib.BytesIn w2 (some ⟨b, o, none⟩) n xs from HR3.out.inn)
      have hin2 : Lib.BytesIn w2 (some ⟨b, o + i, none⟩) (r.st.1 - i) (flB 6 r.f) := by
        rw [← t1]
        exact in_sub hin i (r.st.1 - i) (by have := HLEN.out; omega) (by omega)
      have hl2 : (flB 6 r.f).length = r.st.1 - i := by rw [← t1, List.length_take, List.length_drop]; omega
      have hcv1 : ∀ q d, (convert 39 9 (.slice (some ⟨gb, 0, none⟩) nb d)).run Try.prog (w2.drewN q) = .ok (.string (strOfNums (flB 6 r.f))) (w2.drewN q) := fun q d =>
        Lib.BytesIn.convert (w := w2.drewN q) bi bl d _ _ _ Try.underlying39 Try.underlying5 Try.underlying9
      have hcv2 : ∀ q d, (convert 39 9 (.slice (some ⟨b, o + i, none⟩) (r.st.1 - i) d)).run Try.prog (w2.drewN q) = .ok (.string (strOfNums (flB 6 r.f))) (w2.drewN q) := fun q d =>
        Lib.BytesIn.convert (w := w2.drewN q) hin2 hl2 d _ _ _ Try.underlying39 Try.underlying5 Try.underlying9
      have k1 : (i : Int) ≤ (r.st.1 : Int) := by omega
      have k2 : (r.st.1 : Int) ≤ (c : Int) := by have := HLEN.out; have := HNC.out; omega
      have k3 : ¬ ((c : Int) = (i : Int)) := by omega
      have k4 : ¬ (c = i) := by omega
      generalize strOfNums (flB 6 r.f) = str at *
      have HST := Lib.hid hE
      clear hE t1 t2 t3 bl bi hfp hn0 hbc hin hin2 hl2 hf hs hrr HTB HGD hc
      go_wp2_with fail
      go_quiet (fail)
      go_wp2_with fail
      (try simp only [Exit.inBlock, Exit.then])
      have HGd : Hid (w.grownBy (w2.drewN nq) (some xb)) := ⟨HG3.out.os, HG3.out.tape, HG3.out.output, HG3.out.size, HG3.out.block⟩
      have HKd := Lib.hid (HKS3.out.keep (w' := w2.drewN nq) (Nat.le_refl _) (fun _ _ _ => rfl) (fun _ h _ => h))
      have HRd := Lib.hid (HR3.out.drewN nq)
      have XPUT : Hid (∀ (W : World) (oo : Nat) (x : Value), Wi.XS W xb (some ⟨b, o, none⟩) n c xs r.st.1 r.st.2 → Wi.XS (W.setCell ⟨w.heap.size, oo, none⟩ x) xb (some ⟨b, o, none⟩) n c xs r.st.1 r.st.2) := fun W oo x hx => XS_block hx (Below.heap_setCell _ _ _ _ (fun e => hxb1 e.symm)) (fun hn ad ha => Below.heap_setCell _ _ _ _ (by have := HPL.out hn ad ha; simp only; omega))
      refine bodyPost_ret (v := .tuple #[flV r.f (.slice ua r.f.kids.length uc), .bool true]) ?_ rfl ⟨HPG.out _ _ _ (HPG.out _ _ _ (HPG.out _ _ _ (HPG.out _ _ _ HGd.out))), .inl ⟨HGT.out, .slice ua r.f.kids.length uc, by rw [← HFE.out], ?_, ?_⟩⟩
      rotate_left
      · rw [← HFE.out]; exact (kidsS_put _ _ (kidsS_put _ _ (kidsS_put _ _ (kidsS_put _ _ HKd.out)))).keep (Nat.le_refl _) (fun _ _ _ => rfl) (fun b hb _ => by omega)
      · rw [← HSE.out]; exact XPUT.out _ _ _ (XPUT.out _ _ _ (XPUT.out _ _ _ (XPUT.out _ _ _ HRd.out)))
      rw [results_cell_tmp rfl]
      go_simp
      rfl
    · have hEb : (r.st.2 != 0) = true := by simpa using hE
      have HGF : Hid (goodF xs (i, err) = false) := by show _ = _; rw [HGD.out.1]; unfold rdOk; rw [hr]; rw [decide_eq_false hE]; rfl
      go_wp2_with fail
      go_quiet (fail)
      go_wp2_with fail
      (try simp only [Exit.inBlock, Exit.then])
      have HGd : Hid (w.grownBy (w2.drewN nq) (some xb)) := ⟨HG3.out.os, HG3.out.tape, HG3.out.output, HG3.out.size, HG3.out.block⟩
      refine bodyPost_ret (v := .tuple #[flV noF (.slice none 0 0), .bool false]) ?_ rfl ⟨HPG.out _ _ _ (HPG.out _ _ _ (HPG.out _ _ _ (HPG.out _ _ _ HGd.out))), .inr ⟨HGF.out, rfl⟩⟩
      rw [results_cell_tmp rfl]
      go_simp
      rfl
  · subst he2
    have hcb : (ckF r.f != 0) = true := by simpa using hc
    have HG3 := Lib.hid (grown_trans HG2.out (grown_below hb (some xb)))
    have HX3 := Lib.hid (HX2.out.below hb)
    have HR3 := Lib.hid (XS_below HR2.out hb)
    have HF3 := Lib.hid (HF2.out.below hb)
    have HKS3 := Lib.hid (HKS2.out.later hb)
    clear hb HG2 HX2 HR2 HF2 HKS2
    have d0 := HR3.out.c0
    have d1 := HR3.out.c1
    have d2 := HR3.out.c2
    have f0 := HF3.out.cells 0 _ rfl
    have f1 := HF3.out.cells 1 _ rfl
    have f2 := HF3.out.cells 2 _ rfl
    have f3 := HF3.out.cells 3 _ rfl
    have x0 := HX3.out.cells 0 _ rfl
    have x1 := HX3.out.cells 1 _ rfl
    have x2 := HX3.out.cells 2 _ rfl
    have x3 := HX3.out.cells 3 _ rfl
    have v0 := HX3.out.fz 0
    have v1 := HX3.out.fz 1
    have v2 := HX3.out.fz 2
    have v3 := HX3.out.fz 3
    by_cases hE : r.st.2 = 0
    · have hEb : (r.st.2 != 0) = false := by simpa using hE
      have HGF : Hid (goodF xs (i, err) = false) := by show _ = _; rw [HGD.out.1]; unfold rdOk; rw [hr]; rw [decide_eq_false hc, Bool.and_false]
      go_wp2_with fail
      go_quiet (fail)
      go_wp2_with fail
      (try simp only [Exit.inBlock, Exit.then])
      have HGd : Hid (w.grownBy (w2.drewN nq) (some xb)) := ⟨HG3.out.os, HG3.out.tape, HG3.out.output, HG3.out.size, HG3.out.block⟩
      refine bodyPost_ret (v := .tuple #[flV noF (.slice none 0 0), .bool false]) ?_ rfl ⟨HPG.out _ _ _ (HPG.out _ _ _ (HPG.out _ _ _ (HPG.out _ _ _ HGd.out))), .inr ⟨HGF.out, rfl⟩⟩
      rw [results_cell_tmp rfl]
      go_simp
      rfl
    · have hEb : (r.st.2 != 0) = true := by simpa using hE
      have HGF : Hid (goodF xs (i, err) = false) := by show _ = _; rw [HGD.out.1]; unfold rdOk; rw [hr]; rw [decide_eq_false hE]; rfl
      go_wp2_with fail
      go_quiet (fail)
      go_wp2_with fail
      (try simp only [Exit.inBlock, Exit.then])
      have HGd : Hid (w.grownBy (w2.drewN nq) (some xb)) := ⟨HG3.out.os, HG3.out.tape, HG3.out.output, HG3.out.size, HG3.out.block⟩
      refine bodyPost_ret (v := .tuple #[flV noF (.slice none 0 0), .bool false]) ?_ rfl ⟨HPG.out _ _ _ (HPG.out _ _ _ (HPG.out _ _ _ (HPG.out _ _ _ HGd.out))), .inr ⟨HGF.out, rfl⟩⟩
      rw [results_cell_tmp rfl]
      go_simp
      rfl
end Go.Proofs.Ytdeknkfhlmkabaa
