/-
  The document's read, walked. (Written by genf27.py.)
-/
import Derived.Test.YtdeknkfhlmkabaaF25
import Derived.Deep.CutRange
namespace Go.Proofs.Ytdeknkfhlmkabaa
set_option linter.unusedVariables false
set_option linter.unusedSimpArgs false
open Go.RowKit

section
variable {w : World} {xb n c : Nat} {p : Option Addr} {xs : List Int} {i : Nat} {err : Int}
theorem XWithin_wn (h : Wi.XS w xb p n c xs i err) : Calls Try.prog 64 #[.pointer (some ⟨xb, 0, none⟩), .int .i64 0, .int .i64 24] w (Wi.XOut (.int .i64 ((wnF xs (i, err)).1 : Nat)) w xb p n c xs (wnF xs (i, err)).2.1 (wnF xs (i, err)).2.2) := by
  unfold wnF
  by_cases he : err = 0
  · subst he
    rw [if_neg (by simp)]
    obtain ⟨N, S, E, ht⟩ : ∃ N S E, Wi.numAt (xs.drop i) = (N, S, E) := ⟨_, _, _, rfl⟩
    simp only [ht]
    by_cases hE : E = 0
    · subst hE
      rw [if_neg (by simp)]
      by_cases h2 : 24 < N
      · rw [if_pos h2]
        exact Wi.XWithin_high h 0 24 N S ht (by omega) (by omega)
      · rw [if_neg h2]
        exact Wi.XWithin_ok h 0 24 N S ht (by omega) (by omega)
    · rw [if_pos (by simpa using hE)]
      exact Wi.XWithin_bad h 0 24 N S E ht hE
  · rw [if_pos he]
    exact Wi.XWithin_err h 0 24 he
theorem XS_pl (h : Wi.XS w xb p n c xs i err) : 0 < n → ∀ ad, p = some ad → ad.block < w.heap.size := fun hn ad ha => by
  obtain ⟨b', o', hbo, hc⟩ := h.inn hn
  rw [ha] at hbo
  cases hbo
  exact World.block_lt_of_cell? w _ (hc 0 hn)
theorem XS_block {w' : World} (h : Wi.XS w xb p n c xs i err) (h1 : w'.heap[xb]? = w.heap[xb]?) (h2 : 0 < n → ∀ ad, p = some ad → w'.heap[ad.block]? = w.heap[ad.block]?) : Wi.XS w' xb p n c xs i err where
  c0 := (World.cell?_of_block (a := ⟨xb, 0, none⟩) h1).trans h.c0
  c1 := (World.cell?_of_block (a := ⟨xb, 1, none⟩) h1).trans h.c1
  c2 := (World.cell?_of_block (a := ⟨xb, 2, none⟩) h1).trans h.c2
  f1 := (World.frozen?_of_block (a := ⟨xb, 1, none⟩) h1).trans h.f1
  f2 := (World.frozen?_of_block (a := ⟨xb, 2, none⟩) h1).trans h.f2
  inn := by
    intro hn
    obtain ⟨b', o', hbo, hc⟩ := h.inn hn
    exact ⟨b', o', hbo, fun i hi => (World.cell?_of_block (a := ⟨b', o' + i, none⟩) (show w'.heap[b']? = w.heap[b']? from h2 hn ⟨b', o', none⟩ hbo)).trans (hc i hi)⟩
  len := h.len
  ncap := h.ncap
  ile := h.ile
  hp := h.hp
  pne := h.pne
  rng := h.rng
  nb := h.nb
theorem XS_xl (h : Wi.XS w xb p n c xs i err) : xb < w.heap.size := World.block_lt_of_cell? w _ h.c0
theorem XS_below {w' : World} (h : Wi.XS w xb p n c xs i err) (hb : Below w.heap.size w w') : Wi.XS w' xb p n c xs i err :=
  XS_block h (hb.block xb (XS_xl h)) (fun hn ad ha => hb.block _ (XS_pl h hn ad ha))
end
theorem results_cell0 {fn : Func} {p : Tmp} {ty : TypeId} (h : fn.results = #[.cell p ty]) (tmps : Array Value) (P : Program) (w : World) :
    (results fn tmps).run P w = ((asAddr (tmps.getD p undef)).run P w).andThen fun a w₁ => (loadVar ty a).run P w₁ := by
  simp only [results, h]
  simp [Sem.run_bind, Result.andThen]
/-- What the document's read leaves. -/
def RdP (r : Rd) (xb : Nat) (p : Option Addr) (n c : Nat) (xs : List Int) (w : World) (e : Ending) (w' : World) : Prop :=
  w.grownBy w' (some xb) ∧ ∃ u, e = .returned (flV r.f u) ∧ KidsS w' (fun b => w.heap.size ≤ b) u r.f.kids ∧ Wi.XS w' xb p n c xs r.st.1 r.st.2
def RdOk (m : Nat) : Prop := ∀ (w : World) (xb : Nat) (p : Option Addr) (n c : Nat) (xs : List Int) (i : Nat) (err : Int), Wi.XS w xb p n c xs i err → m ≤ 7 →
  Calls Try.prog 48 #[.pointer (some ⟨xb, 0, none⟩), .int .i64 ((7 - m : Nat) : Int)] w (RdP (rdF xs m (i, err)) xb p n c xs w)

set_option maxRecDepth 100000 in
set_option maxHeartbeats 6400000 in
theorem read_zero : RdOk 0 := by
  intro w xb p n c xs i err h hm
  simp only [Nat.sub_zero]
  have hal := lay_alloc w (.cells #[.int .i64 0, .string ByteArray.empty, .string ByteArray.empty, .slice none 0 0] 24)
  have hpl := XS_pl h
  have hxl := XS_xl h
  have HR0 := Lib.hid (XS_below h hal)
  have HK0 : Hid (w.grownBy (w.alloc (.cells #[.int .i64 0, .string ByteArray.empty, .string ByteArray.empty, .slice none 0 0] 24)) (some xb)) := grown_alloc w _ _
  have HX := Lib.hid (DC.alloc w [.int .i64 0, .string ByteArray.empty, .string ByteArray.empty, .slice none 0 0] 24)
  have hxb1 : w.heap.size ≠ xb := by omega
  have HPL := Lib.hid hpl
  clear hal h hpl
  go_enter Try.func48, Try.ntmps48
  go_wp2_with fail
  have HC1 := Lib.hid (XNumber_nm HR0.out)
  have HA1 : Hid (rd1 xs (i, err) = nmF xs (i, err)) := rfl
  have HA2 : Hid (rd2 xs (i, err) = txF xs 192 ((rd1 xs (i, err)).2.1, (rd1 xs (i, err)).2.2)) := rfl
  have HA3 : Hid (rd3 xs (i, err) = txF xs 192 ((rd2 xs (i, err)).2.1, (rd2 xs (i, err)).2.2)) := rfl
  rw [← HA1.out] at HC1
  go_fit HC1.out
  rintro e w2 ⟨rfl, hr2, hg2⟩
  have HK2 := Lib.hid (grown_trans HK0.out hg2)
  have HR2 := Lib.hid hr2
  have HX2 := Lib.hid (HX.out.grown hg2 hxb1)
  have HC2 := Lib.hid (XText_tx HR2.out 192 (by decide))
  rw [← HA2.out] at HC2
  clear hr2 hg2 HC1 HR0 HX HK0
  go_wp2_with fail
  go_fit HC2.out
  rintro e w3 ⟨rfl, hr3, hg3⟩
  have HK3 := Lib.hid (grown_trans HK2.out hg3)
  have HR3 := Lib.hid hr3
  have HX3 := Lib.hid (HX2.out.grown hg3 hxb1)
  have HC3 := Lib.hid (XText_tx HR3.out 192 (by decide))
  rw [← HA3.out] at HC3
  clear hr3 hg3 HC2 HR2 HX2 HK2
  go_wp2_with fail
  go_fit HC3.out
  rintro e w4 ⟨rfl, hr4, hg4⟩
  have HK4 := Lib.hid (grown_trans HK3.out hg4)
  have HR4 := Lib.hid hr4
  have HX4 := Lib.hid (HX3.out.grown hg4 hxb1)
  clear hr4 hg4 HC3 HR3 HX3 HK3
  have hal4 := lay_alloc w4 (.cells #[.int .i64 (rd1 xs (i, err)).1, .string (rd2 xs (i, err)).1, .string (rd3 xs (i, err)).1, .slice none 0 0] 24)
  have HR4a := Lib.hid (XS_below HR4.out hal4)
  have HX4a := Lib.hid (HX4.out.below hal4)
  have HK4a := Lib.hid (grown_trans HK4.out (grown_below hal4 _))
  have HF4 := Lib.hid (DC.alloc w4 [.int .i64 (rd1 xs (i, err)).1, .string (rd2 xs (i, err)).1, .string (rd3 xs (i, err)).1, .slice none 0 0] 24)
  have hfb1 : w4.heap.size ≠ xb := by have := XS_xl HR4.out; omega
  have hfb3 : w4.heap.size ≠ w.heap.size := by have := HX4.out.lt; omega
  have hfbw : w.heap.size ≤ w4.heap.size := HK4.out.size
  have HC4 := Lib.hid (XWithin_wn HR4a.out)
  have HN24 := Lib.hid (wn_le xs ((rd3 xs (i, err)).2.1, (rd3 xs (i, err)).2.2))
  have HA4 : Hid (wnF xs (rd3 xs (i, err)).2 = wnF xs ((rd3 xs (i, err)).2.1, (rd3 xs (i, err)).2.2)) := rfl
  rw [← HA4.out] at HC4 HN24
  generalize hfbk : w4.heap.size = fb at *
  clear hal4 HR4 HX4 HK4 HA4
  go_wp2_with fail
  go_fit HC4.out
  rintro e w5 ⟨rfl, hr5, hg5⟩
  have HK5 := Lib.hid (grown_trans HK4a.out hg5)
  have HR5 := Lib.hid hr5
  have HX5 := Lib.hid (HX4a.out.grown hg5 hxb1)
  have HF5 := Lib.hid (HF4.out.grown hg5 hfb1)
  clear hr5 hg5 HC4 HR4a HX4a HK4a HF4 HA1 HA2 HA3
  generalize hz1 : rd1 xs (i, err) = z1 at *
  generalize hz2 : rd2 xs (i, err) = z2 at *
  generalize hz3 : rd3 xs (i, err) = z3 at *
  generalize hz4 : wnF xs z3.2 = z4 at *
  obtain ⟨N, s4⟩ := z4
  have HZ := Lib.hid (And.intro hz1 (And.intro hz2 (And.intro hz3 hz4)))
  clear hz1 hz2 hz3 hz4
  simp only at HR5 HN24 ⊢
  have hB5 : w.heap.size ≤ w5.heap.size := HK5.out.size
  have hfb5 : fb < w5.heap.size := HF5.out.lt
  have hxb5 : xb < w5.heap.size := XS_xl HR5.out
  have hN24 : N ≤ 24 := HN24.out
  clear HN24
  go_wp2_with fail
  go_loopw [7] (fun iv wr => iv = .int .i64 0 ∧ w5 = wr) (fun _ _ => 0)
  case atStart => exact ⟨rfl, rfl⟩
  case round =>
    obtain ⟨rfl, rfl⟩ := hrel
    have e0 := HR5.out.c2
    have HRES : Hid (rdF xs 0 (i, err) = ⟨.mk z1.1 z2.1 z3.1 [], s4⟩) := by
      show _ = _
      obtain ⟨a1, a2, a3, a4⟩ := HZ.out
      simp only [rdF]
      rw [a1, a2, a3, a4]
    by_cases h0 : 0 < N
    · have h0i : (0 : Int) < (N : Int) := by omega
      have f0 := HF5.out.cells 0 _ rfl
      have f1 := HF5.out.cells 1 _ rfl
      have f2 := HF5.out.cells 2 _ rfl
      have f3 := HF5.out.cells 3 _ rfl
      have x0 := HX5.out.cells 0 _ rfl
      have x1 := HX5.out.cells 1 _ rfl
      have x2 := HX5.out.cells 2 _ rfl
      have x3 := HX5.out.cells 3 _ rfl
      have v0 := HX5.out.fz 0
      have v1 := HX5.out.fz 1
      have v2 := HX5.out.fz 2
      have v3 := HX5.out.fz 3
      go_wp2_with fail
      (try simp only [Exit.inBlock, Exit.then])
      have HBK : Hid (∀ (k : Nat), k ≠ w.heap.size → ((((w5.setCell ⟨w.heap.size, 0, none⟩ (.int .i64 z1.1)).setCell ⟨w.heap.size, 1, none⟩ (.string z2.1)).setCell ⟨w.heap.size, 2, none⟩ (.string z3.1)).setCell ⟨w.heap.size, 3, none⟩ (.slice none 0 0)).heap[k]? = w5.heap[k]?) := fun k hk => by
        rw [Below.heap_setCell _ _ _ _ hk, Below.heap_setCell _ _ _ _ hk, Below.heap_setCell _ _ _ _ hk, Below.heap_setCell _ _ _ _ hk]
      have hgr : w.grownBy ((((w5.setCell ⟨w.heap.size, 0, none⟩ (.int .i64 z1.1)).setCell ⟨w.heap.size, 1, none⟩ (.string z2.1)).setCell ⟨w.heap.size, 2, none⟩ (.string z3.1)).setCell ⟨w.heap.size, 3, none⟩ (.slice none 0 0)) (some xb) := ⟨HK5.out.os, HK5.out.tape, HK5.out.output, by have := HK5.out.size; simpa [World.setCell] using this, fun k hk hn => (HBK.out k (by omega)).trans (HK5.out.block k hk hn)⟩
      refine bodyPost_ret (v := flV (.mk z1.1 z2.1 z3.1 []) (.slice none 0 0)) ?_ rfl ⟨hgr, ?_⟩
      · rw [results_cell0 rfl]
        go_simp
        rfl
      · rw [HRES.out]
        exact ⟨_, rfl, KidsS.nul none 0 (by decide), XS_block HR5.out (HBK.out xb (fun e => hxb1 e.symm)) (fun hn ad ha => HBK.out _ (by have := HPL.out hn ad ha; omega))⟩
    · obtain rfl : N = 0 := by omega
      have f0 := HF5.out.cells 0 _ rfl
      have f1 := HF5.out.cells 1 _ rfl
      have f2 := HF5.out.cells 2 _ rfl
      have f3 := HF5.out.cells 3 _ rfl
      have x0 := HX5.out.cells 0 _ rfl
      have x1 := HX5.out.cells 1 _ rfl
      have x2 := HX5.out.cells 2 _ rfl
      have x3 := HX5.out.cells 3 _ rfl
      have v0 := HX5.out.fz 0
      have v1 := HX5.out.fz 1
      have v2 := HX5.out.fz 2
      have v3 := HX5.out.fz 3
      go_wp2_with fail
      (try simp only [Exit.inBlock, Exit.then])
      have HBK : Hid (∀ (k : Nat), k ≠ w.heap.size → ((((w5.setCell ⟨w.heap.size, 0, none⟩ (.int .i64 z1.1)).setCell ⟨w.heap.size, 1, none⟩ (.string z2.1)).setCell ⟨w.heap.size, 2, none⟩ (.string z3.1)).setCell ⟨w.heap.size, 3, none⟩ (.slice none 0 0)).heap[k]? = w5.heap[k]?) := fun k hk => by
        rw [Below.heap_setCell _ _ _ _ hk, Below.heap_setCell _ _ _ _ hk, Below.heap_setCell _ _ _ _ hk, Below.heap_setCell _ _ _ _ hk]
      have hgr : w.grownBy ((((w5.setCell ⟨w.heap.size, 0, none⟩ (.int .i64 z1.1)).setCell ⟨w.heap.size, 1, none⟩ (.string z2.1)).setCell ⟨w.heap.size, 2, none⟩ (.string z3.1)).setCell ⟨w.heap.size, 3, none⟩ (.slice none 0 0)) (some xb) := ⟨HK5.out.os, HK5.out.tape, HK5.out.output, by have := HK5.out.size; simpa [World.setCell] using this, fun k hk hn => (HBK.out k (by omega)).trans (HK5.out.block k hk hn)⟩
      refine bodyPost_ret (v := flV (.mk z1.1 z2.1 z3.1 []) (.slice none 0 0)) ?_ rfl ⟨hgr, ?_⟩
      · rw [results_cell0 rfl]
        go_simp
        rfl
      · rw [HRES.out]
        exact ⟨_, rfl, KidsS.nul none 0 (by decide), XS_block HR5.out (HBK.out xb (fun e => hxb1 e.symm)) (fun hn ad ha => HBK.out _ (by have := HPL.out hn ad ha; omega))⟩

set_option maxRecDepth 100000 in
set_option maxHeartbeats 6400000 in
theorem read_step (m : Nat) (IH : RdOk m) : RdOk (m + 1) := by
  intro w xb p n c xs i err h hm
  have hdm : 7 - m = 7 - (m + 1) + 1 := by omega
  have hdp : 7 - (m + 1) < 7 := by omega
  generalize hdpe : 7 - (m + 1) = dp at *
  have HIH := Lib.hid IH
  clear IH
  have hal := lay_alloc w (.cells #[.int .i64 0, .string ByteArray.empty, .string ByteArray.empty, .slice none 0 0] 24)
  have hpl := XS_pl h
  have hxl := XS_xl h
  have HR0 := Lib.hid (XS_below h hal)
  have HK0 : Hid (w.grownBy (w.alloc (.cells #[.int .i64 0, .string ByteArray.empty, .string ByteArray.empty, .slice none 0 0] 24)) (some xb)) := grown_alloc w _ _
  have HX := Lib.hid (DC.alloc w [.int .i64 0, .string ByteArray.empty, .string ByteArray.empty, .slice none 0 0] 24)
  have hxb1 : w.heap.size ≠ xb := by omega
  have HPL := Lib.hid hpl
  clear hal h hpl
  go_enter Try.func48, Try.ntmps48
  go_wp2_with fail
  have HC1 := Lib.hid (XNumber_nm HR0.out)
  have HA1 : Hid (rd1 xs (i, err) = nmF xs (i, err)) := rfl
  have HA2 : Hid (rd2 xs (i, err) = txF xs 192 ((rd1 xs (i, err)).2.1, (rd1 xs (i, err)).2.2)) := rfl
  have HA3 : Hid (rd3 xs (i, err) = txF xs 192 ((rd2 xs (i, err)).2.1, (rd2 xs (i, err)).2.2)) := rfl
  rw [← HA1.out] at HC1
  go_fit HC1.out
  rintro e w2 ⟨rfl, hr2, hg2⟩
  have HK2 := Lib.hid (grown_trans HK0.out hg2)
  have HR2 := Lib.hid hr2
  have HX2 := Lib.hid (HX.out.grown hg2 hxb1)
  have HC2 := Lib.hid (XText_tx HR2.out 192 (by decide))
  rw [← HA2.out] at HC2
  clear hr2 hg2 HC1 HR0 HX HK0
  go_wp2_with fail
  go_fit HC2.out
  rintro e w3 ⟨rfl, hr3, hg3⟩
  have HK3 := Lib.hid (grown_trans HK2.out hg3)
  have HR3 := Lib.hid hr3
  have HX3 := Lib.hid (HX2.out.grown hg3 hxb1)
  have HC3 := Lib.hid (XText_tx HR3.out 192 (by decide))
  rw [← HA3.out] at HC3
  clear hr3 hg3 HC2 HR2 HX2 HK2
  go_wp2_with fail
  go_fit HC3.out
  rintro e w4 ⟨rfl, hr4, hg4⟩
  have HK4 := Lib.hid (grown_trans HK3.out hg4)
  have HR4 := Lib.hid hr4
  have HX4 := Lib.hid (HX3.out.grown hg4 hxb1)
  clear hr4 hg4 HC3 HR3 HX3 HK3
  have hal4 := lay_alloc w4 (.cells #[.int .i64 (rd1 xs (i, err)).1, .string (rd2 xs (i, err)).1, .string (rd3 xs (i, err)).1, .slice none 0 0] 24)
  have HR4a := Lib.hid (XS_below HR4.out hal4)
  have HX4a := Lib.hid (HX4.out.below hal4)
  have HK4a := Lib.hid (grown_trans HK4.out (grown_below hal4 _))
  have HF4 := Lib.hid (DC.alloc w4 [.int .i64 (rd1 xs (i, err)).1, .string (rd2 xs (i, err)).1, .string (rd3 xs (i, err)).1, .slice none 0 0] 24)
  have hfb1 : w4.heap.size ≠ xb := by have := XS_xl HR4.out; omega
  have hfb3 : w4.heap.size ≠ w.heap.size := by have := HX4.out.lt; omega
  have hfbw : w.heap.size ≤ w4.heap.size := HK4.out.size
  have HC4 := Lib.hid (XWithin_wn HR4a.out)
  have HN24 := Lib.hid (wn_le xs ((rd3 xs (i, err)).2.1, (rd3 xs (i, err)).2.2))
  have HA4 : Hid (wnF xs (rd3 xs (i, err)).2 = wnF xs ((rd3 xs (i, err)).2.1, (rd3 xs (i, err)).2.2)) := rfl
  rw [← HA4.out] at HC4 HN24
  generalize hfbk : w4.heap.size = fb at *
  clear hal4 HR4 HX4 HK4 HA4
  go_wp2_with fail
  go_fit HC4.out
  rintro e w5 ⟨rfl, hr5, hg5⟩
  have HK5 := Lib.hid (grown_trans HK4a.out hg5)
  have HR5 := Lib.hid hr5
  have HX5 := Lib.hid (HX4a.out.grown hg5 hxb1)
  have HF5 := Lib.hid (HF4.out.grown hg5 hfb1)
  clear hr5 hg5 HC4 HR4a HX4a HK4a HF4 HA1 HA2 HA3
  generalize hz1 : rd1 xs (i, err) = z1 at *
  generalize hz2 : rd2 xs (i, err) = z2 at *
  generalize hz3 : rd3 xs (i, err) = z3 at *
  generalize hz4 : wnF xs z3.2 = z4 at *
  obtain ⟨N, s4⟩ := z4
  have HZ := Lib.hid (And.intro hz1 (And.intro hz2 (And.intro hz3 hz4)))
  clear hz1 hz2 hz3 hz4
  simp only at HR5 HN24 ⊢
  have hB5 : w.heap.size ≤ w5.heap.size := HK5.out.size
  have hfb5 : fb < w5.heap.size := HF5.out.lt
  have hxb5 : xb < w5.heap.size := XS_xl HR5.out
  have hN24 : N ≤ 24 := HN24.out
  clear HN24
  have hdpi : (dp : Int) < 7 := by omega
  go_wp2_with fail
  go_loopw [7] (fun iv wr => ∃ (j : Nat) (l : List FV) (lv : Value), iv = .int .i64 j ∧ j ≤ N ∧ Hid (Wi.XS wr xb p n c xs (rds (rdF xs m) j s4).2.1 (rds (rdF xs m) j s4).2.2) ∧ Hid (DC wr fb [.int .i64 z1.1, .string z2.1, .string z3.1, lv]) ∧ Hid (DC wr w.heap.size [.int .i64 0, .string ByteArray.empty, .string ByteArray.empty, .slice none 0 0]) ∧ Hid (Rk w5.heap.size wr lv l) ∧ Hid (l.map FV.f = (rds (rdF xs m) j s4).1) ∧ Hid (w.grownBy wr (some xb)) ∧ w5.heap.size ≤ wr.heap.size)
    (fun v _ => N - (intOf v).toNat)
  case atStart => exact ⟨0, [], .slice none 0 0, rfl, Nat.zero_le _, HR5.out, HF5.out, HX5.out, Rk.nil _ _ (Nat.le_refl _), rfl, HK5.out, Nat.le_refl _⟩
  case round =>
    clear HR5 HF5 HX5 HK5
    obtain ⟨j, l, lv, rfl, hjn, hrs, hfc, hxc, hrk, hlm, hkp, hsz⟩ := hrel
    obtain ⟨la, lc, hlv⟩ : ∃ la lc, lv = .slice la l.length lc := by
      rcases hrk.out.own.2 with ⟨h0, h1⟩ | ⟨g', cap', cur, hv, _⟩
      · exact ⟨none, 0, by rw [h0, h1]⟩
      · exact ⟨_, cap', hv⟩
    subst hlv
    have HNX : Hid ((rds (rdF xs m) j s4).2.2 = 0 → rds (rdF xs m) (j + 1) s4 = ((rds (rdF xs m) j s4).1 ++ [(rdF xs m (rds (rdF xs m) j s4).2).f], (rdF xs m (rds (rdF xs m) j s4).2).st)) := fun h => rds_next h
    have HST : Hid ((rds (rdF xs m) j s4).2.2 ≠ 0 → rds (rdF xs m) N s4 = (rds (rdF xs m) j s4)) := fun h => rds_stuck h N hjn
    have HEN : Hid (j = N → rds (rdF xs m) N s4 = (rds (rdF xs m) j s4)) := fun h => by rw [h]
    have HLE : Hid (l.length ≤ j) := by
      show _ ≤ _
      have h1 := hlm.out
      have h2 := rds_len (F := rdF xs m) (st := s4) j
      rw [← h1, List.length_map] at h2
      exact h2
    generalize hT : rds (rdF xs m) j s4 = T at *
    obtain ⟨ks, si, se⟩ := T
    simp only at hrs hlm HNX HST HEN ⊢
    have e0 := hrs.out.c2
    have HRES : Hid (rds (rdF xs m) N s4 = (ks, si, se) → rdF xs (m + 1) (i, err) = ⟨.mk z1.1 z2.1 z3.1 ks, (si, se)⟩) := fun hh => by
      obtain ⟨a1, a2, a3, a4⟩ := HZ.out
      simp only [rdF]
      rw [a1, a2, a3, a4]
      simp only
      rw [hh]
    by_cases hlt : j < N
    · have hI1 : (j : Int) < (N : Int) := by omega
      by_cases hE : se = 0
      · subst hE
        have ej : IntKind.i64.wrap ((j : Int) + 1) = (j : Int) + 1 := IntWalk.i64_in _ (by omega)
        have hdp1 : IntKind.i64.wrap ((dp : Int) + 1) = (dp : Int) + 1 := IntWalk.i64_in _ (by omega)
        have hC := HIH.out wr.drew xb p n c xs si 0 (XS_below hrs.out (lay_drew (Below.refl _ _))) (by omega)
        rw [hdm, show ((dp + 1 : Nat) : Int) = (dp : Int) + 1 from by omega] at hC
        have HC := Lib.hid hC
        obtain ⟨i0, hi, hz0, hz1, hz2⟩ := info_parts Try.infoF
        have HFd : Hid (DC wr.drew fb [.int .i64 z1.1, .string z2.1, .string z3.1, .slice la l.length lc]) := hfc.out.below (lay_drew (Below.refl _ _))
        have f3 := hfc.out.cells 3 _ rfl
        have f3d := HFd.out.cells 3 _ rfl
        have hflt := hfc.out.lt
        have HL1 : Hid (l.length + 1 ≤ maxLen) := by show _ ≤ _; have := HLE.out; unfold maxLen; omega
        have HL2 : Hid ((l.length + 1) * 64 ≤ 140737488355328) := by show _ ≤ _; have := HLE.out; omega
        have HT := Lib.hid hT
        generalize hrr : rdF xs m (si, 0) = r at *
        have HRK := Lib.hid hrk.out
        have HXC := Lib.hid hxc.out
        have HKP := Lib.hid hkp.out
        clear hC hT hrr hrs hfc hxc hrk hkp HST HEN HRES
        go_upto_region 6 with fail
        go_region_law (first
          | (go_simp; (with_reducible refine HC.out.mono ?_); rintro e w7 ⟨hg7, u, he7, hks, hr7⟩; (subst he7); (obtain ⟨ua, uc, rfl, _, _⟩ := hks.slice); (unfold flV); have hal7 := lay_alloc w7 (.cells #[.int .i64 r.f.kind, .string r.f.name, .string r.f.text, .slice ua r.f.kids.length uc] 24); have hF7 := HFd.out.keep hg7.size (hg7.block fb HFd.out.lt (by simpa using hfb1)); have HF8 := Lib.hid (hF7.below hal7); have y7 := hF7.cells 3 _ rfl; have y8 := HF8.out.cells 3 _ rfl; have yn : fb ≠ w7.heap.size := Nat.ne_of_lt hF7.lt; have HX8 := Lib.hid ((HXC.out.keep hg7.size (hg7.block w.heap.size HXC.out.lt (by simpa using hxb1))).below hal7); have HRk8 := Lib.hid ((HRK.out.keep hg7.size (fun k h1 h2 => hg7.block k h2 (by simp; omega))).keep hal7.size (fun k _ h2 => hal7.block k h2)); have HR8 := Lib.hid (XS_below hr7 hal7); have HKS8 := Lib.hid (hks.later hal7); have HK8 := Lib.hid (grown_trans HKP.out (grown_trans (show wr.grownBy w7 (some xb) from ⟨hg7.os, hg7.tape, hg7.output, hg7.size, hg7.block⟩) (grown_below hal7 (some xb)))); have HS8 : Hid (wr.heap.size ≤ w7.heap.size) := hg7.size; clear hal7 hF7 hg7 hks hr7)
          | (refine step_append_lies _ (by rfl) _ _ _ (by rfl) w5.heap.size 24 i0 _ 4 64 Try.underlying22 hi hz0 hz1 hz2 rfl (by omega) (.slice la l.length lc) l.length (fvL.all l) (by rfl) HRk8.out.own ⟨w7.heap.size, 0, none⟩ 1 1 [.int .i64 r.f.kind, .string r.f.name, .string r.f.text, .slice ua r.f.kids.length uc] (by rfl) (by rfl) (World.news_of_block (cs := #[.int .i64 r.f.kind, .string r.f.name, .string r.f.text, .slice ua r.f.kids.length uc]) (t := 24) (fr := (0, 0)) (heap_alloc_new w7 _)) (by simp [Value.oneCell']) (by omega) HL1.out HL2.out (by have := HRk8.out.size; omega) (w7.heap.size + 1) (by simp) ?_; intro gg cap9 w9 hown9 hgrow9 hat9 hlt9; have HO9 := Lib.hid hown9; have HG9 := Lib.hid hgrow9; have HA9 := Lib.hid hat9; have hf9 := HF8.out.keep hgrow9.size (hgrow9.block fb HF8.out.lt (fun e => by have := (HRk8.out.own.lt fb e.symm).1; omega)); have HF9 := Lib.hid hf9; have y9 := hf9.cells 3 _ rfl; have z9 := hf9.fz 3; clear hown9 hgrow9 hat9 hlt9 hf9))
        all_goals
          have hgw : gg ≠ fb := fun e => by have := (HO9.out.lt gg rfl).1; omega
          have hkx : KidsS (w7.alloc (.cells #[.int .i64 r.f.kind, .string r.f.name, .string r.f.text, .slice ua r.f.kids.length uc] 24)) (fun b => w5.heap.size ≤ b ∧ some b ≠ (Value.slice la l.length lc).ownBlock) (.slice ua r.f.kids.length uc) r.f.kids := HKS8.out.keep (Nat.le_refl _) (fun _ _ _ => rfl) (fun b hb _ => ⟨Nat.le_trans hsz hb, fun e => by have := (HRK.out.own.lt b e.symm).2; have hb' : wr.drew.heap.size ≤ b := hb; have : wr.heap.size ≤ b := hb'; omega⟩)
          have hrk9 := HRk8.out.push ⟨r.f, .slice ua r.f.kids.length uc, rfl⟩ hkx HO9.out HG9.out (HA9.out.imp id (fun e => by rw [e]; simp))
          have hbl : ∀ k, k < w5.heap.size → k ≠ fb → (w9.setCell ⟨fb, 3, none⟩ (.slice (some ⟨gg, 0, none⟩) (l.length + 1) cap9)).heap[k]? = (w7.alloc (.cells #[.int .i64 r.f.kind, .string r.f.name, .string r.f.text, .slice ua r.f.kids.length uc] 24)).heap[k]? := fun k hk hn =>
            (Below.heap_setCell _ _ _ _ hn).trans (HG9.out.block k (by have := HS8.out; simp; omega) (fun e => by have := (HRk8.out.own.lt k e.symm).1; omega))
          have hsz9 : (w7.alloc (.cells #[.int .i64 r.f.kind, .string r.f.name, .string r.f.text, .slice ua r.f.kids.length uc] 24)).heap.size ≤ (w9.setCell ⟨fb, 3, none⟩ (.slice (some ⟨gg, 0, none⟩) (l.length + 1) cap9)).heap.size := by have := HG9.out.size; simpa [World.setCell] using this
          have HR10 : Hid (Wi.XS (w9.setCell ⟨fb, 3, none⟩ (.slice (some ⟨gg, 0, none⟩) (l.length + 1) cap9)) xb p n c xs r.st.1 r.st.2) := XS_block HR8.out (hbl xb hxb5 (fun e => hfb1 e.symm)) (fun hn ad ha => hbl _ (by have := HPL.out hn ad ha; omega) (by have := HPL.out hn ad ha; omega))
          have HF10 := Lib.hid (HF9.out.set 3 (.slice (some ⟨gg, 0, none⟩) (l.length + 1) cap9) (by simp))
          have HX10 := Lib.hid (HX8.out.keep hsz9 (hbl w.heap.size (by omega) (fun e => hfb3 e.symm)))
          have HRk10 := Lib.hid (hrk9.keep (w' := w9.setCell ⟨fb, 3, none⟩ (.slice (some ⟨gg, 0, none⟩) (l.length + 1) cap9)) (by simp [World.setCell]) (fun k h1 h2 => Below.heap_setCell _ _ _ _ (by simp only; omega)))
          have HK10 : Hid (w.grownBy (w9.setCell ⟨fb, 3, none⟩ (.slice (some ⟨gg, 0, none⟩) (l.length + 1) cap9)) (some xb)) := ⟨HG9.out.os.trans HK8.out.os, HG9.out.tape.trans HK8.out.tape, HG9.out.output.trans HK8.out.output, Nat.le_trans HK8.out.size hsz9, fun k hk hn => (hbl k (by omega) (by omega)).trans (HK8.out.block k hk hn)⟩
          have HL10 : Hid ((l ++ [(⟨r.f, .slice ua r.f.kids.length uc, rfl⟩ : FV)]).map FV.f = ks ++ [r.f]) := by
            show _ = _
            rw [List.map_append, hlm.out]; rfl
          have HN10 := Lib.hid (HNX.out rfl)
          have HSZ10 : Hid (w5.heap.size ≤ (w9.setCell ⟨fb, 3, none⟩ (.slice (some ⟨gg, 0, none⟩) (l.length + 1) cap9)).heap.size) := by show _ ≤ _; have := HS8.out; have h1 : w7.heap.size ≤ (w7.alloc (.cells #[.int .i64 r.f.kind, .string r.f.name, .string r.f.text, .slice ua r.f.kids.length uc] 24)).heap.size := (by simp); omega
          clear HO9 HG9 HA9 HF9 HF8 HX8 HRk8 HR8 HKS8 HK8 y7 y8 y9 z9 yn f3 f3d HFd HC hkx hrk9 HRK HXC HKP hlm HNX
          go_wp2_with fail
          refine ⟨⟨j + 1, l ++ [⟨r.f, .slice ua r.f.kids.length uc, rfl⟩], .slice (some ⟨gg, 0, none⟩) (l.length + 1) cap9, by simp, hlt, ?_, HF10, HX10, HRk10, ?_, HK10, HSZ10.out⟩, by show N - ((j : Int) + 1).toNat < N - ((j : Int)).toNat; omega⟩
          · show Wi.XS _ _ _ _ _ _ _ _
            rw [HN10.out]
            exact HR10.out
          · show _ = _
            rw [HN10.out]
            exact HL10.out
      · have hEb : (se == 0) = false := by simpa using hE
        have HFIN := Lib.hid (HRES.out (HST.out hE))
        have f0 := hfc.out.cells 0 _ rfl
        have f1 := hfc.out.cells 1 _ rfl
        have f2 := hfc.out.cells 2 _ rfl
        have f3 := hfc.out.cells 3 _ rfl
        have x0 := hxc.out.cells 0 _ rfl
        have x1 := hxc.out.cells 1 _ rfl
        have x2 := hxc.out.cells 2 _ rfl
        have x3 := hxc.out.cells 3 _ rfl
        have v0 := hxc.out.fz 0
        have v1 := hxc.out.fz 1
        have v2 := hxc.out.fz 2
        have v3 := hxc.out.fz 3
        have HRS := Lib.hid hrs.out
        have HKP := Lib.hid hkp.out
        have HTO := Lib.hid hrk.out.told
        have HLM := Lib.hid hlm.out
        clear hrs hkp hrk hlm HNX HST HEN HRES hT
        go_wp2_with fail
        (try simp only [Exit.inBlock, Exit.then])
        have HBK : Hid (∀ (k : Nat), k ≠ w.heap.size → ((((wr.setCell ⟨w.heap.size, 0, none⟩ (.int .i64 z1.1)).setCell ⟨w.heap.size, 1, none⟩ (.string z2.1)).setCell ⟨w.heap.size, 2, none⟩ (.string z3.1)).setCell ⟨w.heap.size, 3, none⟩ (.slice la l.length lc)).heap[k]? = wr.heap[k]?) := fun k hk => by
          rw [Below.heap_setCell _ _ _ _ hk, Below.heap_setCell _ _ _ _ hk, Below.heap_setCell _ _ _ _ hk, Below.heap_setCell _ _ _ _ hk]
        have hgr : w.grownBy ((((wr.setCell ⟨w.heap.size, 0, none⟩ (.int .i64 z1.1)).setCell ⟨w.heap.size, 1, none⟩ (.string z2.1)).setCell ⟨w.heap.size, 2, none⟩ (.string z3.1)).setCell ⟨w.heap.size, 3, none⟩ (.slice la l.length lc)) (some xb) := ⟨HKP.out.os, HKP.out.tape, HKP.out.output, by have := HKP.out.size; simpa [World.setCell] using this, fun k hk hn => (HBK.out k (by omega)).trans (HKP.out.block k hk hn)⟩
        have hto := HTO.out
        rw [HLM.out] at hto
        refine bodyPost_ret (v := flV (.mk z1.1 z2.1 z3.1 ks) (.slice la l.length lc)) ?_ rfl ⟨hgr, ?_⟩
        · rw [results_cell0 rfl]
          go_simp
          rfl
        · rw [HFIN.out]
          exact ⟨_, rfl, hto.keep (by simp [World.setCell]) (fun k h1 _ => HBK.out k (by omega)) (fun k h1 _ => by omega), XS_block HRS.out (HBK.out xb (fun e => hxb1 e.symm)) (fun hn ad ha => HBK.out _ (by have := HPL.out hn ad ha; omega))⟩
    · have HFIN := Lib.hid (HRES.out (HEN.out (by omega)))
      have f0 := hfc.out.cells 0 _ rfl
      have f1 := hfc.out.cells 1 _ rfl
      have f2 := hfc.out.cells 2 _ rfl
      have f3 := hfc.out.cells 3 _ rfl
      have x0 := hxc.out.cells 0 _ rfl
      have x1 := hxc.out.cells 1 _ rfl
      have x2 := hxc.out.cells 2 _ rfl
      have x3 := hxc.out.cells 3 _ rfl
      have v0 := hxc.out.fz 0
      have v1 := hxc.out.fz 1
      have v2 := hxc.out.fz 2
      have v3 := hxc.out.fz 3
      have HRS := Lib.hid hrs.out
      have HKP := Lib.hid hkp.out
      have HTO := Lib.hid hrk.out.told
      have HLM := Lib.hid hlm.out
      clear hrs hkp hrk hlm HNX HST HEN HRES hT
      go_wp2_with fail
      (try simp only [Exit.inBlock, Exit.then])
      have HBK : Hid (∀ (k : Nat), k ≠ w.heap.size → ((((wr.setCell ⟨w.heap.size, 0, none⟩ (.int .i64 z1.1)).setCell ⟨w.heap.size, 1, none⟩ (.string z2.1)).setCell ⟨w.heap.size, 2, none⟩ (.string z3.1)).setCell ⟨w.heap.size, 3, none⟩ (.slice la l.length lc)).heap[k]? = wr.heap[k]?) := fun k hk => by
        rw [Below.heap_setCell _ _ _ _ hk, Below.heap_setCell _ _ _ _ hk, Below.heap_setCell _ _ _ _ hk, Below.heap_setCell _ _ _ _ hk]
      have hgr : w.grownBy ((((wr.setCell ⟨w.heap.size, 0, none⟩ (.int .i64 z1.1)).setCell ⟨w.heap.size, 1, none⟩ (.string z2.1)).setCell ⟨w.heap.size, 2, none⟩ (.string z3.1)).setCell ⟨w.heap.size, 3, none⟩ (.slice la l.length lc)) (some xb) := ⟨HKP.out.os, HKP.out.tape, HKP.out.output, by have := HKP.out.size; simpa [World.setCell] using this, fun k hk hn => (HBK.out k (by omega)).trans (HKP.out.block k hk hn)⟩
      have hto := HTO.out
      rw [HLM.out] at hto
      refine bodyPost_ret (v := flV (.mk z1.1 z2.1 z3.1 ks) (.slice la l.length lc)) ?_ rfl ⟨hgr, ?_⟩
      · rw [results_cell0 rfl]
        go_simp
        rfl
      · rw [HFIN.out]
        exact ⟨_, rfl, hto.keep (by simp [World.setCell]) (fun k h1 _ => HBK.out k (by omega)) (fun k h1 _ => by omega), XS_block HRS.out (HBK.out xb (fun e => hxb1 e.symm)) (fun hn ad ha => HBK.out _ (by have := HPL.out hn ad ha; omega))⟩
theorem read_any : ∀ m, RdOk m
  | 0 => read_zero
  | m + 1 => read_step m (read_any m)
end Go.Proofs.Ytdeknkfhlmkabaa
