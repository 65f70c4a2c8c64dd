/-
  Walks: whether a filter is light, with the very answer.
-/
import Derived.Test.YtdeknkfhlmkabaaF24
import Derived.BigRegion
namespace Go.Proofs.Ytdeknkfhlmkabaa
set_option linter.unusedVariables false
set_option linter.unusedSimpArgs false
open Go.RowKit

def wghC (f : Fl) (c : Int) : Int := c + (1 + min (f.name.size : Int) 8192 + min (f.text.size : Int) 8192)
def wgh : Nat → Fl → Int → Bool × Int
  | 0, f, c => (false, wghC f c)
  | m + 1, f, c => if 8192 < wghC f c ∨ 1000 < f.kids.length then (false, wghC f c) else f.kids.foldl (fun a k => if a.1 = true then wgh m k a.2 else a) (true, wghC f c)
def wfold (m : Nat) (ks : List Fl) (a : Bool × Int) : Bool × Int := ks.foldl (fun a k => if a.1 = true then wgh m k a.2 else a) a
theorem wfold_bad (m : Nat) : ∀ (ks : List Fl) (a : Bool × Int), a.1 = false → wfold m ks a = a
  | [], a, _ => rfl
  | k :: ks, a, h => by
    show wfold m ks (if a.1 = true then wgh m k a.2 else a) = a
    rw [if_neg (by simp [h])]
    exact wfold_bad m ks a h
theorem wfold_step {ks : List Fl} {i : Nat} {k : Fl} (h : ks[i]? = some k) (m : Nat) (a : Bool × Int) {D : Int} (h0 : wfold m (ks.take i) a = (true, D)) : wfold m (ks.take (i + 1)) a = wgh m k D := by
  rw [List.take_add_one, h]
  unfold wfold at h0 ⊢
  rw [List.foldl_append, h0]
  rfl
theorem wfold_end {ks : List Fl} {i : Nat} (m : Nat) (a : Bool × Int) {D : Int} (h0 : wfold m (ks.take i) a = (false, D)) : wfold m ks a = (false, D) := by
  conv => lhs; rw [← List.take_append_drop i ks]
  have e : wfold m (ks.take i ++ ks.drop i) a = wfold m (ks.drop i) (wfold m (ks.take i) a) := by unfold wfold; rw [List.foldl_append]
  rw [e, h0]
  exact wfold_bad m _ _ rfl
def lightB (f : Fl) : Bool := (wgh 101 f 0).1
/-- What weighing leaves: the counter there, all else as it was. -/
def WghQ (r : Bool × Int) (f : Fl) (nb : Nat) (w : World) (e : Ending) (w' : World) : Prop :=
  e = .returned (.bool r.1) ∧ DC w' nb [.int .i64 r.2] ∧ w.grownBy w' (some nb) ∧ (r.1 = true → Light f ∧ 0 ≤ r.2 ∧ r.2 ≤ 8192)
def WghK (m : Nat) (f : Fl) : Prop := ∀ (w : World) (B nb : Nat) (u : Value) (c deep : Int), KidsIn w B u f.kids → B ≤ nb → B ≤ w.heap.size → DC w nb [.int .i64 c] → 0 ≤ c → c ≤ 8192 → 0 ≤ deep → deep = 101 - (m : Int) →
  Calls Try.prog 38 #[flV f u, .int .i64 deep, .pointer (some ⟨nb, 0, none⟩)] w (WghQ (wgh m f c) f nb w)

set_option maxRecDepth 100000 in
set_option maxHeartbeats 3200000 in
theorem weighK_step (m : Nat) (f : Fl) (IH : ∀ k ∈ f.kids, ∀ m', m = m' + 1 → WghK m' k) (hbig : f.name.size ≤ 9223372036854775807 ∧ f.text.size ≤ 9223372036854775807) : WghK m f := by
  intro w B nb u c deep hk hB hBw hc hc0 hc1 hd0 hdE
  obtain ⟨a, cap, rfl, hcap1, hcap2⟩ := hk.slice
  obtain ⟨hn1, hn2⟩ := hbig
  have HDE : Hid (deep = 101 - (m : Int)) := hdE
  have hd1 : deep ≤ 101 := by omega
  clear hdE
  have hnblt := hc.lt
  have e1 : IntKind.i64.wrap (1 + min (f.name.size : Int) 8192) = 1 + min (f.name.size : Int) 8192 := IntWalk.i64_in _ (by omega)
  have e2 : IntKind.i64.wrap (1 + min (f.name.size : Int) 8192 + min (f.text.size : Int) 8192) = 1 + min (f.name.size : Int) 8192 + min (f.text.size : Int) 8192 := IntWalk.i64_in _ (by omega)
  have e3 : IntKind.i64.wrap (c + (1 + min (f.name.size : Int) 8192 + min (f.text.size : Int) 8192)) = c + (1 + min (f.name.size : Int) 8192 + min (f.text.size : Int) 8192) := IntWalk.i64_in _ (by omega)
  have HK := Lib.hid hk
  have HIH := Lib.hid IH
  clear hk IH
  unfold flV
  go_enter Try.func38, Try.ntmps38
  go_wp2_with fail
  have hx0 : w.heap.size ≠ nb := by omega
  have HG0 := Lib.hid (grown_alloc w (.cells #[.int .i64 f.kind, .string f.name, .string f.text, .slice a f.kids.length cap] 24) (some nb))
  have HF := Lib.hid (DC.alloc w [.int .i64 f.kind, .string f.name, .string f.text, .slice a f.kids.length cap] 24)
  have HN := Lib.hid (hc.below (lay_alloc w (.cells #[.int .i64 f.kind, .string f.name, .string f.text, .slice a f.kids.length cap] 24)))
  have HK1 := Lib.hid (HK.out.grown HG0.out hB hBw)
  generalize hfb : w.heap.size = fb at *
  generalize w.alloc (.cells #[.int .i64 f.kind, .string f.name, .string f.text, .slice a f.kids.length cap] 24) = W at *
  have y1 := HF.out.cells 1 _ rfl
  have y2 := HF.out.cells 2 _ rfl
  have y3 := HF.out.cells 3 _ rfl
  have z0 := HN.out.cells 0 _ rfl
  have z1 := HN.out.fz 0
  clear hc HK
  go_region
  clear y1 y2 z0 z1
  have hfn : fb ≠ nb := hx0
  obtain ⟨C, hC⟩ : ∃ C, C = c + (1 + min (f.name.size : Int) 8192 + min (f.text.size : Int) 8192) := ⟨_, rfl⟩
  have hCb : 0 ≤ C := by omega
  have HC : Hid (C ≤ 8192 → f.name.size ≤ 8192 ∧ f.text.size ≤ 8192) := by show _ → _; intro h; omega
  rw [← hC]
  have hd1 : Below W.heap.size (W.setCell ⟨nb, 0, none⟩ (.int .i64 C)) (W.setCell ⟨nb, 0, none⟩ (.int .i64 C)).drew := ⟨rfl, rfl, rfl, Nat.le_refl _, fun _ _ => rfl⟩
  have hg2 : W.grownBy (W.setCell ⟨nb, 0, none⟩ (.int .i64 C)).drew (some nb) := by
    have := grown_put W nb 0 (.int .i64 C)
    exact ⟨this.os, this.tape, this.output, this.size, this.block⟩
  have HF2 := Lib.hid (HF.out.grown hg2 hfn)
  have HK2 := Lib.hid (HK1.out.grown hg2 hB (by have := HG0.out.size; omega))
  have HN2 : Hid (DC (W.setCell ⟨nb, 0, none⟩ (.int .i64 C)).drew nb [.int .i64 C]) := by
    have h := HN.out.set 0 (.int .i64 C) (by simp)
    exact ⟨h.cells, h.fz, h.lt⟩
  have HG2 := Lib.hid (grown_trans HG0.out hg2)
  have hC0 : wghC f c = C := hC.symm
  clear hg2 hd1 HF HK1 HN hC e1 e2 e3 y3
  generalize (W.setCell ⟨nb, 0, none⟩ (.int .i64 C)).drew = W2 at *
  have y3 := HF2.out.cells 3 _ rfl
  have z0 := HN2.out.cells 0 _ rfl
  have HNo : Hid (wgh m f c = (false, C) → ∀ W3 : World, W3 = W2 → WghQ (wgh m f c) f nb w (.returned (.bool false)) W3) := by
    intro hw W3 e
    subst e
    rw [hw]
    exact ⟨rfl, HN2.out, HG2.out, fun h => by cases h⟩
  have HCC : Hid (wghC f c = C) := by show _ = _; exact hC0
  by_cases hov : 8192 < C
  · have HW : Hid (wgh m f c = (false, C)) := by
      show _ = _
      cases m with
      | zero => simp only [wgh, HCC.out]
      | succ m => simp only [wgh, HCC.out]; rw [if_pos (.inl hov)]
    go_wp2_with fail
    go_ret
    exact HNo.out HW.out _ rfl
  by_cases hod : 100 < deep
  · have HW : Hid (wgh m f c = (false, C)) := by
      show _ = _
      obtain rfl : m = 0 := by have := HDE.out; omega
      simp only [wgh, HCC.out]
    go_wp2_with fail
    go_ret
    exact HNo.out HW.out _ rfl
  obtain ⟨m, rfl⟩ : ∃ m', m = m' + 1 := ⟨m - 1, by have := HDE.out; omega⟩
  by_cases hok : 1000 < f.kids.length
  · have hok' : (1000 : Int) < (f.kids.length : Int) := by omega
    have HW : Hid (wgh (m + 1) f c = (false, C)) := by show _ = _; simp only [wgh, HCC.out]; rw [if_pos (.inr hok)]
    go_wp2_with fail
    go_ret
    exact HNo.out HW.out _ rfl
  · have hok' : ¬ (1000 : Int) < (f.kids.length : Int) := by omega
    have HW : Hid (wgh (m + 1) f c = wfold m f.kids (true, C)) := by show _ = _; simp only [wgh, HCC.out]; rw [if_neg (by omega)]; rfl
    have ed : IntKind.i64.wrap (deep + 1) = deep + 1 := IntWalk.i64_in _ (by omega)
    go_wp2_with fail
    go_loopw [41] (fun v wr => ∃ (i : Nat) (D : Int), v = .int .i64 i ∧ i ≤ f.kids.length ∧ Hid (DC wr nb [.int .i64 D]) ∧ Hid (W2.grownBy wr (some nb)) ∧ 0 ≤ D ∧ D ≤ 8192 ∧ Hid (∀ k ∈ f.kids.take i, Light k) ∧ Hid (wfold m (f.kids.take i) (true, C) = (true, D)))
      (fun v _ => f.kids.length - (intOf v).toNat)
    case atStart => exact ⟨0, C, rfl, Nat.zero_le _, HN2, World.grownBy.refl _ _, hCb, by omega, (fun k hk => by simp at hk : ∀ k ∈ f.kids.take 0, Light k), rfl⟩
    case round =>
      obtain ⟨i, D, rfl, hin, hdc, hgr, hD0, hD1, hli, hwf⟩ := hrel
      have ei : IntKind.i64.wrap ((i : Int) + 1) = (i : Int) + 1 := IntWalk.i64_in _ (by omega)
      by_cases hlt : i < f.kids.length
      · obtain ⟨k, hk1⟩ : ∃ k, f.kids[i]? = some k := ⟨f.kids[i], List.getElem?_eq_getElem hlt⟩
        have hKr := HK2.out.grown hgr.out hB (by have := HG2.out.size; omega)
        obtain ⟨g, off, u, rfl, _, hgB, k0, k1, k2, k3, hku⟩ := hKr.at_ hk1
        obtain ⟨ua, uc, rfl, _, _⟩ := hku.slice
        have hI1 : (i : Int) < ((f.kids.length : Nat) : Int) := by omega
        have hI2 : (0 : Int) ≤ (i : Int) := by omega
        have hga := grown_alloc wr (.cells #[.int .i64 k.kind, .string k.name, .string k.text, .slice ua k.kids.length uc] 24) (some nb)
        have hmem : k ∈ f.kids := List.mem_of_getElem? hk1
        have hwr : B ≤ wr.heap.size := by have := HG2.out.size; have := hgr.out.size; omega
        have HC := Lib.hid (HIH.out k hmem m rfl (wr.alloc (.cells #[.int .i64 k.kind, .string k.name, .string k.text, .slice ua k.kids.length uc] 24)) B nb (.slice ua k.kids.length uc) D (deep + 1) (hku.grown hga hB hwr) hB (by simp; omega) (hdc.out.below (lay_alloc _ _)) hD0 hD1 (by omega) (by have := HDE.out; omega))
        unfold flV at HC
        have HST := Lib.hid (wfold_step hk1 m (true, C) hwf.out)
        generalize hR : wgh m k D = R at *
        obtain ⟨bb, D'⟩ := R
        have HGA := Lib.hid (grown_trans hgr.out hga)
        have HK1 := Lib.hid hk1
        clear hKr hku hga hmem hk1 hdc hgr
        go_wp2_with fail
        go_fit HC.out
        rintro e w3 ⟨rfl, hdc3, hg3, hl3⟩
        simp only at hdc3 hl3 ⊢
        have HDC3 := Lib.hid hdc3
        have HG3 := Lib.hid (grown_trans HGA.out hg3)
        have HL3 := Lib.hid hl3
        clear hdc3 hg3 hl3 k0 k1 k2 k3
        cases bb
        · go_wp2_with fail
          go_ret
          rw [HW.out, wfold_end m _ HST.out]
          exact ⟨rfl, HDC3.out, grown_trans HG2.out HG3.out, fun h => by cases h⟩
        · obtain ⟨hl, hD0', hD1'⟩ := HL3.out rfl
          have HLi : Hid (∀ x ∈ f.kids.take (i + 1), Light x) := by
            intro x hx
            rw [List.take_add_one, HK1.out] at hx
            rcases List.mem_append.1 hx with hx | hx
            · exact hli.out x hx
            · simp at hx; rw [hx]; exact hl
          clear hl
          go_wp2_with fail
          exact ⟨⟨i + 1, D', by simp, hlt, HDC3, HG3, hD0', hD1', HLi, HST⟩, by show f.kids.length - ((i : Int) + 1).toNat < f.kids.length - ((i : Int)).toNat; omega⟩
      · obtain rfl : i = f.kids.length := by omega
        have HE : Hid (WghQ (wgh (m + 1) f c) f nb w (.returned (.bool true)) wr) := by
          show WghQ _ _ _ _ _ _
          have hw := hwf.out
          rw [List.take_length] at hw
          rw [HW.out, hw]
          obtain ⟨h1, h2⟩ := HC.out (by omega)
          refine ⟨rfl, hdc.out, grown_trans HG2.out hgr.out, fun _ => ⟨.mk f h1 h2 (by omega) (fun k hk => hli.out k (by rw [List.take_length]; exact hk)), hD0, hD1⟩⟩
        go_wp2_with fail
        go_ret
        exact HE.out
theorem weighK_any : ∀ (m : Nat) (f : Fl), Fits f → WghK m f
  | 0, f, h => by cases h with | mk f h hk => exact weighK_step 0 f (fun k _ m' e => by omega) h
  | m + 1, f, h => by cases h with | mk f h hk => exact weighK_step (m + 1) f (fun k hkk m' e => (show m = m' by omega) ▸ weighK_any m k (hk k hkk)) h
def LightQ (f : Fl) (w : World) (e : Ending) (w' : World) : Prop := e = .returned (.bool (lightB f)) ∧ (lightB f = true → Light f) ∧ Below w.heap.size w w'
set_option maxHeartbeats 1600000 in
theorem lightB_any {w : World} {u : Value} (f : Fl) (h : Fits f) (hk : KidsIn w w.heap.size u f.kids) : Calls Try.prog 13 #[flV f u] w (LightQ f w) := by
  obtain ⟨a, cap, rfl, _, _⟩ := hk.slice
  have hb0 := lay_alloc w (.cells #[.int .i64 f.kind, .string f.name, .string f.text, .slice a f.kids.length cap] 24)
  have y0 := (DC.alloc w [.int .i64 f.kind, .string f.name, .string f.text, .slice a f.kids.length cap] 24).cells
  have hb := lay_alloc (w.alloc (.cells #[.int .i64 f.kind, .string f.name, .string f.text, .slice a f.kids.length cap] 24)) (.cells #[.int .i64 0] 3)
  have HB := Lib.hid (hb0.trans (hb.mono hb0.size))
  have HC := Lib.hid (weighK_any 101 f h ((w.alloc (.cells #[.int .i64 f.kind, .string f.name, .string f.text, .slice a f.kids.length cap] 24)).alloc (.cells #[.int .i64 0] 3)) w.heap.size (w.alloc (.cells #[.int .i64 f.kind, .string f.name, .string f.text, .slice a f.kids.length cap] 24)).heap.size (.slice a f.kids.length cap) 0 0 (hk.later HB.out) hb0.size HB.out.size (DC.alloc (w.alloc (.cells #[.int .i64 f.kind, .string f.name, .string f.text, .slice a f.kids.length cap] 24)) [.int .i64 0] 3) (by omega) (by omega) (by omega) (by omega))
  have hs := hb0.size
  unfold flV at HC ⊢
  have e1 : (w.alloc (.cells #[.int .i64 f.kind, .string f.name, .string f.text, .slice a f.kids.length cap] 24)).heap.size = w.heap.size + 1 := by simp
  rw [e1] at HC
  clear e1
  clear hk hb hb0
  go_enter Try.func13, Try.ntmps13
  go_wp2_with fail
  go_fit HC.out
  rintro e w1 ⟨rfl, hdc, hg, hl⟩
  have HL := Lib.hid hl
  have HB1 : Hid (Below w.heap.size w w1) := ⟨hg.os.trans HB.out.os, hg.tape.trans HB.out.tape, hg.output.trans HB.out.output, Nat.le_trans HB.out.size hg.size, fun k hk => (hg.block k (Nat.lt_of_lt_of_le hk HB.out.size) (by simp; omega)).trans (HB.out.block k hk)⟩
  clear hl hdc hg
  go_wp2_with fail
  go_ret
  exact ⟨rfl, fun h => (HL.out h).1, HB1.out⟩


/-- Few bytes in events. -/
def fewW (e : Kev) : Int := 1 + min (e.key.size : Int) 8192 + min (e.old.size : Int) 8192 + min (e.now.size : Int) 8192
def fewGo : List Kev → Nat → Int → Int
  | [], _, n => n
  | e :: r, i, n => if i ≤ 200 ∧ n ≤ 8192 then fewGo r (i + 1) (n + fewW e) else n
def fewB (l : List Kev) : Bool := decide (l.length ≤ 200) && decide (fewGo l 0 0 ≤ 8192)
end Go.Proofs.Ytdeknkfhlmkabaa
