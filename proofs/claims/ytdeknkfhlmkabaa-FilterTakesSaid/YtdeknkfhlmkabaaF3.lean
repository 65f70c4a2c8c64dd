/-
  Walks: whether a filter is light.
-/
import Derived.Test.YtdeknkfhlmkabaaF2
import Derived.BigRegion
namespace Go.Proofs.Ytdeknkfhlmkabaa
set_option linter.unusedVariables false
set_option linter.unusedSimpArgs false
open Go.RowKit

def flV (f : Fl) (u : Value) : Value := .agg #[.int .i64 f.kind, .string f.name, .string f.text, u]
/-- What weighing leaves: the counter there, all else as it was. -/
def WghP (f : Fl) (nb : Nat) (w : World) (e : Ending) (w' : World) : Prop :=
  ∃ (b : Bool) (c : Int), e = .returned (.bool b) ∧ DC w' nb [.int .i64 c] ∧ w.grownBy w' (some nb) ∧ (b = true → Light f ∧ 0 ≤ c ∧ c ≤ 8192)
def WghOk (f : Fl) : Prop := ∀ (w : World) (B nb : Nat) (u : Value) (c deep : Int), KidsIn w B u f.kids → B ≤ nb → B ≤ w.heap.size → DC w nb [.int .i64 c] → 0 ≤ c → c ≤ 8192 → 0 ≤ deep → deep ≤ 101 →
  Calls Try.prog 38 #[flV f u, .int .i64 deep, .pointer (some ⟨nb, 0, none⟩)] w (WghP f nb w)

set_option maxRecDepth 100000 in
set_option maxHeartbeats 3200000 in
theorem weigh_step (f : Fl) (IH : ∀ k ∈ f.kids, WghOk k) (hbig : f.name.size ≤ 9223372036854775807 ∧ f.text.size ≤ 9223372036854775807) : WghOk f := by
  intro w B nb u c deep hk hB hBw hc hc0 hc1 hd0 hd1
  obtain ⟨a, cap, rfl, hcap1, hcap2⟩ := hk.slice
  obtain ⟨hn1, hn2⟩ := hbig
  have hnblt := hc.lt
  have e1 : IntKind.i64.wrap (1 + min (f.name.size : Int) 8192) = 1 + min (f.name.size : Int) 8192 := IntWalk.i64_in _ (by omega)
  have e2 : IntKind.i64.wrap (1 + min (f.name.size : Int) 8192 + min (f.text.size : Int) 8192) = 1 + min (f.name.size : Int) 8192 + min (f.text.size : Int) 8192 := IntWalk.i64_in _ (by omega)
  have e3 : IntKind.i64.wrap (c + (1 + min (f.name.size : Int) 8192 + min (f.text.size : Int) 8192)) = c + (1 + min (f.name.size : Int) 8192 + min (f.text.size : Int) 8192) := IntWalk.i64_in _ (by omega)
  have HK := Lib.hid hk
  have HIH := Lib.hid IH
  clear hk IH
  unfold flV
  go_enter Try.func38, Try.ntmps38
  go_wp2_with fail
  have hx0 : w.heap.size ≠ nb := by omega
  have HG0 := Lib.hid (grown_alloc w (.cells #[.int .i64 f.kind, .string f.name, .string f.text, .slice a f.kids.length cap] 24) (some nb))
  have HF := Lib.hid (DC.alloc w [.int .i64 f.kind, .string f.name, .string f.text, .slice a f.kids.length cap] 24)
  have HN := Lib.hid (hc.below (lay_alloc w (.cells #[.int .i64 f.kind, .string f.name, .string f.text, .slice a f.kids.length cap] 24)))
  have HK1 := Lib.hid (HK.out.grown HG0.out hB hBw)
  generalize hfb : w.heap.size = fb at *
  generalize w.alloc (.cells #[.int .i64 f.kind, .string f.name, .string f.text, .slice a f.kids.length cap] 24) = W at *
  have y1 := HF.out.cells 1 _ rfl
  have y2 := HF.out.cells 2 _ rfl
  have y3 := HF.out.cells 3 _ rfl
  have z0 := HN.out.cells 0 _ rfl
  have z1 := HN.out.fz 0
  clear hc HK
  go_region
  clear y1 y2 z0 z1
  have hfn : fb ≠ nb := hx0
  obtain ⟨C, hC⟩ : ∃ C, C = c + (1 + min (f.name.size : Int) 8192 + min (f.text.size : Int) 8192) := ⟨_, rfl⟩
  have hCb : 0 ≤ C := by omega
  have HC : Hid (C ≤ 8192 → f.name.size ≤ 8192 ∧ f.text.size ≤ 8192) := by show _ → _; intro h; omega
  rw [← hC]
  have hd1 : Below W.heap.size (W.setCell ⟨nb, 0, none⟩ (.int .i64 C)) (W.setCell ⟨nb, 0, none⟩ (.int .i64 C)).drew := ⟨rfl, rfl, rfl, Nat.le_refl _, fun _ _ => rfl⟩
  have hg2 : W.grownBy (W.setCell ⟨nb, 0, none⟩ (.int .i64 C)).drew (some nb) := by
    have := grown_put W nb 0 (.int .i64 C)
    exact ⟨this.os, this.tape, this.output, this.size, this.block⟩
  have HF2 := Lib.hid (HF.out.grown hg2 hfn)
  have HK2 := Lib.hid (HK1.out.grown hg2 hB (by have := HG0.out.size; omega))
  have HN2 : Hid (DC (W.setCell ⟨nb, 0, none⟩ (.int .i64 C)).drew nb [.int .i64 C]) := by
    have h := HN.out.set 0 (.int .i64 C) (by simp)
    exact ⟨h.cells, h.fz, h.lt⟩
  have HG2 := Lib.hid (grown_trans HG0.out hg2)
  clear hg2 hd1 HF HK1 HN hC e1 e2 e3 y3
  generalize (W.setCell ⟨nb, 0, none⟩ (.int .i64 C)).drew = W2 at *
  have y3 := HF2.out.cells 3 _ rfl
  have z0 := HN2.out.cells 0 _ rfl
  have HNo : Hid (∀ W3 : World, W3 = W2 → WghP f nb w (.returned (.bool false)) W3) := fun W3 e => ⟨false, C, rfl, e ▸ HN2.out, e ▸ HG2.out, fun h => by cases h⟩
  by_cases hov : 8192 < C
  · go_wp2_with fail
    go_ret
    exact HNo.out _ rfl
  by_cases hod : 100 < deep
  · go_wp2_with fail
    go_ret
    exact HNo.out _ rfl
  by_cases hok : 1000 < f.kids.length
  · have hok' : (1000 : Int) < (f.kids.length : Int) := by omega
    go_wp2_with fail
    go_ret
    exact HNo.out _ rfl
  · have hok' : ¬ (1000 : Int) < (f.kids.length : Int) := by omega
    have ed : IntKind.i64.wrap (deep + 1) = deep + 1 := IntWalk.i64_in _ (by omega)
    go_wp2_with fail
    go_loopw [41] (fun v wr => ∃ (i : Nat) (D : Int), v = .int .i64 i ∧ i ≤ f.kids.length ∧ Hid (DC wr nb [.int .i64 D]) ∧ Hid (W2.grownBy wr (some nb)) ∧ 0 ≤ D ∧ D ≤ 8192 ∧ Hid (∀ k ∈ f.kids.take i, Light k))
      (fun v _ => f.kids.length - (intOf v).toNat)
    case atStart => exact ⟨0, C, rfl, Nat.zero_le _, HN2, World.grownBy.refl _ _, hCb, by omega, (fun k hk => by simp at hk : ∀ k ∈ f.kids.take 0, Light k)⟩
    case round =>
      obtain ⟨i, D, rfl, hin, hdc, hgr, hD0, hD1, hli⟩ := hrel
      have ei : IntKind.i64.wrap ((i : Int) + 1) = (i : Int) + 1 := IntWalk.i64_in _ (by omega)
      by_cases hlt : i < f.kids.length
      · obtain ⟨k, hk1⟩ : ∃ k, f.kids[i]? = some k := ⟨f.kids[i], List.getElem?_eq_getElem hlt⟩
        have hKr := HK2.out.grown hgr.out hB (by have := HG2.out.size; omega)
        obtain ⟨g, off, u, rfl, _, hgB, k0, k1, k2, k3, hku⟩ := hKr.at_ hk1
        obtain ⟨ua, uc, rfl, _, _⟩ := hku.slice
        have hI1 : (i : Int) < ((f.kids.length : Nat) : Int) := by omega
        have hI2 : (0 : Int) ≤ (i : Int) := by omega
        have hga := grown_alloc wr (.cells #[.int .i64 k.kind, .string k.name, .string k.text, .slice ua k.kids.length uc] 24) (some nb)
        have hmem : k ∈ f.kids := List.mem_of_getElem? hk1
        have hwr : B ≤ wr.heap.size := by have := HG2.out.size; have := hgr.out.size; omega
        have HC := Lib.hid (HIH.out k hmem (wr.alloc (.cells #[.int .i64 k.kind, .string k.name, .string k.text, .slice ua k.kids.length uc] 24)) B nb (.slice ua k.kids.length uc) D (deep + 1) (hku.grown hga hB hwr) hB (by simp; omega) (hdc.out.below (lay_alloc _ _)) hD0 hD1 (by omega) (by omega))
        unfold flV at HC
        have HGA := Lib.hid (grown_trans hgr.out hga)
        have HK1 := Lib.hid hk1
        clear hKr hku hga hmem hk1 hdc hgr
        go_wp2_with fail
        go_fit HC.out
        rintro e w3 ⟨bb, D', rfl, hdc3, hg3, hl3⟩
        have HDC3 := Lib.hid hdc3
        have HG3 := Lib.hid (grown_trans HGA.out hg3)
        have HL3 := Lib.hid hl3
        clear hdc3 hg3 hl3 k0 k1 k2 k3
        cases bb
        · go_wp2_with fail
          go_ret
          exact ⟨false, D', rfl, HDC3.out, grown_trans HG2.out HG3.out, fun h => by cases h⟩
        · obtain ⟨hl, hD0', hD1'⟩ := HL3.out rfl
          have HLi : Hid (∀ x ∈ f.kids.take (i + 1), Light x) := by
            intro x hx
            rw [List.take_add_one, HK1.out] at hx
            rcases List.mem_append.1 hx with hx | hx
            · exact hli.out x hx
            · simp at hx; rw [hx]; exact hl
          clear hl
          go_wp2_with fail
          exact ⟨⟨i + 1, D', by simp, hlt, HDC3, HG3, hD0', hD1', HLi⟩, by show f.kids.length - ((i : Int) + 1).toNat < f.kids.length - ((i : Int)).toNat; omega⟩
      · obtain rfl : i = f.kids.length := by omega
        have HE : Hid (WghP f nb w (.returned (.bool true)) wr) := by
          obtain ⟨h1, h2⟩ := HC.out (by omega)
          refine ⟨true, D, rfl, hdc.out, grown_trans HG2.out hgr.out, fun _ => ⟨.mk f h1 h2 (by omega) (fun k hk => hli.out k (by rw [List.take_length]; exact hk)), hD0, hD1⟩⟩
        go_wp2_with fail
        go_ret
        exact HE.out
/-- Strings of a filter are no longer than a memory. -/
inductive Fits : Fl → Prop
  | mk (f : Fl) (h : f.name.size ≤ 9223372036854775807 ∧ f.text.size ≤ 9223372036854775807) (hk : ∀ k ∈ f.kids, Fits k) : Fits f
theorem weigh_any (f : Fl) (h : Fits f) : WghOk f := by
  induction h with
  | mk f h hk ih => exact weigh_step f ih h

def LightP (f : Fl) (w : World) (e : Ending) (w' : World) : Prop := ∃ b : Bool, e = .returned (.bool b) ∧ (b = true → Light f) ∧ Below w.heap.size w w'
set_option maxHeartbeats 1600000 in
theorem light_any {w : World} {u : Value} (f : Fl) (h : Fits f) (hk : KidsIn w w.heap.size u f.kids) : Calls Try.prog 13 #[flV f u] w (LightP f w) := by
  obtain ⟨a, cap, rfl, _, _⟩ := hk.slice
  have hb0 := lay_alloc w (.cells #[.int .i64 f.kind, .string f.name, .string f.text, .slice a f.kids.length cap] 24)
  have y0 := (DC.alloc w [.int .i64 f.kind, .string f.name, .string f.text, .slice a f.kids.length cap] 24).cells
  have hb := lay_alloc (w.alloc (.cells #[.int .i64 f.kind, .string f.name, .string f.text, .slice a f.kids.length cap] 24)) (.cells #[.int .i64 0] 3)
  have HB := Lib.hid (hb0.trans (hb.mono hb0.size))
  have HC := Lib.hid (weigh_any f h ((w.alloc (.cells #[.int .i64 f.kind, .string f.name, .string f.text, .slice a f.kids.length cap] 24)).alloc (.cells #[.int .i64 0] 3)) w.heap.size (w.alloc (.cells #[.int .i64 f.kind, .string f.name, .string f.text, .slice a f.kids.length cap] 24)).heap.size (.slice a f.kids.length cap) 0 0 (hk.later HB.out) hb0.size HB.out.size (DC.alloc (w.alloc (.cells #[.int .i64 f.kind, .string f.name, .string f.text, .slice a f.kids.length cap] 24)) [.int .i64 0] 3) (by omega) (by omega) (by omega) (by omega))
  have hs := hb0.size
  unfold flV at HC ⊢
  have e1 : (w.alloc (.cells #[.int .i64 f.kind, .string f.name, .string f.text, .slice a f.kids.length cap] 24)).heap.size = w.heap.size + 1 := by simp
  rw [e1] at HC
  clear e1
  clear hk hb hb0
  go_enter Try.func13, Try.ntmps13
  go_wp2_with fail
  go_fit HC.out
  rintro e w1 ⟨b, c, rfl, hdc, hg, hl⟩
  have HL := Lib.hid hl
  have HB1 : Hid (Below w.heap.size w w1) := ⟨hg.os.trans HB.out.os, hg.tape.trans HB.out.tape, hg.output.trans HB.out.output, Nat.le_trans HB.out.size hg.size, fun k hk => (hg.block k (Nat.lt_of_lt_of_le hk HB.out.size) (by simp; omega)).trans (HB.out.block k hk)⟩
  clear hl hdc hg
  go_wp2_with fail
  go_ret
  exact ⟨b, rfl, fun h => (HL.out h).1, HB1.out⟩
end Go.Proofs.Ytdeknkfhlmkabaa
