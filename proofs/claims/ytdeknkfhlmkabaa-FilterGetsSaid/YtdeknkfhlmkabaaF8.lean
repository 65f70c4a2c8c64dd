/-
  Walks: a filter is made ready (the walk).
-/
import Derived.Test.YtdeknkfhlmkabaaF7
namespace Go.Proofs.Ytdeknkfhlmkabaa
set_option linter.unusedVariables false
set_option linter.unusedSimpArgs false
open Go.RowKit

set_option maxRecDepth 100000 in
set_option maxHeartbeats 3200000 in
theorem ready_zero (f : Fl) : RdyOk 0 f := by
  intro w B wb ah u hk hB hBw hd hah hl hm
  have HE := Lib.hid (fun W (hW : DC W wb [.int .i64 (ah : Nat)]) => enter_no (w := W) 6 ah hW (.inl (Nat.le_refl _)) (by omega))
  obtain ⟨a, cap, rfl, _, _⟩ := hk.slice
  have hb := lay_alloc w (.cells #[.int .i64 f.kind, .string f.name, .string f.text, .slice a f.kids.length cap] 24)
  have HG0 := Lib.hid (grown_below hb (some wb))
  have HD := Lib.hid (hd.below hb)
  clear hk hd hl hb
  unfold flV
  show Calls _ _ #[_, _, .int .i64 ((6 : Nat) : Int)] _ _
  go_enter Try.func50, Try.ntmps50
  go_wp2_with fail
  go_fit (HE.out _ HD.out)
  rintro e w1 ⟨rfl, hd1, hg1⟩
  have HG1 := Lib.hid (grown_trans HG0.out hg1)
  clear hd1 hg1
  go_wp2_with fail
  go_ret
  exact ⟨_, rfl, HG1.out, .inr ⟨by simp [ec], rfl⟩⟩

set_option maxRecDepth 100000 in
set_option maxHeartbeats 6400000 in
theorem ready_step (m : Nat) (f : Fl) (IH : ∀ k ∈ f.kids, RdyOk m k) : RdyOk (m + 1) f := by
  intro w B wb ah u hk hB hBw hd hah hl hm
  have hE := ec_succ m f ah
  have HLi := Lib.hid hl
  have hln := hl.name
  have hlt := hl.text
  have hlk := hl.kids
  obtain ⟨a, cap, rfl, hcap1, hcap2⟩ := hk.slice
  have hb := lay_alloc w (.cells #[.int .i64 f.kind, .string f.name, .string f.text, .slice a f.kids.length cap] 24)
  have HG0 := Lib.hid (grown_below hb (some wb))
  have HD := Lib.hid (hd.below hb)
  have HF := Lib.hid (DC.alloc w [.int .i64 f.kind, .string f.name, .string f.text, .slice a f.kids.length cap] 24)
  have HK := Lib.hid (hk.grown (grown_below hb (some wb)) hB hBw)
  have hwb := hd.lt
  have hne : w.heap.size ≠ wb := by omega
  have hdp : 6 - (m + 1) < 6 := by omega
  have HIH := Lib.hid IH
  clear hk hd hl hb IH
  unfold flV
  by_cases hno : 24 ≤ ah
  · rw [if_pos hno] at hE
    have HEn := Lib.hid (fun W (hW : DC W wb [.int .i64 (ah : Nat)]) => enter_no (w := W) (6 - (m + 1)) ah hW (.inr hno) (by omega))
    generalize 6 - (m + 1) = dp at *
    go_enter Try.func50, Try.ntmps50
    go_wp2_with fail
    go_fit (HEn.out _ HD.out)
    rintro e w1 ⟨rfl, hd1, hg1⟩
    have HG1 := Lib.hid (grown_trans HG0.out hg1)
    clear hd1 hg1
    go_wp2_with fail
    go_ret
    rw [hE]
    exact ⟨_, rfl, HG1.out, .inr ⟨by simp, rfl⟩⟩
  rw [if_neg hno] at hE
  have HEy := Lib.hid (fun W (hW : DC W wb [.int .i64 (ah : Nat)]) => enter_yes (w := W) (6 - (m + 1)) ah hW hdp (by omega))
  have hdm : 6 - m = 6 - (m + 1) + 1 := by omega
  by_cases hmay : mayF f.kind f.name f.text f.kids.length = false
  · rw [if_pos hmay] at hE
    generalize 6 - (m + 1) = dp at *
    go_enter Try.func50, Try.ntmps50
    go_wp2_with fail
    go_fit (HEy.out _ HD.out)
    rintro e w1 ⟨rfl, hd1, hg1⟩
    have HG1 := Lib.hid (grown_trans HG0.out hg1)
    have hF1 := HF.out.grown hg1 hne
    have y0 := hF1.cells 0 _ rfl
    have y1 := hF1.cells 1 _ rfl
    have y2 := hF1.cells 2 _ rfl
    have y3 := hF1.cells 3 _ rfl
    have HM := may_any f (HK.out.grown hg1 hB (by have := HG0.out.size; omega)) (by omega) (by omega)
    rw [hmay] at HM
    unfold flV at HM
    have HM := Lib.hid HM
    clear hd1 hg1 hF1
    go_wp2_with fail
    go_fit HM.out
    rintro e w2 ⟨rfl, hb2⟩
    have HG2 := Lib.hid (grown_trans HG1.out (grown_below hb2 (some wb)))
    clear hb2
    go_wp2_with fail
    go_ret
    rw [hE]
    exact ⟨_, rfl, HG2.out, .inr ⟨by simp, rfl⟩⟩
  rw [if_neg hmay] at hE
  have hmay : mayF f.kind f.name f.text f.kids.length = true := by simpa using hmay
  have HMy := Lib.hid hmay
  rw [hE]
  clear hE
  have HAH : Hid (ah + 1 ≤ 24) := by show _ ≤ _; omega
  generalize hdp : 6 - (m + 1) = dp at *
  go_enter Try.func50, Try.ntmps50
  go_wp2_with fail
  go_fit (HEy.out _ HD.out)
  rintro e w1 ⟨rfl, hd1, hg1⟩
  have HG1 := Lib.hid (grown_trans HG0.out hg1)
  have hF1 := HF.out.grown hg1 hne
  have y0 := hF1.cells 0 _ rfl
  have y1 := hF1.cells 1 _ rfl
  have y2 := hF1.cells 2 _ rfl
  have y3 := hF1.cells 3 _ rfl
  have hK1 := HK.out.grown hg1 hB (by have := HG0.out.size; omega)
  have HM := may_any f hK1 (by omega) (by omega)
  rw [hmay] at HM
  unfold flV at HM
  have HM := Lib.hid HM
  have HF1 := Lib.hid hF1
  have HK1 := Lib.hid hK1
  have HD1 := Lib.hid hd1
  clear hd1 hg1 hF1 hK1 hmay
  go_wp2_with fail
  go_fit HM.out
  rintro e w2 ⟨rfl, hb2⟩
  have HG2 := Lib.hid (grown_trans HG1.out (grown_below hb2 (some wb)))
  have hF2 := HF1.out.below hb2
  have y0 := hF2.cells 0 _ rfl
  have y1 := hF2.cells 1 _ rfl
  have y2 := hF2.cells 2 _ rfl
  have y3 := hF2.cells 3 _ rfl
  have HF2 := Lib.hid hF2
  have HK2 := Lib.hid (HK1.out.grown (grown_below hb2 (some wb)) hB (by have := HG1.out.size; omega))
  have HD2 := Lib.hid (HD1.out.below hb2)
  clear hb2 hF2 HM
  go_wp2_with fail
  go_loopw [7, 25] (fun lv iv wr => ∃ (i : Nat) (l : List QV), iv = .int .i64 i ∧ i ≤ f.kids.length ∧ Hid (l.length = i) ∧ Hid ((ecs m (f.kids.take i) (ah + 1)).2 = 0) ∧ Hid (DC wr wb [.int .i64 ((ecs m (f.kids.take i) (ah + 1)).1 : Nat)]) ∧ Hid (w2.grownBy wr (some wb)) ∧ Hid (Rq w2 wr lv (f.kids.take i) l))
    (fun _ v _ => f.kids.length - (intOf v).toNat)
  case atStart => exact ⟨0, [], rfl, Nat.zero_le _, rfl, rfl, HD2.out, World.grownBy.refl _ _, ⟨World.ownsRow_nil _ _ _ _, (fun i k q hk hq => by simp at hq), Nat.le_refl _⟩⟩
  case round =>
    obtain ⟨i, l, rfl, hin, hll, he0, hdc, hgr, hrq⟩ := hrel
    have ei : IntKind.i64.wrap ((i : Int) + 1) = (i : Int) + 1 := IntWalk.i64_in _ (by omega)
    have hwb2 : wb < w2.heap.size := HD2.out.lt
    by_cases hlt : i < f.kids.length
    · obtain ⟨k, hk1⟩ : ∃ k, f.kids[i]? = some k := ⟨f.kids[i], List.getElem?_eq_getElem hlt⟩
      have hB2 : B ≤ w2.heap.size := by have := HG2.out.size; omega
      have hKr := HK2.out.grown hgr.out hB hB2
      obtain ⟨g, off, u, rfl, _, hgB, k0, k1, k2, k3, hku⟩ := hKr.at_ hk1
      obtain ⟨ua, uc, rfl, _, _⟩ := hku.slice
      have hI1 : (i : Int) < ((f.kids.length : Nat) : Int) := by omega
      have hI2 : (0 : Int) ≤ (i : Int) := by omega
      have hmem : k ∈ f.kids := List.mem_of_getElem? hk1
      have hwr : B ≤ wr.heap.size := by have := hgr.out.size; omega
      have hal := lay_alloc wr (.cells #[.int .i64 k.kind, .string k.name, .string k.text, .slice ua k.kids.length uc] 24)
      have hga := grown_below hal (some wb)
      have hahk : (ecs m (f.kids.take i) (ah + 1)).1 ≤ 24 := (ecs_le m (ec_le m) (f.kids.take i) (ah + 1, 0) HAH.out).1
      have hC := HIH.out k hmem (wr.alloc (.cells #[.int .i64 k.kind, .string k.name, .string k.text, .slice ua k.kids.length uc] 24)) B wb (ecs m (f.kids.take i) (ah + 1)).1 (.slice ua k.kids.length uc) (hku.grown hga hB hwr) hB (Nat.le_trans hwr hal.size) (hdc.out.below hal) hahk (HLi.out.kid hmem) (by omega)
      unfold flV at hC
      rw [hdm] at hC
      have HC := Lib.hid hC
      have HST : Hid (ecs m (f.kids.take (i + 1)) (ah + 1) = ec m k (ecs m (f.kids.take i) (ah + 1)).1) := ecs_step hk1 m (ah + 1) he0.out
      have HBA : Hid ((ecs m (f.kids.take (i + 1)) (ah + 1)).2 ≠ 0 → ecs m f.kids (ah + 1) = ecs m (f.kids.take (i + 1)) (ah + 1)) := ecs_bad m (ah + 1)
      have HTK : Hid (f.kids.take (i + 1) = f.kids.take i ++ [k]) := ones_take hk1
      have HGA := Lib.hid (grown_trans hgr.out hga)
      have HRA := Lib.hid (hrq.out.grown hga hwb2)
      have HSZ := Lib.hid hal.size
      have HWR : Hid (w2.heap.size ≤ wr.heap.size) := hgr.out.size
      have HLT := Lib.hid (hrq.out.own.lt)
      have hdp1 : IntKind.i64.wrap ((dp : Int) + 1) = ((dp + 1 : Nat) : Int) := by rw [IntWalk.i64_in _ (by omega)]; omega
      rw [← HST.out] at HC
      obtain ⟨la, lc, hlv⟩ : ∃ la lc, u7 = .slice la l.length lc := by
        rcases hrq.out.own.2 with ⟨h0, h1⟩ | ⟨g', cap', cur, hv, _⟩
        · exact ⟨none, 0, by rw [h0, h1]⟩
        · exact ⟨_, cap', hv⟩
      subst hlv
      clear hKr hku hga hal hmem hk1 hdc hgr hrq hC he0 hahk
      go_wp2_with fail
      go_fit HC.out
      rintro e w3 ⟨v3, rfl, hg3, hv3⟩
      have HG3 := Lib.hid (grown_trans HGA.out hg3)
      have hr3 := HRA.out.grown hg3 hwb2
      rcases hv3 with ⟨he, hq3, hd3⟩ | ⟨he, rfl⟩
      · have hty := fun W => is_q hq3 W
        have HR3 := Lib.hid hr3
        have HD3 := Lib.hid hd3
        have HE3 := Lib.hid he
        obtain ⟨qt, qx, hqv, _⟩ := hq3.iface
        subst hqv
        have HQ3 : Hid (Qu w3 (fun g => w2.heap.size ≤ g ∧ some g ≠ (Value.slice la l.length lc).ownBlock) (.iface qt qx) k) := hq3.keep (Nat.le_refl _) (fun _ _ _ => rfl) (fun g hg _ => by
          have h1 := HSZ.out
          have h2 := HWR.out
          refine ⟨by omega, fun e => ?_⟩
          have := (HLT.out g e.symm).2
          omega)
        have HB3 : Hid (w2.heap.size ≤ w3.heap.size) := HG3.out.size
        have hll2 : l.length + 1 ≤ 1073741825 := by have := hll.out; omega
        clear hg3 hr3 hq3 hd3 he k0 k1 k2 k3 HC HRA HGA HLT
        go_wp2_with (at_builtin; refine wpList_pushI rfl _ _ 93 71 _ 1 16 rfl Try.underlying93 Try.infoQ rfl (by decide) w2.heap.size l.length _ (qvL.all l) rfl HR3.out.own #[.iface qt qx] rfl (qvL.one ⟨.iface qt qx, rfl⟩) rfl hll2 (by decide) HB3.out ?_; intro g4 c4 w4 hown hgrow hat hlt4; have HR4 := Lib.hid (HR3.out.push ⟨.iface qt qx, rfl⟩ k (by rw [List.length_take]; have := hll.out; omega) HQ3.out hown hgrow hat); have HO4 := Lib.hid hgrow; have HA4 := Lib.hid hat; clear hown hgrow hat hlt4)
        have HG4 : Hid (w2.grownBy w4 (some wb)) := ⟨HO4.out.os.trans HG3.out.os, HO4.out.tape.trans HG3.out.tape, HO4.out.output.trans HG3.out.output, Nat.le_trans HG3.out.size HO4.out.size, fun k hk hn => (HO4.out.block k (Nat.lt_of_lt_of_le hk HG3.out.size) (fun e => by have := (HR3.out.own.lt k e.symm).1; omega)).trans (HG3.out.block k hk hn)⟩
        have HD4 : Hid (DC w4 wb [.int .i64 ((ecs m (f.kids.take (i + 1)) (ah + 1)).1 : Nat)]) := HD3.out.keep HO4.out.size (HO4.out.block wb HD3.out.lt (fun e => by have := (HR3.out.own.lt wb e.symm).1; omega))
        refine ⟨⟨i + 1, l ++ [⟨.iface qt qx, rfl⟩], by simp, hlt, by show _ = _; rw [List.length_append, hll.out]; rfl, HE3, HD4, HG4, ?_⟩, by show f.kids.length - ((i : Int) + 1).toNat < f.kids.length - ((i : Int)).toNat; omega⟩
        show Rq _ _ _ _ _
        rw [HTK.out]; exact HR4.out
      · have hty := fun W => no_q (.int .i64 (ecs m (f.kids.take (i + 1)) (ah + 1)).2) W
        have HE3 := Lib.hid he
        clear hg3 hr3 he k0 k1 k2 k3 HC HRA HGA HLT
        go_wp2_with fail
        go_ret
        refine ⟨_, rfl, grown_trans HG2.out HG3.out, .inr ?_⟩
        rw [HBA.out HE3.out]
        exact ⟨HE3.out, rfl⟩
    · obtain rfl : i = f.kids.length := by omega
      have hrq' := hrq.out
      rw [List.take_length] at hrq'
      obtain ⟨qa, qc, hqs⟩ := hrq'.told hll.out
      obtain rfl := hqs.val
      have hF3 := HF2.out.grown hgr.out hne
      have y0 := hF3.cells 0 _ rfl
      have y1 := hF3.cells 1 _ rfl
      have y2 := hF3.cells 2 _ rfl
      have y3 := hF3.cells 3 _ rfl
      have HGr := Lib.hid (grown_trans HG2.out hgr.out)
      have hA := asked_any f (HK2.out.grown hgr.out hB (by have := HG2.out.size; omega)) HMy.out hqs
      unfold flV at hA
      have HA := Lib.hid hA
      have HW2 : Hid (w.heap.size ≤ w2.heap.size) := HG2.out.size
      have HE0 : Hid ((ecs m f.kids (ah + 1)).2 = 0) := by have h := he0.out; rw [List.take_length] at h; exact h
      have HDC : Hid (DC wr wb [.int .i64 ((ecs m f.kids (ah + 1)).1 : Nat)]) := by have h := hdc.out; rw [List.take_length] at h; exact h
      clear hF3 hqs hrq' hrq hgr he0 hdc hA
      go_wp2_with fail
      go_fit HA.out
      rintro e w5 ⟨q, rfl, hq, hb5⟩
      have HQ5 : Hid (Qu w5 (fun g => w.heap.size ≤ g) q f) := hq.keep (Nat.le_refl _) (fun _ _ _ => rfl) (fun g hg _ => Nat.le_trans HW2.out hg)
      have HG5 := Lib.hid (grown_trans HGr.out (grown_below hb5 (some wb)))
      have HD5 := Lib.hid (HDC.out.below hb5)
      obtain ⟨qt, qx, hqv, _⟩ := hq.iface
      subst hqv
      clear hq hb5
      go_wp2_with fail
      go_ret
      exact ⟨_, rfl, HG5.out, .inl ⟨HE0.out, HQ5.out, HD5.out⟩⟩
theorem ready_any : ∀ (m : Nat) (f : Fl), RdyOk m f
  | 0, f => ready_zero f
  | m + 1, f => ready_step m f (fun k _ => ready_any m k)

def ReadyP (f : Fl) (w : World) (e : Ending) (w' : World) : Prop := ∃ v, e = .returned v ∧ Below w.heap.size w w' ∧ ((ckF f = 0 ∧ Qu w' (fun g => w.heap.size ≤ g) v f) ∨ (ckF f ≠ 0 ∧ v = .iface 26 (.int .i64 (ckF f))))
set_option maxHeartbeats 1600000 in
theorem Ready_any {w : World} {u : Value} (f : Fl) (hl : Light f) (hk : KidsIn w w.heap.size u f.kids) : Calls Try.prog 39 #[flV f u] w (ReadyP f w) := by
  obtain ⟨a, cap, rfl, _, _⟩ := hk.slice
  have hb0 := lay_alloc w (.cells #[.int .i64 f.kind, .string f.name, .string f.text, .slice a f.kids.length cap] 24)
  have hb1 := lay_alloc (w.alloc (.cells #[.int .i64 f.kind, .string f.name, .string f.text, .slice a f.kids.length cap] 24)) (.cells #[.int .i64 0] 80)
  have hb := hb0.trans (hb1.mono hb0.size)
  have y0 := (DC.alloc w [.int .i64 f.kind, .string f.name, .string f.text, .slice a f.kids.length cap] 24).cells
  have hC := ready_any 6 f ((w.alloc (.cells #[.int .i64 f.kind, .string f.name, .string f.text, .slice a f.kids.length cap] 24)).alloc (.cells #[.int .i64 0] 80)) w.heap.size (w.alloc (.cells #[.int .i64 f.kind, .string f.name, .string f.text, .slice a f.kids.length cap] 24)).heap.size 0 (.slice a f.kids.length cap) (hk.later hb) hb0.size hb.size (DC.alloc (w.alloc (.cells #[.int .i64 f.kind, .string f.name, .string f.text, .slice a f.kids.length cap] 24)) [.int .i64 0] 80) (by omega) hl (by omega)
  have HC := Lib.hid hC
  have HB := Lib.hid hb
  unfold flV at HC ⊢
  have e1 : (w.alloc (.cells #[.int .i64 f.kind, .string f.name, .string f.text, .slice a f.kids.length cap] 24)).heap.size = w.heap.size + 1 := by simp
  rw [e1] at HC
  clear hk hb hC hb0 hb1 e1
  go_enter Try.func39, Try.ntmps39
  go_wp2_with fail
  go_fit HC.out
  rintro e w1 ⟨v, rfl, hg, hv⟩
  have HB1 : Hid (Below w.heap.size w w1) := ⟨hg.os.trans HB.out.os, hg.tape.trans HB.out.tape, hg.output.trans HB.out.output, Nat.le_trans HB.out.size hg.size, fun k hk => (hg.block k (Nat.lt_of_lt_of_le hk HB.out.size) (by simp; omega)).trans (HB.out.block k hk)⟩
  have HV : Hid ((ckF f = 0 ∧ Qu w1 (fun g => w.heap.size ≤ g) v f) ∨ (ckF f ≠ 0 ∧ v = .iface 26 (.int .i64 (ckF f)))) := by
    rcases hv with ⟨h0, hq, _⟩ | ⟨h0, hx⟩
    · exact .inl ⟨h0, hq.keep (Nat.le_refl _) (fun _ _ _ => rfl) (fun g hg _ => Nat.le_trans HB.out.size hg)⟩
    · exact .inr ⟨h0, hx⟩
  clear hg hv
  go_wp2_with fail
  go_ret
  exact ⟨v, rfl, HB1.out, HV.out⟩
end Go.Proofs.Ytdeknkfhlmkabaa
