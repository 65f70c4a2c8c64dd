/-
  Walks: the document's tests of a part and of a filter.
-/
import Derived.Test.YtdeknkfhlmkabaaF11
namespace Go.Proofs.Ytdeknkfhlmkabaa
set_option linter.unusedVariables false
set_option linter.unusedSimpArgs false
open Go.RowKit

set_option maxRecDepth 100000 in
set_option maxHeartbeats 1600000 in
theorem rmay_0 (n t : ByteArray) (m : Nat) (a : Option Addr) (c : Nat) (w : World) : Calls Try.prog 51 #[.agg #[.int .i64 0, .string n, .string t, .slice a m c]] w (MayP (mayF 0 n t m) w) := by
  have HB := Lib.hid (lay_alloc w (.cells #[.int .i64 0, .string n, .string t, .slice a m c] 24))
  have e0 := nat_zero' m
  have e1 := nat_one' m
  go_enter Try.func51, Try.ntmps51
  go_wp2_with fail
  all_goals
    go_ret
    refine MayP.of ?_ HB.out
    simp_all [mayF, nilB]

set_option maxRecDepth 100000 in
set_option maxHeartbeats 1600000 in
theorem rmay_3 (n t : ByteArray) (m : Nat) (a : Option Addr) (c : Nat) (w : World) : Calls Try.prog 51 #[.agg #[.int .i64 3, .string n, .string t, .slice a m c]] w (MayP (mayF 3 n t m) w) := by
  have HB := Lib.hid (lay_alloc w (.cells #[.int .i64 3, .string n, .string t, .slice a m c] 24))
  have e0 := nat_zero' m
  have e1 := nat_one' m
  go_enter Try.func51, Try.ntmps51
  go_wp2_with fail
  all_goals
    go_ret
    refine MayP.of ?_ HB.out
    simp_all [mayF, nilB]

set_option maxRecDepth 100000 in
set_option maxHeartbeats 1600000 in
theorem rmay_4 (n t : ByteArray) (m : Nat) (a : Option Addr) (c : Nat) (w : World) : Calls Try.prog 51 #[.agg #[.int .i64 4, .string n, .string t, .slice a m c]] w (MayP (mayF 4 n t m) w) := by
  have HB := Lib.hid (lay_alloc w (.cells #[.int .i64 4, .string n, .string t, .slice a m c] 24))
  have e0 := nat_zero' m
  have e1 := nat_one' m
  go_enter Try.func51, Try.ntmps51
  go_wp2_with fail
  all_goals
    go_ret
    refine MayP.of ?_ HB.out
    simp_all [mayF, nilB]

set_option maxRecDepth 100000 in
set_option maxHeartbeats 1600000 in
theorem rmay_5 (n t : ByteArray) (m : Nat) (a : Option Addr) (c : Nat) (w : World) : Calls Try.prog 51 #[.agg #[.int .i64 5, .string n, .string t, .slice a m c]] w (MayP (mayF 5 n t m) w) := by
  have HB := Lib.hid (lay_alloc w (.cells #[.int .i64 5, .string n, .string t, .slice a m c] 24))
  have e0 := nat_zero' m
  have e1 := nat_one' m
  go_enter Try.func51, Try.ntmps51
  go_wp2_with fail
  all_goals
    go_ret
    refine MayP.of ?_ HB.out
    simp_all [mayF, nilB]

set_option maxRecDepth 100000 in
set_option maxHeartbeats 1600000 in
theorem rmay_6 (n t : ByteArray) (m : Nat) (a : Option Addr) (c : Nat) (w : World) : Calls Try.prog 51 #[.agg #[.int .i64 6, .string n, .string t, .slice a m c]] w (MayP (mayF 6 n t m) w) := by
  have HB := Lib.hid (lay_alloc w (.cells #[.int .i64 6, .string n, .string t, .slice a m c] 24))
  have e0 := nat_zero' m
  have e1 := nat_one' m
  go_enter Try.func51, Try.ntmps51
  go_wp2_with fail
  all_goals
    go_ret
    refine MayP.of ?_ HB.out
    simp_all [mayF, nilB]

set_option maxRecDepth 100000 in
set_option maxHeartbeats 1600000 in
theorem rmay_1 (n t : ByteArray) (m : Nat) (a : Option Addr) (c : Nat) (w : World) (ht : t.size ≤ 1073741824) : Calls Try.prog 51 #[.agg #[.int .i64 1, .string n, .string t, .slice a m c]] w (MayP (mayF 1 n t m) w) := by
  have hb := lay_alloc w (.cells #[.int .i64 1, .string n, .string t, .slice a m c] 24)
  have HB := Lib.hid hb
  have HK := Lib.hid (Tx.rKey_any t (w.alloc (.cells #[.int .i64 1, .string n, .string t, .slice a m c] 24)) ht)
  have e0 := nat_zero' m
  clear hb ht
  by_cases hn : n.toList.isEmpty = true
  · by_cases hm : m = 0
    · have hmi : ((m : Int) == 0) = true := by rw [e0]; simpa using hm
      have hz := errZ (Tx.madeB t 1 24 Tx.plainB) 20 (by decide)
      have HM : Hid (mayF 1 n t m = Tx.madeB t 1 24 Tx.plainB) := by show _ = _; simp [mayF, nilB, hn, hm, keyOk]
      clear e0 hm
      go_enter Try.func51, Try.ntmps51
      go_wp2_with fail
      all_goals
        go_fit HK.out
        rintro e w1 ⟨rfl, hb1⟩
        have HB1 := Lib.hid (HB.out.trans (hb1.mono HB.out.size))
        clear hb1
        go_wp2_with fail
        go_ret
        exact MayP.of HM.out.symm HB1.out
    · have hmi : ((m : Int) == 0) = false := by rw [e0]; simpa using hm
      go_enter Try.func51, Try.ntmps51
      go_wp2_with fail
      all_goals
        go_ret
        refine MayP.of ?_ HB.out
        simp_all [mayF, nilB]
  · by_cases hm : m = 0
    · subst hm
      go_enter Try.func51, Try.ntmps51
      go_wp2_with fail
      all_goals
        go_ret
        refine MayP.of ?_ HB.out
        simp_all [mayF, nilB]
    · have hmi : ((m : Int) == 0) = false := by rw [e0]; simpa using hm
      go_enter Try.func51, Try.ntmps51
      go_wp2_with fail
      all_goals
        go_ret
        refine MayP.of ?_ HB.out
        simp_all [mayF, nilB]

set_option maxRecDepth 100000 in
set_option maxHeartbeats 1600000 in
theorem rmay_2 (n t : ByteArray) (m : Nat) (a : Option Addr) (c : Nat) (w : World) (hn : n.size ≤ 1073741824) (ht : t.size ≤ 1073741824) : Calls Try.prog 51 #[.agg #[.int .i64 2, .string n, .string t, .slice a m c]] w (MayP (mayF 2 n t m) w) := by
  have hb := lay_alloc w (.cells #[.int .i64 2, .string n, .string t, .slice a m c] 24)
  have HB := Lib.hid hb
  have HN := Lib.hid (Tx.rName_any n (w.alloc (.cells #[.int .i64 2, .string n, .string t, .slice a m c] 24)) hn)
  have HT := Lib.hid (fun W => Tx.rValue_any t W ht)
  have e0 := nat_zero' m
  have y2 := (DC.alloc w [.int .i64 2, .string n, .string t, .slice a m c] 24)
  have HY := Lib.hid y2
  clear hb ht hn y2
  by_cases hm : m = 0
  · have hmi : ((m : Int) == 0) = true := by rw [e0]; simpa using hm
    have hz := errZ (Tx.madeB n 1 8 Tx.letterB) 22 (by decide)
    have hz2 := errZ (Tx.madeB t 0 48 Tx.plainB) 21 (by decide)
    have HM : Hid (mayF 2 n t m = (Tx.madeB n 1 8 Tx.letterB && Tx.madeB t 0 48 Tx.plainB)) := by show _ = _; simp [mayF, nilB, hm, nameOk, valOk]
    clear e0 hm
    generalize Tx.madeB n 1 8 Tx.letterB = bn at *
    generalize Tx.madeB t 0 48 Tx.plainB = bt at *
    cases bn
    · go_enter Try.func51, Try.ntmps51
      go_wp2_with fail
      all_goals
        go_fit HN.out
        rintro e w1 ⟨rfl, hb1⟩
        have HB1 := Lib.hid (HB.out.trans (hb1.mono HB.out.size))
        clear hb1
        go_wp2_with fail
        go_ret
        exact MayP.of HM.out.symm HB1.out
    · go_enter Try.func51, Try.ntmps51
      go_wp2_with fail
      all_goals
        go_fit HN.out
        rintro e w1 ⟨rfl, hb1⟩
        have HB1 := Lib.hid (HB.out.trans (hb1.mono HB.out.size))
        have z2 := (HY.out.below hb1).cells 2 _ rfl
        clear hb1
        go_wp2_with fail
        go_fit (HT.out _)
        rintro e w2 ⟨rfl, hb2⟩
        have HB2 := Lib.hid (HB1.out.trans (hb2.mono HB1.out.size))
        clear hb2
        go_wp2_with fail
        go_ret
        exact MayP.of (by rw [HM.out]; rfl) HB2.out
  · have hmi : ((m : Int) == 0) = false := by rw [e0]; simpa using hm
    go_enter Try.func51, Try.ntmps51
    go_wp2_with fail
    all_goals
      go_ret
      refine MayP.of ?_ HB.out
      simp_all [mayF, nilB]

set_option maxRecDepth 100000 in
set_option maxHeartbeats 1600000 in
theorem rmay_x (k : Int) (n t : ByteArray) (m : Nat) (a : Option Addr) (c : Nat) (w : World) (h0 : k ≠ 0) (h1 : k ≠ 1) (h2 : k ≠ 2) (h3 : k ≠ 3) (h4 : k ≠ 4) (h5 : k ≠ 5) (h6 : k ≠ 6) : Calls Try.prog 51 #[.agg #[.int .i64 k, .string n, .string t, .slice a m c]] w (MayP (mayF k n t m) w) := by
  have HB := Lib.hid (lay_alloc w (.cells #[.int .i64 k, .string n, .string t, .slice a m c] 24))
  have q0 : (k == 0) = false := by simpa using h0
  have q1 : (k == 1) = false := by simpa using h1
  have q2 : (k == 2) = false := by simpa using h2
  have q3 : (k == 3) = false := by simpa using h3
  have q4 : (k == 4) = false := by simpa using h4
  have q5 : (k == 5) = false := by simpa using h5
  have q6 : (k == 6) = false := by simpa using h6
  have HM : Hid (mayF k n t m = false) := by show _ = _; simp [mayF, h0, h1, h2, h3, h4, h5, h6]
  go_enter Try.func51, Try.ntmps51
  go_wp2_with fail
  all_goals
    go_ret
    exact MayP.of HM.out.symm HB.out

theorem rmay_any (f : Fl) {u : Value} {w : World} {B : Nat} (hu : KidsIn w B u f.kids) (hn : f.name.size ≤ 1073741824) (ht : f.text.size ≤ 1073741824) : Calls Try.prog 51 #[flV f u] w (MayP (mayF f.kind f.name f.text f.kids.length) w) := by
  obtain ⟨a, c, rfl, _, _⟩ := hu.slice
  unfold flV
  generalize f.kind = k
  by_cases h0 : k = 0
  · subst h0; exact rmay_0 _ _ _ _ _ _
  by_cases h1 : k = 1
  · subst h1; exact rmay_1 _ _ _ _ _ _ ht
  by_cases h2 : k = 2
  · subst h2; exact rmay_2 _ _ _ _ _ _ hn ht
  by_cases h3 : k = 3
  · subst h3; exact rmay_3 _ _ _ _ _ _
  by_cases h4 : k = 4
  · subst h4; exact rmay_4 _ _ _ _ _ _
  by_cases h5 : k = 5
  · subst h5; exact rmay_5 _ _ _ _ _ _
  by_cases h6 : k = 6
  · subst h6; exact rmay_6 _ _ _ _ _ _
  exact rmay_x k _ _ _ _ _ _ h0 h1 h2 h3 h4 h5 h6

/-- What the document's walk tells. -/
def RwkP (r : Nat × Int) (w : World) (e : Ending) (w' : World) : Prop := ∃ n : Nat, e = .returned (.tuple #[.int .i64 (n : Int), .int .i64 r.2]) ∧ (r.2 = 0 → n = r.1) ∧ Below w.heap.size w w'
def RwkOk (m : Nat) (f : Fl) : Prop := ∀ (w : World) (ah : Nat) (u : Value), KidsIn w w.heap.size u f.kids → ah ≤ 24 → Light f → m ≤ 6 →
  Calls Try.prog 40 #[flV f u, .int .i64 ((6 - m : Nat) : Int), .int .i64 (ah : Nat)] w (RwkP (ec m f ah) w)
set_option maxRecDepth 100000 in
set_option maxHeartbeats 1600000 in
theorem rwalk_zero (f : Fl) : RwkOk 0 f := by
  intro w ah u hk hah hl hm
  obtain ⟨a, cap, rfl, _, _⟩ := hk.slice
  have HB := Lib.hid (lay_alloc w (.cells #[.int .i64 f.kind, .string f.name, .string f.text, .slice a f.kids.length cap] 24))
  clear hk hl
  unfold flV
  show Calls _ _ #[_, .int .i64 ((6 : Nat) : Int), _] _ _
  go_enter Try.func40, Try.ntmps40
  go_wp2_with fail
  go_ret2
  exact ⟨ah, rfl, by simp [ec], HB.out⟩
set_option maxRecDepth 100000 in
set_option maxHeartbeats 6400000 in
theorem rwalk_step (m : Nat) (f : Fl) (IH : ∀ k ∈ f.kids, RwkOk m k) : RwkOk (m + 1) f := by
  intro w ah u hk hah hl hm
  have hE := ec_succ m f ah
  have HLi := Lib.hid hl
  have hln := hl.name
  have hlt := hl.text
  have hlk := hl.kids
  obtain ⟨a, cap, rfl, hcap1, hcap2⟩ := hk.slice
  have hb := lay_alloc w (.cells #[.int .i64 f.kind, .string f.name, .string f.text, .slice a f.kids.length cap] 24)
  have HB := Lib.hid hb
  have HF := Lib.hid (DC.alloc w [.int .i64 f.kind, .string f.name, .string f.text, .slice a f.kids.length cap] 24)
  have HK := Lib.hid (hk.on hb)
  have hM := rmay_any f (hk.on hb) (by omega) (by omega)
  have HIH := Lib.hid IH
  have hdm : 6 - m = 6 - (m + 1) + 1 := by omega
  have hdp : 6 - (m + 1) < 6 := by omega
  generalize 6 - (m + 1) = dp at *
  have hd6 : ¬ (6 : Int) ≤ (dp : Int) := by omega
  unfold flV at hM ⊢
  have HM := Lib.hid hM
  clear hk hl hb IH hM
  by_cases hno : 24 ≤ ah
  · rw [if_pos hno] at hE
    rw [hE]
    have h24 : (24 : Int) ≤ (ah : Int) := by omega
    clear HM hE
    go_enter Try.func40, Try.ntmps40
    go_wp2_with fail
    go_ret2
    exact ⟨ah, rfl, by simp, HB.out⟩
  rw [if_neg hno] at hE
  have h24 : ¬ (24 : Int) ≤ (ah : Int) := by omega
  by_cases hmay : mayF f.kind f.name f.text f.kids.length = false
  · rw [if_pos hmay] at hE
    rw [hE]
    rw [hmay] at HM
    clear hE
    go_enter Try.func40, Try.ntmps40
    go_wp2_with fail
    go_fit HM.out
    rintro e w2 ⟨rfl, hb2⟩
    have HB2 := Lib.hid (HB.out.trans (hb2.mono HB.out.size))
    clear hb2
    go_wp2_with fail
    go_ret2
    exact ⟨ah, rfl, by simp, HB2.out⟩
  rw [if_neg hmay] at hE
  have hmay : mayF f.kind f.name f.text f.kids.length = true := by simpa using hmay
  rw [hmay] at HM
  rw [hE]
  clear hE
  have HAH : Hid (ah + 1 ≤ 24) := by show _ ≤ _; omega
  have ea : IntKind.i64.wrap ((ah : Int) + 1) = ((ah + 1 : Nat) : Int) := by rw [IntWalk.i64_in _ (by omega)]; omega
  go_enter Try.func40, Try.ntmps40
  go_wp2_with fail
  go_fit HM.out
  rintro e w2 ⟨rfl, hb2⟩
  have HB2 := Lib.hid (HB.out.trans (hb2.mono HB.out.size))
  have hF2 := HF.out.below hb2
  have y0 := hF2.cells 0 _ rfl
  have y1 := hF2.cells 1 _ rfl
  have y2 := hF2.cells 2 _ rfl
  have y3 := hF2.cells 3 _ rfl
  have HK2 := Lib.hid (HK.out.on hb2)
  clear hb2 hF2 HM
  go_wp2_with fail
  have ea1 : (ah : Int) + 1 = ((ah + 1 : Nat) : Int) := by omega
  rw [ea1]
  go_loopw [2, 28] (fun av iv wr => ∃ i : Nat, iv = .int .i64 i ∧ i ≤ f.kids.length ∧ av = .int .i64 ((ecs m (f.kids.take i) (ah + 1)).1 : Nat) ∧ Hid ((ecs m (f.kids.take i) (ah + 1)).2 = 0) ∧ Hid (Below w2.heap.size w2 wr))
    (fun _ v _ => f.kids.length - (intOf v).toNat)
  case atStart => exact ⟨0, rfl, Nat.zero_le _, rfl, rfl, Below.refl _ _⟩
  case round =>
    obtain ⟨i, rfl, hin, rfl, he0, hb⟩ := hrel
    have ei : IntKind.i64.wrap ((i : Int) + 1) = (i : Int) + 1 := IntWalk.i64_in _ (by omega)
    by_cases hlt : i < f.kids.length
    · obtain ⟨k, hk1⟩ : ∃ k, f.kids[i]? = some k := ⟨f.kids[i], List.getElem?_eq_getElem hlt⟩
      have hKr := HK2.out.on hb.out
      obtain ⟨g, off, u, rfl, _, hgB, k0, k1, k2, k3, hku⟩ := hKr.at_ hk1
      obtain ⟨ua, uc, rfl, _, _⟩ := hku.slice
      have hI1 : (i : Int) < ((f.kids.length : Nat) : Int) := by omega
      have hI2 : (0 : Int) ≤ (i : Int) := by omega
      have hmem : k ∈ f.kids := List.mem_of_getElem? hk1
      have hal := lay_alloc wr (.cells #[.int .i64 k.kind, .string k.name, .string k.text, .slice ua k.kids.length uc] 24)
      have hahk : (ecs m (f.kids.take i) (ah + 1)).1 ≤ 24 := (ecs_le m (ec_le m) (f.kids.take i) (ah + 1, 0) HAH.out).1
      have hC := HIH.out k hmem (wr.alloc (.cells #[.int .i64 k.kind, .string k.name, .string k.text, .slice ua k.kids.length uc] 24)) (ecs m (f.kids.take i) (ah + 1)).1 (.slice ua k.kids.length uc) (hku.on hal) hahk (HLi.out.kid hmem) (by omega)
      unfold flV at hC
      rw [hdm] at hC
      have HST : Hid (ecs m (f.kids.take (i + 1)) (ah + 1) = ec m k (ecs m (f.kids.take i) (ah + 1)).1) := ecs_step hk1 m (ah + 1) he0.out
      rw [← HST.out] at hC
      have HC := Lib.hid hC
      have HBA : Hid ((ecs m (f.kids.take (i + 1)) (ah + 1)).2 ≠ 0 → ecs m f.kids (ah + 1) = ecs m (f.kids.take (i + 1)) (ah + 1)) := ecs_bad m (ah + 1)
      have HGA := Lib.hid (hb.out.trans (hal.mono hb.out.size))
      have hdp1 : IntKind.i64.wrap ((dp : Int) + 1) = ((dp + 1 : Nat) : Int) := by rw [IntWalk.i64_in _ (by omega)]; omega
      clear hKr hku hal hmem hk1 hb hC he0 hahk
      generalize hR : ecs m (f.kids.take (i + 1)) (ah + 1) = R at *
      have HRR := Lib.hid hR
      clear hR
      obtain ⟨R1, R2⟩ := R
      go_wp2_with fail
      go_fit HC.out
      rintro e w3 ⟨n, rfl, hn, hb3⟩
      have HB3 := Lib.hid (HGA.out.trans (hb3.mono HGA.out.size))
      simp only at hn HBA ⊢
      clear hb3 k0 k1 k2 k3 HC HGA HST
      by_cases he : R2 = 0
      · subst he
        have HN := Lib.hid (hn rfl)
        clear hn
        go_wp2_with fail
        refine ⟨⟨i + 1, by simp, hlt, ?_, ?_, HB3⟩, by show f.kids.length - ((i : Int) + 1).toNat < f.kids.length - ((i : Int)).toNat; omega⟩
        · rw [HRR.out, HN.out]
        · show _ = _
          rw [HRR.out]
      · have hne : (R2 != 0) = true := by simpa using he
        have hne2 : (R2 == 0) = false := by simpa using he
        have HBD := Lib.hid (HBA.out he)
        clear hn
        go_wp2_with fail
        go_ret2
        rw [HBD.out]
        exact ⟨n, rfl, fun h => absurd h he, HB2.out.trans (HB3.out.mono HB2.out.size)⟩
    · obtain rfl : i = f.kids.length := by omega
      have HE0 : Hid ((ecs m f.kids (ah + 1)).2 = 0) := by have h := he0.out; rw [List.take_length] at h; exact h
      rw [List.take_length]
      generalize ecs m f.kids (ah + 1) = R at *
      obtain ⟨R1, R2⟩ := R
      obtain rfl : R2 = 0 := HE0.out
      go_wp2_with fail
      go_ret2
      exact ⟨R1, rfl, fun _ => rfl, HB2.out.trans (hb.out.mono HB2.out.size)⟩
end Go.Proofs.Ytdeknkfhlmkabaa
