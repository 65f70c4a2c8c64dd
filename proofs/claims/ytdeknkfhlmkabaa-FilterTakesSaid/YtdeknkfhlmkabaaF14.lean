/-
  Walks: the document's Holds and Pass, over kids.
-/
import Derived.Test.YtdeknkfhlmkabaaF13
namespace Go.Proofs.Ytdeknkfhlmkabaa
set_option linter.unusedVariables false
set_option linter.unusedSimpArgs false
open Go.RowKit
variable {w : World} {f : Fl} {a : Option Addr} {cap : Nat}

theorem cnt_step {ks : List Fl} {i : Nat} {k : Fl} (p : Fl → Bool) (h : ks[i]? = some k) : (ks.take (i + 1)).countP p = (ks.take i).countP p + (if p k = true then 1 else 0) := by
  rw [ones_take h, List.countP_append]
  simp [List.countP_cons]
theorem cnt_le (ks : List Fl) (p : Fl → Bool) (i : Nat) : (ks.take i).countP p ≤ i := Nat.le_trans List.countP_le_length (List.length_take_le _ _)
theorem cnt_all (ks : List Fl) (p : Fl → Bool) : (((ks.countP p : Nat) : Int) == (ks.length : Nat)) = ks.all p := by
  rw [Bool.eq_iff_iff, beq_iff_eq, List.all_eq_true]
  constructor
  · intro h
    exact List.countP_eq_length.1 (by omega)
  · intro h
    have := List.countP_eq_length.2 h
    omega
theorem cnt_any (ks : List Fl) (p : Fl → Bool) : decide ((0 : Int) < ((ks.countP p : Nat) : Int)) = ks.any p := by
  rw [Bool.eq_iff_iff, decide_eq_true_iff, List.any_eq_true]
  constructor
  · intro h
    exact List.countP_pos_iff.1 (by omega)
  · intro h
    have := List.countP_pos_iff.2 h
    omega

set_option maxRecDepth 100000 in
set_option maxHeartbeats 6400000 in
theorem rholds_5 (ev : Kev) (p : Fl → Bool) (hl : f.kids.length ≤ 1000) (hku : KidsIn w w.heap.size (.slice a f.kids.length cap) f.kids)
    (IH : ∀ k ∈ f.kids, ∀ W u, KidsIn W W.heap.size u k.kids → Calls Try.prog 41 #[flV k u, evV ev] W (HoldP (p k) W)) : Calls Try.prog 41 #[.agg #[.int .i64 5, .string f.name, .string f.text, .slice a f.kids.length cap], evV ev] w (HoldP (f.kids.all p) w) := by
  unfold evV at IH ⊢
  have hb1 := lay_alloc w (.cells #[.int .i64 5, .string f.name, .string f.text, .slice a f.kids.length cap] 24)
  have hb2 := lay_alloc (w.alloc (.cells #[.int .i64 5, .string f.name, .string f.text, .slice a f.kids.length cap] 24)) (.cells #[.int .i64 ev.pos, .string ev.key, .bool ev.had, .string ev.old, .bool ev.has, .string ev.now] 32)
  have hb := hb1.trans (hb2.mono hb1.size)
  have HB := Lib.hid hb
  have hF := (DC.alloc w [.int .i64 5, .string f.name, .string f.text, .slice a f.kids.length cap] 24).below hb2
  have hY := DC.alloc (w.alloc (.cells #[.int .i64 5, .string f.name, .string f.text, .slice a f.kids.length cap] 24)) [.int .i64 ev.pos, .string ev.key, .bool ev.had, .string ev.old, .bool ev.has, .string ev.now] 32
  have hsz : (w.alloc (.cells #[.int .i64 5, .string f.name, .string f.text, .slice a f.kids.length cap] 24)).heap.size = w.heap.size + 1 := by simp
  rw [hsz] at hY
  have HF := Lib.hid hF
  have HY := Lib.hid hY
  clear hF hY hsz hb1 hb2
  have HK := Lib.hid (hku.on hb)
  have HI := Lib.hid IH
  have f3 := HF.out.cells 3 _ rfl
  clear hb hku IH
  go_enter Try.func41, Try.ntmps41
  go_wp2_with fail
  go_loopw [7, 71] (fun nv iv wr => ∃ i : Nat, iv = .int .i64 i ∧ i ≤ f.kids.length ∧ nv = .int .i64 ((f.kids.take i).countP p : Nat) ∧ Hid (Below ((w.alloc (.cells #[.int .i64 5, .string f.name, .string f.text, .slice a f.kids.length cap] 24)).alloc (.cells #[.int .i64 ev.pos, .string ev.key, .bool ev.had, .string ev.old, .bool ev.has, .string ev.now] 32)).heap.size ((w.alloc (.cells #[.int .i64 5, .string f.name, .string f.text, .slice a f.kids.length cap] 24)).alloc (.cells #[.int .i64 ev.pos, .string ev.key, .bool ev.had, .string ev.old, .bool ev.has, .string ev.now] 32)) wr))
    (fun _ v _ => f.kids.length - (intOf v).toNat)
  case atStart => exact ⟨0, rfl, Nat.zero_le _, rfl, Below.refl _ _⟩
  case round =>
    obtain ⟨i, rfl, hin, rfl, hb⟩ := hrel
    have ei : IntKind.i64.wrap ((i : Int) + 1) = (i : Int) + 1 := IntWalk.i64_in _ (by omega)
    have hcl := cnt_le f.kids p i
    by_cases hlt : i < f.kids.length
    · obtain ⟨k, hk1⟩ : ∃ k, f.kids[i]? = some k := ⟨f.kids[i], List.getElem?_eq_getElem hlt⟩
      have hKr := HK.out.on hb.out
      obtain ⟨g, off, u, rfl, _, hgB, k0, k1, k2, k3, hku⟩ := hKr.at_ hk1
      obtain ⟨ua, uc, rfl, _, _⟩ := hku.slice
      have hI1 : (i : Int) < ((f.kids.length : Nat) : Int) := by omega
      have hI2 : (0 : Int) ≤ (i : Int) := by omega
      have hal := lay_alloc wr (.cells #[.int .i64 k.kind, .string k.name, .string k.text, .slice ua k.kids.length uc] 24)
      have hC := HI.out k (List.mem_of_getElem? hk1) (wr.alloc (.cells #[.int .i64 k.kind, .string k.name, .string k.text, .slice ua k.kids.length uc] 24)) (.slice ua k.kids.length uc) (hku.on hal)
      unfold flV at hC
      have HC := Lib.hid hC
      have HST := Lib.hid (cnt_step p hk1)
      have HGA := Lib.hid (hb.out.trans (hal.mono hb.out.size))
      have hK0 := DC.alloc wr [.int .i64 k.kind, .string k.name, .string k.text, .slice ua k.kids.length uc] 24
      have hY := HY.out.below (hb.out.trans (hal.mono hb.out.size))
      have y0 := hY.cells 0 _ rfl
      have y1 := hY.cells 1 _ rfl
      have y2 := hY.cells 2 _ rfl
      have y3 := hY.cells 3 _ rfl
      have y4 := hY.cells 4 _ rfl
      have y5 := hY.cells 5 _ rfl
      clear hKr hku hal hk1 hb hC hY hK0
      generalize (f.kids.take i).countP p = C at *
      have ec1 : IntKind.i64.wrap ((C : Int) + 1) = (C : Int) + 1 := IntWalk.i64_in _ (by omega)
      go_wp2_with fail
      go_fit HC.out
      rintro e w3 ⟨rfl, hb3⟩
      have HB3 := Lib.hid (HGA.out.trans (hb3.mono HGA.out.size))
      clear hb3
      all_goals
       clear k0 k1 k2 k3 HC HGA y0 y1 y2 y3 y4 y5
       cases hp : p k
       · have HN : Hid ((f.kids.take (i + 1)).countP p = C) := by show _ = _; rw [HST.out, hp]; rfl
         clear hp
         go_wp2_with fail
         exact ⟨⟨i + 1, by simp, hlt, by rw [HN.out], HB3⟩, by show f.kids.length - ((i : Int) + 1).toNat < f.kids.length - ((i : Int)).toNat; omega⟩
       · have HN : Hid ((f.kids.take (i + 1)).countP p = C + 1) := by show _ = _; rw [HST.out, hp]; rfl
         clear hp
         go_wp2_with fail
         exact ⟨⟨i + 1, by simp, hlt, by rw [HN.out]; simp, HB3⟩, by show f.kids.length - ((i : Int) + 1).toNat < f.kids.length - ((i : Int)).toNat; omega⟩
    · obtain rfl : i = f.kids.length := by omega
      rw [List.take_length]
      have hF := HF.out.below hb.out
      have f0 := hF.cells 0 _ rfl
      have f3 := hF.cells 3 _ rfl
      have hc1 := cnt_all f.kids p
      have HBB := Lib.hid (HB.out.trans (hb.out.mono HB.out.size))
      generalize f.kids.all p = R at *
      rw [List.take_length] at hcl
      generalize f.kids.countP p = C at *
      clear hF hb
      cases R
      · skip
        go_wp2_with fail
        go_ret
        first | exact ⟨rfl, HBB.out⟩ | exact ⟨congrArg (fun b => Ending.returned (.bool b)) (by simpa using hc1), HBB.out⟩
      · skip
        go_wp2_with fail
        go_ret
        first | exact ⟨rfl, HBB.out⟩ | exact ⟨congrArg (fun b => Ending.returned (.bool b)) (by simpa using hc1), HBB.out⟩

set_option maxRecDepth 100000 in
set_option maxHeartbeats 6400000 in
theorem rholds_6 (ev : Kev) (p : Fl → Bool) (hl : f.kids.length ≤ 1000) (hku : KidsIn w w.heap.size (.slice a f.kids.length cap) f.kids)
    (IH : ∀ k ∈ f.kids, ∀ W u, KidsIn W W.heap.size u k.kids → Calls Try.prog 41 #[flV k u, evV ev] W (HoldP (p k) W)) : Calls Try.prog 41 #[.agg #[.int .i64 6, .string f.name, .string f.text, .slice a f.kids.length cap], evV ev] w (HoldP (f.kids.any p) w) := by
  unfold evV at IH ⊢
  have hb1 := lay_alloc w (.cells #[.int .i64 6, .string f.name, .string f.text, .slice a f.kids.length cap] 24)
  have hb2 := lay_alloc (w.alloc (.cells #[.int .i64 6, .string f.name, .string f.text, .slice a f.kids.length cap] 24)) (.cells #[.int .i64 ev.pos, .string ev.key, .bool ev.had, .string ev.old, .bool ev.has, .string ev.now] 32)
  have hb := hb1.trans (hb2.mono hb1.size)
  have HB := Lib.hid hb
  have hF := (DC.alloc w [.int .i64 6, .string f.name, .string f.text, .slice a f.kids.length cap] 24).below hb2
  have hY := DC.alloc (w.alloc (.cells #[.int .i64 6, .string f.name, .string f.text, .slice a f.kids.length cap] 24)) [.int .i64 ev.pos, .string ev.key, .bool ev.had, .string ev.old, .bool ev.has, .string ev.now] 32
  have hsz : (w.alloc (.cells #[.int .i64 6, .string f.name, .string f.text, .slice a f.kids.length cap] 24)).heap.size = w.heap.size + 1 := by simp
  rw [hsz] at hY
  have HF := Lib.hid hF
  have HY := Lib.hid hY
  clear hF hY hsz hb1 hb2
  have HK := Lib.hid (hku.on hb)
  have HI := Lib.hid IH
  have f3 := HF.out.cells 3 _ rfl
  clear hb hku IH
  go_enter Try.func41, Try.ntmps41
  go_wp2_with fail
  go_loopw [7, 71] (fun nv iv wr => ∃ i : Nat, iv = .int .i64 i ∧ i ≤ f.kids.length ∧ nv = .int .i64 ((f.kids.take i).countP p : Nat) ∧ Hid (Below ((w.alloc (.cells #[.int .i64 6, .string f.name, .string f.text, .slice a f.kids.length cap] 24)).alloc (.cells #[.int .i64 ev.pos, .string ev.key, .bool ev.had, .string ev.old, .bool ev.has, .string ev.now] 32)).heap.size ((w.alloc (.cells #[.int .i64 6, .string f.name, .string f.text, .slice a f.kids.length cap] 24)).alloc (.cells #[.int .i64 ev.pos, .string ev.key, .bool ev.had, .string ev.old, .bool ev.has, .string ev.now] 32)) wr))
    (fun _ v _ => f.kids.length - (intOf v).toNat)
  case atStart => exact ⟨0, rfl, Nat.zero_le _, rfl, Below.refl _ _⟩
  case round =>
    obtain ⟨i, rfl, hin, rfl, hb⟩ := hrel
    have ei : IntKind.i64.wrap ((i : Int) + 1) = (i : Int) + 1 := IntWalk.i64_in _ (by omega)
    have hcl := cnt_le f.kids p i
    by_cases hlt : i < f.kids.length
    · obtain ⟨k, hk1⟩ : ∃ k, f.kids[i]? = some k := ⟨f.kids[i], List.getElem?_eq_getElem hlt⟩
      have hKr := HK.out.on hb.out
      obtain ⟨g, off, u, rfl, _, hgB, k0, k1, k2, k3, hku⟩ := hKr.at_ hk1
      obtain ⟨ua, uc, rfl, _, _⟩ := hku.slice
      have hI1 : (i : Int) < ((f.kids.length : Nat) : Int) := by omega
      have hI2 : (0 : Int) ≤ (i : Int) := by omega
      have hal := lay_alloc wr (.cells #[.int .i64 k.kind, .string k.name, .string k.text, .slice ua k.kids.length uc] 24)
      have hC := HI.out k (List.mem_of_getElem? hk1) (wr.alloc (.cells #[.int .i64 k.kind, .string k.name, .string k.text, .slice ua k.kids.length uc] 24)) (.slice ua k.kids.length uc) (hku.on hal)
      unfold flV at hC
      have HC := Lib.hid hC
      have HST := Lib.hid (cnt_step p hk1)
      have HGA := Lib.hid (hb.out.trans (hal.mono hb.out.size))
      have hK0 := DC.alloc wr [.int .i64 k.kind, .string k.name, .string k.text, .slice ua k.kids.length uc] 24
      have hY := HY.out.below (hb.out.trans (hal.mono hb.out.size))
      have y0 := hY.cells 0 _ rfl
      have y1 := hY.cells 1 _ rfl
      have y2 := hY.cells 2 _ rfl
      have y3 := hY.cells 3 _ rfl
      have y4 := hY.cells 4 _ rfl
      have y5 := hY.cells 5 _ rfl
      clear hKr hku hal hk1 hb hC hY hK0
      generalize (f.kids.take i).countP p = C at *
      have ec1 : IntKind.i64.wrap ((C : Int) + 1) = (C : Int) + 1 := IntWalk.i64_in _ (by omega)
      go_wp2_with fail
      go_fit HC.out
      rintro e w3 ⟨rfl, hb3⟩
      have HB3 := Lib.hid (HGA.out.trans (hb3.mono HGA.out.size))
      clear hb3
      all_goals
       clear k0 k1 k2 k3 HC HGA y0 y1 y2 y3 y4 y5
       cases hp : p k
       · have HN : Hid ((f.kids.take (i + 1)).countP p = C) := by show _ = _; rw [HST.out, hp]; rfl
         clear hp
         go_wp2_with fail
         exact ⟨⟨i + 1, by simp, hlt, by rw [HN.out], HB3⟩, by show f.kids.length - ((i : Int) + 1).toNat < f.kids.length - ((i : Int)).toNat; omega⟩
       · have HN : Hid ((f.kids.take (i + 1)).countP p = C + 1) := by show _ = _; rw [HST.out, hp]; rfl
         clear hp
         go_wp2_with fail
         exact ⟨⟨i + 1, by simp, hlt, by rw [HN.out]; simp, HB3⟩, by show f.kids.length - ((i : Int) + 1).toNat < f.kids.length - ((i : Int)).toNat; omega⟩
    · obtain rfl : i = f.kids.length := by omega
      rw [List.take_length]
      have hF := HF.out.below hb.out
      have f0 := hF.cells 0 _ rfl
      have f3 := hF.cells 3 _ rfl
      have hc1 := cnt_any f.kids p
      have HBB := Lib.hid (HB.out.trans (hb.out.mono HB.out.size))
      generalize f.kids.any p = R at *
      rw [List.take_length] at hcl
      generalize f.kids.countP p = C at *
      clear hF hb
      cases R
      · have hq := of_decide_eq_false hc1
        go_wp2_with fail
        go_ret
        first | exact ⟨rfl, HBB.out⟩ | exact ⟨congrArg (fun b => Ending.returned (.bool b)) (by simpa using hc1), HBB.out⟩
      · have hq := of_decide_eq_true hc1
        go_wp2_with fail
        go_ret
        first | exact ⟨rfl, HBB.out⟩ | exact ⟨congrArg (fun b => Ending.returned (.bool b)) (by simpa using hc1), HBB.out⟩

theorem rholds_any (ev : Kev) (hs1 : ev.key.size ≤ 1073741824) (hs2 : ev.now.size ≤ 1073741824) : ∀ (m : Nat) (f : Fl) (ah : Nat), (ec m f ah).2 = 0 → Light f → ∀ (w : World) (u : Value), KidsIn w w.heap.size u f.kids → Calls Try.prog 41 #[flV f u, evV ev] w (HoldP (hold m f ev) w)
  | 0, f, ah, h, _, w, u, hk => by simp [ec] at h
  | m + 1, f, ah, h, hl, w, u, hk => by
    have IH : ∀ k ∈ f.kids, ∀ (w : World) (u : Value), KidsIn w w.heap.size u k.kids → Calls Try.prog 41 #[flV k u, evV ev] w (HoldP (hold m k ev) w) := fun k hk w u hu => by
      obtain ⟨a, ha⟩ := ok_kid h hk
      exact rholds_any ev hs1 hs2 m k a ha (hl.kid hk) w u hu
    have hm := ok_may h
    have hn := hl.name
    have ht := hl.text
    obtain ⟨a, cap, rfl, _, _⟩ := hk.slice
    by_cases h0 : f.kind = 0
    · rw [show hold (m + 1) f ev = true by simp [hold, h0]]
      unfold flV; rw [h0]
      exact rholds_0 ev
    by_cases h1 : f.kind = 1
    · rw [show hold (m + 1) f ev = beginsB ev.key f.text by simp [hold, h1]]
      unfold flV; rw [h1]
      exact rholds_1 ev hs1 (by omega)
    by_cases h2 : f.kind = 2
    · rw [show hold (m + 1) f ev = eqB f.name f.text ev by simp [hold, h2]]
      unfold flV; rw [h2]
      exact rholds_2 ev hs2 (by omega)
    by_cases h3 : f.kind = 3
    · rw [show hold (m + 1) f ev = ev.has by simp [hold, h3]]
      unfold flV; rw [h3]
      exact rholds_3 ev
    by_cases h4 : f.kind = 4
    · obtain ⟨x, hx⟩ : ∃ x, f.kids = [x] := by
        have : f.kids.length = 1 := by
          rw [h4] at hm
          simp [mayF] at hm
          exact hm.2
        exact List.length_eq_one_iff.1 this
      rw [show hold (m + 1) f ev = !(hold m x ev) by simp [hold, h4, hx]]
      unfold flV; rw [h4]
      exact rholds_4 ev x _ hx hk (fun W u hu => IH x (by rw [hx]; simp) W u hu)
    by_cases h5 : f.kind = 5
    · rw [show hold (m + 1) f ev = f.kids.all (hold m · ev) by simp [hold, h5]]
      unfold flV; rw [h5]
      exact rholds_5 ev _ hl.kids hk IH
    by_cases h6 : f.kind = 6
    · rw [show hold (m + 1) f ev = f.kids.any (hold m · ev) by simp [hold, h6]]
      unfold flV; rw [h6]
      exact rholds_6 ev _ hl.kids hk IH
    · simp [mayF, h0, h1, h2, h3, h4, h5, h6] at hm

set_option maxHeartbeats 1600000 in
theorem rHolds_any {w : World} {u : Value} (f : Fl) (ev : Kev) (hl : Light f) (hk : KidsIn w w.heap.size u f.kids) (hs1 : ev.key.size ≤ 1073741824) (hs2 : ev.now.size ≤ 1073741824) : Calls Try.prog 19 #[flV f u, evV ev] w (HoldP (holdsF f ev) w) := by
  obtain ⟨a, cap, rfl, _, _⟩ := hk.slice
  have hb1 := lay_alloc w (.cells #[.int .i64 f.kind, .string f.name, .string f.text, .slice a f.kids.length cap] 24)
  have hb2 := lay_alloc (w.alloc (.cells #[.int .i64 f.kind, .string f.name, .string f.text, .slice a f.kids.length cap] 24)) (.cells #[.int .i64 ev.pos, .string ev.key, .bool ev.had, .string ev.old, .bool ev.has, .string ev.now] 32)
  have hb := hb1.trans (hb2.mono hb1.size)
  have HB := Lib.hid hb
  have hF := (DC.alloc w [.int .i64 f.kind, .string f.name, .string f.text, .slice a f.kids.length cap] 24).below hb2
  have hY := DC.alloc (w.alloc (.cells #[.int .i64 f.kind, .string f.name, .string f.text, .slice a f.kids.length cap] 24)) [.int .i64 ev.pos, .string ev.key, .bool ev.had, .string ev.old, .bool ev.has, .string ev.now] 32
  have hsz : (w.alloc (.cells #[.int .i64 f.kind, .string f.name, .string f.text, .slice a f.kids.length cap] 24)).heap.size = w.heap.size + 1 := by simp
  rw [hsz] at hY
  have HF := Lib.hid hF
  have HY := Lib.hid hY
  clear hF hY hsz hb1 hb2
  have HC := Lib.hid (rCheck_any f hl (hk.on hb))
  have HK := Lib.hid (hk.on hb)
  have HL := Lib.hid hl
  unfold flV at HC ⊢
  unfold evV
  clear hb hk hl
  go_enter Try.func19, Try.ntmps19
  go_wp2_with fail
  go_fit HC.out
  rintro e w1 ⟨rfl, hb1⟩
  have HB1 := Lib.hid (HB.out.trans (hb1.mono HB.out.size))
  by_cases h0 : ckF f = 0
  · have hE : holdsF f ev = hold 6 f ev := by simp [holdsF, h0]
    have hC2 := rholds_any ev hs1 hs2 6 f 0 h0 HL.out w1 _ (HK.out.on hb1)
    rw [← hE] at hC2
    unfold flV evV at hC2
    have HC2 := Lib.hid hC2
    have hz : (ckF f == 0) = true := by simpa using h0
    have hF1 := HF.out.below hb1
    have hY1 := HY.out.below hb1
    have f0 := hF1.cells 0 _ rfl
    have f1 := hF1.cells 1 _ rfl
    have f2 := hF1.cells 2 _ rfl
    have f3 := hF1.cells 3 _ rfl
    have y0 := hY1.cells 0 _ rfl
    have y1 := hY1.cells 1 _ rfl
    have y2 := hY1.cells 2 _ rfl
    have y3 := hY1.cells 3 _ rfl
    have y4 := hY1.cells 4 _ rfl
    have y5 := hY1.cells 5 _ rfl
    clear hb1 hE hC2 hF1 hY1 hs1 hs2
    go_wp2_with fail
    go_fit HC2.out
    rintro e w2 ⟨rfl, hb2⟩
    have HB2 := Lib.hid (HB1.out.trans (hb2.mono HB1.out.size))
    clear hb2
    go_wp2_with fail
    go_ret
    exact ⟨rfl, HB2.out⟩
  · have hz : (ckF f == 0) = false := by simpa using h0
    have HE : Hid (holdsF f ev = false) := by show _ = _; simp [holdsF, h0]
    clear hb1
    go_wp2_with fail
    go_ret
    exact ⟨by rw [HE.out]; rfl, HB1.out⟩

set_option maxRecDepth 100000 in
set_option maxHeartbeats 3200000 in
theorem rPass_any {w : World} {u v : Value} (f : Fl) (l : List Kev) (hl : Light f) (hk : KidsIn w w.heap.size u f.kids) (hv : evL.In w v l) (hll : l.length ≤ 1000000) (hs1 : ∀ e ∈ l, e.key.size ≤ 1073741824) (hs2 : ∀ e ∈ l, e.now.size ≤ 1073741824) : Calls Try.prog 23 #[flV f u, v] w (PassP (passF f l) w) := by
  obtain ⟨a, cap, rfl, _, _⟩ := hk.slice
  obtain ⟨va, vc, rfl, hvc1, hvc2⟩ := hv.slice
  have hb1 := lay_alloc w (.cells #[.int .i64 f.kind, .string f.name, .string f.text, .slice a f.kids.length cap] 24)
  have HB := Lib.hid hb1
  have HF := Lib.hid (DC.alloc w [.int .i64 f.kind, .string f.name, .string f.text, .slice a f.kids.length cap] 24)
  have HK := Lib.hid (hk.on hb1)
  have HV := Lib.hid (hv.later hb1)
  have HS1 := Lib.hid hs1
  have HS2 := Lib.hid hs2
  have HL := Lib.hid hl
  unfold flV
  clear hk hb1 hv hs1 hs2 hl
  go_enter Try.func23, Try.ntmps23
  go_wp2_with fail
  generalize hW0 : (w.alloc (.cells #[.int .i64 f.kind, .string f.name, .string f.text, .slice a f.kids.length cap] 24)) = w1 at *
  clear hW0
  go_loopw [5, 10] (fun lv iv wr => ∃ i : Nat, iv = .int .i64 i ∧ i ≤ l.length ∧ Hid (Rw evL 32 w1 wr lv (passF f (l.take i))))
    (fun _ v _ => l.length - (intOf v).toNat)
  case atStart => exact ⟨0, rfl, Nat.zero_le _, ⟨World.ownsRow_nil _ _ _ _, Below.refl _ _⟩⟩
  case round =>
    obtain ⟨i, rfl, hin, hrw⟩ := hrel
    have hb : Hid (Below w1.heap.size w1 wr) := hrw.out.grown
    have ei : IntKind.i64.wrap ((i : Int) + 1) = (i : Int) + 1 := IntWalk.i64_in _ (by omega)
    by_cases hlt : i < l.length
    · obtain ⟨e, he⟩ : ∃ e, l[i]? = some e := ⟨l[i], List.getElem?_eq_getElem hlt⟩
      obtain ⟨g, off, rfl, _, hcell⟩ := (HV.out.later hb.out).cells he
      have k0 : wr.cell? ⟨g, off + i * 6, none⟩ = some (.int .i64 e.pos) := hcell 0 _ rfl
      have k1 : wr.cell? ⟨g, off + i * 6 + 1, none⟩ = some (.string e.key) := hcell 1 _ rfl
      have k2 : wr.cell? ⟨g, off + i * 6 + 2, none⟩ = some (.bool e.had) := hcell 2 _ rfl
      have k3 : wr.cell? ⟨g, off + i * 6 + 3, none⟩ = some (.string e.old) := hcell 3 _ rfl
      have k4 : wr.cell? ⟨g, off + i * 6 + 4, none⟩ = some (.bool e.has) := hcell 4 _ rfl
      have k5 : wr.cell? ⟨g, off + i * 6 + 5, none⟩ = some (.string e.now) := hcell 5 _ rfl
      have hI1 : (i : Int) < ((l.length : Nat) : Int) := by omega
      have hI2 : (0 : Int) ≤ (i : Int) := by omega
      have hal := lay_alloc wr (.cells #[.int .i64 e.pos, .string e.key, .bool e.had, .string e.old, .bool e.has, .string e.now] 32)
      have HD := Lib.hid (DC.alloc wr [.int .i64 e.pos, .string e.key, .bool e.had, .string e.old, .bool e.has, .string e.now] 32)
      have hF1 := HF.out.below (hb.out.trans (hal.mono hb.out.size))
      have f0 := hF1.cells 0 _ rfl
      have f1 := hF1.cells 1 _ rfl
      have f2 := hF1.cells 2 _ rfl
      have f3 := hF1.cells 3 _ rfl
      have hC := rHolds_any f e HL.out ((HK.out.on hb.out).on hal) (HS1.out e (List.mem_of_getElem? he)) (HS2.out e (List.mem_of_getElem? he))
      unfold evV flV at hC
      have HC2 := Lib.hid hC
      have HST := Lib.hid (pass_step (f := f) he)
      have HN : Hid ((passF f (l.take i)).length ≤ 1000000) := by show _ ≤ _; have := pass_len f l i; omega
      have HR1 := Lib.hid (hrw.out.alloc (.cells #[.int .i64 e.pos, .string e.key, .bool e.had, .string e.old, .bool e.has, .string e.now] 32))
      clear he hcell hal hC hrw hb hF1
      go_wp2_with fail
      go_fit HC2.out
      rintro e' w3 ⟨rfl, hb3⟩
      have hR3 := HR1.out.below hb3
      have hD3 := HD.out.below hb3
      have d0 := hD3.cells 0 _ rfl
      have d1 := hD3.cells 1 _ rfl
      have d2 := hD3.cells 2 _ rfl
      have d3 := hD3.cells 3 _ rfl
      have d4 := hD3.cells 4 _ rfl
      have d5 := hD3.cells 5 _ rfl
      obtain ⟨ea, ec, hev, _, _⟩ := hR3.slice
      subst hev
      have HR3 := Lib.hid hR3
      have HA3 : Hid (w1.heap.size ≤ w3.heap.size) := hR3.grown.size
      clear hb3 hR3 hD3 HR1 HC2 k0 k1 k2 k3 k4 k5 HD f0 f1 f2 f3
      cases hh : holdsF f e
      · have HE : Hid (passF f (l.take (i + 1)) = passF f (l.take i)) := by show _ = _; rw [HST.out, hh]; simp
        clear hh
        go_wp2_with fail
        refine ⟨⟨i + 1, by simp, hlt, ?_⟩, by show l.length - ((i : Int) + 1).toNat < l.length - ((i : Int)).toNat; omega⟩
        show Rw _ _ _ _ _ _
        rw [HE.out]; exact HR3.out
      · have HE : Hid (passF f (l.take (i + 1)) = passF f (l.take i) ++ [e]) := by show _ = _; rw [HST.out, hh]; simp
        clear hh
        generalize hes : passF f (l.take i) = es at *
        clear hes HST
        go_wp2_with (at_builtin; refine wpList_pushI rfl _ _ 29 32 _ 6 72 rfl Try.underlying29 Try.infoEv rfl (by decide) w1.heap.size es.length _ (evL.all es) rfl HR3.out.own #[.int .i64 e.pos, .string e.key, .bool e.had, .string e.old, .bool e.has, .string e.now] rfl (evL.one e) rfl (by have := HN.out; omega) (by decide) HA3.out ?_; intro g4 c4 w4 hown hgrow hat hlt4; have HR4 := Lib.hid (HR3.out.push e hown hgrow); clear hown hgrow hat hlt4)
        refine ⟨⟨i + 1, by simp, hlt, ?_⟩, by show l.length - ((i : Int) + 1).toNat < l.length - ((i : Int)).toNat; omega⟩
        show Rw _ _ _ _ _ _
        rw [HE.out]; exact HR4.out
    · obtain rfl : i = l.length := by omega
      have HR : Hid (Rw evL 32 w wr u5 (passF f l)) := by have h := hrw.out; rw [List.take_length] at h; exact h.base HB.out
      go_wp2_with fail
      go_ret
      exact ⟨_, rfl, HR.out⟩
end Go.Proofs.Ytdeknkfhlmkabaa
