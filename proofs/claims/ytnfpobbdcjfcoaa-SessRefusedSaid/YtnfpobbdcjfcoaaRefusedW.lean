/-
  SessRefused: the walk. (Written by genref.py.)
-/
import Derived.Test.YtnfpobbdcjfcoaaPut
import Derived.BigQuiet
namespace Go.Proofs.Ytnfpobbdcjfcoaa
set_option linter.unusedVariables false
set_option linter.unusedSimpArgs false
open Go.RowKit
variable {w : World} {B b : Nat} {L : List Nat} {t : Tb}

def Kd.Ok (k : Kd) : Prop := k.q ≤ 9223372036854775807 ∧ k.err ≤ 9223372036854775807 ∧ k.n ≤ 9223372036854775807
def Tb.Rep (t : Tb) : Prop := ∀ s ∈ t.seats, s.err ≤ 9223372036854775807 ∧ s.n ≤ 9223372036854775807
theorem does_rep (h : t.Rep) (c : Kd) (hc : c.Ok) : (t.does c).2.Rep := by
  unfold Tb.does
  split
  · unfold Tb.opn
    split
    · exact h
    · split
      · exact h
      · intro s hs
        rcases List.mem_append.1 hs with hs | hs
        · exact h s hs
        · simp at hs; subst hs; simp
  · split
    · unfold Tb.close
      split
      · exact h
      · intro s hs
        exact h s ((List.eraseIdx_sublist _ _).subset hs)
    · split
      · exact h
      · unfold Tb.keep
        split
        · exact h
        · split
          · exact h
          · split
            · exact h
            · intro s hs
              rcases List.mem_or_eq_of_mem_set hs with hs | rfl
              · exact h s hs
              · exact hc.2
theorem dos_rep : ∀ (ks : List Kd) (t : Tb), t.Rep → (∀ k ∈ ks, k.Ok) → (dos t ks).Rep
  | [], t, h, _ => h
  | k :: ks, t, h, hk => dos_rep ks _ (does_rep h k (hk k (by simp))) (fun x hx => hk x (by simp [hx]))
theorem fit_of {n : Nat} (h : t.Ok n) (hn : n ≤ 4611686018427387904) (hr : t.Rep) : t.Fit :=
  ⟨by have := h.begun; omega, fun s hs => by
    have h1 := h.id s hs
    have h2 := h.seq s hs
    have h3 := h.begun
    exact ⟨by omega, by omega, hr s hs⟩⟩
theorem does_same {c : Kd} (h : (t.does c).1 ≠ 0 ∨ opc c.op = 3) : (t.does c).2 = t := by
  unfold Tb.does at h ⊢
  by_cases h1 : opc c.op < 2
  · rw [if_pos h1] at h ⊢
    have h := h.resolve_right (by omega)
    unfold Tb.opn at h ⊢
    split
    · rfl
    · rename_i h2
      rw [if_neg h2] at h
      split
      · rfl
      · rename_i h3
        rw [if_neg h3] at h; simp at h
  · rw [if_neg h1] at h ⊢
    by_cases h2 : opc c.op = 2
    · rw [if_pos h2] at h ⊢
      have h := h.resolve_right (by omega)
      unfold Tb.close at h ⊢
      split
      · rfl
      · rename_i hp; rw [hp] at h; simp at h
    · rw [if_neg h2] at h ⊢
      by_cases h3 : opc c.op = 3
      · rw [if_pos h3]
      · rw [if_neg h3] at h ⊢
        have h := h.resolve_right h3
        unfold Tb.keep at h ⊢
        split
        · rfl
        · rename_i hp
          rw [hp] at h
          simp only at h
          split
          · rfl
          · rename_i h4
            rw [if_neg h4] at h
            split
            · rfl
            · rename_i h5
              rw [if_neg h5] at h; simp at h

theorem Tk.apart2 {w w' : World} {LA LA' : List Nat} (h : Tk w B b L t) (hc : ∀ k ∈ L, k ∉ LA) (he : Ext w LA w' LA') : Tk w' B b L t := by
  obtain ⟨v, h⟩ := h
  have hk : ∀ k ∈ L, w'.heap[k]? = w.heap[k]? := fun k hk => he.block k (h.llt k hk) (hc k hk)
  refine ⟨v, h.cells.keep he.size (hk b h.bL), ?_, h.at_, h.low⟩
  have ho := h.own
  refine ⟨ho.1, ?_⟩
  rcases ho.2 with h0 | ⟨g, cap, cur, hv, hg, hh, rest⟩
  · exact .inl h0
  · refine .inr ⟨g, cap, cur, hv, hg, ?_, rest⟩
    rw [hk g (h.ob g (by rw [hv]; rfl)).1]; exact hh

set_option maxRecDepth 100000 in
set_option maxHeartbeats 3200000 in
theorem equal_any {v u : Value} {l : List Se} (h : SeB w [] v l) (hu : SeB w [] u l) :
    Calls Try.prog 27 #[v, u] w fun e w' => e = .returned (.bool true) ∧ Below w.heap.size w w' := by
  obtain ⟨a, c, rfl, h1, h2, h⟩ := h
  obtain ⟨a', c', rfl, h1', h2', h'⟩ := hu
  have HD := Lib.hid h
  have HE := Lib.hid h'
  clear h h'
  go_enter Try.func27, Try.ntmps27
  go_wp2_with fail
  go_loopw [13] (fun v wr => ∃ i : Nat, v = .int .i64 i ∧ i ≤ l.length ∧ Hid (Below w.heap.size w wr))
    (fun v _ => l.length - (intOf v).toNat)
  case atStart => exact ⟨0, rfl, Nat.zero_le _, Below.refl _ _⟩
  case round =>
    obtain ⟨i, rfl, hin, HB⟩ := hrel
    by_cases hlt : i < l.length
    · have ei : IntKind.i64.wrap ((i : Int) + 1) = (i : Int) + 1 := IntWalk.i64_in _ (by omega)
      obtain ⟨s, hs⟩ : ∃ s, l[i]? = some s := ⟨l[i], List.getElem?_eq_getElem hlt⟩
      obtain ⟨g, off, rfl, _, _, hat⟩ := HD.out.resolve_left (fun e => by rw [e] at hs; simp at hs)
      obtain ⟨g', off', rfl, _, _, hat'⟩ := HE.out.resolve_left (fun e => by rw [e] at hs; simp at hs)
      have HBD : Hid (Below w.heap.size w wr.drew) := ⟨HB.out.os, HB.out.tape, HB.out.output, HB.out.size, HB.out.block⟩
      obtain ⟨k0, k1, k2, k3⟩ := hat i s hs
      obtain ⟨m0, m1, m2, m3⟩ := hat' i s hs
      have k0 := cell_later HBD.out k0
      have k1 := cell_later HBD.out k1
      have k2 := cell_later HBD.out k2
      have k3 := cell_later HBD.out k3
      have m0 := cell_later HBD.out m0
      have m1 := cell_later HBD.out m1
      have m2 := cell_later HBD.out m2
      have m3 := cell_later HBD.out m3
      have hI1 : (i : Int) < ((l.length : Nat) : Int) := by omega
      have hI2 : (0 : Int) ≤ (i : Int) := by omega
      clear hat hat' hs
      go_wp2_with fail
      go_region
      all_goals
        go_wp2_with fail
        exact ⟨⟨i + 1, by simp, hlt, HBD⟩, by show l.length - ((i : Int) + 1).toNat < l.length - ((i : Int)).toNat; omega⟩
    · obtain rfl : i = l.length := by omega
      go_wp2_with fail
      go_ret
      exact ⟨rfl, HB.out⟩

theorem conv_any {w : World} {g n cap B : Nat} {xs : List Int} (h : w.ownsRow B 5 1 (.slice (some ⟨g, 0, none⟩) n cap) n (xs.map (Value.int .u8))) :
    (convert 52 9 (.slice (some ⟨g, 0, none⟩) n cap)).run Try.prog w = .ok (.string (strOfNums xs)) w :=
  (owns_in h).convert (owns_len h) cap _ _ _ Try.underlying52 Try.underlying5 Try.underlying9
theorem own_later {w w' : World} {B n size : Nat} {e : TypeId} {v : Value} {cs : List Value} (h : w.ownsRow B e size v n cs) (hb : Below w.heap.size w w') : w'.ownsRow B e size v n cs :=
  h.kept (row := none) ⟨hb.os, hb.tape, hb.output, hb.size, fun k hk _ => hb.block k hk⟩ (by cases v.ownBlock <;> simp)

set_option maxRecDepth 100000 in
set_option maxHeartbeats 25600000 in
theorem Refused_any {v : Value} {ks : List Kd} (hks : KdsIn w v ks) (hkq : ∀ k ∈ ks, k.Ok) (k : Kd) :
    Calls Try.prog 7 #[v, .agg #[.int .i64 k.op, .int .i64 k.k, .int .i64 k.q, .int .i64 k.err, .int .i64 k.n]] w (Yes w) := by
  have HB0 := Lib.hid (below_alloc w (.cells #[.int .i64 k.op, .int .i64 k.k, .int .i64 k.q, .int .i64 k.err, .int .i64 k.n] 34))
  have HD0 := Lib.hid (DC.alloc w [.int .i64 k.op, .int .i64 k.k, .int .i64 k.q, .int .i64 k.err, .int .i64 k.n] 34)
  have HK := Lib.hid (hks.later HB0.out)
  obtain ⟨a, c, rfl, _⟩ := hks
  by_cases hl : ks.length ≤ 500
  · have g1 : ((ks.length : Nat) : Int) ≤ 500 := by omega
    have HM := Lib.hid (made_any HK.out hl)
    have HL := Lib.hid hl
    have HRP := Lib.hid (dos_rep ks T0 (fun s hs => by cases hs) hkq)
    clear hkq
    go_enter Try.func7, Try.ntmps7
    go_wp2_with fail
    generalize hW0 : w.alloc (.cells #[.int .i64 k.op, .int .i64 k.k, .int .i64 k.q, .int .i64 k.err, .int .i64 k.n] 34) = w0 at *
    go_fit HM.out
    rintro e w1 ⟨ba, LA, rfl, hs⟩
    have HSA1 : Hid (Sk w0 w1 ba LA (dos T0 ks) 500) := hs.more HL.out
    have HM2 := Lib.hid (made_any (HK.out.later (HSA1.out.below)) HL.out)
    clear hs HM hl
    go_wp2_with fail
    go_fit HM2.out
    rintro e w2 ⟨bb, LB, rfl, hs⟩
    have HSB2 : Hid (Sk w1 w2 bb LB (dos T0 ks) 500) := hs.more HL.out
    have HSA2 := Lib.hid (HSA1.out.later HSB2.out.below)
    have hdis : ∀ k ∈ LB, k ∉ LA := fun k hk hm => by have := HSB2.out.tab.low k hk; have := HSA1.out.tab.llt k hm; omega
    have HDis := Lib.hid hdis
    generalize dos T0 ks = t at *
    clear hs HM2 HK hdis HSA1
    have d0 := cell_later HSA2.out.below (HD0.out.cells 0 _ rfl)
    have d1 := cell_later HSA2.out.below (HD0.out.cells 1 _ rfl)
    have d2 := cell_later HSA2.out.below (HD0.out.cells 2 _ rfl)
    have d3 := cell_later HSA2.out.below (HD0.out.cells 3 _ rfl)
    have d4 := cell_later HSA2.out.below (HD0.out.cells 4 _ rfl)
    have HC := Lib.hid (does_any k HSA2.out.tab HSA2.out.ok (by omega))
    have HFT := Lib.hid (fit_of HSA2.out.ok (by omega) HRP.out)
    go_wp2_with fail
    go_fit HC.out
    rintro e w3 ⟨LA', rfl, hd, he⟩
    have HSB3 := Lib.hid (HSB2.out.tab.apart2 HDis.out he)
    have HB3 := Lib.hid (HSA2.out.below.trans (he.below HSA2.out.below.size HSA2.out.tab.low))
    have HTA := Lib.hid hd
    have HLen : Hid (t.seats.length ≤ 8) := HSA2.out.ok.len
    clear hd he HC d0 d1 d2 d3 d4 HSA2 HSB2
    have d0 := cell_later HB3.out (HD0.out.cells 0 _ rfl)
    by_cases hres : (t.does k).1 ≠ 0 ∨ opc k.op = 3
    · have hsame := does_same hres
      rw [hsame] at HTA
      by_cases hz : (t.does k).1 = 0
      · have h3 : (bits .and .i64 k.op 7 == 3) = true := by have h := hres.resolve_left (fun h => h hz); unfold opc at h; rw [h]; rfl
        rw [hz]
        have hdr : Below w3.heap.size w3 w3.drew := ⟨rfl, rfl, rfl, Nat.le_refl _, fun _ _ => rfl⟩
        have HTd := Lib.hid (HTA.out.below hdr)
        have HBd := Lib.hid (HSB3.out.below hdr)
        have HWd := Lib.hid (HB3.out.trans (hdr.mono HB3.out.size))
        have HLa := Lib.hid (List_any HTd.out (by have := HLen.out; omega))
        clear hdr
        go_wp2_with fail
        go_region_with (first
          | (go_at_call 21; (with_reducible refine HLa.out.mono ?_); rintro e w4 ⟨u1, rfl, ho, hb⟩; have HU1 := Lib.hid (ho.seb (L := []) (fun k hk => by cases hk)); have HT4 := Lib.hid (HTd.out.below hb); have HB4 := Lib.hid (HBd.out.below hb); have HW4 := Lib.hid (HWd.out.trans (hb.mono HWd.out.size)); have HLb := Lib.hid (List_any HB4.out (by have := HLen.out; omega)); obtain ⟨ua, uc, rfl, _, _⟩ := HU1.out.slice; clear ho hb)
          | (go_at_call 21; (with_reducible refine HLb.out.mono ?_); rintro e w5 ⟨u2, rfl, ho, hb⟩; have HU2 := Lib.hid (ho.seb (L := []) (fun k hk => by cases hk)); have HT5 := Lib.hid (HT4.out.below hb); have HB5 := Lib.hid (HB4.out.below hb); have HW5 := Lib.hid (HW4.out.trans (hb.mono HW4.out.size)); have HEq := Lib.hid (equal_any (HU1.out.below hb) HU2.out); obtain ⟨va, vc, rfl, _, _⟩ := HU2.out.slice; clear ho hb)
          | (go_at_call 27; (with_reducible refine HEq.out.mono ?_); rintro e w6 ⟨rfl, hb⟩; have HT6 := Lib.hid (HT5.out.below hb); have HB6 := Lib.hid (HB5.out.below hb); have HW6 := Lib.hid (HW5.out.trans (hb.mono HW5.out.size)); have HP1 := Lib.hid (Put_any (p := none) (n := 0) (c := 0) (xs := []) HT6.out HFT.out HLen.out rfl (Lib.BytesIn.nil _ _ _) (fun _ => ⟨rfl, rfl⟩) (Nat.zero_le _)); clear hb)
          | (go_at_call 28; (with_reducible refine HP1.out.mono ?_); rintro e w7 ⟨pg, pn, pc, rfl, ho, hb⟩; rw [List.nil_append] at ho; have HO7 := Lib.hid ho; have HB7 := Lib.hid (HB6.out.below hb); have HW7 := Lib.hid (HW6.out.trans (hb.mono HW6.out.size)); have HP2 := Lib.hid (Put_any (p := none) (n := 0) (c := 0) (xs := []) HB7.out HFT.out HLen.out rfl (Lib.BytesIn.nil _ _ _) (fun _ => ⟨rfl, rfl⟩) (Nat.zero_le _)); have cv1 := conv_any HO7.out; clear ho hb)
          | (go_at_call 28; (with_reducible refine HP2.out.mono ?_); rintro e w8 ⟨qg, qn, qc, rfl, ho, hb⟩; rw [List.nil_append] at ho; have HW8 := Lib.hid (HW7.out.trans (hb.mono HW7.out.size)); have cv2 := conv_any ho; have cv3 := conv_any (own_later HO7.out hb); have HAW := Lib.hid (awake_any w8); clear ho hb)
          | (go_at_call 11; (with_reducible refine HAW.out.mono ?_); rintro e w9 ⟨rfl, hb⟩; have HW9 := Lib.hid (HW8.out.trans (hb.mono HW8.out.size)); clear hb))
        all_goals
          go_wp2_with fail
          go_ret
          exact ⟨rfl, HB0.out.trans (HW9.out.mono HB0.out.size)⟩
      · have hz1 : ((t.does k).1 == 0) = false := by simpa using hz
        have hdr : Below w3.heap.size w3 w3.drew := ⟨rfl, rfl, rfl, Nat.le_refl _, fun _ _ => rfl⟩
        have HTd := Lib.hid (HTA.out.below hdr)
        have HBd := Lib.hid (HSB3.out.below hdr)
        have HWd := Lib.hid (HB3.out.trans (hdr.mono HB3.out.size))
        have HLa := Lib.hid (List_any HTd.out (by have := HLen.out; omega))
        clear hdr
        go_wp2_with fail
        go_region_with (first
          | (go_at_call 21; (with_reducible refine HLa.out.mono ?_); rintro e w4 ⟨u1, rfl, ho, hb⟩; have HU1 := Lib.hid (ho.seb (L := []) (fun k hk => by cases hk)); have HT4 := Lib.hid (HTd.out.below hb); have HB4 := Lib.hid (HBd.out.below hb); have HW4 := Lib.hid (HWd.out.trans (hb.mono HWd.out.size)); have HLb := Lib.hid (List_any HB4.out (by have := HLen.out; omega)); obtain ⟨ua, uc, rfl, _, _⟩ := HU1.out.slice; clear ho hb)
          | (go_at_call 21; (with_reducible refine HLb.out.mono ?_); rintro e w5 ⟨u2, rfl, ho, hb⟩; have HU2 := Lib.hid (ho.seb (L := []) (fun k hk => by cases hk)); have HT5 := Lib.hid (HT4.out.below hb); have HB5 := Lib.hid (HB4.out.below hb); have HW5 := Lib.hid (HW4.out.trans (hb.mono HW4.out.size)); have HEq := Lib.hid (equal_any (HU1.out.below hb) HU2.out); obtain ⟨va, vc, rfl, _, _⟩ := HU2.out.slice; clear ho hb)
          | (go_at_call 27; (with_reducible refine HEq.out.mono ?_); rintro e w6 ⟨rfl, hb⟩; have HT6 := Lib.hid (HT5.out.below hb); have HB6 := Lib.hid (HB5.out.below hb); have HW6 := Lib.hid (HW5.out.trans (hb.mono HW5.out.size)); have HP1 := Lib.hid (Put_any (p := none) (n := 0) (c := 0) (xs := []) HT6.out HFT.out HLen.out rfl (Lib.BytesIn.nil _ _ _) (fun _ => ⟨rfl, rfl⟩) (Nat.zero_le _)); clear hb)
          | (go_at_call 28; (with_reducible refine HP1.out.mono ?_); rintro e w7 ⟨pg, pn, pc, rfl, ho, hb⟩; rw [List.nil_append] at ho; have HO7 := Lib.hid ho; have HB7 := Lib.hid (HB6.out.below hb); have HW7 := Lib.hid (HW6.out.trans (hb.mono HW6.out.size)); have HP2 := Lib.hid (Put_any (p := none) (n := 0) (c := 0) (xs := []) HB7.out HFT.out HLen.out rfl (Lib.BytesIn.nil _ _ _) (fun _ => ⟨rfl, rfl⟩) (Nat.zero_le _)); have cv1 := conv_any HO7.out; clear ho hb)
          | (go_at_call 28; (with_reducible refine HP2.out.mono ?_); rintro e w8 ⟨qg, qn, qc, rfl, ho, hb⟩; rw [List.nil_append] at ho; have HW8 := Lib.hid (HW7.out.trans (hb.mono HW7.out.size)); have cv2 := conv_any ho; have cv3 := conv_any (own_later HO7.out hb); have HAW := Lib.hid (awake_any w8); clear ho hb)
          | (go_at_call 11; (with_reducible refine HAW.out.mono ?_); rintro e w9 ⟨rfl, hb⟩; have HW9 := Lib.hid (HW8.out.trans (hb.mono HW8.out.size)); clear hb))
        all_goals
          go_wp2_with fail
          go_ret
          exact ⟨rfl, HB0.out.trans (HW9.out.mono HB0.out.size)⟩
    · have hz : (t.does k).1 = 0 := Decidable.byContradiction fun h => hres (.inl h)
      have h3 : (bits .and .i64 k.op 7 == 3) = false := by
        have h : ¬ bits .and .i64 k.op 7 = 3 := fun h => hres (.inr h)
        simpa using h
      rw [hz]
      go_wp2_with fail
      go_fit (awake_any _)
      rintro e w4 ⟨rfl, hb⟩
      have HB := Lib.hid (HB0.out.trans ((HB3.out.trans (hb.mono HB3.out.size)).mono HB0.out.size))
      clear hb
      go_wp2_with fail
      go_ret
      exact ⟨rfl, HB.out⟩
  · have g1 : ¬ ((ks.length : Nat) : Int) ≤ 500 := by omega
    clear HK
    go_enter Try.func7, Try.ntmps7
    go_wp2_with fail
    go_fit (awake_any _)
    rintro e w3 ⟨rfl, hb⟩
    have HB := Lib.hid (HB0.out.trans (hb.mono HB0.out.size))
    clear hb
    go_wp2_with fail
    go_ret
    exact ⟨rfl, HB.out⟩
end Go.Proofs.Ytnfpobbdcjfcoaa
