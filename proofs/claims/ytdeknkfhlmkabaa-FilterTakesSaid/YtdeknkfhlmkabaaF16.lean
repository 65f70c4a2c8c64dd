/-
  Walks: the document's bytes of a filter.
-/
import Derived.Test.YtdeknkfhlmkabaaF14
import Derived.Test.YtdeknkfhlmkabaaF15
namespace Go.Proofs.Ytdeknkfhlmkabaa
set_option linter.unusedVariables false
set_option linter.unusedSimpArgs false
open Go.RowKit

def TellOk (m : Nat) (f : Fl) : Prop := ∀ (w : World) (ah n c : Nat) (p : Option Addr) (u : Value) (xs : List Int), (ec m f ah).2 = 0 → Light f → KidsIn w w.heap.size u f.kids → xs.length = n → Lib.BytesIn w p n xs → (p = none → n = 0 ∧ c = 0) → n ≤ 1000000 + 16500 * ah →
  Calls Try.prog 43 #[.slice p n c, flV f u] w (Wi.Made w.heap.size w (xs ++ flB m f))
set_option maxRecDepth 100000 in
set_option maxHeartbeats 6400000 in
theorem tell_step (m : Nat) (f : Fl) (IH : ∀ k ∈ f.kids, TellOk m k) : TellOk (m + 1) f := by
  intro w ah n c p u xs h hl hk hx hin hp hn
  obtain ⟨a, cap, rfl, hcap1, hcap2⟩ := hk.slice
  go_enter Try.func43, Try.ntmps43
  unfold flV
  go_wp2_with fail
  have hla := lay_alloc w (.cells #[.int .i64 f.kind, .string f.name, .string f.text, .slice a f.kids.length cap] 24)
  have HF := Lib.hid (DC.alloc w [.int .i64 f.kind, .string f.name, .string f.text, .slice a f.kids.length cap] 24)
  have HBe := Lib.hid hla
  have hkind := may_kind (ok_may h)
  have h24 := (ok_ecs h).1
  have HZ : Hid ((ecs m f.kids (ah + 1)).2 = 0) := by show _ = _; rw [← (ok_ecs h).2]; exact h
  have HLi := Lib.hid hl
  have HIH := Lib.hid IH
  have HKI := Lib.hid hk
  have hln := hl.name
  have hlt := hl.text
  have hlk := hl.kids
  have HX := Lib.hid hx
  have hinW := Wi.later hin (lay_drew hla)
  generalize hfb : w.heap.size = fb at *
  generalize hW : w.alloc (.cells #[.int .i64 f.kind, .string f.name, .string f.text, .slice a f.kids.length cap] 24) = W at *
  have hD := HF.out
  have y0 : W.cell? ⟨fb, 0, none⟩ = some (.int .i64 f.kind) := hD.cells 0 _ rfl
  have y1 : W.cell? ⟨fb, 1, none⟩ = some (.string f.name) := hD.cells 1 _ rfl
  have y2 : W.cell? ⟨fb, 2, none⟩ = some (.string f.text) := hD.cells 2 _ rfl
  have hW1 : Below W.heap.size W W.drew := lay_drew (Below.refl _ _)
  have HC1 := Lib.hid (Wi.RNumber_any p n c xs f.kind W.drew hx hinW hp (by omega) (by omega))
  have HD1 := Lib.hid (hD.below hW1)
  have HW1 := Lib.hid hW1
  clear hD hW1 hinW hin hx
  go_region_held3 (fun V => V.cell? ⟨fb, 0, none⟩ = some (.int .i64 f.kind) ∧ V.cell? ⟨fb, 1, none⟩ = some (.string f.name) ∧ V.cell? ⟨fb, 2, none⟩ = some (.string f.text)) (go_keep)
    (first
      | (go_at_call 56; (with_reducible refine HC1.out.mono ?_); rintro e w1 ⟨g1, n1, c1, rfl, hown1, hb1⟩; have HL1 := Lib.hid (Wi.owns_len hown1); have HC2 := Lib.hid (Wi.RText_any (some ⟨g1, 0, none⟩) n1 c1 _ f.name w1 HL1.out (Wi.owns_in hown1) (fun h => by cases h) (by have := HL1.out; have := HX.out; have := Wi.num_le f.kind.toNat (by omega); simp at *; omega)); have hD1 := HD1.out.below hb1; have HD2 := Lib.hid hD1; have z0 := hD1.cells 0 _ rfl; have z1 := hD1.cells 1 _ rfl; have z2 := hD1.cells 2 _ rfl; have HW2 := Lib.hid (HW1.out.trans (hb1.mono HW1.out.size)); clear hown1 hb1 hD1)
      | (go_at_call 55; (with_reducible refine HC2.out.mono ?_); rintro e w2 ⟨g2, n2, c2, rfl, hown2, hb2⟩; have HL2 := Lib.hid (Wi.owns_len hown2); have HC3 := Lib.hid (Wi.RText_any (some ⟨g2, 0, none⟩) n2 c2 _ f.text w2 HL2.out (Wi.owns_in hown2) (fun h => by cases h) (by have := HL2.out; have := HX.out; have := Wi.num_le f.kind.toNat (by omega); have := Wi.num_le f.name.size (by omega); simp [Wi.sb_length] at *; omega)); have hD2 := HD2.out.below hb2; have HD3 := Lib.hid hD2; have z0 := hD2.cells 0 _ rfl; have z1 := hD2.cells 1 _ rfl; have z2 := hD2.cells 2 _ rfl; have HW3 := Lib.hid (HW2.out.trans (hb2.mono HW2.out.size)); clear hown2 hb2 hD2)
      | (go_at_call 55; (with_reducible refine HC3.out.mono ?_); rintro e w3 ⟨g3, n3, c3, rfl, hown3, hb3⟩; have HO3 := Lib.hid hown3; have hD3 := HD3.out.below hb3; have HD4 := Lib.hid hD3; have z0 := hD3.cells 0 _ rfl; have z1 := hD3.cells 1 _ rfl; have z2 := hD3.cells 2 _ rfl; have HW4 := Lib.hid (HW3.out.trans (hb3.mono HW3.out.size)); clear hown3 hb3 hD3))
  all_goals
    clear z0 z1 z2 y0 y1 y2
    have hd4 := HD4.out
    have z3 : w3.cell? ⟨fb, 3, none⟩ = some (.slice a f.kids.length cap) := hd4.cells 3 _ rfl
    have hbw3 : Below fb w w3 := HBe.out.trans (HW4.out.mono (by rw [← hfb]; exact HBe.out.size))
    have HL3 := Lib.hid (Wi.owns_len HO3.out)
    have HBw := Lib.hid hbw3
    have HC4 := Lib.hid (Wi.RNumber_any (some ⟨g3, 0, none⟩) n3 c3 _ f.kids.length w3 HL3.out (Wi.owns_in HO3.out) (fun h => by cases h) (by omega) (by have := HL3.out; have := HX.out; have := Wi.num_le f.kind.toNat (by omega); have := Wi.num_le f.name.size (by omega); have := Wi.num_le f.text.size (by omega); simp [Wi.sb_length] at *; omega))
    have hfw3 : fb < w3.heap.size := hd4.lt
    clear hd4 hbw3
    go_wp2_with fail
    go_fit HC4.out
    rintro e w4 ⟨g4, n4, c4, rfl, hown4, hb4⟩
    simp only [Int.toNat_natCast] at hown4
    have HL4 := Lib.hid (Wi.owns_len hown4)
    have hB4 : Below fb w w4 := HBw.out.trans (hb4.mono (by omega))
    have HB4 := Lib.hid hB4
    have hd5 := HD4.out.below hb4
    have z3 : w4.cell? ⟨fb, 3, none⟩ = some (.slice a f.kids.length cap) := hd5.cells 3 _ rfl
    have hn4 : n4 ≤ 1000000 + 16500 * (ah + 1) := by
      have h1 := HL4.out
      have h0 := HX.out
      have h2 := headB_le hl (by omega)
      have h3 := Wi.num_le f.kids.length (by omega)
      unfold headB at h2
      simp only [List.length_append, List.nil_append, Wi.sb_length] at h1 h2
      omega
    have hO4 : w4.ownsRow fb 5 1 (.slice (some ⟨g4, 0, none⟩) n4 c4) n4 (u8v (xs ++ (headB f ++ Wi.num f.kids.length) ++ (f.kids.take 0).flatMap (flB m))) := by
      have h := Wi.owns_weaken hown4 (Nat.le_of_lt hfw3)
      rw [List.take_zero, List.flatMap_nil, List.append_nil]
      have e : xs ++ (headB f ++ Wi.num f.kids.length) = (xs ++ Wi.num f.kind.toNat ++ Wi.num f.name.size ++ Wi.sb f.name ++ Wi.num f.text.size ++ Wi.sb f.text ++ Wi.num f.kids.length) := by simp [headB]
      rw [e]
      exact h
    have HX5 := Lib.hid hO4
    have HEQ : Hid (xs ++ flB (m + 1) f = xs ++ (headB f ++ Wi.num f.kids.length) ++ f.kids.flatMap (flB m)) := by show _ = _; simp [flB]
    have HAH : Hid (ah + 1 ≤ 24) := by show _ ≤ _; omega
    clear HD4 HL4 hk IH h hO4 hd5 hown4 hB4 HO3 HC4 HL3
    go_wp2_with fail
    go_loopw [0, 25] (fun bv iv wr => ∃ (i n' g' c' : Nat), iv = .int .i64 i ∧ i ≤ f.kids.length ∧ bv = .slice (some ⟨g', 0, none⟩) n' c' ∧ n' ≤ 1000000 + 16500 * (ecs m (f.kids.take i) (ah + 1)).1 ∧ Hid (wr.ownsRow fb 5 1 (.slice (some ⟨g', 0, none⟩) n' c') n' (u8v (xs ++ (headB f ++ Wi.num f.kids.length) ++ (f.kids.take i).flatMap (flB m)))) ∧ Hid (Below fb w wr))
      (fun _ v _ => f.kids.length - (intOf v).toNat)
    case atStart => exact ⟨0, n4, g4, c4, rfl, Nat.zero_le _, rfl, hn4, HX5, HB4⟩
    case round =>
      obtain ⟨i, n', g', c', rfl, hin, rfl, hn', hown, hb⟩ := hrel
      have ei : IntKind.i64.wrap ((i : Int) + 1) = (i : Int) + 1 := IntWalk.i64_in _ (by omega)
      by_cases hlt : i < f.kids.length
      · obtain ⟨k, hk1⟩ : ∃ k, f.kids[i]? = some k := ⟨f.kids[i], List.getElem?_eq_getElem hlt⟩
        have hwf : fb ≤ wr.heap.size := by have := hb.out.size; omega
        have hKr := (HKI.out.later hb.out).wider hwf
        obtain ⟨g, off, u, rfl, _, hgB, k0, k1, k2, k3, hku⟩ := hKr.at_ hk1
        obtain ⟨ua, uc, rfl, _, _⟩ := hku.slice
        have hI1 : (i : Int) < ((f.kids.length : Nat) : Int) := by omega
        have hI2 : (0 : Int) ≤ (i : Int) := by omega
        have hmem : k ∈ f.kids := List.mem_of_getElem? hk1
        have hal := lay_alloc wr (.cells #[.int .i64 k.kind, .string k.name, .string k.text, .slice ua k.kids.length uc] 24)
        have he0 : (ecs m (f.kids.take i) (ah + 1)).2 = 0 := ok_take HZ.out
        have hst := ecs_step hk1 m (ah + 1) he0
        have he1 : (ecs m (f.kids.take (i + 1)) (ah + 1)).2 = 0 := ok_take HZ.out
        have hke : (ec m k (ecs m (f.kids.take i) (ah + 1)).1).2 = 0 := by rw [← hst]; exact he1
        have hlen := flB_le m k _ hke (HLi.out.kid hmem)
        rw [← hst] at hlen
        have HLEN := Lib.hid hlen
        have hoa := hown.out.alloc (.cells #[.int .i64 k.kind, .string k.name, .string k.text, .slice ua k.kids.length uc] 24)
        have hC := HIH.out k hmem (wr.alloc (.cells #[.int .i64 k.kind, .string k.name, .string k.text, .slice ua k.kids.length uc] 24)) _ n' c' (some ⟨g', 0, none⟩) (.slice ua k.kids.length uc) _ hke (HLi.out.kid hmem) (hku.on hal) (Wi.owns_len hoa) (Wi.owns_in hoa) (fun h => by cases h) hn'
        unfold flV at hC
        have HC := Lib.hid hC
        have HL0 := Lib.hid (Wi.owns_len hown.out)
        have HTK := Lib.hid (ones_take hk1)
        have HBA := Lib.hid (hb.out.trans (hal.mono hwf))
        have HWF : Hid (fb ≤ (wr.alloc (.cells #[.int .i64 k.kind, .string k.name, .string k.text, .slice ua k.kids.length uc] 24)).heap.size) := Nat.le_trans hwf hal.size
        clear hKr hku hal hmem hk1 hb hC he0 hst he1 hke hlen hown hoa
        go_wp2_with fail
        go_fit HC.out
        rintro e w7 ⟨g7, n7, c7, rfl, hown7, hb7⟩
        have HB7 := Lib.hid (HBA.out.trans (hb7.mono HWF.out))
        have hl7 := Wi.owns_len hown7
        have hn7 : n7 ≤ 1000000 + 16500 * (ecs m (f.kids.take (i + 1)) (ah + 1)).1 := by
          have h1 := HL0.out
          have h2 := HLEN.out
          rw [List.length_append, h1] at hl7
          omega
        have HO7 : Hid (w7.ownsRow fb 5 1 (.slice (some ⟨g7, 0, none⟩) n7 c7) n7 (u8v (xs ++ (headB f ++ Wi.num f.kids.length) ++ (f.kids.take (i + 1)).flatMap (flB m)))) := by
          have h := Wi.owns_weaken hown7 HWF.out
          show World.ownsRow _ _ _ _ _ _ _
          rw [HTK.out, List.flatMap_append]
          simp only [List.flatMap_cons, List.flatMap_nil, List.append_nil]
          rw [← List.append_assoc]
          exact h
        clear hb7 hown7 hl7 k0 k1 k2 k3 HC HL0 HLEN
        go_wp2_with fail
        exact ⟨⟨i + 1, n7, g7, c7, by simp, hlt, rfl, hn7, HO7, HB7⟩, by show f.kids.length - ((i : Int) + 1).toNat < f.kids.length - ((i : Int)).toNat; omega⟩
      · obtain rfl : i = f.kids.length := by omega
        have HE : Hid (Wi.Made fb w (xs ++ flB (m + 1) f) (.returned (.slice (some ⟨g', 0, none⟩) n' c')) wr) := by
          have h := hown.out
          rw [List.take_length] at h
          rw [HEQ.out]
          exact ⟨g', n', c', rfl, h, hb.out⟩
        go_wp2_with fail
        go_ret
        exact HE.out
theorem tell_any : ∀ (m : Nat) (f : Fl), TellOk m f
  | 0, f => fun w ah n c p u xs h => by simp [ec] at h
  | m + 1, f => tell_step m f (fun k _ => tell_any m k)
set_option maxRecDepth 100000 in
set_option maxHeartbeats 1600000 in
theorem rPut_any {w : World} {u : Value} (f : Fl) (hl : Light f) (hk : KidsIn w w.heap.size u f.kids) : Calls Try.prog 25 #[flV f u] w (PutP f w) := by
  obtain ⟨a, cap, rfl, _, _⟩ := hk.slice
  have hb0 := lay_alloc w (.cells #[.int .i64 f.kind, .string f.name, .string f.text, .slice a f.kids.length cap] 24)
  have HF := Lib.hid (DC.alloc w [.int .i64 f.kind, .string f.name, .string f.text, .slice a f.kids.length cap] 24)
  have HC := Lib.hid (rCheck_any f hl (hk.on hb0))
  have HB0 := Lib.hid hb0
  have HK := Lib.hid hk
  have HL := Lib.hid hl
  unfold flV at HC ⊢
  clear hk hb0 hl
  go_enter Try.func25, Try.ntmps25
  go_wp2_with fail
  go_fit HC.out
  rintro e w1 ⟨rfl, hb⟩
  have hbw := HB0.out.trans (hb.mono HB0.out.size)
  have hF1 := HF.out.below hb
  have f0 := hF1.cells 0 _ rfl
  have f1 := hF1.cells 1 _ rfl
  have f2 := hF1.cells 2 _ rfl
  have f3 := hF1.cells 3 _ rfl
  have HB := Lib.hid hbw
  by_cases h0 : ckF f = 0
  · have hz : (ckF f == 0) = true := by simpa using h0
    have hz2 : (ckF f != 0) = false := by simpa using h0
    have hC2 := tell_any 6 f w1 0 0 0 none (.slice a f.kids.length cap) [] h0 HL.out (HK.out.on hbw) rfl (fun h => by cases h) (fun _ => ⟨rfl, rfl⟩) (by omega)
    unfold flV at hC2
    have HC2 := Lib.hid hC2
    have H0 := Lib.hid h0
    clear hb hbw hF1 hC2 h0
    go_wp2_with fail
    go_fit HC2.out
    rintro e w2 ⟨g, n, c, rfl, hown, hb2⟩
    have HO := Lib.hid (Wi.owns_weaken hown HB.out.size)
    have HB2 := Lib.hid (HB.out.trans (hb2.mono HB.out.size))
    clear hown hb2
    go_wp2_with fail
    go_ret2
    exact .inl ⟨H0.out, g, n, c, rfl, HO.out, HB2.out⟩
  · have hz : (ckF f == 0) = false := by simpa using h0
    have hz2 : (ckF f != 0) = true := by simpa using h0
    have H0 := Lib.hid h0
    clear hb hbw hF1 h0
    go_wp2_with fail
    go_ret2
    exact .inr ⟨H0.out, rfl, HB.out⟩
end Go.Proofs.Ytdeknkfhlmkabaa
