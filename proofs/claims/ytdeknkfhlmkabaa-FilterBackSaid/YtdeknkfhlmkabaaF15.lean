/-
  A filter's bytes, plainly; walks: put.
-/
import Derived.Test.YtdeknkfhlmkabaaF11
import Derived.Test.YtdeknkfhlmkabaaWA
import Derived.Deep.RegionHeld3
namespace Go.Proofs.Ytdeknkfhlmkabaa
set_option linter.unusedVariables false
set_option linter.unusedSimpArgs false
open Go.RowKit

/-- A part's bytes ahead of its kids. -/
def headB (f : Fl) : List Int := (Wi.num f.kind.toNat ++ (Wi.num f.name.size ++ Wi.sb f.name)) ++ (Wi.num f.text.size ++ Wi.sb f.text)
/-- A filter's bytes, so many levels down. -/
def flB : Nat → Fl → List Int
  | 0, _ => []
  | m + 1, f => headB f ++ Wi.num f.kids.length ++ f.kids.flatMap (flB m)
theorem headB_le {f : Fl} (hl : Light f) (hk : f.kind ≤ 9223372036854775807) : (headB f).length ≤ 16420 := by
  have h1 := Wi.num_le f.kind.toNat (by omega)
  have h2 := Wi.num_le f.name.size (by have := hl.name; omega)
  have h3 := Wi.num_le f.text.size (by have := hl.text; omega)
  have h4 := hl.name
  have h5 := hl.text
  unfold headB
  simp only [List.length_append, Wi.sb_length]
  omega
theorem may_kind {k : Int} {n t : ByteArray} {m : Nat} (h : mayF k n t m = true) : 0 ≤ k ∧ k ≤ 6 := by
  by_cases h0 : k = 0
  · omega
  by_cases h1 : k = 1
  · omega
  by_cases h2 : k = 2
  · omega
  by_cases h3 : k = 3
  · omega
  by_cases h4 : k = 4
  · omega
  by_cases h5 : k = 5
  · omega
  by_cases h6 : k = 6
  · omega
  · simp [mayF, h0, h1, h2, h3, h4, h5, h6] at h
theorem ok_ecs {m ah : Nat} {f : Fl} (h : (ec (m + 1) f ah).2 = 0) : ah < 24 ∧ ec (m + 1) f ah = ecs m f.kids (ah + 1) := by
  have e := ec_succ m f ah
  split at e
  · rw [e] at h; simp at h
  · split at e
    · rw [e] at h; simp at h
    · exact ⟨by omega, e⟩
theorem ok_take {m ah i : Nat} {ks : List Fl} (h : (ecs m ks ah).2 = 0) : (ecs m (ks.take i) ah).2 = 0 := by
  by_cases e : (ecs m (ks.take i) ah).2 = 0
  · exact e
  · rw [ecs_bad m ah e] at h; exact h
set_option maxRecDepth 100000 in
/-- Few parts have few bytes. -/
theorem flB_le : ∀ (m : Nat) (f : Fl) (ah : Nat), (ec m f ah).2 = 0 → Light f → (flB m f).length + 16500 * ah ≤ 16500 * (ec m f ah).1
  | 0, f, ah, h, _ => by simp [ec] at h
  | m + 1, f, ah, h, hl => by
    obtain ⟨h24, e⟩ := ok_ecs h
    have hm := ok_may h
    have hk := may_kind hm
    have key : ∀ i, i ≤ f.kids.length → ((f.kids.take i).flatMap (flB m)).length + 16500 * (ah + 1) ≤ 16500 * (ecs m (f.kids.take i) (ah + 1)).1 := by
      intro i
      induction i with
      | zero => intro _; simp [ecs]
      | succ i ih =>
        intro hi
        obtain ⟨k, hk1⟩ : ∃ k, f.kids[i]? = some k := ⟨f.kids[i], List.getElem?_eq_getElem (by omega)⟩
        have h0 : (ecs m (f.kids.take i) (ah + 1)).2 = 0 := ok_take (by rw [← e]; exact h)
        have h1 := ecs_step hk1 m (ah + 1) h0
        have h2 : (ecs m (f.kids.take (i + 1)) (ah + 1)).2 = 0 := ok_take (by rw [← e]; exact h)
        rw [h1] at h2 ⊢
        have h3 := flB_le m k _ h2 (hl.kid (List.mem_of_getElem? hk1))
        have h4 := ih (by omega)
        rw [ones_take hk1, List.flatMap_append, List.length_append]
        simp only [List.flatMap_cons, List.flatMap_nil, List.append_nil]
        omega
    have h1 := key f.kids.length (Nat.le_refl _)
    rw [List.take_length] at h1
    have h2 := headB_le hl (by omega)
    have h3 := Wi.num_le f.kids.length (by have := hl.kids; omega)
    rw [e]
    simp only [flB, List.length_append]
    omega

def u8v (xs : List Int) : List Value := xs.map (Value.int .u8)
/-- What putting leaves: the row with a filter's bytes behind. -/
def PutOk (m : Nat) (f : Fl) : Prop := ∀ (w : World) (B ah n : Nat) (v u : Value) (xs : List Int), (ec m f ah).2 = 0 → Light f → KidsIn w B u f.kids → B ≤ w.heap.size → w.ownsRow B 5 1 v n (u8v xs) → n ≤ 1000000 + 16500 * ah →
  Calls Try.prog 42 #[v, flV f u] w (Wi.Made B w (xs ++ flB m f))
/-- 'append' of bytes at an address onto a slice that the call owns, nil or not. -/
theorem wpList_pushv {w : World} {ops : Array Oper} {rest : List Oper} {o : Oper} {a : Act} {Q : Exit → Act → World → Prop} (hgd : o.guard = none) (s x : Operand)
    (ho : o.op = .call { callee := .builtin .append, args := #[s, x], argTypes := #[39, 39] })
    (B n : Nat) (v : Value) (xs : List Int) (hs : a.eval s = v) (hown : w.ownsRow B 5 1 v n (u8v xs))
    (g m c : Nat) (news : List Int) (hx : a.eval x = .slice (some ⟨g, 0, none⟩) m c) (hin : Lib.BytesIn w (some ⟨g, 0, none⟩) m news) (hl : news.length = m) (hm : 0 < m)
    (hbytes : n + m ≤ 140737488355328) (hB : B ≤ w.heap.size)
    (h : ∀ g' c' w', w'.ownsRow B 5 1 (.slice (some ⟨g', 0, none⟩) (n + m) c') (n + m) (u8v (xs ++ news)) → w.grownBy w' v.ownBlock → wpList Try.prog ops Q rest (a.put o.dst (.slice (some ⟨g', 0, none⟩) (n + m) c')) w') :
    wpList Try.prog ops Q (o :: rest) a w := by
  obtain ⟨i0, hi, hz0, hz1, hz2⟩ := info_parts Wi.Try.infoU8
  refine wpList_append_own w hgd s x 39 ho B 5 i0 (.int .u8 0) 1 1 Try.underlying39 hi hz0 hz1 hz2 rfl (by decide) v n _ hs hown ⟨g, 0, none⟩ m c (u8v news) hx (by simp [u8v, hl]) (Wi.news_of hin hl _ rfl) (Wi.oneU8 _) (by unfold maxLen; omega) (by omega) hB ?_
  intro v' w' hown' hgrow hnil
  obtain ⟨g', c', rfl⟩ := Wi.owns_open hown' (fun e => by have := (hnil.1 e).2; omega)
  exact h g' c' w' (by simpa [u8v] using hown') hgrow
set_option maxRecDepth 100000 in
set_option maxHeartbeats 6400000 in
theorem put_step (m : Nat) (f : Fl) (IH : ∀ k ∈ f.kids, PutOk m k) : PutOk (m + 1) f := by
  intro w B ah n v u xs h hl hk hB how hn
  obtain ⟨a, cap, rfl, hcap1, hcap2⟩ := hk.slice
  go_enter Try.func42, Try.ntmps42
  unfold flV
  go_wp2_with fail
  have hla := lay_alloc w (.cells #[.int .i64 f.kind, .string f.name, .string f.text, .slice a f.kids.length cap] 24)
  have HF := Lib.hid (DC.alloc w [.int .i64 f.kind, .string f.name, .string f.text, .slice a f.kids.length cap] 24)
  have HBe := Lib.hid hla
  have hkind := may_kind (ok_may h)
  have h24 := (ok_ecs h).1
  have HEC := Lib.hid (ok_ecs h).2
  have HZ : Hid ((ecs m f.kids (ah + 1)).2 = 0) := by show _ = _; rw [← (ok_ecs h).2]; exact h
  have HLi := Lib.hid hl
  have HIH := Lib.hid IH
  have HLV : Hid (∀ g, v.ownBlock = some g → B ≤ g ∧ g < w.heap.size) := how.lt
  have HKI := Lib.hid hk
  have hln := hl.name
  have hlt := hl.text
  have hlk := hl.kids
  generalize hfb : w.heap.size = fb at *
  generalize hW : w.alloc (.cells #[.int .i64 f.kind, .string f.name, .string f.text, .slice a f.kids.length cap] 24) = W at *
  have hD := HF.out
  have y0 : W.cell? ⟨fb, 0, none⟩ = some (.int .i64 f.kind) := hD.cells 0 _ rfl
  have y1 : W.cell? ⟨fb, 1, none⟩ = some (.string f.name) := hD.cells 1 _ rfl
  have y2 : W.cell? ⟨fb, 2, none⟩ = some (.string f.text) := hD.cells 2 _ rfl
  have hW1 : Below W.heap.size W W.drew := lay_drew (Below.refl _ _)
  have HC1 := Lib.hid (Wi.Number_any none 0 0 [] f.kind W.drew rfl (fun h => by cases h) (fun _ => ⟨rfl, rfl⟩) (by omega) (by omega))
  have HD1 := Lib.hid (hD.below hW1)
  have HW1 := Lib.hid hW1
  clear hD hW1
  go_region_held3 (fun V => V.cell? ⟨fb, 0, none⟩ = some (.int .i64 f.kind) ∧ V.cell? ⟨fb, 1, none⟩ = some (.string f.name) ∧ V.cell? ⟨fb, 2, none⟩ = some (.string f.text)) (go_keep)
    (first
      | (go_at_call 54; (with_reducible refine HC1.out.mono ?_); rintro e w1 ⟨g1, n1, c1, rfl, hown1, hb1⟩; have HL1 := Lib.hid (Wi.owns_len hown1); have HC2 := Lib.hid (Wi.Text_any (some ⟨g1, 0, none⟩) n1 c1 _ f.name w1 HL1.out (Wi.owns_in hown1) (fun h => by cases h) (by have := HL1.out; have := Wi.num_le f.kind.toNat (by omega); simp at *; omega)); have hD1 := HD1.out.below hb1; have HD2 := Lib.hid hD1; have z0 := hD1.cells 0 _ rfl; have z1 := hD1.cells 1 _ rfl; have z2 := hD1.cells 2 _ rfl; have HW2 := Lib.hid (HW1.out.trans (hb1.mono HW1.out.size)); clear hown1 hb1 hD1)
      | (go_at_call 53; (with_reducible refine HC2.out.mono ?_); rintro e w2 ⟨g2, n2, c2, rfl, hown2, hb2⟩; have HL2 := Lib.hid (Wi.owns_len hown2); have HC3 := Lib.hid (Wi.Text_any (some ⟨g2, 0, none⟩) n2 c2 _ f.text w2 HL2.out (Wi.owns_in hown2) (fun h => by cases h) (by have := HL2.out; have := Wi.num_le f.kind.toNat (by omega); have := Wi.num_le f.name.size (by omega); simp [Wi.sb_length] at *; omega)); have hD2 := HD2.out.below hb2; have HD3 := Lib.hid hD2; have z0 := hD2.cells 0 _ rfl; have z1 := hD2.cells 1 _ rfl; have z2 := hD2.cells 2 _ rfl; have HW3 := Lib.hid (HW2.out.trans (hb2.mono HW2.out.size)); clear hown2 hb2 hD2)
      | (go_at_call 53; (with_reducible refine HC3.out.mono ?_); rintro e w3 ⟨g3, n3, c3, rfl, hown3, hb3⟩; have HO3 := Lib.hid hown3; have hD3 := HD3.out.below hb3; have HD4 := Lib.hid hD3; have z0 := hD3.cells 0 _ rfl; have z1 := hD3.cells 1 _ rfl; have z2 := hD3.cells 2 _ rfl; have HW4 := Lib.hid (HW3.out.trans (hb3.mono HW3.out.size)); clear hown3 hb3 hD3))
  all_goals
    clear z0 z1 z2 y0 y1 y2
    have hd4 := HD4.out
    have z3 : w3.cell? ⟨fb, 3, none⟩ = some (.slice a f.kids.length cap) := hd4.cells 3 _ rfl
    have hbw3 : Below fb w w3 := HBe.out.trans (HW4.out.mono (by rw [← hfb]; exact HBe.out.size))
    have HO := Lib.hid (how.kept (row := none) ⟨hbw3.os, hbw3.tape, hbw3.output, hbw3.size, fun k hk _ => hbw3.block k (by omega)⟩ (by cases v.ownBlock <;> simp))
    have HL3 := Lib.hid (Wi.owns_len HO3.out)
    have HBw := Lib.hid hbw3
    have HC4 := Lib.hid (Wi.Number_any (some ⟨g3, 0, none⟩) n3 c3 _ f.kids.length w3 HL3.out (Wi.owns_in HO3.out) (fun h => by cases h) (by omega) (by have := HL3.out; have := Wi.num_le f.kind.toNat (by omega); have := Wi.num_le f.name.size (by omega); have := Wi.num_le f.text.size (by omega); simp [Wi.sb_length] at *; omega))
    have hfw3 : fb < w3.heap.size := hd4.lt
    have hBw3 : B ≤ w3.heap.size := by omega
    clear hd4 hbw3 how
    go_wp2_with fail
    go_fit HC4.out
    rintro e w4 ⟨g4, n4, c4, rfl, hown4, hb4⟩
    simp only [Int.toNat_natCast] at hown4
    have HO4 := Lib.hid (HO.out.kept (row := none) ⟨hb4.os, hb4.tape, hb4.output, hb4.size, fun k hk _ => hb4.block k hk⟩ (by cases v.ownBlock <;> simp))
    have HL4 := Lib.hid (Wi.owns_len hown4)
    have HI4 := Lib.hid (Wi.owns_in hown4)
    have HB4 : Hid (Below B w w4) := (HBw.out.mono (by omega)).trans (hb4.mono hBw3)
    have hBw4 : B ≤ w4.heap.size := Nat.le_trans hBw3 hb4.size
    have hfw4 : fb < w4.heap.size := Nat.lt_of_lt_of_le hfw3 hb4.size
    have HD5 := Lib.hid (HD4.out.below hb4)
    have hn4 : 0 < n4 ∧ n4 ≤ 16500 := by
      have h1 := HL4.out
      have h2 := headB_le hl (by omega)
      have h3 := Wi.num_le f.kids.length (by omega)
      have h4 : 0 < (Wi.num f.kids.length).length := by simp [Wi.num]
      unfold headB at h2
      simp only [List.length_append, List.nil_append, Wi.sb_length] at h1 h2
      omega
    have HE4 : Hid (([] ++ Wi.num f.kind.toNat ++ Wi.num f.name.size ++ Wi.sb f.name ++ Wi.num f.text.size ++ Wi.sb f.text ++ Wi.num f.kids.length) = headB f ++ Wi.num f.kids.length) := by show _ = _; simp [headB]
    clear hown4 hb4 HO HC4 HL3 z3
    go_wp2_with (at_builtin; refine wpList_pushv rfl _ _ rfl B n v xs rfl HO4.out g4 n4 c4 _ rfl HI4.out HL4.out hn4.1 (by omega) hBw4 ?_; intro g5 c5 w5 hown5 hgrow5; have HO5 := Lib.hid hown5; have HG5 := Lib.hid hgrow5; have hd6 := HD5.out.keep hgrow5.size (hgrow5.block fb hfw4 (fun e => by have := (HLV.out fb e.symm).2; omega)); have HD6 := Lib.hid hd6; have z3 : w5.cell? ⟨fb, 3, none⟩ = some (.slice a f.kids.length cap) := hd6.cells 3 _ rfl; clear hown5 hgrow5 hd6)
    have HB5 : Hid (Below B w w5) := ⟨HG5.out.os.trans HB4.out.os, HG5.out.tape.trans HB4.out.tape, HG5.out.output.trans HB4.out.output, Nat.le_trans HB4.out.size HG5.out.size, fun k hk => (HG5.out.block k (by omega) (fun e => by have := (HLV.out k e.symm).1; omega)).trans (HB4.out.block k hk)⟩
    have hBw5 : B ≤ w5.heap.size := Nat.le_trans hBw4 HG5.out.size
    have HX5 : Hid (w5.ownsRow B 5 1 (.slice (some ⟨g5, 0, none⟩) (n + n4) c5) (n + n4) (u8v (xs ++ (headB f ++ Wi.num f.kids.length) ++ (f.kids.take 0).flatMap (flB m)))) := by
      have h := HO5.out
      rw [HE4.out] at h
      rw [List.take_zero, List.flatMap_nil, List.append_nil]
      exact h
    have hnn : n + n4 ≤ 1000000 + 16500 * (ah + 1) := by omega
    have HEQ : Hid (xs ++ flB (m + 1) f = xs ++ (headB f ++ Wi.num f.kids.length) ++ f.kids.flatMap (flB m)) := by show _ = _; simp [flB]
    have HAH : Hid (ah + 1 ≤ 24) := by show _ ≤ _; omega
    generalize n + n4 = N at *
    clear HO5 HD6 HD5 HG5 HB4 HO4 HL4 HI4 hn4 HE4 z3 hk IH h
    go_wp2_with fail
    go_loopw [0, 27] (fun bv iv wr => ∃ (i n' g' c' : Nat), iv = .int .i64 i ∧ i ≤ f.kids.length ∧ bv = .slice (some ⟨g', 0, none⟩) n' c' ∧ n' ≤ 1000000 + 16500 * (ecs m (f.kids.take i) (ah + 1)).1 ∧ Hid (wr.ownsRow B 5 1 (.slice (some ⟨g', 0, none⟩) n' c') n' (u8v (xs ++ (headB f ++ Wi.num f.kids.length) ++ (f.kids.take i).flatMap (flB m)))) ∧ Hid (Below B w wr))
      (fun _ v _ => f.kids.length - (intOf v).toNat)
    case atStart => exact ⟨0, N, g5, c5, rfl, Nat.zero_le _, rfl, hnn, HX5, HB5⟩
    case round =>
      obtain ⟨i, n', g', c', rfl, hin, rfl, hn', hown, hb⟩ := hrel
      have ei : IntKind.i64.wrap ((i : Int) + 1) = (i : Int) + 1 := IntWalk.i64_in _ (by omega)
      by_cases hlt : i < f.kids.length
      · obtain ⟨k, hk1⟩ : ∃ k, f.kids[i]? = some k := ⟨f.kids[i], List.getElem?_eq_getElem hlt⟩
        have hKr := HKI.out.later hb.out
        obtain ⟨g, off, u, rfl, _, hgB, k0, k1, k2, k3, hku⟩ := hKr.at_ hk1
        obtain ⟨ua, uc, rfl, _, _⟩ := hku.slice
        have hI1 : (i : Int) < ((f.kids.length : Nat) : Int) := by omega
        have hI2 : (0 : Int) ≤ (i : Int) := by omega
        have hmem : k ∈ f.kids := List.mem_of_getElem? hk1
        have hal := lay_alloc wr (.cells #[.int .i64 k.kind, .string k.name, .string k.text, .slice ua k.kids.length uc] 24)
        have hBr : B ≤ wr.heap.size := by have := hb.out.size; omega
        have he0 : (ecs m (f.kids.take i) (ah + 1)).2 = 0 := ok_take HZ.out
        have hst := ecs_step hk1 m (ah + 1) he0
        have he1 : (ecs m (f.kids.take (i + 1)) (ah + 1)).2 = 0 := ok_take HZ.out
        have hke : (ec m k (ecs m (f.kids.take i) (ah + 1)).1).2 = 0 := by rw [← hst]; exact he1
        have hlen := flB_le m k _ hke (HLi.out.kid hmem)
        rw [← hst] at hlen
        have HLEN := Lib.hid hlen
        have hC := HIH.out k hmem (wr.alloc (.cells #[.int .i64 k.kind, .string k.name, .string k.text, .slice ua k.kids.length uc] 24)) B _ n' (.slice (some ⟨g', 0, none⟩) n' c') (.slice ua k.kids.length uc) _ hke (HLi.out.kid hmem) (hku.later (hal.mono hBr)) (Nat.le_trans hBr hal.size) (hown.out.alloc _) hn'
        unfold flV at hC
        have HC := Lib.hid hC
        have HL0 := Lib.hid (Wi.owns_len hown.out)
        have HTK := Lib.hid (ones_take hk1)
        have HBA := Lib.hid (hb.out.trans (hal.mono hBr))
        clear hKr hku hal hmem hk1 hb hC he0 hst he1 hke hlen hown
        go_wp2_with fail
        go_fit HC.out
        rintro e w7 ⟨g7, n7, c7, rfl, hown7, hb7⟩
        have HB7 := Lib.hid (HBA.out.trans hb7)
        have hl7 := Wi.owns_len hown7
        have hn7 : n7 ≤ 1000000 + 16500 * (ecs m (f.kids.take (i + 1)) (ah + 1)).1 := by
          have h1 := HL0.out
          have h2 := HLEN.out
          rw [List.length_append, h1] at hl7
          omega
        have HO7 : Hid (w7.ownsRow B 5 1 (.slice (some ⟨g7, 0, none⟩) n7 c7) n7 (u8v (xs ++ (headB f ++ Wi.num f.kids.length) ++ (f.kids.take (i + 1)).flatMap (flB m)))) := by
          have h := hown7
          show World.ownsRow _ _ _ _ _ _ _
          rw [HTK.out, List.flatMap_append]
          simp only [List.flatMap_cons, List.flatMap_nil, List.append_nil]
          rw [← List.append_assoc]
          exact h
        clear hb7 hown7 hl7 k0 k1 k2 k3 HC HL0 HLEN
        go_wp2_with fail
        exact ⟨⟨i + 1, n7, g7, c7, by simp, hlt, rfl, hn7, HO7, HB7⟩, by show f.kids.length - ((i : Int) + 1).toNat < f.kids.length - ((i : Int)).toNat; omega⟩
      · obtain rfl : i = f.kids.length := by omega
        have HE : Hid (Wi.Made B w (xs ++ flB (m + 1) f) (.returned (.slice (some ⟨g', 0, none⟩) n' c')) wr) := by
          have h := hown.out
          rw [List.take_length] at h
          rw [HEQ.out]
          exact ⟨g', n', c', rfl, h, hb.out⟩
        go_wp2_with fail
        go_ret
        exact HE.out
theorem put_any : ∀ (m : Nat) (f : Fl), PutOk m f
  | 0, f => fun w B ah n v u xs h => by simp [ec] at h
  | m + 1, f => put_step m f (fun k _ => put_any m k)

/-- What Put tells. -/
def PutP (f : Fl) (w : World) (e : Ending) (w' : World) : Prop :=
  (ckF f = 0 ∧ ∃ g n c, e = .returned (.tuple #[.slice (some ⟨g, 0, none⟩) n c, .int .i64 0]) ∧ w'.ownsRow w.heap.size 5 1 (.slice (some ⟨g, 0, none⟩) n c) n (u8v (flB 6 f)) ∧ Below w.heap.size w w') ∨
  (ckF f ≠ 0 ∧ e = .returned (.tuple #[.slice none 0 0, .int .i64 (ckF f)]) ∧ Below w.heap.size w w')
set_option maxRecDepth 100000 in
set_option maxHeartbeats 1600000 in
theorem Put_any {w : World} {u : Value} (f : Fl) (hl : Light f) (hk : KidsIn w w.heap.size u f.kids) : Calls Try.prog 24 #[flV f u] w (PutP f w) := by
  obtain ⟨a, cap, rfl, _, _⟩ := hk.slice
  have hb0 := lay_alloc w (.cells #[.int .i64 f.kind, .string f.name, .string f.text, .slice a f.kids.length cap] 24)
  have HF := Lib.hid (DC.alloc w [.int .i64 f.kind, .string f.name, .string f.text, .slice a f.kids.length cap] 24)
  have HC := Lib.hid (Check_any f hl (hk.on hb0))
  have HB0 := Lib.hid hb0
  have HK := Lib.hid hk
  have HL := Lib.hid hl
  unfold flV at HC ⊢
  clear hk hb0 hl
  go_enter Try.func24, Try.ntmps24
  go_wp2_with fail
  go_fit HC.out
  rintro e w1 ⟨rfl, hb⟩
  have hbw := HB0.out.trans (hb.mono HB0.out.size)
  have hF1 := HF.out.below hb
  have f0 := hF1.cells 0 _ rfl
  have f1 := hF1.cells 1 _ rfl
  have f2 := hF1.cells 2 _ rfl
  have f3 := hF1.cells 3 _ rfl
  have HB := Lib.hid hbw
  by_cases h0 : ckF f = 0
  · have hz : (ckF f == 0) = true := by simpa using h0
    have hz2 : (ckF f != 0) = false := by simpa using h0
    have hC2 := put_any 6 f w1 w.heap.size 0 0 (.slice none 0 0) (.slice a f.kids.length cap) [] h0 HL.out (HK.out.later hbw) hbw.size (World.ownsRow_nil _ _ _ _) (by omega)
    unfold flV at hC2
    have HC2 := Lib.hid hC2
    have H0 := Lib.hid h0
    clear hb hbw hF1 hC2 h0
    go_wp2_with fail
    go_fit HC2.out
    rintro e w2 ⟨g, n, c, rfl, hown, hb2⟩
    have HO := Lib.hid hown
    have HB2 := Lib.hid (HB.out.trans hb2)
    clear hown hb2
    go_wp2_with fail
    go_ret2
    exact .inl ⟨H0.out, g, n, c, rfl, HO.out, HB2.out⟩
  · have hz : (ckF f == 0) = false := by simpa using h0
    have hz2 : (ckF f != 0) = true := by simpa using h0
    have H0 := Lib.hid h0
    clear hb hbw hF1 h0
    go_wp2_with fail
    go_ret2
    exact .inr ⟨H0.out, rfl, HB.out⟩
end Go.Proofs.Ytdeknkfhlmkabaa
