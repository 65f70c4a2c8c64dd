/-
  Walks: two sorted stretches merged in place, whatever their lengths. (Written by gens6.py.)
-/
import Derived.Test.YtdgnjalbpiciiaaSB
import Derived.Test.YtdgnjalbpiciiaaSA
namespace Go.Proofs.Ytdgnjalbpiciiaa
set_option linter.unusedVariables false
set_option linter.unusedSimpArgs false
open Go.RowKit
variable {κ : Env}

/-- What merging does to stretches of at most so many pairs in all. -/
def SymAll (κ : Env) (k : Nat) : Prop := ∀ {w : World} {g c N a m b : Nat} {A L R B : List Pl}, L.length + R.length ≤ k → L ≠ [] → R ≠ [] → PRow κ w g (A ++ (L ++ (R ++ B))) → g < w.heap.size → A.length = a → a + L.length = m → m + R.length = b → (A ++ (L ++ (R ++ B))).length = N → N ≤ c → N ≤ 1073741824 → SortedW L → SortedW R →
    Calls Try.prog 116 #[.slice (some ⟨g, 0, none⟩) N c, .int .i64 a, .int .i64 m, .int .i64 b, .func (.func 80) #[] #[.pointer (some ⟨κ.bx, 0, none⟩)]] w (SymP κ g (A ++ (isort (L ++ R) ++ B)) w)
theorem sorted_one {l m : List Pl} (hl : SortedW l) (hm : SortedW m) (h : l = [] ∨ m = []) : SortedW (l ++ m) := by
  rcases h with rfl | rfl
  · simpa using hm
  · simpa using hl

set_option maxRecDepth 100000 in
set_option maxHeartbeats 25600000 in
theorem sym_step {k : Nat} (IH : SymAll κ k) : SymAll κ (k + 1) := by
  intro w g c N a m b A L R B hk hL0 hR0 hr hgl hA hm hb hN hc hNb hL hR
  by_cases h1 : L.length = 1
  · obtain ⟨x, rfl⟩ : ∃ x, L = [x] := List.length_eq_one_iff.1 h1
    exact sym_left hr hgl hA (by simpa using hm) hb hN hc hNb hR
  by_cases h2 : R.length = 1
  · obtain ⟨y, rfl⟩ : ∃ y, R = [y] := List.length_eq_one_iff.1 h2
    exact sym_right hr hgl hA hm (by simpa using hb) (by have := List.length_pos_iff.2 hL0; omega) hN hc hNb hL
  have hl2 : 2 ≤ L.length := by have := List.length_pos_iff.2 hL0; omega
  have hr2 : 2 ≤ R.length := by have := List.length_pos_iff.2 hR0; omega
  have hbN : b ≤ N := by rw [← hN]; simp only [List.length_append]; omega
  have HIH : Hid (SymAll κ k) := IH
  have HK := Lib.hid hk
  have HA := Lib.hid hA
  have HN := Lib.hid hN
  have HLs := Lib.hid hL
  have HRs := Lib.hid hR
  have Hm := Lib.hid hm
  have Hb := Lib.hid hb
  have Hgl := Lib.hid hgl
  have ham : a + 2 ≤ m := by omega
  have hmb : m + 2 ≤ b := by omega
  have e1 : ((m : Int) - (a : Int) == 1) = false := by rw [beq_eq_false_iff_ne]; omega
  have e2 : ((b : Int) - (m : Int) == 1) = false := by rw [beq_eq_false_iff_ne]; omega
  have hM1 : 2 * ((a + b) / 2) ≤ a + b ∧ a + b ≤ 2 * ((a + b) / 2) + 1 := by omega
  have hMI := half_int a b
  generalize (a + b) / 2 = M at *
  obtain ⟨hM2, hM3⟩ := hM1
  obtain ⟨D, hD⟩ : ∃ D, D = A ++ (L ++ (R ++ B)) := ⟨_, rfl⟩
  rw [← hD] at hr hN
  have HD := Lib.hid hD
  have HN2 : Hid (D.length = N) := hN
  have HR := Lib.hid hr
  obtain ⟨p0, hp0⟩ : ∃ p0, p0 = M + m - 1 := ⟨_, rfl⟩
  have ep : (M : Int) + (m : Int) - 1 = (p0 : Int) := by omega
  have epw : IntKind.i64.wrap (p0 : Int) = (p0 : Int) := IntWalk.i64_in _ (by omega)
  have HP0 := Lib.hid hp0
  clear hA hN hL hR hm hb hr hgl hk hL0 hR0 h1 h2 hl2 hr2 IH hD hp0
  by_cases hgt : M < m
  · obtain ⟨lo, hlo0⟩ : ∃ lo, lo = M + m - b := ⟨_, rfl⟩
    have es : (M : Int) + (m : Int) - (b : Int) = (lo : Int) := by omega
    have esw : IntKind.i64.wrap (lo : Int) = (lo : Int) := IntWalk.i64_in _ (by omega)
    have hgI : (M : Int) < (m : Int) := by omega
    have HLo : Hid (∀ s, s = lo → s = a ∨ M + m = b + s) := fun s h => .inr (by omega)
    have HHi : Hid (∀ s, s = M → s = m ∨ M + m = m + s) := fun s h => .inr (by omega)
    have hb1 : a ≤ lo ∧ lo ≤ M ∧ M ≤ m ∧ M ≤ M ∧ M + m ≤ b + lo := by omega
    obtain ⟨hb1, hb2, hb3, hb4, hb5⟩ := hb1
    clear hlo0 hgt
    go_enter Try.func116, Try.ntmps116
    go_wp2_with fail
    clear e1 e2 hMI hgI ep es esw
    go_loopw [20, 21] (fun u v wr => ∃ (s r : Nat), u = .int .i64 s ∧ v = .int .i64 r ∧ lo ≤ s ∧ s ≤ r ∧ r ≤ M ∧ Hid (s = lo ∨ ∀ x y, D[s - 1]? = some x → D[M + m - s]? = some y → plt y.1 x.1 = false) ∧ Hid (r = M ∨ ∀ x y, D[r]? = some x → D[M + m - 1 - r]? = some y → plt y.1 x.1 = true) ∧ Hid (PRow κ wr g D) ∧ Hid (w.grownBy wr (some g)))
      (fun u v _ => (intOf v).toNat - (intOf u).toNat)
    case atStart => exact ⟨lo, M, rfl, rfl, Nat.le_refl _, hb2, Nat.le_refl _, .inl rfl, .inl rfl, HR, grown_refl _ _⟩
    case round =>
      obtain ⟨s, r, rfl, rfl, hs1, hs2, hs3, hlo, hhi, hrow, hgr⟩ := hrel
      by_cases hlt : s < r
      · obtain ⟨hh1, hh2⟩ := half_in hlt
        have hH := half_int s r
        generalize (s + r) / 2 = H at *
        obtain ⟨Q, hQ⟩ : ∃ Q, Q = M + m - 1 - H := ⟨_, rfl⟩
        have hQb : Q < N ∧ H < N := by omega
        have eQ : (p0 : Int) - (H : Int) = (Q : Int) := by have := HP0.out; omega
        have HQ := Lib.hid hQ
        have eQw : IntKind.i64.wrap (Q : Int) = (Q : Int) := IntWalk.i64_in _ (by omega)
        obtain ⟨x, hx⟩ : ∃ x, D[H]? = some x := ⟨D[H]'(by rw [HN2.out]; omega), List.getElem?_eq_getElem _⟩
        obtain ⟨y, hy⟩ : ∃ y, D[Q]? = some y := ⟨D[Q]'(by rw [HN2.out]; omega), List.getElem?_eq_getElem _⟩
        obtain ⟨x0, x1⟩ := hrow.out.at1 hx
        obtain ⟨y0, y1⟩ := hrow.out.at1 hy
        have hI : (s : Int) < (r : Int) := by omega
        have hH0 : (0 : Int) ≤ (H : Int) := by omega
        have hH1 : (H : Int) < (N : Int) := by omega
        have hQ0 : (0 : Int) ≤ (Q : Int) := by omega
        have hQ1 : (Q : Int) < (N : Int) := by omega
        have eH : IntKind.i64.wrap ((H : Int) + 1) = (H : Int) + 1 := IntWalk.i64_in _ (by omega)
        have HX := Lib.hid hx
        have HY := Lib.hid hy
        clear hx hy hQ hQb
        go_wp2_with fail
        have HENV : Hid (κ.ok wr g) := Lib.hid (by first | exact Hrw.out.env | exact hrow.out.env | exact hrw.out.env)
        go_region_held3 (fun V => V.cell? ⟨g, Q, none⟩ = some (.int .i64 y.2) ∧ V.cell? ⟨g, H, none⟩ = some (.int .i64 x.2)) (go_keep)
          (first
            | (go_at_call 80; (with_reducible refine (cmp_any HENV.out.drew y1 x1).mono ?_); rintro e w2 ⟨rfl, hb2⟩; have hbd : Below wr.heap.size wr w2 := (below_drew1 wr).trans hb2; have z0 := cell_later hbd y0; have z2 := cell_later hbd x0; have HB2 := Lib.hid hbd; clear hbd hb2))
        have Hrw := Lib.hid (hrow.out.later (World.block_lt_of_cell? wr _ y0) HB2.out)
        have Hgr := Lib.hid (grown_of_below hgr.out HB2.out)
        clear y0 x0 z0 z2 hrow hgr HB2
        cases hk : plt y.1 x.1 with
        | true =>
          have hcmp : cmpP y.1 x.1 < 0 := (compare_plt _ _).2 hk
          have hcmp2 : decide (cmpP y.1 x.1 < 0) = true := by simpa using hcmp
          have hcmp3 : (!decide (cmpP y.1 x.1 < 0)) = false := by rw [hcmp2]; rfl
          have HL : Hid (H = M ∨ ∀ x' y', D[H]? = some x' → D[M + m - 1 - H]? = some y' → plt y'.1 x'.1 = true) := .inr (fun x' y' hx' hy' => by rw [HX.out] at hx'; rw [← HQ.out, HY.out] at hy'; have ex : x = x' := (by simpa using hx'); have ey : y = y' := (by simpa using hy'); rw [← ex, ← ey]; exact hk)
          clear hk
          go_wp2_with fail
          all_goals first
            | exact ⟨⟨s, H, rfl, rfl, hs1, hh1, by omega, hlo, HL, Hrw, Hgr⟩, by show ((H : Int)).toNat - ((s : Int)).toNat < ((r : Int)).toNat - ((s : Int)).toNat; omega⟩
            | (rename_i hX; exact absurd hX (by rw [hcmp2]; decide))
        | false =>
          have hcmp : ¬ cmpP y.1 x.1 < 0 := fun e => by rw [compare_plt, hk] at e; cases e
          have hcmp2 : decide (cmpP y.1 x.1 < 0) = false := by simpa using hcmp
          have hcmp3 : (!decide (cmpP y.1 x.1 < 0)) = true := by rw [hcmp2]; rfl
          have HL : Hid (H + 1 = lo ∨ ∀ x' y', D[H + 1 - 1]? = some x' → D[M + m - (H + 1)]? = some y' → plt y'.1 x'.1 = false) := .inr (fun x' y' hx' hy' => by rw [Nat.add_sub_cancel, HX.out] at hx'; rw [show M + m - (H + 1) = Q by have := HQ.out; omega, HY.out] at hy'; have ex : x = x' := (by simpa using hx'); have ey : y = y' := (by simpa using hy'); rw [← ex, ← ey]; exact hk)
          clear hk
          go_wp2_with fail
          all_goals first
            | exact ⟨⟨H + 1, r, by simp, rfl, by omega, by omega, hs3, HL, hhi, Hrw, Hgr⟩, by show ((r : Int)).toNat - ((H : Int) + 1).toNat < ((r : Int)).toNat - ((s : Int)).toNat; omega⟩
            | (rename_i hX; exact absurd hX (by rw [hcmp2]; decide))
      · obtain rfl : r = s := by omega
        obtain ⟨L1, X, Y, R2, hLX, hRY, hl1, hy1, hXY, hLR⟩ := sym_cut (A := A) (B := B) (n := M + m) (s := r) HA.out Hm.out Hb.out (by omega) (by omega) (by omega) (by omega)
          (by
            rcases hlo.out with h | h
            · exact (HLo.out r h).imp id .inl
            · rw [HD.out] at h; exact .inr (.inr h))
          (by
            rcases hhi.out with h | h
            · exact (HHi.out r h).imp id .inl
            · rw [HD.out] at h; exact .inr (.inr h)) HLs.out HRs.out
        obtain ⟨en, hen⟩ : ∃ en, en = M + m - r := ⟨_, rfl⟩
        have ee : (M : Int) + (m : Int) - (r : Int) = (en : Int) := by omega
        have eew : IntKind.i64.wrap (en : Int) = (en : Int) := IntWalk.i64_in _ (by omega)
        have hXl : r + X.length = m := by have h := Hm.out; rw [hLX, List.length_append] at h; omega
        have hYl : r + Y.length = M := by omega
        have hRl : en + R2.length = b := by have h := Hb.out; rw [hRY, List.length_append] at h; omega
        have hMX : M + X.length = en := by omega
        have hmY : m + Y.length = en := by omega
        have hsL : SortedW L1 ∧ SortedW X := by have h := HLs.out; rw [hLX] at h; exact ⟨(sortedW_app.1 h).1, (sortedW_app.1 h).2.1⟩
        have hsR : SortedW Y ∧ SortedW R2 := by have h := HRs.out; rw [hRY] at h; exact ⟨(sortedW_app.1 h).1, (sortedW_app.1 h).2.1⟩
        have HSL := Lib.hid hsL
        have HSR := Lib.hid hsR
        have HCut : Hid (isort (L1 ++ Y) ++ isort (X ++ R2) = isort (L ++ R)) := by
          show _ = _
          have h1 := HLs.out
          have h2 := HRs.out
          rw [hLX] at h1 ⊢
          rw [hRY] at h2 ⊢
          exact isort_cut h1 h2 hXY hLR
        have hlen : A.length + (L1.length + (X.length + (Y.length + (R2.length + B.length)))) = N := by
          have h := HN2.out
          rw [HD.out, hLX, hRY] at h
          simp only [List.length_append] at h
          omega
        have HLen := Lib.hid hlen
        have HRow : Hid (PRow κ wr g (A ++ (L1 ++ (X ++ (Y ++ (R2 ++ B)))))) := by
          show PRow κ _ _ _
          have h := hrow.out
          rw [HD.out, hLX, hRY] at h
          simpa using h
        have HL1 := Lib.hid hl1
        have HXl := Lib.hid hXl
        have HYl := Lib.hid hYl
        have HRl := Lib.hid hRl
        have HMX := Lib.hid hMX
        have HmY := Lib.hid hmY
        have HK2 : Hid (L1.length + Y.length ≤ k ∧ X.length + R2.length ≤ k) := by
          show _ ∧ _
          have h := HK.out
          rw [hLX, hRY] at h
          simp only [List.length_append] at h
          have h3 := Hm.out
          have h4 := Hb.out
          omega
        have Hgw := Lib.hid (Nat.lt_of_lt_of_le Hgl.out hgr.out.size)
        clear hlo hhi hLX hRY hl1 hy1 hXY hLR hXl hYl hRl hMX hmY hsL hsR hlen hrow hen hlt HLo HHi
        by_cases ha1 : r < m
        · have ha1I : (r : Int) < (m : Int) := by omega
          by_cases ha2 : m < en
          · have ha2I : (m : Int) < (en : Int) := by omega
            have HC : Hid (Calls Try.prog 124 #[.slice (some ⟨g, 0, none⟩) N c, .int .i64 r, .int .i64 m, .int .i64 en, .func (.func 80) #[] #[.pointer (some ⟨κ.bx, 0, none⟩)]] wr fun e w' => e = .returned (.tuple #[]) ∧ Sorts κ g ((A ++ L1) ++ (Y ++ (X ++ (R2 ++ B)))) wr w') :=
              rotate_any (A := A ++ L1) (B := R2 ++ B) (by have h := HRow.out; simpa using h) (by rw [List.length_append, HA.out]; exact HL1.out) HXl.out HmY.out (fun e => by subst e; have := HXl.out; simp at this; omega) (fun e => by subst e; have := HmY.out; simp at this; omega) (by simp only [List.length_append]; have := HLen.out; omega) hc hNb
            go_wp2_with fail
            go_fit HC.out
            rintro e w7 ⟨rfl, h7⟩
            have HRow1 : Hid (PRow κ w7 g (A ++ (L1 ++ (Y ++ (X ++ (R2 ++ B)))))) := by show PRow κ _ _ _; have h := h7.1; simpa using h
            have HG1 : Hid (w.grownBy w7 (some g)) := grown_seq hgr.out h7.2 (.inl rfl)
            have Hgw1 : Hid (g < w7.heap.size) := Nat.lt_of_lt_of_le Hgl.out HG1.out.size
            clear h7 HC HRow Hgw
            by_cases hb1 : a < r
            · have hb1I : (a : Int) < (r : Int) := by omega
              by_cases hb2 : r < M
              · have hb2I : (r : Int) < (M : Int) := by omega
                have HC : Hid (Calls Try.prog 116 #[.slice (some ⟨g, 0, none⟩) N c, .int .i64 a, .int .i64 r, .int .i64 M, .func (.func 80) #[] #[.pointer (some ⟨κ.bx, 0, none⟩)]] w7 (SymP κ g (A ++ (isort (L1 ++ Y) ++ (X ++ (R2 ++ B)))) w7)) :=
                  HIH.out HK2.out.1 (fun e => by subst e; have := HL1.out; simp at this; omega) (fun e => by subst e; have := HYl.out; simp at this; omega) HRow1.out Hgw1.out HA.out HL1.out HYl.out (by simp only [List.length_append]; have := HLen.out; omega) hc hNb HSL.out.1 HSR.out.1
                go_wp2_with fail
                go_fit HC.out
                rintro e w8 ⟨rfl, h8⟩
                have HRow2 : Hid (PRow κ w8 g (A ++ (isort (L1 ++ Y) ++ (X ++ (R2 ++ B))))) := h8.1
                have HG2 : Hid (w.grownBy w8 (some g)) := grown_seq HG1.out h8.2 (.inl rfl)
                have Hgw2 : Hid (g < w8.heap.size) := Nat.lt_of_lt_of_le Hgl.out HG2.out.size
                clear h8 HC HRow1 HG1 Hgw1
                by_cases hc1 : M < en
                · have hc1I : (M : Int) < (en : Int) := by omega
                  by_cases hc2 : en < b
                  · have hc2I : (en : Int) < (b : Int) := by omega
                    have HC : Hid (Calls Try.prog 116 #[.slice (some ⟨g, 0, none⟩) N c, .int .i64 M, .int .i64 en, .int .i64 b, .func (.func 80) #[] #[.pointer (some ⟨κ.bx, 0, none⟩)]] w8 (SymP κ g ((A ++ isort (L1 ++ Y)) ++ (isort (X ++ R2) ++ B)) w8)) :=
                      HIH.out (A := A ++ isort (L1 ++ Y)) HK2.out.2 (fun e => by subst e; have := HMX.out; simp at this; omega) (fun e => by subst e; have := HRl.out; simp at this; omega) (by have h := HRow2.out; simpa using h) Hgw2.out (by rw [List.length_append, isort_length, List.length_append, HA.out]; have := HL1.out; have := HYl.out; omega) HMX.out HRl.out (by simp only [List.length_append, isort_length]; have := HLen.out; omega) hc hNb HSL.out.2 HSR.out.2
                    go_wp2_with fail
                    go_fit HC.out
                    rintro e w9 ⟨rfl, h9⟩
                    have H9 := Lib.hid h9
                    clear h9 HC
                    have HF : Hid (PRow κ w9 g (A ++ (isort (L ++ R) ++ B)) ∧ w.grownBy w9 (some g)) := by
                      show _ ∧ _
                      rw [← HCut.out]
                      exact ⟨by have h := H9.out.1; simpa using h, grown_seq HG2.out H9.out.2 (.inl rfl)⟩
                    go_wp2_with fail
                    go_end0
                    exact ⟨rfl, HF.out.1, HF.out.2⟩
                  · have hc2I : ¬ (en : Int) < (b : Int) := by omega
                    have hiso := isort_sorted (sorted_one HSL.out.2 HSR.out.2 (.inr (List.eq_nil_of_length_eq_zero (by have := HRl.out; omega))))
                    have HF : Hid (PRow κ w8 g (A ++ (isort (L ++ R) ++ B)) ∧ w.grownBy w8 (some g)) := by
                      show _ ∧ _
                      rw [← HCut.out]
                      exact ⟨by have h := HRow2.out; rw [hiso]; simpa using h, HG2.out⟩
                    go_wp2_with fail
                    go_end0
                    exact ⟨rfl, HF.out.1, HF.out.2⟩
                · have hc1I : ¬ (M : Int) < (en : Int) := by omega
                  have hiso := isort_sorted (sorted_one HSL.out.2 HSR.out.2 (.inl (List.eq_nil_of_length_eq_zero (by have := HMX.out; omega))))
                  have HF : Hid (PRow κ w8 g (A ++ (isort (L ++ R) ++ B)) ∧ w.grownBy w8 (some g)) := by
                    show _ ∧ _
                    rw [← HCut.out]
                    exact ⟨by have h := HRow2.out; rw [hiso]; simpa using h, HG2.out⟩
                  go_wp2_with fail
                  go_end0
                  exact ⟨rfl, HF.out.1, HF.out.2⟩
              · have hb2I : ¬ (r : Int) < (M : Int) := by omega
                have hiso := isort_sorted (sorted_one HSL.out.1 HSR.out.1 (.inr (List.eq_nil_of_length_eq_zero (by have := HYl.out; omega))))
                have HRow2 : Hid (PRow κ w7 g (A ++ (isort (L1 ++ Y) ++ (X ++ (R2 ++ B))))) := by show PRow κ _ _ _; rw [hiso]; have h := HRow1.out; simpa using h
                have HG2 : Hid (w.grownBy w7 (some g)) := HG1
                have Hgw2 : Hid (g < w7.heap.size) := Hgw1
                clear hiso HRow1 HG1 Hgw1
                by_cases hc1 : M < en
                · have hc1I : (M : Int) < (en : Int) := by omega
                  by_cases hc2 : en < b
                  · have hc2I : (en : Int) < (b : Int) := by omega
                    have HC : Hid (Calls Try.prog 116 #[.slice (some ⟨g, 0, none⟩) N c, .int .i64 M, .int .i64 en, .int .i64 b, .func (.func 80) #[] #[.pointer (some ⟨κ.bx, 0, none⟩)]] w7 (SymP κ g ((A ++ isort (L1 ++ Y)) ++ (isort (X ++ R2) ++ B)) w7)) :=
                      HIH.out (A := A ++ isort (L1 ++ Y)) HK2.out.2 (fun e => by subst e; have := HMX.out; simp at this; omega) (fun e => by subst e; have := HRl.out; simp at this; omega) (by have h := HRow2.out; simpa using h) Hgw2.out (by rw [List.length_append, isort_length, List.length_append, HA.out]; have := HL1.out; have := HYl.out; omega) HMX.out HRl.out (by simp only [List.length_append, isort_length]; have := HLen.out; omega) hc hNb HSL.out.2 HSR.out.2
                    go_wp2_with fail
                    go_fit HC.out
                    rintro e w9 ⟨rfl, h9⟩
                    have H9 := Lib.hid h9
                    clear h9 HC
                    have HF : Hid (PRow κ w9 g (A ++ (isort (L ++ R) ++ B)) ∧ w.grownBy w9 (some g)) := by
                      show _ ∧ _
                      rw [← HCut.out]
                      exact ⟨by have h := H9.out.1; simpa using h, grown_seq HG2.out H9.out.2 (.inl rfl)⟩
                    go_wp2_with fail
                    go_end0
                    exact ⟨rfl, HF.out.1, HF.out.2⟩
                  · have hc2I : ¬ (en : Int) < (b : Int) := by omega
                    have hiso := isort_sorted (sorted_one HSL.out.2 HSR.out.2 (.inr (List.eq_nil_of_length_eq_zero (by have := HRl.out; omega))))
                    have HF : Hid (PRow κ w7 g (A ++ (isort (L ++ R) ++ B)) ∧ w.grownBy w7 (some g)) := by
                      show _ ∧ _
                      rw [← HCut.out]
                      exact ⟨by have h := HRow2.out; rw [hiso]; simpa using h, HG2.out⟩
                    go_wp2_with fail
                    go_end0
                    exact ⟨rfl, HF.out.1, HF.out.2⟩
                · have hc1I : ¬ (M : Int) < (en : Int) := by omega
                  have hiso := isort_sorted (sorted_one HSL.out.2 HSR.out.2 (.inl (List.eq_nil_of_length_eq_zero (by have := HMX.out; omega))))
                  have HF : Hid (PRow κ w7 g (A ++ (isort (L ++ R) ++ B)) ∧ w.grownBy w7 (some g)) := by
                    show _ ∧ _
                    rw [← HCut.out]
                    exact ⟨by have h := HRow2.out; rw [hiso]; simpa using h, HG2.out⟩
                  go_wp2_with fail
                  go_end0
                  exact ⟨rfl, HF.out.1, HF.out.2⟩
            · have hb1I : ¬ (a : Int) < (r : Int) := by omega
              have hiso := isort_sorted (sorted_one HSL.out.1 HSR.out.1 (.inl (List.eq_nil_of_length_eq_zero (by have := HL1.out; omega))))
              have HRow2 : Hid (PRow κ w7 g (A ++ (isort (L1 ++ Y) ++ (X ++ (R2 ++ B))))) := by show PRow κ _ _ _; rw [hiso]; have h := HRow1.out; simpa using h
              have HG2 : Hid (w.grownBy w7 (some g)) := HG1
              have Hgw2 : Hid (g < w7.heap.size) := Hgw1
              clear hiso HRow1 HG1 Hgw1
              by_cases hc1 : M < en
              · have hc1I : (M : Int) < (en : Int) := by omega
                by_cases hc2 : en < b
                · have hc2I : (en : Int) < (b : Int) := by omega
                  have HC : Hid (Calls Try.prog 116 #[.slice (some ⟨g, 0, none⟩) N c, .int .i64 M, .int .i64 en, .int .i64 b, .func (.func 80) #[] #[.pointer (some ⟨κ.bx, 0, none⟩)]] w7 (SymP κ g ((A ++ isort (L1 ++ Y)) ++ (isort (X ++ R2) ++ B)) w7)) :=
                    HIH.out (A := A ++ isort (L1 ++ Y)) HK2.out.2 (fun e => by subst e; have := HMX.out; simp at this; omega) (fun e => by subst e; have := HRl.out; simp at this; omega) (by have h := HRow2.out; simpa using h) Hgw2.out (by rw [List.length_append, isort_length, List.length_append, HA.out]; have := HL1.out; have := HYl.out; omega) HMX.out HRl.out (by simp only [List.length_append, isort_length]; have := HLen.out; omega) hc hNb HSL.out.2 HSR.out.2
                  go_wp2_with fail
                  go_fit HC.out
                  rintro e w9 ⟨rfl, h9⟩
                  have H9 := Lib.hid h9
                  clear h9 HC
                  have HF : Hid (PRow κ w9 g (A ++ (isort (L ++ R) ++ B)) ∧ w.grownBy w9 (some g)) := by
                    show _ ∧ _
                    rw [← HCut.out]
                    exact ⟨by have h := H9.out.1; simpa using h, grown_seq HG2.out H9.out.2 (.inl rfl)⟩
                  go_wp2_with fail
                  go_end0
                  exact ⟨rfl, HF.out.1, HF.out.2⟩
                · have hc2I : ¬ (en : Int) < (b : Int) := by omega
                  have hiso := isort_sorted (sorted_one HSL.out.2 HSR.out.2 (.inr (List.eq_nil_of_length_eq_zero (by have := HRl.out; omega))))
                  have HF : Hid (PRow κ w7 g (A ++ (isort (L ++ R) ++ B)) ∧ w.grownBy w7 (some g)) := by
                    show _ ∧ _
                    rw [← HCut.out]
                    exact ⟨by have h := HRow2.out; rw [hiso]; simpa using h, HG2.out⟩
                  go_wp2_with fail
                  go_end0
                  exact ⟨rfl, HF.out.1, HF.out.2⟩
              · have hc1I : ¬ (M : Int) < (en : Int) := by omega
                have hiso := isort_sorted (sorted_one HSL.out.2 HSR.out.2 (.inl (List.eq_nil_of_length_eq_zero (by have := HMX.out; omega))))
                have HF : Hid (PRow κ w7 g (A ++ (isort (L ++ R) ++ B)) ∧ w.grownBy w7 (some g)) := by
                  show _ ∧ _
                  rw [← HCut.out]
                  exact ⟨by have h := HRow2.out; rw [hiso]; simpa using h, HG2.out⟩
                go_wp2_with fail
                go_end0
                exact ⟨rfl, HF.out.1, HF.out.2⟩
          · have ha2I : ¬ (m : Int) < (en : Int) := by omega
            have hy0 : Y = [] := List.eq_nil_of_length_eq_zero (by have := HmY.out; omega)
            have HRow1 : Hid (PRow κ wr g (A ++ (L1 ++ (Y ++ (X ++ (R2 ++ B)))))) := by show PRow κ _ _ _; have h := HRow.out; rw [hy0] at h ⊢; simpa using h
            have HG1 : Hid (w.grownBy wr (some g)) := hgr
            have Hgw1 : Hid (g < wr.heap.size) := Hgw
            clear hy0 HRow Hgw
            by_cases hb1 : a < r
            · have hb1I : (a : Int) < (r : Int) := by omega
              by_cases hb2 : r < M
              · have hb2I : (r : Int) < (M : Int) := by omega
                have HC : Hid (Calls Try.prog 116 #[.slice (some ⟨g, 0, none⟩) N c, .int .i64 a, .int .i64 r, .int .i64 M, .func (.func 80) #[] #[.pointer (some ⟨κ.bx, 0, none⟩)]] wr (SymP κ g (A ++ (isort (L1 ++ Y) ++ (X ++ (R2 ++ B)))) wr)) :=
                  HIH.out HK2.out.1 (fun e => by subst e; have := HL1.out; simp at this; omega) (fun e => by subst e; have := HYl.out; simp at this; omega) HRow1.out Hgw1.out HA.out HL1.out HYl.out (by simp only [List.length_append]; have := HLen.out; omega) hc hNb HSL.out.1 HSR.out.1
                go_wp2_with fail
                go_fit HC.out
                rintro e w8 ⟨rfl, h8⟩
                have HRow2 : Hid (PRow κ w8 g (A ++ (isort (L1 ++ Y) ++ (X ++ (R2 ++ B))))) := h8.1
                have HG2 : Hid (w.grownBy w8 (some g)) := grown_seq HG1.out h8.2 (.inl rfl)
                have Hgw2 : Hid (g < w8.heap.size) := Nat.lt_of_lt_of_le Hgl.out HG2.out.size
                clear h8 HC HRow1 HG1 Hgw1
                by_cases hc1 : M < en
                · have hc1I : (M : Int) < (en : Int) := by omega
                  by_cases hc2 : en < b
                  · have hc2I : (en : Int) < (b : Int) := by omega
                    have HC : Hid (Calls Try.prog 116 #[.slice (some ⟨g, 0, none⟩) N c, .int .i64 M, .int .i64 en, .int .i64 b, .func (.func 80) #[] #[.pointer (some ⟨κ.bx, 0, none⟩)]] w8 (SymP κ g ((A ++ isort (L1 ++ Y)) ++ (isort (X ++ R2) ++ B)) w8)) :=
                      HIH.out (A := A ++ isort (L1 ++ Y)) HK2.out.2 (fun e => by subst e; have := HMX.out; simp at this; omega) (fun e => by subst e; have := HRl.out; simp at this; omega) (by have h := HRow2.out; simpa using h) Hgw2.out (by rw [List.length_append, isort_length, List.length_append, HA.out]; have := HL1.out; have := HYl.out; omega) HMX.out HRl.out (by simp only [List.length_append, isort_length]; have := HLen.out; omega) hc hNb HSL.out.2 HSR.out.2
                    go_wp2_with fail
                    go_fit HC.out
                    rintro e w9 ⟨rfl, h9⟩
                    have H9 := Lib.hid h9
                    clear h9 HC
                    have HF : Hid (PRow κ w9 g (A ++ (isort (L ++ R) ++ B)) ∧ w.grownBy w9 (some g)) := by
                      show _ ∧ _
                      rw [← HCut.out]
                      exact ⟨by have h := H9.out.1; simpa using h, grown_seq HG2.out H9.out.2 (.inl rfl)⟩
                    go_wp2_with fail
                    go_end0
                    exact ⟨rfl, HF.out.1, HF.out.2⟩
                  · have hc2I : ¬ (en : Int) < (b : Int) := by omega
                    have hiso := isort_sorted (sorted_one HSL.out.2 HSR.out.2 (.inr (List.eq_nil_of_length_eq_zero (by have := HRl.out; omega))))
                    have HF : Hid (PRow κ w8 g (A ++ (isort (L ++ R) ++ B)) ∧ w.grownBy w8 (some g)) := by
                      show _ ∧ _
                      rw [← HCut.out]
                      exact ⟨by have h := HRow2.out; rw [hiso]; simpa using h, HG2.out⟩
                    go_wp2_with fail
                    go_end0
                    exact ⟨rfl, HF.out.1, HF.out.2⟩
                · have hc1I : ¬ (M : Int) < (en : Int) := by omega
                  have hiso := isort_sorted (sorted_one HSL.out.2 HSR.out.2 (.inl (List.eq_nil_of_length_eq_zero (by have := HMX.out; omega))))
                  have HF : Hid (PRow κ w8 g (A ++ (isort (L ++ R) ++ B)) ∧ w.grownBy w8 (some g)) := by
                    show _ ∧ _
                    rw [← HCut.out]
                    exact ⟨by have h := HRow2.out; rw [hiso]; simpa using h, HG2.out⟩
                  go_wp2_with fail
                  go_end0
                  exact ⟨rfl, HF.out.1, HF.out.2⟩
              · have hb2I : ¬ (r : Int) < (M : Int) := by omega
                have hiso := isort_sorted (sorted_one HSL.out.1 HSR.out.1 (.inr (List.eq_nil_of_length_eq_zero (by have := HYl.out; omega))))
                have HRow2 : Hid (PRow κ wr g (A ++ (isort (L1 ++ Y) ++ (X ++ (R2 ++ B))))) := by show PRow κ _ _ _; rw [hiso]; have h := HRow1.out; simpa using h
                have HG2 : Hid (w.grownBy wr (some g)) := HG1
                have Hgw2 : Hid (g < wr.heap.size) := Hgw1
                clear hiso HRow1 HG1 Hgw1
                by_cases hc1 : M < en
                · have hc1I : (M : Int) < (en : Int) := by omega
                  by_cases hc2 : en < b
                  · have hc2I : (en : Int) < (b : Int) := by omega
                    have HC : Hid (Calls Try.prog 116 #[.slice (some ⟨g, 0, none⟩) N c, .int .i64 M, .int .i64 en, .int .i64 b, .func (.func 80) #[] #[.pointer (some ⟨κ.bx, 0, none⟩)]] wr (SymP κ g ((A ++ isort (L1 ++ Y)) ++ (isort (X ++ R2) ++ B)) wr)) :=
                      HIH.out (A := A ++ isort (L1 ++ Y)) HK2.out.2 (fun e => by subst e; have := HMX.out; simp at this; omega) (fun e => by subst e; have := HRl.out; simp at this; omega) (by have h := HRow2.out; simpa using h) Hgw2.out (by rw [List.length_append, isort_length, List.length_append, HA.out]; have := HL1.out; have := HYl.out; omega) HMX.out HRl.out (by simp only [List.length_append, isort_length]; have := HLen.out; omega) hc hNb HSL.out.2 HSR.out.2
                    go_wp2_with fail
                    go_fit HC.out
                    rintro e w9 ⟨rfl, h9⟩
                    have H9 := Lib.hid h9
                    clear h9 HC
                    have HF : Hid (PRow κ w9 g (A ++ (isort (L ++ R) ++ B)) ∧ w.grownBy w9 (some g)) := by
                      show _ ∧ _
                      rw [← HCut.out]
                      exact ⟨by have h := H9.out.1; simpa using h, grown_seq HG2.out H9.out.2 (.inl rfl)⟩
                    go_wp2_with fail
                    go_end0
                    exact ⟨rfl, HF.out.1, HF.out.2⟩
                  · have hc2I : ¬ (en : Int) < (b : Int) := by omega
                    have hiso := isort_sorted (sorted_one HSL.out.2 HSR.out.2 (.inr (List.eq_nil_of_length_eq_zero (by have := HRl.out; omega))))
                    have HF : Hid (PRow κ wr g (A ++ (isort (L ++ R) ++ B)) ∧ w.grownBy wr (some g)) := by
                      show _ ∧ _
                      rw [← HCut.out]
                      exact ⟨by have h := HRow2.out; rw [hiso]; simpa using h, HG2.out⟩
                    go_wp2_with fail
                    go_end0
                    exact ⟨rfl, HF.out.1, HF.out.2⟩
                · have hc1I : ¬ (M : Int) < (en : Int) := by omega
                  have hiso := isort_sorted (sorted_one HSL.out.2 HSR.out.2 (.inl (List.eq_nil_of_length_eq_zero (by have := HMX.out; omega))))
                  have HF : Hid (PRow κ wr g (A ++ (isort (L ++ R) ++ B)) ∧ w.grownBy wr (some g)) := by
                    show _ ∧ _
                    rw [← HCut.out]
                    exact ⟨by have h := HRow2.out; rw [hiso]; simpa using h, HG2.out⟩
                  go_wp2_with fail
                  go_end0
                  exact ⟨rfl, HF.out.1, HF.out.2⟩
            · have hb1I : ¬ (a : Int) < (r : Int) := by omega
              have hiso := isort_sorted (sorted_one HSL.out.1 HSR.out.1 (.inl (List.eq_nil_of_length_eq_zero (by have := HL1.out; omega))))
              have HRow2 : Hid (PRow κ wr g (A ++ (isort (L1 ++ Y) ++ (X ++ (R2 ++ B))))) := by show PRow κ _ _ _; rw [hiso]; have h := HRow1.out; simpa using h
              have HG2 : Hid (w.grownBy wr (some g)) := HG1
              have Hgw2 : Hid (g < wr.heap.size) := Hgw1
              clear hiso HRow1 HG1 Hgw1
              by_cases hc1 : M < en
              · have hc1I : (M : Int) < (en : Int) := by omega
                by_cases hc2 : en < b
                · have hc2I : (en : Int) < (b : Int) := by omega
                  have HC : Hid (Calls Try.prog 116 #[.slice (some ⟨g, 0, none⟩) N c, .int .i64 M, .int .i64 en, .int .i64 b, .func (.func 80) #[] #[.pointer (some ⟨κ.bx, 0, none⟩)]] wr (SymP κ g ((A ++ isort (L1 ++ Y)) ++ (isort (X ++ R2) ++ B)) wr)) :=
                    HIH.out (A := A ++ isort (L1 ++ Y)) HK2.out.2 (fun e => by subst e; have := HMX.out; simp at this; omega) (fun e => by subst e; have := HRl.out; simp at this; omega) (by have h := HRow2.out; simpa using h) Hgw2.out (by rw [List.length_append, isort_length, List.length_append, HA.out]; have := HL1.out; have := HYl.out; omega) HMX.out HRl.out (by simp only [List.length_append, isort_length]; have := HLen.out; omega) hc hNb HSL.out.2 HSR.out.2
                  go_wp2_with fail
                  go_fit HC.out
                  rintro e w9 ⟨rfl, h9⟩
                  have H9 := Lib.hid h9
                  clear h9 HC
                  have HF : Hid (PRow κ w9 g (A ++ (isort (L ++ R) ++ B)) ∧ w.grownBy w9 (some g)) := by
                    show _ ∧ _
                    rw [← HCut.out]
                    exact ⟨by have h := H9.out.1; simpa using h, grown_seq HG2.out H9.out.2 (.inl rfl)⟩
                  go_wp2_with fail
                  go_end0
                  exact ⟨rfl, HF.out.1, HF.out.2⟩
                · have hc2I : ¬ (en : Int) < (b : Int) := by omega
                  have hiso := isort_sorted (sorted_one HSL.out.2 HSR.out.2 (.inr (List.eq_nil_of_length_eq_zero (by have := HRl.out; omega))))
                  have HF : Hid (PRow κ wr g (A ++ (isort (L ++ R) ++ B)) ∧ w.grownBy wr (some g)) := by
                    show _ ∧ _
                    rw [← HCut.out]
                    exact ⟨by have h := HRow2.out; rw [hiso]; simpa using h, HG2.out⟩
                  go_wp2_with fail
                  go_end0
                  exact ⟨rfl, HF.out.1, HF.out.2⟩
              · have hc1I : ¬ (M : Int) < (en : Int) := by omega
                have hiso := isort_sorted (sorted_one HSL.out.2 HSR.out.2 (.inl (List.eq_nil_of_length_eq_zero (by have := HMX.out; omega))))
                have HF : Hid (PRow κ wr g (A ++ (isort (L ++ R) ++ B)) ∧ w.grownBy wr (some g)) := by
                  show _ ∧ _
                  rw [← HCut.out]
                  exact ⟨by have h := HRow2.out; rw [hiso]; simpa using h, HG2.out⟩
                go_wp2_with fail
                go_end0
                exact ⟨rfl, HF.out.1, HF.out.2⟩
        · have ha1I : ¬ (r : Int) < (m : Int) := by omega
          have hy0 : X = [] := List.eq_nil_of_length_eq_zero (by have := HXl.out; omega)
          have HRow1 : Hid (PRow κ wr g (A ++ (L1 ++ (Y ++ (X ++ (R2 ++ B)))))) := by show PRow κ _ _ _; have h := HRow.out; rw [hy0] at h ⊢; simpa using h
          have HG1 : Hid (w.grownBy wr (some g)) := hgr
          have Hgw1 : Hid (g < wr.heap.size) := Hgw
          clear hy0 HRow Hgw
          by_cases hb1 : a < r
          · have hb1I : (a : Int) < (r : Int) := by omega
            by_cases hb2 : r < M
            · have hb2I : (r : Int) < (M : Int) := by omega
              have HC : Hid (Calls Try.prog 116 #[.slice (some ⟨g, 0, none⟩) N c, .int .i64 a, .int .i64 r, .int .i64 M, .func (.func 80) #[] #[.pointer (some ⟨κ.bx, 0, none⟩)]] wr (SymP κ g (A ++ (isort (L1 ++ Y) ++ (X ++ (R2 ++ B)))) wr)) :=
                HIH.out HK2.out.1 (fun e => by subst e; have := HL1.out; simp at this; omega) (fun e => by subst e; have := HYl.out; simp at this; omega) HRow1.out Hgw1.out HA.out HL1.out HYl.out (by simp only [List.length_append]; have := HLen.out; omega) hc hNb HSL.out.1 HSR.out.1
              go_wp2_with fail
              go_fit HC.out
              rintro e w8 ⟨rfl, h8⟩
              have HRow2 : Hid (PRow κ w8 g (A ++ (isort (L1 ++ Y) ++ (X ++ (R2 ++ B))))) := h8.1
              have HG2 : Hid (w.grownBy w8 (some g)) := grown_seq HG1.out h8.2 (.inl rfl)
              have Hgw2 : Hid (g < w8.heap.size) := Nat.lt_of_lt_of_le Hgl.out HG2.out.size
              clear h8 HC HRow1 HG1 Hgw1
              by_cases hc1 : M < en
              · have hc1I : (M : Int) < (en : Int) := by omega
                by_cases hc2 : en < b
                · have hc2I : (en : Int) < (b : Int) := by omega
                  have HC : Hid (Calls Try.prog 116 #[.slice (some ⟨g, 0, none⟩) N c, .int .i64 M, .int .i64 en, .int .i64 b, .func (.func 80) #[] #[.pointer (some ⟨κ.bx, 0, none⟩)]] w8 (SymP κ g ((A ++ isort (L1 ++ Y)) ++ (isort (X ++ R2) ++ B)) w8)) :=
                    HIH.out (A := A ++ isort (L1 ++ Y)) HK2.out.2 (fun e => by subst e; have := HMX.out; simp at this; omega) (fun e => by subst e; have := HRl.out; simp at this; omega) (by have h := HRow2.out; simpa using h) Hgw2.out (by rw [List.length_append, isort_length, List.length_append, HA.out]; have := HL1.out; have := HYl.out; omega) HMX.out HRl.out (by simp only [List.length_append, isort_length]; have := HLen.out; omega) hc hNb HSL.out.2 HSR.out.2
                  go_wp2_with fail
                  go_fit HC.out
                  rintro e w9 ⟨rfl, h9⟩
                  have H9 := Lib.hid h9
                  clear h9 HC
                  have HF : Hid (PRow κ w9 g (A ++ (isort (L ++ R) ++ B)) ∧ w.grownBy w9 (some g)) := by
                    show _ ∧ _
                    rw [← HCut.out]
                    exact ⟨by have h := H9.out.1; simpa using h, grown_seq HG2.out H9.out.2 (.inl rfl)⟩
                  go_wp2_with fail
                  go_end0
                  exact ⟨rfl, HF.out.1, HF.out.2⟩
                · have hc2I : ¬ (en : Int) < (b : Int) := by omega
                  have hiso := isort_sorted (sorted_one HSL.out.2 HSR.out.2 (.inr (List.eq_nil_of_length_eq_zero (by have := HRl.out; omega))))
                  have HF : Hid (PRow κ w8 g (A ++ (isort (L ++ R) ++ B)) ∧ w.grownBy w8 (some g)) := by
                    show _ ∧ _
                    rw [← HCut.out]
                    exact ⟨by have h := HRow2.out; rw [hiso]; simpa using h, HG2.out⟩
                  go_wp2_with fail
                  go_end0
                  exact ⟨rfl, HF.out.1, HF.out.2⟩
              · have hc1I : ¬ (M : Int) < (en : Int) := by omega
                have hiso := isort_sorted (sorted_one HSL.out.2 HSR.out.2 (.inl (List.eq_nil_of_length_eq_zero (by have := HMX.out; omega))))
                have HF : Hid (PRow κ w8 g (A ++ (isort (L ++ R) ++ B)) ∧ w.grownBy w8 (some g)) := by
                  show _ ∧ _
                  rw [← HCut.out]
                  exact ⟨by have h := HRow2.out; rw [hiso]; simpa using h, HG2.out⟩
                go_wp2_with fail
                go_end0
                exact ⟨rfl, HF.out.1, HF.out.2⟩
            · have hb2I : ¬ (r : Int) < (M : Int) := by omega
              have hiso := isort_sorted (sorted_one HSL.out.1 HSR.out.1 (.inr (List.eq_nil_of_length_eq_zero (by have := HYl.out; omega))))
              have HRow2 : Hid (PRow κ wr g (A ++ (isort (L1 ++ Y) ++ (X ++ (R2 ++ B))))) := by show PRow κ _ _ _; rw [hiso]; have h := HRow1.out; simpa using h
              have HG2 : Hid (w.grownBy wr (some g)) := HG1
              have Hgw2 : Hid (g < wr.heap.size) := Hgw1
              clear hiso HRow1 HG1 Hgw1
              by_cases hc1 : M < en
              · have hc1I : (M : Int) < (en : Int) := by omega
                by_cases hc2 : en < b
                · have hc2I : (en : Int) < (b : Int) := by omega
                  have HC : Hid (Calls Try.prog 116 #[.slice (some ⟨g, 0, none⟩) N c, .int .i64 M, .int .i64 en, .int .i64 b, .func (.func 80) #[] #[.pointer (some ⟨κ.bx, 0, none⟩)]] wr (SymP κ g ((A ++ isort (L1 ++ Y)) ++ (isort (X ++ R2) ++ B)) wr)) :=
                    HIH.out (A := A ++ isort (L1 ++ Y)) HK2.out.2 (fun e => by subst e; have := HMX.out; simp at this; omega) (fun e => by subst e; have := HRl.out; simp at this; omega) (by have h := HRow2.out; simpa using h) Hgw2.out (by rw [List.length_append, isort_length, List.length_append, HA.out]; have := HL1.out; have := HYl.out; omega) HMX.out HRl.out (by simp only [List.length_append, isort_length]; have := HLen.out; omega) hc hNb HSL.out.2 HSR.out.2
                  go_wp2_with fail
                  go_fit HC.out
                  rintro e w9 ⟨rfl, h9⟩
                  have H9 := Lib.hid h9
                  clear h9 HC
                  have HF : Hid (PRow κ w9 g (A ++ (isort (L ++ R) ++ B)) ∧ w.grownBy w9 (some g)) := by
                    show _ ∧ _
                    rw [← HCut.out]
                    exact ⟨by have h := H9.out.1; simpa using h, grown_seq HG2.out H9.out.2 (.inl rfl)⟩
                  go_wp2_with fail
                  go_end0
                  exact ⟨rfl, HF.out.1, HF.out.2⟩
                · have hc2I : ¬ (en : Int) < (b : Int) := by omega
                  have hiso := isort_sorted (sorted_one HSL.out.2 HSR.out.2 (.inr (List.eq_nil_of_length_eq_zero (by have := HRl.out; omega))))
                  have HF : Hid (PRow κ wr g (A ++ (isort (L ++ R) ++ B)) ∧ w.grownBy wr (some g)) := by
                    show _ ∧ _
                    rw [← HCut.out]
                    exact ⟨by have h := HRow2.out; rw [hiso]; simpa using h, HG2.out⟩
                  go_wp2_with fail
                  go_end0
                  exact ⟨rfl, HF.out.1, HF.out.2⟩
              · have hc1I : ¬ (M : Int) < (en : Int) := by omega
                have hiso := isort_sorted (sorted_one HSL.out.2 HSR.out.2 (.inl (List.eq_nil_of_length_eq_zero (by have := HMX.out; omega))))
                have HF : Hid (PRow κ wr g (A ++ (isort (L ++ R) ++ B)) ∧ w.grownBy wr (some g)) := by
                  show _ ∧ _
                  rw [← HCut.out]
                  exact ⟨by have h := HRow2.out; rw [hiso]; simpa using h, HG2.out⟩
                go_wp2_with fail
                go_end0
                exact ⟨rfl, HF.out.1, HF.out.2⟩
          · have hb1I : ¬ (a : Int) < (r : Int) := by omega
            have hiso := isort_sorted (sorted_one HSL.out.1 HSR.out.1 (.inl (List.eq_nil_of_length_eq_zero (by have := HL1.out; omega))))
            have HRow2 : Hid (PRow κ wr g (A ++ (isort (L1 ++ Y) ++ (X ++ (R2 ++ B))))) := by show PRow κ _ _ _; rw [hiso]; have h := HRow1.out; simpa using h
            have HG2 : Hid (w.grownBy wr (some g)) := HG1
            have Hgw2 : Hid (g < wr.heap.size) := Hgw1
            clear hiso HRow1 HG1 Hgw1
            by_cases hc1 : M < en
            · have hc1I : (M : Int) < (en : Int) := by omega
              by_cases hc2 : en < b
              · have hc2I : (en : Int) < (b : Int) := by omega
                have HC : Hid (Calls Try.prog 116 #[.slice (some ⟨g, 0, none⟩) N c, .int .i64 M, .int .i64 en, .int .i64 b, .func (.func 80) #[] #[.pointer (some ⟨κ.bx, 0, none⟩)]] wr (SymP κ g ((A ++ isort (L1 ++ Y)) ++ (isort (X ++ R2) ++ B)) wr)) :=
                  HIH.out (A := A ++ isort (L1 ++ Y)) HK2.out.2 (fun e => by subst e; have := HMX.out; simp at this; omega) (fun e => by subst e; have := HRl.out; simp at this; omega) (by have h := HRow2.out; simpa using h) Hgw2.out (by rw [List.length_append, isort_length, List.length_append, HA.out]; have := HL1.out; have := HYl.out; omega) HMX.out HRl.out (by simp only [List.length_append, isort_length]; have := HLen.out; omega) hc hNb HSL.out.2 HSR.out.2
                go_wp2_with fail
                go_fit HC.out
                rintro e w9 ⟨rfl, h9⟩
                have H9 := Lib.hid h9
                clear h9 HC
                have HF : Hid (PRow κ w9 g (A ++ (isort (L ++ R) ++ B)) ∧ w.grownBy w9 (some g)) := by
                  show _ ∧ _
                  rw [← HCut.out]
                  exact ⟨by have h := H9.out.1; simpa using h, grown_seq HG2.out H9.out.2 (.inl rfl)⟩
                go_wp2_with fail
                go_end0
                exact ⟨rfl, HF.out.1, HF.out.2⟩
              · have hc2I : ¬ (en : Int) < (b : Int) := by omega
                have hiso := isort_sorted (sorted_one HSL.out.2 HSR.out.2 (.inr (List.eq_nil_of_length_eq_zero (by have := HRl.out; omega))))
                have HF : Hid (PRow κ wr g (A ++ (isort (L ++ R) ++ B)) ∧ w.grownBy wr (some g)) := by
                  show _ ∧ _
                  rw [← HCut.out]
                  exact ⟨by have h := HRow2.out; rw [hiso]; simpa using h, HG2.out⟩
                go_wp2_with fail
                go_end0
                exact ⟨rfl, HF.out.1, HF.out.2⟩
            · have hc1I : ¬ (M : Int) < (en : Int) := by omega
              have hiso := isort_sorted (sorted_one HSL.out.2 HSR.out.2 (.inl (List.eq_nil_of_length_eq_zero (by have := HMX.out; omega))))
              have HF : Hid (PRow κ wr g (A ++ (isort (L ++ R) ++ B)) ∧ w.grownBy wr (some g)) := by
                show _ ∧ _
                rw [← HCut.out]
                exact ⟨by have h := HRow2.out; rw [hiso]; simpa using h, HG2.out⟩
              go_wp2_with fail
              go_end0
              exact ⟨rfl, HF.out.1, HF.out.2⟩
  · have hgI : ¬ (M : Int) < (m : Int) := by omega
    have HLo : Hid (∀ s, s = a → s = a ∨ M + m = b + s) := fun s h => .inl (by omega)
    have HHi : Hid (∀ s, s = m → s = m ∨ M + m = m + s) := fun s h => .inl (by omega)
    have hb1 : a ≤ a ∧ a ≤ m ∧ m ≤ m ∧ m ≤ M ∧ M + m ≤ b + a := by omega
    obtain ⟨hb1, hb2, hb3, hb4, hb5⟩ := hb1
    clear hgt
    go_enter Try.func116, Try.ntmps116
    go_wp2_with fail
    clear e1 e2 hMI hgI ep
    go_loopw [20, 21] (fun u v wr => ∃ (s r : Nat), u = .int .i64 s ∧ v = .int .i64 r ∧ a ≤ s ∧ s ≤ r ∧ r ≤ m ∧ Hid (s = a ∨ ∀ x y, D[s - 1]? = some x → D[M + m - s]? = some y → plt y.1 x.1 = false) ∧ Hid (r = m ∨ ∀ x y, D[r]? = some x → D[M + m - 1 - r]? = some y → plt y.1 x.1 = true) ∧ Hid (PRow κ wr g D) ∧ Hid (w.grownBy wr (some g)))
      (fun u v _ => (intOf v).toNat - (intOf u).toNat)
    case atStart => exact ⟨a, m, rfl, rfl, Nat.le_refl _, hb2, Nat.le_refl _, .inl rfl, .inl rfl, HR, grown_refl _ _⟩
    case round =>
      obtain ⟨s, r, rfl, rfl, hs1, hs2, hs3, hlo, hhi, hrow, hgr⟩ := hrel
      by_cases hlt : s < r
      · obtain ⟨hh1, hh2⟩ := half_in hlt
        have hH := half_int s r
        generalize (s + r) / 2 = H at *
        obtain ⟨Q, hQ⟩ : ∃ Q, Q = M + m - 1 - H := ⟨_, rfl⟩
        have hQb : Q < N ∧ H < N := by omega
        have eQ : (p0 : Int) - (H : Int) = (Q : Int) := by have := HP0.out; omega
        have HQ := Lib.hid hQ
        have eQw : IntKind.i64.wrap (Q : Int) = (Q : Int) := IntWalk.i64_in _ (by omega)
        obtain ⟨x, hx⟩ : ∃ x, D[H]? = some x := ⟨D[H]'(by rw [HN2.out]; omega), List.getElem?_eq_getElem _⟩
        obtain ⟨y, hy⟩ : ∃ y, D[Q]? = some y := ⟨D[Q]'(by rw [HN2.out]; omega), List.getElem?_eq_getElem _⟩
        obtain ⟨x0, x1⟩ := hrow.out.at1 hx
        obtain ⟨y0, y1⟩ := hrow.out.at1 hy
        have hI : (s : Int) < (r : Int) := by omega
        have hH0 : (0 : Int) ≤ (H : Int) := by omega
        have hH1 : (H : Int) < (N : Int) := by omega
        have hQ0 : (0 : Int) ≤ (Q : Int) := by omega
        have hQ1 : (Q : Int) < (N : Int) := by omega
        have eH : IntKind.i64.wrap ((H : Int) + 1) = (H : Int) + 1 := IntWalk.i64_in _ (by omega)
        have HX := Lib.hid hx
        have HY := Lib.hid hy
        clear hx hy hQ hQb
        go_wp2_with fail
        have HENV : Hid (κ.ok wr g) := Lib.hid (by first | exact Hrw.out.env | exact hrow.out.env | exact hrw.out.env)
        go_region_held3 (fun V => V.cell? ⟨g, Q, none⟩ = some (.int .i64 y.2) ∧ V.cell? ⟨g, H, none⟩ = some (.int .i64 x.2)) (go_keep)
          (first
            | (go_at_call 80; (with_reducible refine (cmp_any HENV.out.drew y1 x1).mono ?_); rintro e w2 ⟨rfl, hb2⟩; have hbd : Below wr.heap.size wr w2 := (below_drew1 wr).trans hb2; have z0 := cell_later hbd y0; have z2 := cell_later hbd x0; have HB2 := Lib.hid hbd; clear hbd hb2))
        have Hrw := Lib.hid (hrow.out.later (World.block_lt_of_cell? wr _ y0) HB2.out)
        have Hgr := Lib.hid (grown_of_below hgr.out HB2.out)
        clear y0 x0 z0 z2 hrow hgr HB2
        cases hk : plt y.1 x.1 with
        | true =>
          have hcmp : cmpP y.1 x.1 < 0 := (compare_plt _ _).2 hk
          have hcmp2 : decide (cmpP y.1 x.1 < 0) = true := by simpa using hcmp
          have hcmp3 : (!decide (cmpP y.1 x.1 < 0)) = false := by rw [hcmp2]; rfl
          have HL : Hid (H = m ∨ ∀ x' y', D[H]? = some x' → D[M + m - 1 - H]? = some y' → plt y'.1 x'.1 = true) := .inr (fun x' y' hx' hy' => by rw [HX.out] at hx'; rw [← HQ.out, HY.out] at hy'; have ex : x = x' := (by simpa using hx'); have ey : y = y' := (by simpa using hy'); rw [← ex, ← ey]; exact hk)
          clear hk
          go_wp2_with fail
          all_goals first
            | exact ⟨⟨s, H, rfl, rfl, hs1, hh1, by omega, hlo, HL, Hrw, Hgr⟩, by show ((H : Int)).toNat - ((s : Int)).toNat < ((r : Int)).toNat - ((s : Int)).toNat; omega⟩
            | (rename_i hX; exact absurd hX (by rw [hcmp2]; decide))
        | false =>
          have hcmp : ¬ cmpP y.1 x.1 < 0 := fun e => by rw [compare_plt, hk] at e; cases e
          have hcmp2 : decide (cmpP y.1 x.1 < 0) = false := by simpa using hcmp
          have hcmp3 : (!decide (cmpP y.1 x.1 < 0)) = true := by rw [hcmp2]; rfl
          have HL : Hid (H + 1 = a ∨ ∀ x' y', D[H + 1 - 1]? = some x' → D[M + m - (H + 1)]? = some y' → plt y'.1 x'.1 = false) := .inr (fun x' y' hx' hy' => by rw [Nat.add_sub_cancel, HX.out] at hx'; rw [show M + m - (H + 1) = Q by have := HQ.out; omega, HY.out] at hy'; have ex : x = x' := (by simpa using hx'); have ey : y = y' := (by simpa using hy'); rw [← ex, ← ey]; exact hk)
          clear hk
          go_wp2_with fail
          all_goals first
            | exact ⟨⟨H + 1, r, by simp, rfl, by omega, by omega, hs3, HL, hhi, Hrw, Hgr⟩, by show ((r : Int)).toNat - ((H : Int) + 1).toNat < ((r : Int)).toNat - ((s : Int)).toNat; omega⟩
            | (rename_i hX; exact absurd hX (by rw [hcmp2]; decide))
      · obtain rfl : r = s := by omega
        obtain ⟨L1, X, Y, R2, hLX, hRY, hl1, hy1, hXY, hLR⟩ := sym_cut (A := A) (B := B) (n := M + m) (s := r) HA.out Hm.out Hb.out (by omega) (by omega) (by omega) (by omega)
          (by
            rcases hlo.out with h | h
            · exact (HLo.out r h).imp id .inl
            · rw [HD.out] at h; exact .inr (.inr h))
          (by
            rcases hhi.out with h | h
            · exact (HHi.out r h).imp id .inl
            · rw [HD.out] at h; exact .inr (.inr h)) HLs.out HRs.out
        obtain ⟨en, hen⟩ : ∃ en, en = M + m - r := ⟨_, rfl⟩
        have ee : (M : Int) + (m : Int) - (r : Int) = (en : Int) := by omega
        have eew : IntKind.i64.wrap (en : Int) = (en : Int) := IntWalk.i64_in _ (by omega)
        have hXl : r + X.length = m := by have h := Hm.out; rw [hLX, List.length_append] at h; omega
        have hYl : r + Y.length = M := by omega
        have hRl : en + R2.length = b := by have h := Hb.out; rw [hRY, List.length_append] at h; omega
        have hMX : M + X.length = en := by omega
        have hmY : m + Y.length = en := by omega
        have hsL : SortedW L1 ∧ SortedW X := by have h := HLs.out; rw [hLX] at h; exact ⟨(sortedW_app.1 h).1, (sortedW_app.1 h).2.1⟩
        have hsR : SortedW Y ∧ SortedW R2 := by have h := HRs.out; rw [hRY] at h; exact ⟨(sortedW_app.1 h).1, (sortedW_app.1 h).2.1⟩
        have HSL := Lib.hid hsL
        have HSR := Lib.hid hsR
        have HCut : Hid (isort (L1 ++ Y) ++ isort (X ++ R2) = isort (L ++ R)) := by
          show _ = _
          have h1 := HLs.out
          have h2 := HRs.out
          rw [hLX] at h1 ⊢
          rw [hRY] at h2 ⊢
          exact isort_cut h1 h2 hXY hLR
        have hlen : A.length + (L1.length + (X.length + (Y.length + (R2.length + B.length)))) = N := by
          have h := HN2.out
          rw [HD.out, hLX, hRY] at h
          simp only [List.length_append] at h
          omega
        have HLen := Lib.hid hlen
        have HRow : Hid (PRow κ wr g (A ++ (L1 ++ (X ++ (Y ++ (R2 ++ B)))))) := by
          show PRow κ _ _ _
          have h := hrow.out
          rw [HD.out, hLX, hRY] at h
          simpa using h
        have HL1 := Lib.hid hl1
        have HXl := Lib.hid hXl
        have HYl := Lib.hid hYl
        have HRl := Lib.hid hRl
        have HMX := Lib.hid hMX
        have HmY := Lib.hid hmY
        have HK2 : Hid (L1.length + Y.length ≤ k ∧ X.length + R2.length ≤ k) := by
          show _ ∧ _
          have h := HK.out
          rw [hLX, hRY] at h
          simp only [List.length_append] at h
          have h3 := Hm.out
          have h4 := Hb.out
          omega
        have Hgw := Lib.hid (Nat.lt_of_lt_of_le Hgl.out hgr.out.size)
        clear hlo hhi hLX hRY hl1 hy1 hXY hLR hXl hYl hRl hMX hmY hsL hsR hlen hrow hen hlt HLo HHi
        by_cases ha1 : r < m
        · have ha1I : (r : Int) < (m : Int) := by omega
          by_cases ha2 : m < en
          · have ha2I : (m : Int) < (en : Int) := by omega
            have HC : Hid (Calls Try.prog 124 #[.slice (some ⟨g, 0, none⟩) N c, .int .i64 r, .int .i64 m, .int .i64 en, .func (.func 80) #[] #[.pointer (some ⟨κ.bx, 0, none⟩)]] wr fun e w' => e = .returned (.tuple #[]) ∧ Sorts κ g ((A ++ L1) ++ (Y ++ (X ++ (R2 ++ B)))) wr w') :=
              rotate_any (A := A ++ L1) (B := R2 ++ B) (by have h := HRow.out; simpa using h) (by rw [List.length_append, HA.out]; exact HL1.out) HXl.out HmY.out (fun e => by subst e; have := HXl.out; simp at this; omega) (fun e => by subst e; have := HmY.out; simp at this; omega) (by simp only [List.length_append]; have := HLen.out; omega) hc hNb
            go_wp2_with fail
            go_fit HC.out
            rintro e w7 ⟨rfl, h7⟩
            have HRow1 : Hid (PRow κ w7 g (A ++ (L1 ++ (Y ++ (X ++ (R2 ++ B)))))) := by show PRow κ _ _ _; have h := h7.1; simpa using h
            have HG1 : Hid (w.grownBy w7 (some g)) := grown_seq hgr.out h7.2 (.inl rfl)
            have Hgw1 : Hid (g < w7.heap.size) := Nat.lt_of_lt_of_le Hgl.out HG1.out.size
            clear h7 HC HRow Hgw
            by_cases hb1 : a < r
            · have hb1I : (a : Int) < (r : Int) := by omega
              by_cases hb2 : r < M
              · have hb2I : (r : Int) < (M : Int) := by omega
                have HC : Hid (Calls Try.prog 116 #[.slice (some ⟨g, 0, none⟩) N c, .int .i64 a, .int .i64 r, .int .i64 M, .func (.func 80) #[] #[.pointer (some ⟨κ.bx, 0, none⟩)]] w7 (SymP κ g (A ++ (isort (L1 ++ Y) ++ (X ++ (R2 ++ B)))) w7)) :=
                  HIH.out HK2.out.1 (fun e => by subst e; have := HL1.out; simp at this; omega) (fun e => by subst e; have := HYl.out; simp at this; omega) HRow1.out Hgw1.out HA.out HL1.out HYl.out (by simp only [List.length_append]; have := HLen.out; omega) hc hNb HSL.out.1 HSR.out.1
                go_wp2_with fail
                go_fit HC.out
                rintro e w8 ⟨rfl, h8⟩
                have HRow2 : Hid (PRow κ w8 g (A ++ (isort (L1 ++ Y) ++ (X ++ (R2 ++ B))))) := h8.1
                have HG2 : Hid (w.grownBy w8 (some g)) := grown_seq HG1.out h8.2 (.inl rfl)
                have Hgw2 : Hid (g < w8.heap.size) := Nat.lt_of_lt_of_le Hgl.out HG2.out.size
                clear h8 HC HRow1 HG1 Hgw1
                by_cases hc1 : M < en
                · have hc1I : (M : Int) < (en : Int) := by omega
                  by_cases hc2 : en < b
                  · have hc2I : (en : Int) < (b : Int) := by omega
                    have HC : Hid (Calls Try.prog 116 #[.slice (some ⟨g, 0, none⟩) N c, .int .i64 M, .int .i64 en, .int .i64 b, .func (.func 80) #[] #[.pointer (some ⟨κ.bx, 0, none⟩)]] w8 (SymP κ g ((A ++ isort (L1 ++ Y)) ++ (isort (X ++ R2) ++ B)) w8)) :=
                      HIH.out (A := A ++ isort (L1 ++ Y)) HK2.out.2 (fun e => by subst e; have := HMX.out; simp at this; omega) (fun e => by subst e; have := HRl.out; simp at this; omega) (by have h := HRow2.out; simpa using h) Hgw2.out (by rw [List.length_append, isort_length, List.length_append, HA.out]; have := HL1.out; have := HYl.out; omega) HMX.out HRl.out (by simp only [List.length_append, isort_length]; have := HLen.out; omega) hc hNb HSL.out.2 HSR.out.2
                    go_wp2_with fail
                    go_fit HC.out
                    rintro e w9 ⟨rfl, h9⟩
                    have H9 := Lib.hid h9
                    clear h9 HC
                    have HF : Hid (PRow κ w9 g (A ++ (isort (L ++ R) ++ B)) ∧ w.grownBy w9 (some g)) := by
                      show _ ∧ _
                      rw [← HCut.out]
                      exact ⟨by have h := H9.out.1; simpa using h, grown_seq HG2.out H9.out.2 (.inl rfl)⟩
                    go_wp2_with fail
                    go_end0
                    exact ⟨rfl, HF.out.1, HF.out.2⟩
                  · have hc2I : ¬ (en : Int) < (b : Int) := by omega
                    have hiso := isort_sorted (sorted_one HSL.out.2 HSR.out.2 (.inr (List.eq_nil_of_length_eq_zero (by have := HRl.out; omega))))
                    have HF : Hid (PRow κ w8 g (A ++ (isort (L ++ R) ++ B)) ∧ w.grownBy w8 (some g)) := by
                      show _ ∧ _
                      rw [← HCut.out]
                      exact ⟨by have h := HRow2.out; rw [hiso]; simpa using h, HG2.out⟩
                    go_wp2_with fail
                    go_end0
                    exact ⟨rfl, HF.out.1, HF.out.2⟩
                · have hc1I : ¬ (M : Int) < (en : Int) := by omega
                  have hiso := isort_sorted (sorted_one HSL.out.2 HSR.out.2 (.inl (List.eq_nil_of_length_eq_zero (by have := HMX.out; omega))))
                  have HF : Hid (PRow κ w8 g (A ++ (isort (L ++ R) ++ B)) ∧ w.grownBy w8 (some g)) := by
                    show _ ∧ _
                    rw [← HCut.out]
                    exact ⟨by have h := HRow2.out; rw [hiso]; simpa using h, HG2.out⟩
                  go_wp2_with fail
                  go_end0
                  exact ⟨rfl, HF.out.1, HF.out.2⟩
              · have hb2I : ¬ (r : Int) < (M : Int) := by omega
                have hiso := isort_sorted (sorted_one HSL.out.1 HSR.out.1 (.inr (List.eq_nil_of_length_eq_zero (by have := HYl.out; omega))))
                have HRow2 : Hid (PRow κ w7 g (A ++ (isort (L1 ++ Y) ++ (X ++ (R2 ++ B))))) := by show PRow κ _ _ _; rw [hiso]; have h := HRow1.out; simpa using h
                have HG2 : Hid (w.grownBy w7 (some g)) := HG1
                have Hgw2 : Hid (g < w7.heap.size) := Hgw1
                clear hiso HRow1 HG1 Hgw1
                by_cases hc1 : M < en
                · have hc1I : (M : Int) < (en : Int) := by omega
                  by_cases hc2 : en < b
                  · have hc2I : (en : Int) < (b : Int) := by omega
                    have HC : Hid (Calls Try.prog 116 #[.slice (some ⟨g, 0, none⟩) N c, .int .i64 M, .int .i64 en, .int .i64 b, .func (.func 80) #[] #[.pointer (some ⟨κ.bx, 0, none⟩)]] w7 (SymP κ g ((A ++ isort (L1 ++ Y)) ++ (isort (X ++ R2) ++ B)) w7)) :=
                      HIH.out (A := A ++ isort (L1 ++ Y)) HK2.out.2 (fun e => by subst e; have := HMX.out; simp at this; omega) (fun e => by subst e; have := HRl.out; simp at this; omega) (by have h := HRow2.out; simpa using h) Hgw2.out (by rw [List.length_append, isort_length, List.length_append, HA.out]; have := HL1.out; have := HYl.out; omega) HMX.out HRl.out (by simp only [List.length_append, isort_length]; have := HLen.out; omega) hc hNb HSL.out.2 HSR.out.2
                    go_wp2_with fail
                    go_fit HC.out
                    rintro e w9 ⟨rfl, h9⟩
                    have H9 := Lib.hid h9
                    clear h9 HC
                    have HF : Hid (PRow κ w9 g (A ++ (isort (L ++ R) ++ B)) ∧ w.grownBy w9 (some g)) := by
                      show _ ∧ _
                      rw [← HCut.out]
                      exact ⟨by have h := H9.out.1; simpa using h, grown_seq HG2.out H9.out.2 (.inl rfl)⟩
                    go_wp2_with fail
                    go_end0
                    exact ⟨rfl, HF.out.1, HF.out.2⟩
                  · have hc2I : ¬ (en : Int) < (b : Int) := by omega
                    have hiso := isort_sorted (sorted_one HSL.out.2 HSR.out.2 (.inr (List.eq_nil_of_length_eq_zero (by have := HRl.out; omega))))
                    have HF : Hid (PRow κ w7 g (A ++ (isort (L ++ R) ++ B)) ∧ w.grownBy w7 (some g)) := by
                      show _ ∧ _
                      rw [← HCut.out]
                      exact ⟨by have h := HRow2.out; rw [hiso]; simpa using h, HG2.out⟩
                    go_wp2_with fail
                    go_end0
                    exact ⟨rfl, HF.out.1, HF.out.2⟩
                · have hc1I : ¬ (M : Int) < (en : Int) := by omega
                  have hiso := isort_sorted (sorted_one HSL.out.2 HSR.out.2 (.inl (List.eq_nil_of_length_eq_zero (by have := HMX.out; omega))))
                  have HF : Hid (PRow κ w7 g (A ++ (isort (L ++ R) ++ B)) ∧ w.grownBy w7 (some g)) := by
                    show _ ∧ _
                    rw [← HCut.out]
                    exact ⟨by have h := HRow2.out; rw [hiso]; simpa using h, HG2.out⟩
                  go_wp2_with fail
                  go_end0
                  exact ⟨rfl, HF.out.1, HF.out.2⟩
            · have hb1I : ¬ (a : Int) < (r : Int) := by omega
              have hiso := isort_sorted (sorted_one HSL.out.1 HSR.out.1 (.inl (List.eq_nil_of_length_eq_zero (by have := HL1.out; omega))))
              have HRow2 : Hid (PRow κ w7 g (A ++ (isort (L1 ++ Y) ++ (X ++ (R2 ++ B))))) := by show PRow κ _ _ _; rw [hiso]; have h := HRow1.out; simpa using h
              have HG2 : Hid (w.grownBy w7 (some g)) := HG1
              have Hgw2 : Hid (g < w7.heap.size) := Hgw1
              clear hiso HRow1 HG1 Hgw1
              by_cases hc1 : M < en
              · have hc1I : (M : Int) < (en : Int) := by omega
                by_cases hc2 : en < b
                · have hc2I : (en : Int) < (b : Int) := by omega
                  have HC : Hid (Calls Try.prog 116 #[.slice (some ⟨g, 0, none⟩) N c, .int .i64 M, .int .i64 en, .int .i64 b, .func (.func 80) #[] #[.pointer (some ⟨κ.bx, 0, none⟩)]] w7 (SymP κ g ((A ++ isort (L1 ++ Y)) ++ (isort (X ++ R2) ++ B)) w7)) :=
                    HIH.out (A := A ++ isort (L1 ++ Y)) HK2.out.2 (fun e => by subst e; have := HMX.out; simp at this; omega) (fun e => by subst e; have := HRl.out; simp at this; omega) (by have h := HRow2.out; simpa using h) Hgw2.out (by rw [List.length_append, isort_length, List.length_append, HA.out]; have := HL1.out; have := HYl.out; omega) HMX.out HRl.out (by simp only [List.length_append, isort_length]; have := HLen.out; omega) hc hNb HSL.out.2 HSR.out.2
                  go_wp2_with fail
                  go_fit HC.out
                  rintro e w9 ⟨rfl, h9⟩
                  have H9 := Lib.hid h9
                  clear h9 HC
                  have HF : Hid (PRow κ w9 g (A ++ (isort (L ++ R) ++ B)) ∧ w.grownBy w9 (some g)) := by
                    show _ ∧ _
                    rw [← HCut.out]
                    exact ⟨by have h := H9.out.1; simpa using h, grown_seq HG2.out H9.out.2 (.inl rfl)⟩
                  go_wp2_with fail
                  go_end0
                  exact ⟨rfl, HF.out.1, HF.out.2⟩
                · have hc2I : ¬ (en : Int) < (b : Int) := by omega
                  have hiso := isort_sorted (sorted_one HSL.out.2 HSR.out.2 (.inr (List.eq_nil_of_length_eq_zero (by have := HRl.out; omega))))
                  have HF : Hid (PRow κ w7 g (A ++ (isort (L ++ R) ++ B)) ∧ w.grownBy w7 (some g)) := by
                    show _ ∧ _
                    rw [← HCut.out]
                    exact ⟨by have h := HRow2.out; rw [hiso]; simpa using h, HG2.out⟩
                  go_wp2_with fail
                  go_end0
                  exact ⟨rfl, HF.out.1, HF.out.2⟩
              · have hc1I : ¬ (M : Int) < (en : Int) := by omega
                have hiso := isort_sorted (sorted_one HSL.out.2 HSR.out.2 (.inl (List.eq_nil_of_length_eq_zero (by have := HMX.out; omega))))
                have HF : Hid (PRow κ w7 g (A ++ (isort (L ++ R) ++ B)) ∧ w.grownBy w7 (some g)) := by
                  show _ ∧ _
                  rw [← HCut.out]
                  exact ⟨by have h := HRow2.out; rw [hiso]; simpa using h, HG2.out⟩
                go_wp2_with fail
                go_end0
                exact ⟨rfl, HF.out.1, HF.out.2⟩
          · have ha2I : ¬ (m : Int) < (en : Int) := by omega
            have hy0 : Y = [] := List.eq_nil_of_length_eq_zero (by have := HmY.out; omega)
            have HRow1 : Hid (PRow κ wr g (A ++ (L1 ++ (Y ++ (X ++ (R2 ++ B)))))) := by show PRow κ _ _ _; have h := HRow.out; rw [hy0] at h ⊢; simpa using h
            have HG1 : Hid (w.grownBy wr (some g)) := hgr
            have Hgw1 : Hid (g < wr.heap.size) := Hgw
            clear hy0 HRow Hgw
            by_cases hb1 : a < r
            · have hb1I : (a : Int) < (r : Int) := by omega
              by_cases hb2 : r < M
              · have hb2I : (r : Int) < (M : Int) := by omega
                have HC : Hid (Calls Try.prog 116 #[.slice (some ⟨g, 0, none⟩) N c, .int .i64 a, .int .i64 r, .int .i64 M, .func (.func 80) #[] #[.pointer (some ⟨κ.bx, 0, none⟩)]] wr (SymP κ g (A ++ (isort (L1 ++ Y) ++ (X ++ (R2 ++ B)))) wr)) :=
                  HIH.out HK2.out.1 (fun e => by subst e; have := HL1.out; simp at this; omega) (fun e => by subst e; have := HYl.out; simp at this; omega) HRow1.out Hgw1.out HA.out HL1.out HYl.out (by simp only [List.length_append]; have := HLen.out; omega) hc hNb HSL.out.1 HSR.out.1
                go_wp2_with fail
                go_fit HC.out
                rintro e w8 ⟨rfl, h8⟩
                have HRow2 : Hid (PRow κ w8 g (A ++ (isort (L1 ++ Y) ++ (X ++ (R2 ++ B))))) := h8.1
                have HG2 : Hid (w.grownBy w8 (some g)) := grown_seq HG1.out h8.2 (.inl rfl)
                have Hgw2 : Hid (g < w8.heap.size) := Nat.lt_of_lt_of_le Hgl.out HG2.out.size
                clear h8 HC HRow1 HG1 Hgw1
                by_cases hc1 : M < en
                · have hc1I : (M : Int) < (en : Int) := by omega
                  by_cases hc2 : en < b
                  · have hc2I : (en : Int) < (b : Int) := by omega
                    have HC : Hid (Calls Try.prog 116 #[.slice (some ⟨g, 0, none⟩) N c, .int .i64 M, .int .i64 en, .int .i64 b, .func (.func 80) #[] #[.pointer (some ⟨κ.bx, 0, none⟩)]] w8 (SymP κ g ((A ++ isort (L1 ++ Y)) ++ (isort (X ++ R2) ++ B)) w8)) :=
                      HIH.out (A := A ++ isort (L1 ++ Y)) HK2.out.2 (fun e => by subst e; have := HMX.out; simp at this; omega) (fun e => by subst e; have := HRl.out; simp at this; omega) (by have h := HRow2.out; simpa using h) Hgw2.out (by rw [List.length_append, isort_length, List.length_append, HA.out]; have := HL1.out; have := HYl.out; omega) HMX.out HRl.out (by simp only [List.length_append, isort_length]; have := HLen.out; omega) hc hNb HSL.out.2 HSR.out.2
                    go_wp2_with fail
                    go_fit HC.out
                    rintro e w9 ⟨rfl, h9⟩
                    have H9 := Lib.hid h9
                    clear h9 HC
                    have HF : Hid (PRow κ w9 g (A ++ (isort (L ++ R) ++ B)) ∧ w.grownBy w9 (some g)) := by
                      show _ ∧ _
                      rw [← HCut.out]
                      exact ⟨by have h := H9.out.1; simpa using h, grown_seq HG2.out H9.out.2 (.inl rfl)⟩
                    go_wp2_with fail
                    go_end0
                    exact ⟨rfl, HF.out.1, HF.out.2⟩
                  · have hc2I : ¬ (en : Int) < (b : Int) := by omega
                    have hiso := isort_sorted (sorted_one HSL.out.2 HSR.out.2 (.inr (List.eq_nil_of_length_eq_zero (by have := HRl.out; omega))))
                    have HF : Hid (PRow κ w8 g (A ++ (isort (L ++ R) ++ B)) ∧ w.grownBy w8 (some g)) := by
                      show _ ∧ _
                      rw [← HCut.out]
                      exact ⟨by have h := HRow2.out; rw [hiso]; simpa using h, HG2.out⟩
                    go_wp2_with fail
                    go_end0
                    exact ⟨rfl, HF.out.1, HF.out.2⟩
                · have hc1I : ¬ (M : Int) < (en : Int) := by omega
                  have hiso := isort_sorted (sorted_one HSL.out.2 HSR.out.2 (.inl (List.eq_nil_of_length_eq_zero (by have := HMX.out; omega))))
                  have HF : Hid (PRow κ w8 g (A ++ (isort (L ++ R) ++ B)) ∧ w.grownBy w8 (some g)) := by
                    show _ ∧ _
                    rw [← HCut.out]
                    exact ⟨by have h := HRow2.out; rw [hiso]; simpa using h, HG2.out⟩
                  go_wp2_with fail
                  go_end0
                  exact ⟨rfl, HF.out.1, HF.out.2⟩
              · have hb2I : ¬ (r : Int) < (M : Int) := by omega
                have hiso := isort_sorted (sorted_one HSL.out.1 HSR.out.1 (.inr (List.eq_nil_of_length_eq_zero (by have := HYl.out; omega))))
                have HRow2 : Hid (PRow κ wr g (A ++ (isort (L1 ++ Y) ++ (X ++ (R2 ++ B))))) := by show PRow κ _ _ _; rw [hiso]; have h := HRow1.out; simpa using h
                have HG2 : Hid (w.grownBy wr (some g)) := HG1
                have Hgw2 : Hid (g < wr.heap.size) := Hgw1
                clear hiso HRow1 HG1 Hgw1
                by_cases hc1 : M < en
                · have hc1I : (M : Int) < (en : Int) := by omega
                  by_cases hc2 : en < b
                  · have hc2I : (en : Int) < (b : Int) := by omega
                    have HC : Hid (Calls Try.prog 116 #[.slice (some ⟨g, 0, none⟩) N c, .int .i64 M, .int .i64 en, .int .i64 b, .func (.func 80) #[] #[.pointer (some ⟨κ.bx, 0, none⟩)]] wr (SymP κ g ((A ++ isort (L1 ++ Y)) ++ (isort (X ++ R2) ++ B)) wr)) :=
                      HIH.out (A := A ++ isort (L1 ++ Y)) HK2.out.2 (fun e => by subst e; have := HMX.out; simp at this; omega) (fun e => by subst e; have := HRl.out; simp at this; omega) (by have h := HRow2.out; simpa using h) Hgw2.out (by rw [List.length_append, isort_length, List.length_append, HA.out]; have := HL1.out; have := HYl.out; omega) HMX.out HRl.out (by simp only [List.length_append, isort_length]; have := HLen.out; omega) hc hNb HSL.out.2 HSR.out.2
                    go_wp2_with fail
                    go_fit HC.out
                    rintro e w9 ⟨rfl, h9⟩
                    have H9 := Lib.hid h9
                    clear h9 HC
                    have HF : Hid (PRow κ w9 g (A ++ (isort (L ++ R) ++ B)) ∧ w.grownBy w9 (some g)) := by
                      show _ ∧ _
                      rw [← HCut.out]
                      exact ⟨by have h := H9.out.1; simpa using h, grown_seq HG2.out H9.out.2 (.inl rfl)⟩
                    go_wp2_with fail
                    go_end0
                    exact ⟨rfl, HF.out.1, HF.out.2⟩
                  · have hc2I : ¬ (en : Int) < (b : Int) := by omega
                    have hiso := isort_sorted (sorted_one HSL.out.2 HSR.out.2 (.inr (List.eq_nil_of_length_eq_zero (by have := HRl.out; omega))))
                    have HF : Hid (PRow κ wr g (A ++ (isort (L ++ R) ++ B)) ∧ w.grownBy wr (some g)) := by
                      show _ ∧ _
                      rw [← HCut.out]
                      exact ⟨by have h := HRow2.out; rw [hiso]; simpa using h, HG2.out⟩
                    go_wp2_with fail
                    go_end0
                    exact ⟨rfl, HF.out.1, HF.out.2⟩
                · have hc1I : ¬ (M : Int) < (en : Int) := by omega
                  have hiso := isort_sorted (sorted_one HSL.out.2 HSR.out.2 (.inl (List.eq_nil_of_length_eq_zero (by have := HMX.out; omega))))
                  have HF : Hid (PRow κ wr g (A ++ (isort (L ++ R) ++ B)) ∧ w.grownBy wr (some g)) := by
                    show _ ∧ _
                    rw [← HCut.out]
                    exact ⟨by have h := HRow2.out; rw [hiso]; simpa using h, HG2.out⟩
                  go_wp2_with fail
                  go_end0
                  exact ⟨rfl, HF.out.1, HF.out.2⟩
            · have hb1I : ¬ (a : Int) < (r : Int) := by omega
              have hiso := isort_sorted (sorted_one HSL.out.1 HSR.out.1 (.inl (List.eq_nil_of_length_eq_zero (by have := HL1.out; omega))))
              have HRow2 : Hid (PRow κ wr g (A ++ (isort (L1 ++ Y) ++ (X ++ (R2 ++ B))))) := by show PRow κ _ _ _; rw [hiso]; have h := HRow1.out; simpa using h
              have HG2 : Hid (w.grownBy wr (some g)) := HG1
              have Hgw2 : Hid (g < wr.heap.size) := Hgw1
              clear hiso HRow1 HG1 Hgw1
              by_cases hc1 : M < en
              · have hc1I : (M : Int) < (en : Int) := by omega
                by_cases hc2 : en < b
                · have hc2I : (en : Int) < (b : Int) := by omega
                  have HC : Hid (Calls Try.prog 116 #[.slice (some ⟨g, 0, none⟩) N c, .int .i64 M, .int .i64 en, .int .i64 b, .func (.func 80) #[] #[.pointer (some ⟨κ.bx, 0, none⟩)]] wr (SymP κ g ((A ++ isort (L1 ++ Y)) ++ (isort (X ++ R2) ++ B)) wr)) :=
                    HIH.out (A := A ++ isort (L1 ++ Y)) HK2.out.2 (fun e => by subst e; have := HMX.out; simp at this; omega) (fun e => by subst e; have := HRl.out; simp at this; omega) (by have h := HRow2.out; simpa using h) Hgw2.out (by rw [List.length_append, isort_length, List.length_append, HA.out]; have := HL1.out; have := HYl.out; omega) HMX.out HRl.out (by simp only [List.length_append, isort_length]; have := HLen.out; omega) hc hNb HSL.out.2 HSR.out.2
                  go_wp2_with fail
                  go_fit HC.out
                  rintro e w9 ⟨rfl, h9⟩
                  have H9 := Lib.hid h9
                  clear h9 HC
                  have HF : Hid (PRow κ w9 g (A ++ (isort (L ++ R) ++ B)) ∧ w.grownBy w9 (some g)) := by
                    show _ ∧ _
                    rw [← HCut.out]
                    exact ⟨by have h := H9.out.1; simpa using h, grown_seq HG2.out H9.out.2 (.inl rfl)⟩
                  go_wp2_with fail
                  go_end0
                  exact ⟨rfl, HF.out.1, HF.out.2⟩
                · have hc2I : ¬ (en : Int) < (b : Int) := by omega
                  have hiso := isort_sorted (sorted_one HSL.out.2 HSR.out.2 (.inr (List.eq_nil_of_length_eq_zero (by have := HRl.out; omega))))
                  have HF : Hid (PRow κ wr g (A ++ (isort (L ++ R) ++ B)) ∧ w.grownBy wr (some g)) := by
                    show _ ∧ _
                    rw [← HCut.out]
                    exact ⟨by have h := HRow2.out; rw [hiso]; simpa using h, HG2.out⟩
                  go_wp2_with fail
                  go_end0
                  exact ⟨rfl, HF.out.1, HF.out.2⟩
              · have hc1I : ¬ (M : Int) < (en : Int) := by omega
                have hiso := isort_sorted (sorted_one HSL.out.2 HSR.out.2 (.inl (List.eq_nil_of_length_eq_zero (by have := HMX.out; omega))))
                have HF : Hid (PRow κ wr g (A ++ (isort (L ++ R) ++ B)) ∧ w.grownBy wr (some g)) := by
                  show _ ∧ _
                  rw [← HCut.out]
                  exact ⟨by have h := HRow2.out; rw [hiso]; simpa using h, HG2.out⟩
                go_wp2_with fail
                go_end0
                exact ⟨rfl, HF.out.1, HF.out.2⟩
        · have ha1I : ¬ (r : Int) < (m : Int) := by omega
          have hy0 : X = [] := List.eq_nil_of_length_eq_zero (by have := HXl.out; omega)
          have HRow1 : Hid (PRow κ wr g (A ++ (L1 ++ (Y ++ (X ++ (R2 ++ B)))))) := by show PRow κ _ _ _; have h := HRow.out; rw [hy0] at h ⊢; simpa using h
          have HG1 : Hid (w.grownBy wr (some g)) := hgr
          have Hgw1 : Hid (g < wr.heap.size) := Hgw
          clear hy0 HRow Hgw
          by_cases hb1 : a < r
          · have hb1I : (a : Int) < (r : Int) := by omega
            by_cases hb2 : r < M
            · have hb2I : (r : Int) < (M : Int) := by omega
              have HC : Hid (Calls Try.prog 116 #[.slice (some ⟨g, 0, none⟩) N c, .int .i64 a, .int .i64 r, .int .i64 M, .func (.func 80) #[] #[.pointer (some ⟨κ.bx, 0, none⟩)]] wr (SymP κ g (A ++ (isort (L1 ++ Y) ++ (X ++ (R2 ++ B)))) wr)) :=
                HIH.out HK2.out.1 (fun e => by subst e; have := HL1.out; simp at this; omega) (fun e => by subst e; have := HYl.out; simp at this; omega) HRow1.out Hgw1.out HA.out HL1.out HYl.out (by simp only [List.length_append]; have := HLen.out; omega) hc hNb HSL.out.1 HSR.out.1
              go_wp2_with fail
              go_fit HC.out
              rintro e w8 ⟨rfl, h8⟩
              have HRow2 : Hid (PRow κ w8 g (A ++ (isort (L1 ++ Y) ++ (X ++ (R2 ++ B))))) := h8.1
              have HG2 : Hid (w.grownBy w8 (some g)) := grown_seq HG1.out h8.2 (.inl rfl)
              have Hgw2 : Hid (g < w8.heap.size) := Nat.lt_of_lt_of_le Hgl.out HG2.out.size
              clear h8 HC HRow1 HG1 Hgw1
              by_cases hc1 : M < en
              · have hc1I : (M : Int) < (en : Int) := by omega
                by_cases hc2 : en < b
                · have hc2I : (en : Int) < (b : Int) := by omega
                  have HC : Hid (Calls Try.prog 116 #[.slice (some ⟨g, 0, none⟩) N c, .int .i64 M, .int .i64 en, .int .i64 b, .func (.func 80) #[] #[.pointer (some ⟨κ.bx, 0, none⟩)]] w8 (SymP κ g ((A ++ isort (L1 ++ Y)) ++ (isort (X ++ R2) ++ B)) w8)) :=
                    HIH.out (A := A ++ isort (L1 ++ Y)) HK2.out.2 (fun e => by subst e; have := HMX.out; simp at this; omega) (fun e => by subst e; have := HRl.out; simp at this; omega) (by have h := HRow2.out; simpa using h) Hgw2.out (by rw [List.length_append, isort_length, List.length_append, HA.out]; have := HL1.out; have := HYl.out; omega) HMX.out HRl.out (by simp only [List.length_append, isort_length]; have := HLen.out; omega) hc hNb HSL.out.2 HSR.out.2
                  go_wp2_with fail
                  go_fit HC.out
                  rintro e w9 ⟨rfl, h9⟩
                  have H9 := Lib.hid h9
                  clear h9 HC
                  have HF : Hid (PRow κ w9 g (A ++ (isort (L ++ R) ++ B)) ∧ w.grownBy w9 (some g)) := by
                    show _ ∧ _
                    rw [← HCut.out]
                    exact ⟨by have h := H9.out.1; simpa using h, grown_seq HG2.out H9.out.2 (.inl rfl)⟩
                  go_wp2_with fail
                  go_end0
                  exact ⟨rfl, HF.out.1, HF.out.2⟩
                · have hc2I : ¬ (en : Int) < (b : Int) := by omega
                  have hiso := isort_sorted (sorted_one HSL.out.2 HSR.out.2 (.inr (List.eq_nil_of_length_eq_zero (by have := HRl.out; omega))))
                  have HF : Hid (PRow κ w8 g (A ++ (isort (L ++ R) ++ B)) ∧ w.grownBy w8 (some g)) := by
                    show _ ∧ _
                    rw [← HCut.out]
                    exact ⟨by have h := HRow2.out; rw [hiso]; simpa using h, HG2.out⟩
                  go_wp2_with fail
                  go_end0
                  exact ⟨rfl, HF.out.1, HF.out.2⟩
              · have hc1I : ¬ (M : Int) < (en : Int) := by omega
                have hiso := isort_sorted (sorted_one HSL.out.2 HSR.out.2 (.inl (List.eq_nil_of_length_eq_zero (by have := HMX.out; omega))))
                have HF : Hid (PRow κ w8 g (A ++ (isort (L ++ R) ++ B)) ∧ w.grownBy w8 (some g)) := by
                  show _ ∧ _
                  rw [← HCut.out]
                  exact ⟨by have h := HRow2.out; rw [hiso]; simpa using h, HG2.out⟩
                go_wp2_with fail
                go_end0
                exact ⟨rfl, HF.out.1, HF.out.2⟩
            · have hb2I : ¬ (r : Int) < (M : Int) := by omega
              have hiso := isort_sorted (sorted_one HSL.out.1 HSR.out.1 (.inr (List.eq_nil_of_length_eq_zero (by have := HYl.out; omega))))
              have HRow2 : Hid (PRow κ wr g (A ++ (isort (L1 ++ Y) ++ (X ++ (R2 ++ B))))) := by show PRow κ _ _ _; rw [hiso]; have h := HRow1.out; simpa using h
              have HG2 : Hid (w.grownBy wr (some g)) := HG1
              have Hgw2 : Hid (g < wr.heap.size) := Hgw1
              clear hiso HRow1 HG1 Hgw1
              by_cases hc1 : M < en
              · have hc1I : (M : Int) < (en : Int) := by omega
                by_cases hc2 : en < b
                · have hc2I : (en : Int) < (b : Int) := by omega
                  have HC : Hid (Calls Try.prog 116 #[.slice (some ⟨g, 0, none⟩) N c, .int .i64 M, .int .i64 en, .int .i64 b, .func (.func 80) #[] #[.pointer (some ⟨κ.bx, 0, none⟩)]] wr (SymP κ g ((A ++ isort (L1 ++ Y)) ++ (isort (X ++ R2) ++ B)) wr)) :=
                    HIH.out (A := A ++ isort (L1 ++ Y)) HK2.out.2 (fun e => by subst e; have := HMX.out; simp at this; omega) (fun e => by subst e; have := HRl.out; simp at this; omega) (by have h := HRow2.out; simpa using h) Hgw2.out (by rw [List.length_append, isort_length, List.length_append, HA.out]; have := HL1.out; have := HYl.out; omega) HMX.out HRl.out (by simp only [List.length_append, isort_length]; have := HLen.out; omega) hc hNb HSL.out.2 HSR.out.2
                  go_wp2_with fail
                  go_fit HC.out
                  rintro e w9 ⟨rfl, h9⟩
                  have H9 := Lib.hid h9
                  clear h9 HC
                  have HF : Hid (PRow κ w9 g (A ++ (isort (L ++ R) ++ B)) ∧ w.grownBy w9 (some g)) := by
                    show _ ∧ _
                    rw [← HCut.out]
                    exact ⟨by have h := H9.out.1; simpa using h, grown_seq HG2.out H9.out.2 (.inl rfl)⟩
                  go_wp2_with fail
                  go_end0
                  exact ⟨rfl, HF.out.1, HF.out.2⟩
                · have hc2I : ¬ (en : Int) < (b : Int) := by omega
                  have hiso := isort_sorted (sorted_one HSL.out.2 HSR.out.2 (.inr (List.eq_nil_of_length_eq_zero (by have := HRl.out; omega))))
                  have HF : Hid (PRow κ wr g (A ++ (isort (L ++ R) ++ B)) ∧ w.grownBy wr (some g)) := by
                    show _ ∧ _
                    rw [← HCut.out]
                    exact ⟨by have h := HRow2.out; rw [hiso]; simpa using h, HG2.out⟩
                  go_wp2_with fail
                  go_end0
                  exact ⟨rfl, HF.out.1, HF.out.2⟩
              · have hc1I : ¬ (M : Int) < (en : Int) := by omega
                have hiso := isort_sorted (sorted_one HSL.out.2 HSR.out.2 (.inl (List.eq_nil_of_length_eq_zero (by have := HMX.out; omega))))
                have HF : Hid (PRow κ wr g (A ++ (isort (L ++ R) ++ B)) ∧ w.grownBy wr (some g)) := by
                  show _ ∧ _
                  rw [← HCut.out]
                  exact ⟨by have h := HRow2.out; rw [hiso]; simpa using h, HG2.out⟩
                go_wp2_with fail
                go_end0
                exact ⟨rfl, HF.out.1, HF.out.2⟩
          · have hb1I : ¬ (a : Int) < (r : Int) := by omega
            have hiso := isort_sorted (sorted_one HSL.out.1 HSR.out.1 (.inl (List.eq_nil_of_length_eq_zero (by have := HL1.out; omega))))
            have HRow2 : Hid (PRow κ wr g (A ++ (isort (L1 ++ Y) ++ (X ++ (R2 ++ B))))) := by show PRow κ _ _ _; rw [hiso]; have h := HRow1.out; simpa using h
            have HG2 : Hid (w.grownBy wr (some g)) := HG1
            have Hgw2 : Hid (g < wr.heap.size) := Hgw1
            clear hiso HRow1 HG1 Hgw1
            by_cases hc1 : M < en
            · have hc1I : (M : Int) < (en : Int) := by omega
              by_cases hc2 : en < b
              · have hc2I : (en : Int) < (b : Int) := by omega
                have HC : Hid (Calls Try.prog 116 #[.slice (some ⟨g, 0, none⟩) N c, .int .i64 M, .int .i64 en, .int .i64 b, .func (.func 80) #[] #[.pointer (some ⟨κ.bx, 0, none⟩)]] wr (SymP κ g ((A ++ isort (L1 ++ Y)) ++ (isort (X ++ R2) ++ B)) wr)) :=
                  HIH.out (A := A ++ isort (L1 ++ Y)) HK2.out.2 (fun e => by subst e; have := HMX.out; simp at this; omega) (fun e => by subst e; have := HRl.out; simp at this; omega) (by have h := HRow2.out; simpa using h) Hgw2.out (by rw [List.length_append, isort_length, List.length_append, HA.out]; have := HL1.out; have := HYl.out; omega) HMX.out HRl.out (by simp only [List.length_append, isort_length]; have := HLen.out; omega) hc hNb HSL.out.2 HSR.out.2
                go_wp2_with fail
                go_fit HC.out
                rintro e w9 ⟨rfl, h9⟩
                have H9 := Lib.hid h9
                clear h9 HC
                have HF : Hid (PRow κ w9 g (A ++ (isort (L ++ R) ++ B)) ∧ w.grownBy w9 (some g)) := by
                  show _ ∧ _
                  rw [← HCut.out]
                  exact ⟨by have h := H9.out.1; simpa using h, grown_seq HG2.out H9.out.2 (.inl rfl)⟩
                go_wp2_with fail
                go_end0
                exact ⟨rfl, HF.out.1, HF.out.2⟩
              · have hc2I : ¬ (en : Int) < (b : Int) := by omega
                have hiso := isort_sorted (sorted_one HSL.out.2 HSR.out.2 (.inr (List.eq_nil_of_length_eq_zero (by have := HRl.out; omega))))
                have HF : Hid (PRow κ wr g (A ++ (isort (L ++ R) ++ B)) ∧ w.grownBy wr (some g)) := by
                  show _ ∧ _
                  rw [← HCut.out]
                  exact ⟨by have h := HRow2.out; rw [hiso]; simpa using h, HG2.out⟩
                go_wp2_with fail
                go_end0
                exact ⟨rfl, HF.out.1, HF.out.2⟩
            · have hc1I : ¬ (M : Int) < (en : Int) := by omega
              have hiso := isort_sorted (sorted_one HSL.out.2 HSR.out.2 (.inl (List.eq_nil_of_length_eq_zero (by have := HMX.out; omega))))
              have HF : Hid (PRow κ wr g (A ++ (isort (L ++ R) ++ B)) ∧ w.grownBy wr (some g)) := by
                show _ ∧ _
                rw [← HCut.out]
                exact ⟨by have h := HRow2.out; rw [hiso]; simpa using h, HG2.out⟩
              go_wp2_with fail
              go_end0
              exact ⟨rfl, HF.out.1, HF.out.2⟩
theorem sym_all : ∀ k : Nat, SymAll κ k
  | 0 => fun hk hL hR _ _ _ _ _ _ _ _ _ _ => absurd (List.eq_nil_of_length_eq_zero (by omega)) hL
  | k + 1 => sym_step (sym_all k)
theorem sym_any {w : World} {g c N a m b : Nat} {A L R B : List Pl} (hL0 : L ≠ []) (hR0 : R ≠ []) (hr : PRow κ w g (A ++ (L ++ (R ++ B)))) (hgl : g < w.heap.size) (hA : A.length = a) (hm : a + L.length = m) (hb : m + R.length = b) (hN : (A ++ (L ++ (R ++ B))).length = N) (hc : N ≤ c) (hNb : N ≤ 1073741824) (hL : SortedW L) (hR : SortedW R) :
    Calls Try.prog 116 #[.slice (some ⟨g, 0, none⟩) N c, .int .i64 a, .int .i64 m, .int .i64 b, .func (.func 80) #[] #[.pointer (some ⟨κ.bx, 0, none⟩)]] w (SymP κ g (A ++ (isort (L ++ R) ++ B)) w) :=
  sym_all _ (Nat.le_refl _) hL0 hR0 hr hgl hA hm hb hN hc hNb hL hR
end Go.Proofs.Ytdgnjalbpiciiaa
