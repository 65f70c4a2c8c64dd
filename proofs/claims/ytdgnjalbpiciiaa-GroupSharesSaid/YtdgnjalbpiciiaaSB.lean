/-
  S2 S3 S4 S5 in one text.
-/
import Derived.Test.YtdgnjalbpiciiaaSA
import Derived.BigRegion

/- S2 -/
namespace Go.Proofs.Ytdgnjalbpiciiaa
set_option linter.unusedVariables false
set_option linter.unusedSimpArgs false
open Go.RowKit
variable {κ : Env}

/-- Two pairs exchanged. -/
theorem PRow.swap2 {w0 w W : World} {g p q : Nat} {A M B : List Pl} {x y : Pl} (h : PRow κ w g (A ++ x :: (M ++ y :: B))) (hp : A.length = p) (hq : p + 1 + M.length = q) (hg : w0.grownBy w (some g)) (hW : (putPair (putPair w g p y) g q x).drew = W) :
    PRow κ W g (A ++ y :: (M ++ x :: B)) ∧ w0.grownBy W (some g) := by
  subst hW
  subst hp
  have kx := h.keys x (by simp)
  have ky := h.keys y (by simp)
  have h1 : PRow κ (putPair w g A.length y) g ((A ++ y :: M) ++ y :: B) := by
    have := h.put y ky
    simpa using this
  have hl : (A ++ y :: M).length = q := by rw [List.length_append, List.length_cons]; omega
  have h2 : PRow κ (putPair (putPair w g A.length y) g q x) g ((A ++ y :: M) ++ x :: B) := by
    rw [← hl]
    exact h1.put x kx
  refine ⟨?_, grown_drew (grown_seq (grown_seq hg (grown_put w g A.length y) (.inl rfl)) (grown_put _ g q x) (.inl rfl))⟩
  have := h2.drew
  simpa using this
theorem PRow.at1 {w : World} {g p : Nat} {xs : List Pl} {q : Pl} (h : PRow κ w g xs) (hq : xs[p]? = some q) : w.cell? ⟨g, p, none⟩ = some (.int .i64 q.2) ∧ κ.key q := by
  have := h.pairs p q hq
  rw [Nat.zero_add] at this
  exact this



set_option maxRecDepth 100000 in
set_option maxHeartbeats 6400000 in
theorem swapRange_any {w : World} {g c N a b n : Nat} {A X M Y B : List Pl} (hr : PRow κ w g (A ++ (X ++ (M ++ (Y ++ B))))) (hA : A.length = a) (hX : X.length = n) (hY : Y.length = n) (hb : a + n + M.length = b) (hN : (A ++ (X ++ (M ++ (Y ++ B)))).length = N) (hc : N ≤ c) (hNb : N ≤ 1073741824) :
    Calls Try.prog 126 #[.slice (some ⟨g, 0, none⟩) N c, .int .i64 a, .int .i64 b, .int .i64 n, .func (.func 80) #[] #[.pointer (some ⟨κ.bx, 0, none⟩)]] w fun e w' => e = .returned (.tuple #[]) ∧ Sorts κ g (A ++ (Y ++ (M ++ (X ++ B)))) w w' := by
  have hle : b + n ≤ N := by rw [← hN]; simp only [List.length_append]; omega
  have HR := Lib.hid hr
  have HA := Lib.hid hA
  have HX := Lib.hid hX
  have HY := Lib.hid hY
  have Hb := Lib.hid hb
  have hab : a + n ≤ b := by omega
  clear hr hA hX hY hN hb
  go_enter Try.func126, Try.ntmps126
  go_wp2_with fail
  go_loopw [10] (fun v wr => ∃ (i : Nat) (X1 X2 Y1 Y2 : List Pl), v = .int .i64 i ∧ i ≤ n ∧ Hid (X = X1 ++ X2) ∧ Hid (Y = Y1 ++ Y2) ∧ Hid (X1.length = i) ∧ Hid (Y1.length = i) ∧ Hid (PRow κ wr g (A ++ (Y1 ++ (X2 ++ (M ++ (X1 ++ (Y2 ++ B))))))) ∧ Hid (w.grownBy wr (some g)))
    (fun v _ => n - (intOf v).toNat)
  case atStart => exact ⟨0, [], X, [], Y, rfl, Nat.zero_le _, rfl, rfl, rfl, rfl, HR, grown_refl _ _⟩
  case round =>
    obtain ⟨i, X1, X2, Y1, Y2, rfl, hin, hX, hY, hX1, hY1, hrow, hgr⟩ := hrel
    have ei : IntKind.i64.wrap ((i : Int) + 1) = (i : Int) + 1 := IntWalk.i64_in _ (by omega)
    by_cases hlt : i < n
    · obtain ⟨x, X2', rfl⟩ : ∃ x X2', X2 = x :: X2' := by
        cases X2 with
        | nil => have := HX.out; rw [hX.out, List.append_nil, hX1.out] at this; omega
        | cons x l => exact ⟨x, l, rfl⟩
      obtain ⟨y, Y2', rfl⟩ : ∃ y Y2', Y2 = y :: Y2' := by
        cases Y2 with
        | nil => have := HY.out; rw [hY.out, List.append_nil, hY1.out] at this; omega
        | cons y l => exact ⟨y, l, rfl⟩
      have hxl : X2'.length + i + 1 = n := by have := HX.out; rw [hX.out, List.length_append, List.length_cons, hX1.out] at this; omega
      have hrow2 : PRow κ wr g ((A ++ Y1) ++ x :: ((X2' ++ (M ++ X1)) ++ y :: (Y2' ++ B))) := by simpa using hrow.out
      have hp : (A ++ Y1).length = a + i := by rw [List.length_append, HA.out, hY1.out]
      have hq : a + i + 1 + (X2' ++ (M ++ X1)).length = b + i := by simp only [List.length_append]; have := Hb.out; have := hX1.out; omega
      have x01 := hrow2.at1 (p := a + i) (q := x) (by rw [← hp]; simp)
      have y01 := hrow2.at1 (p := b + i) (q := y) (by rw [← hq, ← hp, Nat.add_assoc, List.getElem?_append_right (by omega), Nat.add_sub_cancel_left, Nat.add_comm 1, List.getElem?_cons_succ, List.getElem?_append_right (Nat.le_refl _), Nat.sub_self]; rfl)
      obtain ⟨x0, x1⟩ := x01
      obtain ⟨y0, y1⟩ := y01
      have zx0 := hrow2.fz (a + i)
      have zy0 := hrow2.fz (b + i)
      have HR2 := Lib.hid hrow2
      have HP := Lib.hid hp
      have HQ := Lib.hid hq
      have ea : IntKind.i64.wrap ((a : Int) + (i : Int)) = (a : Int) + (i : Int) := IntWalk.i64_in _ (by omega)
      have eb : IntKind.i64.wrap ((b : Int) + (i : Int)) = (b : Int) + (i : Int) := IntWalk.i64_in _ (by omega)
      have ta : ((a : Int) + (i : Int)).toNat = a + i := by omega
      have tb : ((b : Int) + (i : Int)).toNat = b + i := by omega
      have ha0 : (0 : Int) ≤ (a : Int) + (i : Int) := by omega
      have hb0 : (0 : Int) ≤ (b : Int) + (i : Int) := by omega
      have ha1 : (a : Int) + (i : Int) < (N : Int) := by omega
      have hb1 : (b : Int) + (i : Int) < (N : Int) := by omega
      have n0 : ¬ a = b := by omega
      have n1 : ¬ b = a := by omega
      have n2 : ¬ a + i = b + i := by omega
      have n3 : ¬ b + i = a + i := by omega
      clear hrow hrow2 hp hq hxl
      go_wp2_with fail
      go_region
      all_goals
        generalize hW : World.drew _ = W
        obtain ⟨h2, h3⟩ := HR2.out.swap2 (W := W) HP.out HQ.out hgr.out hW
        have H2 : Hid (PRow κ W g (A ++ ((Y1 ++ [y]) ++ (X2' ++ (M ++ ((X1 ++ [x]) ++ (Y2' ++ B))))))) := by show PRow κ _ _ _; simpa using h2
        have H3 := Lib.hid h3
        have H4 : Hid (X = (X1 ++ [x]) ++ X2') := by show _ = _; rw [hX.out]; simp
        have H5 : Hid (Y = (Y1 ++ [y]) ++ Y2') := by show _ = _; rw [hY.out]; simp
        have H6 : Hid ((X1 ++ [x]).length = i + 1) := by show _ = _; rw [List.length_append, hX1.out]; rfl
        have H7 : Hid ((Y1 ++ [y]).length = i + 1) := by show _ = _; rw [List.length_append, hY1.out]; rfl
        clear h2 h3 hW x0 x1 y0 y1 zx0 zy0 ea eb ta tb ha0 hb0 ha1 hb1 n0 n1 n2 n3
        go_wp2_with fail
        exact ⟨⟨i + 1, X1 ++ [x], X2', Y1 ++ [y], Y2', by simp, hlt, H4, H5, H6, H7, H2, H3⟩, by show n - ((i : Int) + 1).toNat < n - ((i : Int)).toNat; omega⟩
    · obtain rfl : i = n := by omega
      have hx2 : X2 = [] := by have := HX.out; rw [hX.out, List.length_append, hX1.out] at this; exact List.eq_nil_of_length_eq_zero (by omega)
      have hy2 : Y2 = [] := by have := HY.out; rw [hY.out, List.length_append, hY1.out] at this; exact List.eq_nil_of_length_eq_zero (by omega)
      have HF : Hid (PRow κ wr g (A ++ (Y ++ (M ++ (X ++ B))))) := by
        show PRow κ _ _ _
        have h := hrow.out
        rw [hX.out, hY.out]
        subst hx2
        subst hy2
        simpa using h
      clear hrow hx2 hy2
      go_wp2_with fail
      go_end0
      exact ⟨rfl, HF.out, hgr.out⟩

set_option maxRecDepth 100000 in
set_option maxHeartbeats 6400000 in
theorem rotate_any {w : World} {g c N a m b : Nat} {A X Y B : List Pl} (hr : PRow κ w g (A ++ (X ++ (Y ++ B)))) (hA : A.length = a) (hX : a + X.length = m) (hY : m + Y.length = b) (hX0 : X ≠ []) (hY0 : Y ≠ []) (hN : (A ++ (X ++ (Y ++ B))).length = N) (hc : N ≤ c) (hNb : N ≤ 1073741824) :
    Calls Try.prog 124 #[.slice (some ⟨g, 0, none⟩) N c, .int .i64 a, .int .i64 m, .int .i64 b, .func (.func 80) #[] #[.pointer (some ⟨κ.bx, 0, none⟩)]] w fun e w' => e = .returned (.tuple #[]) ∧ Sorts κ g (A ++ (Y ++ (X ++ B))) w w' := by
  have hx1 : 0 < X.length := List.length_pos_iff.2 hX0
  have hy1 : 0 < Y.length := List.length_pos_iff.2 hY0
  have hle : b ≤ N := by rw [← hN]; simp only [List.length_append]; omega
  have HR := Lib.hid hr
  have HA := Lib.hid hA
  have HN := Lib.hid hN
  obtain ⟨i0, hi0⟩ : ∃ i0, X.length = i0 := ⟨_, rfl⟩
  obtain ⟨j0, hj0⟩ : ∃ j0, Y.length = j0 := ⟨_, rfl⟩
  have HI := Lib.hid hi0
  have HJ := Lib.hid hj0
  rw [hi0] at hX hx1
  rw [hj0] at hY hy1
  have e1 : (m : Int) - (a : Int) = (i0 : Int) := by omega
  have e2 : (b : Int) - (m : Int) = (j0 : Int) := by omega
  have HM : Hid (a + i0 = m) := hX
  have Hb : Hid (m + j0 = b) := hY
  clear hr hA hN hX0 hY0 hi0 hj0 hX hY
  go_enter Try.func124, Try.ntmps124
  go_wp2_with fail
  clear e1 e2
  go_loopw [10, 11] (fun u v wr => ∃ (i j : Nat) (P U V Q : List Pl), u = .int .i64 i ∧ v = .int .i64 j ∧ 1 ≤ i ∧ 1 ≤ j ∧ i ≤ m ∧ m + j ≤ b ∧ Hid (U.length = i) ∧ Hid (V.length = j) ∧ Hid (a + P.length + i = m) ∧ Hid (P ++ (V ++ (U ++ Q)) = Y ++ X) ∧ Hid (PRow κ wr g (A ++ (P ++ (U ++ (V ++ (Q ++ B)))))) ∧ Hid (w.grownBy wr (some g)))
    (fun u v _ => (intOf u).toNat + (intOf v).toNat)
  case atStart => exact ⟨i0, j0, [], X, Y, [], rfl, rfl, hx1, hy1, by have := HM.out; omega, by have := Hb.out; omega, HI, HJ, HM, (by show _ = _; simp), HR, grown_refl _ _⟩
  case round =>
    obtain ⟨i, j, P, U, V, Q, rfl, rfl, hi1, hj1, him, hmj, hU, hV, hP, hT, hrow, hgr⟩ := hrel
    have hlen : (A ++ (P ++ (U ++ (V ++ (Q ++ B))))).length = N := by
      have h1 := congrArg List.length hT.out
      have h2 := HN.out
      simp only [List.length_append] at h1 h2 ⊢
      omega
    have HLn := Lib.hid hlen
    have e3 : (m : Int) - (i : Int) = ((m - i : Nat) : Int) := by omega
    clear hlen
    rcases Nat.lt_trichotomy i j with hij | hij | hij
    · -- i < j
      have hne : ((i : Int) == (j : Int)) = false := by rw [beq_eq_false_iff_ne]; omega
      have hgt : ¬ (j : Int) < (i : Int) := by omega
      obtain ⟨V1, V2, hV12, hV2⟩ : ∃ V1 V2, V = V1 ++ V2 ∧ V2.length = i := ⟨V.take (j - i), V.drop (j - i), (List.take_append_drop _ _).symm, by rw [List.length_drop, hV.out]; omega⟩
      have hV1 : V1.length = j - i := by have := hV.out; rw [hV12, List.length_append, hV2] at this; omega
      have e4 : (m : Int) + (j : Int) - (i : Int) = ((m + (j - i) : Nat) : Int) := by omega
      have HS : Hid (Calls Try.prog 126 #[.slice (some ⟨g, 0, none⟩) N c, .int .i64 ((m - i : Nat) : Int), .int .i64 ((m + (j - i) : Nat) : Int), .int .i64 i, .func (.func 80) #[] #[.pointer (some ⟨κ.bx, 0, none⟩)]] wr fun e w' => e = .returned (.tuple #[]) ∧ Sorts κ g ((A ++ P) ++ (V2 ++ (V1 ++ (U ++ (Q ++ B))))) wr w') := by
        show Calls _ _ _ _ _
        refine swapRange_any (X := U) (M := V1) (Y := V2) ?_ ?_ hU.out hV2 ?_ ?_ hc hNb
        · have h := hrow.out; rw [hV12] at h; simpa using h
        · rw [List.length_append, HA.out]; have := hP.out; omega
        · rw [hV1]; omega
        · have h := HLn.out; rw [hV12] at h; simpa using h
      have HT2 : Hid (P ++ (V1 ++ (V2 ++ (U ++ Q))) = Y ++ X) := by show _ = _; have h := hT.out; rw [hV12] at h; simpa using h
      have HV1 := Lib.hid hV1
      have HV2 := Lib.hid hV2
      have HIJ := Lib.hid hij
      have e5 : IntKind.i64.wrap ((j : Int) - (i : Int)) = ((j - i : Nat) : Int) := by rw [IntWalk.i64_in _ (by omega)]; omega
      clear hV12 hV1 hV2 hrow hij
      go_wp2_with fail
      go_fit HS.out
      rintro e w2 ⟨rfl, hs, hg⟩
      have H1 : Hid (PRow κ w2 g (A ++ (P ++ (V2 ++ (V1 ++ ((U ++ Q) ++ B)))))) := by show PRow κ _ _ _; simpa using hs
      have H2 : Hid (w.grownBy w2 (some g)) := grown_seq hgr.out hg (.inl rfl)
      have H3 : Hid (P ++ (V1 ++ (V2 ++ (U ++ Q))) = Y ++ X) := HT2
      have hj' : 1 ≤ j - i := by have := HIJ.out; omega
      have hmj' : m + (j - i) ≤ b := by omega
      clear hs hg HS hT HT2
      go_wp2_with fail
      exact ⟨⟨i, j - i, P, V2, V1, U ++ Q, rfl, rfl, hi1, hj', him, hmj', HV2, HV1, hP, H3, H1, H2⟩, by show ((i : Int)).toNat + (((j - i : Nat) : Int)).toNat < ((i : Int)).toNat + ((j : Int)).toNat; have := HIJ.out; omega⟩
    · subst hij
      have HS : Hid (Calls Try.prog 126 #[.slice (some ⟨g, 0, none⟩) N c, .int .i64 ((m - i : Nat) : Int), .int .i64 m, .int .i64 i, .func (.func 80) #[] #[.pointer (some ⟨κ.bx, 0, none⟩)]] wr fun e w' => e = .returned (.tuple #[]) ∧ Sorts κ g ((A ++ P) ++ (V ++ ([] ++ (U ++ (Q ++ B))))) wr w') := by
        show Calls _ _ _ _ _
        refine swapRange_any (X := U) (M := []) (Y := V) ?_ ?_ hU.out hV.out ?_ ?_ hc hNb
        · have h := hrow.out; simpa using h
        · rw [List.length_append, HA.out]; have := hP.out; omega
        · simp only [List.length_nil]; omega
        · have h := HLn.out; simpa using h
      clear hrow
      go_wp2_with fail
      go_fit HS.out
      rintro e w2 ⟨rfl, hs, hg⟩
      have H1 : Hid (PRow κ w2 g (A ++ (Y ++ (X ++ B)))) := by
        show PRow κ _ _ _
        have e9 : (A ++ P) ++ (V ++ ([] ++ (U ++ (Q ++ B)))) = A ++ (Y ++ (X ++ B)) := by
          have h := hT.out
          have : A ++ ((P ++ (V ++ (U ++ Q))) ++ B) = A ++ ((Y ++ X) ++ B) := by rw [h]
          simpa using this
        rw [← e9]; exact hs
      have H2 : Hid (w.grownBy w2 (some g)) := grown_seq hgr.out hg (.inl rfl)
      clear hs hg HS hT
      go_wp2_with fail
      go_end0
      exact ⟨rfl, H1.out, H2.out⟩
    · have hne : ((i : Int) == (j : Int)) = false := by rw [beq_eq_false_iff_ne]; omega
      have hgt : (j : Int) < (i : Int) := by omega
      obtain ⟨U1, U2, hU12, hU1⟩ : ∃ U1 U2, U = U1 ++ U2 ∧ U1.length = j := ⟨U.take j, U.drop j, (List.take_append_drop _ _).symm, by rw [List.length_take, hU.out]; omega⟩
      have hU2 : U2.length = i - j := by have := hU.out; rw [hU12, List.length_append, hU1] at this; omega
      have HS : Hid (Calls Try.prog 126 #[.slice (some ⟨g, 0, none⟩) N c, .int .i64 ((m - i : Nat) : Int), .int .i64 m, .int .i64 j, .func (.func 80) #[] #[.pointer (some ⟨κ.bx, 0, none⟩)]] wr fun e w' => e = .returned (.tuple #[]) ∧ Sorts κ g ((A ++ P) ++ (V ++ (U2 ++ (U1 ++ (Q ++ B))))) wr w') := by
        show Calls _ _ _ _ _
        refine swapRange_any (X := U1) (M := U2) (Y := V) ?_ ?_ hU1 hV.out ?_ ?_ hc hNb
        · have h := hrow.out; rw [hU12] at h; simpa using h
        · rw [List.length_append, HA.out]; have := hP.out; omega
        · rw [hU2]; omega
        · have h := HLn.out; rw [hU12] at h; simpa using h
      have HT2 : Hid ((P ++ V) ++ (U1 ++ (U2 ++ Q)) = Y ++ X) := by show _ = _; have h := hT.out; rw [hU12] at h; simpa using h
      have HP2 : Hid (a + (P ++ V).length + (i - j) = m) := by show _ = _; rw [List.length_append, hV.out]; have := hP.out; omega
      have HU1 := Lib.hid hU1
      have HU2 := Lib.hid hU2
      have HIJ := Lib.hid hij
      have e5 : IntKind.i64.wrap ((i : Int) - (j : Int)) = ((i - j : Nat) : Int) := by rw [IntWalk.i64_in _ (by omega)]; omega
      clear hU12 hU1 hU2 hrow hij
      go_wp2_with fail
      go_fit HS.out
      rintro e w2 ⟨rfl, hs, hg⟩
      have H1 : Hid (PRow κ w2 g (A ++ ((P ++ V) ++ (U2 ++ (U1 ++ (Q ++ B)))))) := by show PRow κ _ _ _; simpa using hs
      have H2 : Hid (w.grownBy w2 (some g)) := grown_seq hgr.out hg (.inl rfl)
      have hi' : 1 ≤ i - j := by have := HIJ.out; omega
      have him' : i - j ≤ m := by omega
      clear hs hg HS hT
      go_wp2_with fail
      exact ⟨⟨i - j, j, P ++ V, U2, U1, Q, rfl, rfl, hi', hj1, him', hmj, HU2, HU1, HP2, HT2, H1, H2⟩, by show (((i - j : Nat) : Int)).toNat + ((j : Int)).toNat < ((i : Int)).toNat + ((j : Int)).toNat; have := HIJ.out; omega⟩
end Go.Proofs.Ytdgnjalbpiciiaa

/- S3 -/
namespace Go.Proofs.Ytdgnjalbpiciiaa
set_option linter.unusedVariables false
set_option linter.unusedSimpArgs false
open Go.RowKit
variable {κ : Env}

set_option maxRecDepth 100000 in
set_option maxHeartbeats 6400000 in
theorem insertion_seg {w : World} {g c N a n : Nat} {F xs E : List Pl} (hr : PRow κ w g (F ++ (xs ++ E))) (hgl : g < w.heap.size) (hF : F.length = a) (hn : a + xs.length = n) (hn1 : a + 1 ≤ n) (hN : n ≤ N) (hc : N ≤ c) (hnb : N ≤ 1073741824) :
    Calls Try.prog 115 #[.slice (some ⟨g, 0, none⟩) N c, .int .i64 a, .int .i64 n, .func (.func 80) #[] #[.pointer (some ⟨κ.bx, 0, none⟩)]] w fun e w' => e = .returned (.tuple #[]) ∧ Sorts κ g (F ++ (isort xs ++ E)) w w' := by
  have HR := Lib.hid hr
  have Hgl := Lib.hid hgl
  have Hn := Lib.hid hn
  have HF := Lib.hid hF
  have ea1 : IntKind.i64.wrap ((a : Int) + 1) = (a : Int) + 1 := IntWalk.i64_in _ (by omega)
  clear hr hgl hn hF
  go_enter Try.func115, Try.ntmps115
  go_wp2_with fail
  go_loopw [8] (fun v wr => ∃ (i : Nat), v = .int .i64 i ∧ a + 1 ≤ i ∧ i ≤ n ∧ Hid (PRow κ wr g (F ++ (isort (xs.take (i - a)) ++ (xs.drop (i - a) ++ E)))) ∧ Hid (w.grownBy wr (some g)))
    (fun v _ => n - (intOf v).toNat)
  case atStart =>
    refine ⟨a + 1, by simp, Nat.le_refl _, hn1, ?_, grown_refl _ _⟩
    have : isort (xs.take 1) ++ xs.drop 1 = xs := by
      cases hx : xs with
      | nil => have := Hn.out; rw [hx] at this; simp at this; omega
      | cons a l => rfl
    show PRow κ w g _
    rw [Nat.add_sub_cancel_left, ← List.append_assoc (isort _), this]; exact HR.out
  case round =>
    obtain ⟨i, rfl, hi1, hin, hrow, hgr⟩ := hrel
    have ei : IntKind.i64.wrap ((i : Int) + 1) = (i : Int) + 1 := IntWalk.i64_in _ (by omega)
    by_cases hlt : i < n
    · obtain ⟨p, hp⟩ : ∃ p, xs[i - a]? = some p := ⟨xs[i - a]'(by have := Hn.out; omega), List.getElem?_eq_getElem _⟩
      obtain ⟨S, hS⟩ : ∃ S, S = isort (xs.take (i - a)) := ⟨_, rfl⟩
      have hSl : S.length = i - a := by rw [hS, isort_length, List.length_take]; have := Hn.out; omega
      obtain ⟨D, hD⟩ : ∃ D, D = xs.drop (i - a + 1) := ⟨_, rfl⟩
      have hrow' : Hid (PRow κ wr g (F ++ (S ++ p :: (D ++ E)))) := by
        have h1 : xs.drop (i - a) = p :: D := by rw [hD]; have := (List.getElem?_eq_some_iff.1 hp); rw [← this.2]; exact List.drop_eq_getElem_cons this.1
        have := hrow.out
        rw [h1, ← hS] at this; exact this
      have Hp := Lib.hid hp
      have HS := Lib.hid hS
      have HSl := Lib.hid hSl
      have HD := Lib.hid hD
      clear hp hS hSl hD hrow
      go_wp2_with fail
      go_loopw [9] (fun v wr2 => ∃ (j : Nat) (A C : List Pl), v = .int .i64 j ∧ j ≤ i ∧ a ≤ j ∧ Hid (S = A ++ C) ∧ Hid (a + A.length = j) ∧ Hid (∀ q ∈ C, plt p.1 q.1 = true) ∧ Hid (PRow κ wr2 g (F ++ (A ++ p :: (C ++ (D ++ E))))) ∧ Hid (w.grownBy wr2 (some g)))
        (fun v _ => (intOf v).toNat)
      case atStart => exact ⟨i, S, [], rfl, Nat.le_refl _, by omega, (by show _ = _; simp), (by show _ = _; have := HSl.out; omega), (fun (q : Pl) (hq : q ∈ ([] : List Pl)) => absurd hq (by simp)), hrow', hgr⟩
      case round =>
        obtain ⟨j, A, C, rfl, hji, haj, hSA, hAl, hC, hrw, hg2⟩ := hrel
        clear hrow' hgr
        have ej : IntKind.i64.wrap ((j : Int) - 1) = (j : Int) - 1 := IntWalk.i64_in _ (by omega)
        have hfin : Hid ((∀ q, A.getLast? = some q → plt p.1 q.1 = false) → isort (xs.take (i + 1 - a)) ++ (xs.drop (i + 1 - a) ++ E) = A ++ p :: (C ++ (D ++ E))) := fun hA => by
          have ei2 : i + 1 - a = i - a + 1 := by omega
          rw [ei2, isort_step xs Hp.out, ← HS.out, hSA.out, ins_of hC.out hA, ← HD.out]; simp
        by_cases hj : j = a
        · subst hj
          obtain rfl : A = [] := List.eq_nil_of_length_eq_zero (by have := hAl.out; omega)
          go_wp2_with fail
          go_quiet (fail)
          go_wp2_with fail
          · refine ⟨⟨i + 1, by simp, by omega, by omega, ?_, grown_of_below hg2.out (below_drewM (Below.refl _ _) _)⟩, by show n - ((i : Int) + 1).toNat < n - ((i : Int)).toNat; omega⟩
            show PRow κ _ g _
            rw [hfin.out (fun q hq => by simp at hq)]
            exact hrw.out.drewN _
        · obtain ⟨A', q, rfl⟩ : ∃ A' q, A = A' ++ [q] := ⟨A.dropLast, A.getLast (fun e => hj (by have := hAl.out; rw [e] at this; simp at this; omega)), (List.dropLast_concat_getLast _).symm⟩
          obtain ⟨k, rfl⟩ : ∃ k, j = k + 1 := ⟨j - 1, by omega⟩
          have hAl' : (F ++ A').length = k := by have := hAl.out; simp at this; rw [List.length_append, HF.out]; omega
          have hrw2 : PRow κ wr g ((F ++ A') ++ q :: p :: (C ++ (D ++ E))) := by simpa using hrw.out
          have hrw3 : PRow κ wr g ((F ++ (A' ++ [q])) ++ p :: (C ++ (D ++ E))) := by simpa using hrw.out
          have hAl2 : (F ++ (A' ++ [q])).length = k + 1 := by rw [← List.append_assoc, List.length_append, hAl']; rfl
          have q0 := hrw2.pairs (F ++ A').length q (by simp)
          have p0 := hrw3.pairs (F ++ (A' ++ [q])).length p (by rw [List.getElem?_append_right (Nat.le_refl _), Nat.sub_self]; rfl)
          rw [hAl'] at q0
          rw [hAl2] at p0
          simp only [Nat.zero_add] at q0 p0
          obtain ⟨q0, q1⟩ := q0
          obtain ⟨p0, p1⟩ := p0
          have HA' := Lib.hid hAl'
          have Hrw := Lib.hid hrw2
          have Hj := Lib.hid hj
          have hak : (a : Int) < (k : Int) + 1 := by omega
          have HA2 := Lib.hid hAl2
          have hkn : k < N := by omega
          have hkn1 : k + 1 < N := by omega
          have ek : IntKind.i64.wrap (k : Int) = (k : Int) := IntWalk.i64_in _ (by omega)
          have ek1 : ((k + 1 : Nat) : Int) - 1 = (k : Int) := by omega
          have hI1 : (0 : Int) ≤ (k : Int) + 1 := by omega
          have hI2 : (k : Int) + 1 < (N : Int) := by omega
          have hI3 : ((k : Int) + 1).toNat = k + 1 := by omega
          clear hrw hrw2 hrw3 hAl' hAl2 hj ej
          go_wp2_with fail
          have HENV : Hid (κ.ok wr g) := Lib.hid (by first | exact Hrw.out.env | exact hrow.out.env | exact hrw.out.env)
          go_region_held3 (fun V => V.cell? ⟨g, k, none⟩ = some (.int .i64 q.2) ∧ V.cell? ⟨g, (k + 1), none⟩ = some (.int .i64 p.2)) (go_keep)
            (first
              | (go_at_call 80; (with_reducible refine (cmp_any HENV.out.drew p1 q1).mono ?_); rintro e w2 ⟨rfl, hb2⟩; have hbd : Below wr.heap.size wr w2 := (below_drew1 wr).trans hb2; have a0 := cell_later hbd q0; have b0 := cell_later hbd p0; have HB2 := Lib.hid hbd; clear hbd hb2))
          have Hrw2 := Lib.hid (Hrw.out.later (World.block_lt_of_cell? wr _ q0) HB2.out)
          have hg3 : Hid (w.grownBy w2 (some g)) := grown_of_below hg2.out HB2.out
          clear q0 p0 Hrw hg2 HB2
          cases hk : plt p.1 q.1 with
          | false =>
            have hcmp : ¬ cmpP p.1 q.1 < 0 := fun e => by rw [compare_plt, hk] at e; cases e
            have hcmp2 : decide (cmpP p.1 q.1 < 0) = false := by simpa using hcmp
            go_wp2_with fail
            refine ⟨⟨i + 1, by simp, by omega, by omega, ?_, hg3⟩, by show n - ((i : Int) + 1).toNat < n - ((i : Int)).toNat; omega⟩
            show PRow κ _ g _
            rw [hfin.out (fun r hr => by simp at hr; rw [← hr]; exact hk)]
            simpa using Hrw2.out
          | true =>
            have hcmp : cmpP p.1 q.1 < 0 := (compare_plt _ _).2 hk
            have hcmp2 : decide (cmpP p.1 q.1 < 0) = true := by simpa using hcmp
            have z0 := Hrw2.out.fz k
            have z2 := Hrw2.out.fz (k + 1)
            go_wp2_with fail
            go_region_with (fail)
            all_goals
              go_wp2_with fail
              have h1 : PRow κ (putPair w2 g (k + 1) q) g ((F ++ (A' ++ [q])) ++ q :: (C ++ (D ++ E))) := by
                rw [← HA2.out]
                exact PRow.put (q := p) (by simpa using Hrw2.out) q q1
              have h2 : PRow κ (putPair (putPair w2 g (k + 1) q) g k p) g ((F ++ A') ++ p :: (q :: (C ++ (D ++ E)))) := by
                rw [← HA'.out]
                rw [← HA'.out] at h1
                exact PRow.put (q := q) (by simpa using h1) p p1
              refine ⟨⟨k, A', q :: C, rfl, by omega, by omega, ?_, (by show _ = _; have := HA'.out; rw [List.length_append, HF.out] at this; exact this), ?_, (by show PRow κ _ _ _; have h := h2.drew; rw [List.append_assoc] at h; exact h), grown_drew (grown_seq (grown_seq hg3.out (grown_put w2 g (k + 1) q) (.inl rfl)) (grown_put _ g k p) (.inl rfl))⟩, by show k < k + 1; omega⟩
              · show S = _
                rw [hSA.out]; simp
              · show ∀ r ∈ q :: C, _
                intro r hr
                rcases List.mem_cons.1 hr with rfl | hr
                · exact hk
                · exact hC.out r hr
    · obtain rfl : i = n := by omega
      have hr : Hid (PRow κ wr g (F ++ (isort xs ++ E))) := by
        show PRow κ _ _ _
        have := hrow.out
        have e9 : i - a = xs.length := by have := Hn.out; omega
        rw [e9, List.take_length, List.drop_length, List.nil_append] at this
        exact this
      clear hrow
      go_wp2_with fail
      go_end0
      exact ⟨rfl, hr.out, hgr.out⟩

set_option maxHeartbeats 800000 in
theorem insertion_nil {w : World} {g c N a : Nat} (ha : a ≤ 1073741824) : Calls Try.prog 115 #[.slice (some ⟨g, 0, none⟩) N c, .int .i64 a, .int .i64 a, .func (.func 80) #[] #[.pointer (some ⟨κ.bx, 0, none⟩)]] w fun e w' => e = .returned (.tuple #[]) ∧ w = w' := by
  have ea1 : IntKind.i64.wrap ((a : Int) + 1) = (a : Int) + 1 := IntWalk.i64_in _ (by omega)
  have hl : ¬ (a : Int) + 1 < (a : Int) := by omega
  go_enter Try.func115, Try.ntmps115
  go_wp2_with fail
  refine wp_loop_rounds 1 ?_
  rw [rounds_succ]
  go_wp2_with fail
  go_end0
  exact ⟨rfl, rfl⟩
end Go.Proofs.Ytdgnjalbpiciiaa

/- S4 -/
namespace Go.Proofs.Ytdgnjalbpiciiaa
set_option linter.unusedVariables false
set_option linter.unusedSimpArgs false
open Go.RowKit
variable {κ : Env}

/-- Two pairs exchanged, the later place first. -/
theorem PRow.swap2r {w0 w W : World} {g p q : Nat} {A B : List Pl} {x y : Pl} (h : PRow κ w g (A ++ x :: y :: B)) (hp : A.length = p) (hq : p + 1 = q) (hg : w0.grownBy w (some g)) (hW : (putPair (putPair w g q x) g p y).drew = W) :
    PRow κ W g (A ++ y :: x :: B) ∧ w0.grownBy W (some g) := by
  subst hW
  subst hp
  subst hq
  have h1 : PRow κ (putPair w g (A.length + 1) x) g ((A ++ [x]) ++ x :: B) := by
    have h0 : PRow κ w g ((A ++ [x]) ++ y :: B) := by simpa using h
    have := h0.put x (h.keys x (by simp))
    rw [List.length_append] at this
    exact this
  have h2 : PRow κ (putPair (putPair w g (A.length + 1) x) g A.length y) g (A ++ y :: (x :: B)) := PRow.put (q := x) (by simpa using h1) y (h.keys y (by simp))
  exact ⟨h2.drew, grown_drew (grown_seq (grown_seq hg (grown_put w g (A.length + 1) x) (.inl rfl)) (grown_put _ g A.length y) (.inl rfl))⟩
theorem half_in {i j : Nat} (h : i < j) : i ≤ (i + j) / 2 ∧ (i + j) / 2 < j := by omega
theorem half_int (i j : Nat) : ((i : Int) + (j : Int)) / 2 = (((i + j) / 2 : Nat) : Int) := by omega
def SymP (κ : Env) (g : Nat) (ys : List Pl) (w : World) (e : Ending) (w' : World) : Prop := e = .returned (.tuple #[]) ∧ Sorts κ g ys w w'

set_option maxRecDepth 100000 in
set_option maxHeartbeats 12800000 in
theorem sym_left {w : World} {g c N a m b : Nat} {A R B : List Pl} {x : Pl} (hr : PRow κ w g (A ++ ([x] ++ (R ++ B)))) (hgl : g < w.heap.size) (hA : A.length = a) (hm : a + 1 = m) (hb : m + R.length = b) (hN : (A ++ ([x] ++ (R ++ B))).length = N) (hc : N ≤ c) (hNb : N ≤ 1073741824) (hR : SortedW R) :
    Calls Try.prog 116 #[.slice (some ⟨g, 0, none⟩) N c, .int .i64 a, .int .i64 m, .int .i64 b, .func (.func 80) #[] #[.pointer (some ⟨κ.bx, 0, none⟩)]] w (SymP κ g (A ++ (isort ([x] ++ R) ++ B)) w) := by
  have hbN : b ≤ N := by rw [← hN]; simp only [List.length_append, List.length_cons, List.length_nil]; omega
  have HA := Lib.hid hA
  have HN := Lib.hid hN
  have HRs := Lib.hid hR
  have Hb := Lib.hid hb
  have Hm := Lib.hid hm
  have HR := Lib.hid hr
  have Hgl := Lib.hid hgl
  have e1 : (m : Int) - (a : Int) = 1 := by omega
  have hmb : m ≤ b := by omega
  have hx : (A ++ ([x] ++ (R ++ B)))[a]? = some x := by have := at_left (A := A) (L := [x]) (Z := R ++ B) hA (i := 0) (by simp); simpa using this
  have HX := Lib.hid hx
  clear hA hN hR hb hm hr hgl hx
  go_enter Try.func116, Try.ntmps116
  go_wp2_with fail
  clear e1
  go_loopw [10, 11] (fun u v wr => ∃ (i j : Nat), u = .int .i64 i ∧ v = .int .i64 j ∧ m ≤ i ∧ i ≤ j ∧ j ≤ b ∧ Hid (i = m ∨ ∀ y, (A ++ ([x] ++ (R ++ B)))[i - 1]? = some y → plt y.1 x.1 = true) ∧ Hid (j = b ∨ ∀ y, (A ++ ([x] ++ (R ++ B)))[j]? = some y → plt y.1 x.1 = false) ∧ Hid (PRow κ wr g (A ++ ([x] ++ (R ++ B)))) ∧ Hid (w.grownBy wr (some g)))
    (fun u v _ => (intOf v).toNat - (intOf u).toNat)
  case atStart => exact ⟨m, b, rfl, rfl, Nat.le_refl _, hmb, Nat.le_refl _, .inl rfl, .inl rfl, HR, grown_refl _ _⟩
  case round =>
    obtain ⟨i, j, rfl, rfl, hmi, hij, hjb, hlo, hhi, hrow, hgr⟩ := hrel
    by_cases hlt : i < j
    · obtain ⟨hh1, hh2⟩ := half_in hlt
      have hH := half_int i j
      generalize (i + j) / 2 = H at *
      obtain ⟨y, hy⟩ : ∃ y, (A ++ ([x] ++ (R ++ B)))[H]? = some y := ⟨(A ++ ([x] ++ (R ++ B)))[H]'(by rw [HN.out]; omega), List.getElem?_eq_getElem _⟩
      obtain ⟨y0, y1⟩ := hrow.out.at1 hy
      obtain ⟨x0, x1⟩ := hrow.out.at1 HX.out
      have hI : (i : Int) < (j : Int) := by omega
      have hH0 : (0 : Int) ≤ (H : Int) := by omega
      have hH1 : (H : Int) < (N : Int) := by omega
      have ha0 : (0 : Int) ≤ (a : Int) := by omega
      have ha1 : (a : Int) < (N : Int) := by have := Hm.out; omega
      have eH : IntKind.i64.wrap ((H : Int) + 1) = (H : Int) + 1 := IntWalk.i64_in _ (by omega)
      have HY := Lib.hid hy
      clear hy
      go_wp2_with fail
      have HENV : Hid (κ.ok wr g) := Lib.hid (by first | exact Hrw.out.env | exact hrow.out.env | exact hrw.out.env)
      go_region_held3 (fun V => V.cell? ⟨g, H, none⟩ = some (.int .i64 y.2) ∧ V.cell? ⟨g, a, none⟩ = some (.int .i64 x.2)) (go_keep)
        (first
          | (go_at_call 80; (with_reducible refine (cmp_any HENV.out.drew y1 x1).mono ?_); rintro e w2 ⟨rfl, hb2⟩; have hbd : Below wr.heap.size wr w2 := (below_drew1 wr).trans hb2; have z0 := cell_later hbd y0; have z2 := cell_later hbd x0; have HB2 := Lib.hid hbd; clear hbd hb2))
      have Hrw := Lib.hid (hrow.out.later (World.block_lt_of_cell? wr _ y0) HB2.out)
      have Hgr := Lib.hid (grown_of_below hgr.out HB2.out)
      clear y0 x0 z0 z2 hrow hgr HB2
      cases hk : plt y.1 x.1 with
      | true =>
        have hcmp : cmpP y.1 x.1 < 0 := (compare_plt _ _).2 hk
        have hcmp2 : decide (cmpP y.1 x.1 < 0) = true := by simpa using hcmp
        have HL : Hid (H + 1 = m ∨ ∀ z, (A ++ ([x] ++ (R ++ B)))[H + 1 - 1]? = some z → plt z.1 x.1 = true) := .inr (fun z hz => by rw [Nat.add_sub_cancel, HY.out] at hz; have e : y = z := (by simpa using hz); rw [← e]; exact hk)
        clear hk
        go_wp2_with fail
        exact ⟨⟨H + 1, j, by simp, rfl, by omega, by omega, hjb, HL, hhi, Hrw, Hgr⟩, by show ((j : Int)).toNat - ((H : Int) + 1).toNat < ((j : Int)).toNat - ((i : Int)).toNat; omega⟩
      | false =>
        have hcmp : ¬ cmpP y.1 x.1 < 0 := fun e => by rw [compare_plt, hk] at e; cases e
        have hcmp2 : decide (cmpP y.1 x.1 < 0) = false := by simpa using hcmp
        have HL : Hid (H = b ∨ ∀ z, (A ++ ([x] ++ (R ++ B)))[H]? = some z → plt z.1 x.1 = false) := .inr (fun z hz => by rw [HY.out] at hz; have e : y = z := (by simpa using hz); rw [← e]; exact hk)
        clear hk
        go_wp2_with fail
        exact ⟨⟨i, H, rfl, rfl, hmi, hh1, by omega, hlo, HL, Hrw, Hgr⟩, by show ((H : Int)).toNat - ((i : Int)).toNat < ((j : Int)).toNat - ((i : Int)).toNat; omega⟩
    · obtain rfl : j = i := by omega
      -- R's part that is less goes ahead
      obtain ⟨Y, R2, hRY, hYl, hY, hR2⟩ : ∃ Y R2, R = Y ++ R2 ∧ m + Y.length = j ∧ (∀ y ∈ Y, plt y.1 x.1 = true) ∧ ∀ r ∈ R2, plt r.1 x.1 = false := by
        have hb' := Hb.out
        have hm' := Hm.out
        refine ⟨R.take (j - m), R.drop (j - m), (List.take_append_drop _ _).symm, by rw [List.length_take]; omega, fun y hy => ?_, fun r hr => ?_⟩
        · obtain ⟨k, hk⟩ := List.mem_iff_getElem?.1 hy
          rw [List.getElem?_take] at hk
          split at hk
          · rename_i hkl
            have hk2 := (List.getElem?_eq_some_iff.1 hk).1
            obtain ⟨z, hz⟩ : ∃ z, R[j - 1 - m]? = some z := ⟨R[j - 1 - m]'(by omega), List.getElem?_eq_getElem _⟩
            have h1 := hlo.out.resolve_left (by omega) z (by
              have := at_right (A := A) (L := [x]) (R := R) (B := B) HA.out (m := m) (by simpa using hm') (j := j - 1 - m) (by omega)
              rw [show m + (j - 1 - m) = j - 1 by omega, hz] at this; exact this)
            exact plt_le_trans (sortedW_at HRs.out hk hz (by omega)) h1
          · cases hk
        · obtain ⟨k, hk⟩ := List.mem_iff_getElem?.1 hr
          rw [List.getElem?_drop] at hk
          have hk2 := (List.getElem?_eq_some_iff.1 hk).1
          obtain ⟨z, hz⟩ : ∃ z, R[j - m]? = some z := ⟨R[j - m]'(by omega), List.getElem?_eq_getElem _⟩
          have h1 := hhi.out.resolve_left (by omega) z (by
            have := at_right (A := A) (L := [x]) (R := R) (B := B) HA.out (m := m) (by simpa using hm') (j := j - m) (by omega)
            rw [show m + (j - m) = j by omega, hz] at this; exact this)
          exact kle_trans h1 (sortedW_at HRs.out hz hk (by omega))
      have HF : Hid (isort ([x] ++ R) = Y ++ ([x] ++ R2)) := by
        show _ = _
        have hs := HRs.out
        rw [hRY] at hs ⊢
        obtain ⟨s1, s2, _⟩ := sortedW_app.1 hs
        have h := isort_cut (L1 := []) (X := [x]) (Y := Y) (R2 := R2) (by simp [SortedW]) hs (fun x' hx' y hy => by have e : x' = x := (by simpa using hx'); rw [e]; exact hY y hy) (fun a ha => by cases ha)
        rw [List.nil_append, List.nil_append, isort_sorted s1, isort_sorted (l := [x] ++ R2) (List.pairwise_cons.2 ⟨hR2, s2⟩)] at h
        exact h.symm
      have HRY := Lib.hid hRY
      have HYl := Lib.hid hYl
      have ej : (j : Int) - 1 = ((j - 1 : Nat) : Int) := by have := Hm.out; omega
      clear hlo hhi hRY hYl hY hR2 hlt HX
      go_wp2_with fail
      go_loopw [13] (fun v wr2 => ∃ (k : Nat) (Y1 Y2 : List Pl), v = .int .i64 k ∧ a ≤ k ∧ k ≤ j - 1 ∧ Hid (Y = Y1 ++ Y2) ∧ Hid (a + Y1.length = k) ∧ Hid (PRow κ wr2 g ((A ++ Y1) ++ x :: (Y2 ++ (R2 ++ B)))) ∧ Hid (w.grownBy wr2 (some g)))
        (fun v _ => (j - 1) - (intOf v).toNat)
      case atStart => exact ⟨a, [], Y, rfl, Nat.le_refl _, by have := Hm.out; omega, rfl, rfl, (by show PRow κ _ _ _; have h := hrow.out; rw [HRY.out] at h; simpa using h), hgr⟩
      case round =>
        obtain ⟨k, Y1, Y2, rfl, hak, hkj, hYY, hY1, hrw, hg2⟩ := hrel
        have ek : IntKind.i64.wrap ((k : Int) + 1) = (k : Int) + 1 := IntWalk.i64_in _ (by omega)
        have hYn : Y1.length + Y2.length + m = j := by have h := HYl.out; rw [hYY.out, List.length_append] at h; omega
        by_cases hkt : k < j - 1
        · obtain ⟨y, Y3, rfl⟩ : ∃ y Y3, Y2 = y :: Y3 := by
            cases Y2 with
            | nil => have := hY1.out; have := Hm.out; simp at hYn; omega
            | cons y l => exact ⟨y, l, rfl⟩
          have hAl : (A ++ Y1).length = k := by rw [List.length_append, HA.out]; exact hY1.out
          have x01 := hrw.out.at1 (p := k) (q := x) (by rw [← hAl]; simp)
          have y01 := hrw.out.at1 (p := k + 1) (q := y) (by rw [← hAl, List.getElem?_append_right (by omega), Nat.add_sub_cancel_left]; rfl)
          obtain ⟨x0, x1⟩ := x01
          obtain ⟨y0, y1⟩ := y01
          have zx0 := hrw.out.fz k
          have zy0 := hrw.out.fz (k + 1)
          have hI0 : (0 : Int) ≤ (k : Int) := by omega
          have hI1 : (k : Int) < ((j - 1 : Nat) : Int) := by omega
          have hI2 : (k : Int) + 1 < (N : Int) := by omega
          have hI3 : ((k : Int) + 1).toNat = k + 1 := by omega
          have hI4 : (k : Int) < (N : Int) := by omega
          have HAl := Lib.hid hAl
          have Hrw : Hid (PRow κ wr g ((A ++ Y1) ++ x :: ([] ++ y :: (Y3 ++ (R2 ++ B))))) := hrw
          have hkj2 := Lib.hid hkj
          clear hAl hrw hYn
          go_wp2_with fail
          go_region
          all_goals
            generalize hW : World.drew _ = W
            obtain ⟨h2, h3⟩ := Hrw.out.swap2 (W := W) (q := k + 1) HAl.out rfl hg2.out hW
            have H2 : Hid (PRow κ W g ((A ++ (Y1 ++ [y])) ++ x :: (Y3 ++ (R2 ++ B)))) := by show PRow κ _ _ _; simpa using h2
            have H3 := Lib.hid h3
            have H4 : Hid (Y = (Y1 ++ [y]) ++ Y3) := by show _ = _; rw [hYY.out]; simp
            have H5 : Hid (a + (Y1 ++ [y]).length = k + 1) := by show _ = _; rw [List.length_append]; have := hY1.out; simp; omega
            clear h2 h3 hW x0 x1 y0 y1 zx0 zy0
            go_wp2_with fail
            exact ⟨⟨k + 1, Y1 ++ [y], Y3, by simp, by omega, by omega, H4, H5, H2, H3⟩, by show (j - 1) - ((k : Int) + 1).toNat < (j - 1) - ((k : Int)).toNat; omega⟩
        · obtain rfl : k = j - 1 := by omega
          obtain rfl : Y2 = [] := List.eq_nil_of_length_eq_zero (by have := hY1.out; have := Hm.out; omega)
          have H1 : Hid (PRow κ wr g (A ++ (isort ([x] ++ R) ++ B))) := by
            show PRow κ _ _ _
            have h := hrw.out
            have h2 := hYY.out
            rw [List.append_nil] at h2
            subst h2
            rw [HF.out]; simpa using h
          have hI1 : ¬ ((j - 1 : Nat) : Int) < ((j - 1 : Nat) : Int) := by omega
          clear hrw hYY hYn
          go_wp2_with fail
          (try simp only [Exit.inBlock, Exit.then])
          refine bodyPost_ret (results_none rfl _ _ _) rfl ?_
          exact ⟨rfl, H1.out, hg2.out⟩

end Go.Proofs.Ytdgnjalbpiciiaa

/- S5 -/
namespace Go.Proofs.Ytdgnjalbpiciiaa
set_option linter.unusedVariables false
set_option linter.unusedSimpArgs false
open Go.RowKit
variable {κ : Env}

set_option maxRecDepth 100000 in
set_option maxHeartbeats 12800000 in
theorem sym_right {w : World} {g c N a m b : Nat} {A L B : List Pl} {y : Pl} (hr : PRow κ w g (A ++ (L ++ ([y] ++ B)))) (hgl : g < w.heap.size) (hA : A.length = a) (hm : a + L.length = m) (hb : m + 1 = b) (hL2 : 2 ≤ L.length) (hN : (A ++ (L ++ ([y] ++ B))).length = N) (hc : N ≤ c) (hNb : N ≤ 1073741824) (hL : SortedW L) :
    Calls Try.prog 116 #[.slice (some ⟨g, 0, none⟩) N c, .int .i64 a, .int .i64 m, .int .i64 b, .func (.func 80) #[] #[.pointer (some ⟨κ.bx, 0, none⟩)]] w (SymP κ g (A ++ (isort (L ++ [y]) ++ B)) w) := by
  have hbN : b ≤ N := by rw [← hN]; simp only [List.length_append, List.length_cons, List.length_nil]; omega
  have HA := Lib.hid hA
  have HN := Lib.hid hN
  have HLs := Lib.hid hL
  have Hb := Lib.hid hb
  have Hm := Lib.hid hm
  have HR := Lib.hid hr
  have Hgl := Lib.hid hgl
  have e1 : ((m : Int) - (a : Int) == 1) = false := by rw [beq_eq_false_iff_ne]; omega
  have e2 : (b : Int) - (m : Int) = 1 := by omega
  have ham : a + 2 ≤ m := by omega
  have hy : (A ++ (L ++ ([y] ++ B)))[m]? = some y := by have := at_right (A := A) (L := L) (R := [y]) (B := B) hA hm (j := 0) (by simp); simpa using this
  have HY := Lib.hid hy
  clear hA hN hL hb hm hr hgl hy hL2
  go_enter Try.func116, Try.ntmps116
  go_wp2_with fail
  clear e1 e2
  go_loopw [14, 15] (fun u v wr => ∃ (i j : Nat), u = .int .i64 i ∧ v = .int .i64 j ∧ a ≤ i ∧ i ≤ j ∧ j ≤ m ∧ Hid (i = a ∨ ∀ x, (A ++ (L ++ ([y] ++ B)))[i - 1]? = some x → plt y.1 x.1 = false) ∧ Hid (j = m ∨ ∀ x, (A ++ (L ++ ([y] ++ B)))[j]? = some x → plt y.1 x.1 = true) ∧ Hid (PRow κ wr g (A ++ (L ++ ([y] ++ B)))) ∧ Hid (w.grownBy wr (some g)))
    (fun u v _ => (intOf v).toNat - (intOf u).toNat)
  case atStart => exact ⟨a, m, rfl, rfl, Nat.le_refl _, by omega, Nat.le_refl _, .inl rfl, .inl rfl, HR, grown_refl _ _⟩
  case round =>
    obtain ⟨i, j, rfl, rfl, hai, hij, hjm, hlo, hhi, hrow, hgr⟩ := hrel
    have hmb : m < N := by have := Hb.out; omega
    by_cases hlt : i < j
    · obtain ⟨hh1, hh2⟩ := half_in hlt
      have hH := half_int i j
      generalize (i + j) / 2 = H at *
      obtain ⟨x, hx⟩ : ∃ x, (A ++ (L ++ ([y] ++ B)))[H]? = some x := ⟨(A ++ (L ++ ([y] ++ B)))[H]'(by rw [HN.out]; omega), List.getElem?_eq_getElem _⟩
      obtain ⟨x0, x1⟩ := hrow.out.at1 hx
      obtain ⟨y0, y1⟩ := hrow.out.at1 HY.out
      have hI : (i : Int) < (j : Int) := by omega
      have hH0 : (0 : Int) ≤ (H : Int) := by omega
      have hH1 : (H : Int) < (N : Int) := by omega
      have ha0 : (0 : Int) ≤ (m : Int) := by omega
      have ha1 : (m : Int) < (N : Int) := by omega
      have eH : IntKind.i64.wrap ((H : Int) + 1) = (H : Int) + 1 := IntWalk.i64_in _ (by omega)
      have HX := Lib.hid hx
      clear hx
      go_wp2_with fail
      have HENV : Hid (κ.ok wr g) := Lib.hid (by first | exact Hrw.out.env | exact hrow.out.env | exact hrw.out.env)
      go_region_held3 (fun V => V.cell? ⟨g, m, none⟩ = some (.int .i64 y.2) ∧ V.cell? ⟨g, H, none⟩ = some (.int .i64 x.2)) (go_keep)
        (first
          | (go_at_call 80; (with_reducible refine (cmp_any HENV.out.drew y1 x1).mono ?_); rintro e w2 ⟨rfl, hb2⟩; have hbd : Below wr.heap.size wr w2 := (below_drew1 wr).trans hb2; have z0 := cell_later hbd y0; have z2 := cell_later hbd x0; have HB2 := Lib.hid hbd; clear hbd hb2))
      have Hrw := Lib.hid (hrow.out.later (World.block_lt_of_cell? wr _ y0) HB2.out)
      have Hgr := Lib.hid (grown_of_below hgr.out HB2.out)
      clear y0 x0 z0 z2 hrow hgr HB2
      cases hk : plt y.1 x.1 with
      | true =>
        have hcmp : cmpP y.1 x.1 < 0 := (compare_plt _ _).2 hk
        have hcmp2 : decide (cmpP y.1 x.1 < 0) = true := by simpa using hcmp
        have hcmp3 : (!decide (cmpP y.1 x.1 < 0)) = false := by rw [hcmp2]; rfl
        have HL : Hid (H = m ∨ ∀ z, (A ++ (L ++ ([y] ++ B)))[H]? = some z → plt y.1 z.1 = true) := .inr (fun z hz => by rw [HX.out] at hz; have e : x = z := (by simpa using hz); rw [← e]; exact hk)
        clear hk
        go_wp2_with fail
        all_goals first
          | exact ⟨⟨i, H, rfl, rfl, hai, hh1, by omega, hlo, HL, Hrw, Hgr⟩, by show ((H : Int)).toNat - ((i : Int)).toNat < ((j : Int)).toNat - ((i : Int)).toNat; omega⟩
          | (rename_i hX; exact absurd hX (by rw [hcmp2]; decide))
      | false =>
        have hcmp : ¬ cmpP y.1 x.1 < 0 := fun e => by rw [compare_plt, hk] at e; cases e
        have hcmp2 : decide (cmpP y.1 x.1 < 0) = false := by simpa using hcmp
        have hcmp3 : (!decide (cmpP y.1 x.1 < 0)) = true := by rw [hcmp2]; rfl
        have HL : Hid (H + 1 = a ∨ ∀ z, (A ++ (L ++ ([y] ++ B)))[H + 1 - 1]? = some z → plt y.1 z.1 = false) := .inr (fun z hz => by rw [Nat.add_sub_cancel, HX.out] at hz; have e : x = z := (by simpa using hz); rw [← e]; exact hk)
        clear hk
        go_wp2_with fail
        all_goals first
          | exact ⟨⟨H + 1, j, by simp, rfl, by omega, by omega, hjm, HL, hhi, Hrw, Hgr⟩, by show ((j : Int)).toNat - ((H : Int) + 1).toNat < ((j : Int)).toNat - ((i : Int)).toNat; omega⟩
          | (rename_i hX; exact absurd hX (by rw [hcmp2]; decide))
    · obtain rfl : j = i := by omega
      obtain ⟨L1, X, hLX, hLl, hL1, hX⟩ : ∃ L1 X, L = L1 ++ X ∧ a + L1.length = j ∧ (∀ l ∈ L1, plt y.1 l.1 = false) ∧ ∀ x ∈ X, plt y.1 x.1 = true := by
        have hm' := Hm.out
        refine ⟨L.take (j - a), L.drop (j - a), (List.take_append_drop _ _).symm, by rw [List.length_take]; omega, fun l hl => ?_, fun x hx => ?_⟩
        · obtain ⟨k, hk⟩ := List.mem_iff_getElem?.1 hl
          rw [List.getElem?_take] at hk
          split at hk
          · rename_i hkl
            have hk2 := (List.getElem?_eq_some_iff.1 hk).1
            obtain ⟨z, hz⟩ : ∃ z, L[j - 1 - a]? = some z := ⟨L[j - 1 - a]'(by omega), List.getElem?_eq_getElem _⟩
            have h1 := hlo.out.resolve_left (by omega) z (by
              have := at_left (A := A) (L := L) (Z := [y] ++ B) HA.out (i := j - 1 - a) (by omega)
              rw [show a + (j - 1 - a) = j - 1 by omega, hz] at this; exact this)
            exact kle_trans (sortedW_at HLs.out hk hz (by omega)) h1
          · cases hk
        · obtain ⟨k, hk⟩ := List.mem_iff_getElem?.1 hx
          rw [List.getElem?_drop] at hk
          have hk2 := (List.getElem?_eq_some_iff.1 hk).1
          obtain ⟨z, hz⟩ : ∃ z, L[j - a]? = some z := ⟨L[j - a]'(by omega), List.getElem?_eq_getElem _⟩
          have h1 := hhi.out.resolve_left (by omega) z (by
            have := at_left (A := A) (L := L) (Z := [y] ++ B) HA.out (i := j - a) (by omega)
            rw [show a + (j - a) = j by omega, hz] at this; exact this)
          exact plt_trans_le h1 (sortedW_at HLs.out hz hk (by omega))
      have HF : Hid (isort (L ++ [y]) = L1 ++ ([y] ++ X)) := by
        show _ = _
        have hs := HLs.out
        rw [hLX] at hs ⊢
        obtain ⟨s1, s2, _⟩ := sortedW_app.1 hs
        have h := isort_cut (L1 := L1) (X := X) (Y := [y]) (R2 := []) hs (by simp [SortedW]) (fun x hx y' hy' => by have e : y' = y := (by simpa using hy'); rw [e]; exact hX x hx) (fun _ _ r hr => by cases hr)
        rw [List.append_nil, List.append_nil, isort_sorted s2, isort_sorted (l := L1 ++ [y]) (sortedW_app.2 ⟨s1, by simp [SortedW], fun p hp q hq => by have e : q = y := (by simpa using hq); rw [e]; exact hL1 p hp⟩)] at h
        rw [← h]; simp
      have HLX := Lib.hid hLX
      have HLl := Lib.hid hLl
      clear hlo hhi hLX hLl hL1 hX hlt HY
      go_wp2_with fail
      go_loopw [17] (fun v wr2 => ∃ (k : Nat) (X1 X2 : List Pl), v = .int .i64 k ∧ j ≤ k ∧ k ≤ m ∧ Hid (X = X1 ++ X2) ∧ Hid (j + X1.length = k) ∧ Hid (PRow κ wr2 g ((A ++ L1) ++ (X1 ++ y :: (X2 ++ B)))) ∧ Hid (w.grownBy wr2 (some g)))
        (fun v _ => (intOf v).toNat)
      case atStart => exact ⟨m, X, [], rfl, hjm, Nat.le_refl _, (by show _ = _; simp), (by show _ = _; have h := Hm.out; rw [HLX.out, List.length_append] at h; have := HLl.out; omega), (by show PRow κ _ _ _; have h := hrow.out; rw [HLX.out] at h; simpa using h), hgr⟩
      case round =>
        obtain ⟨k, X1, X2, rfl, hjk, hkm, hXX, hX1, hrw, hg2⟩ := hrel
        by_cases hkt : j < k
        · obtain ⟨X3, x, rfl⟩ : ∃ X3 x, X1 = X3 ++ [x] := by
            rcases List.eq_nil_or_concat X1 with rfl | ⟨X3, x, rfl⟩
            · have := hX1.out; simp at this; omega
            · exact ⟨X3, x, List.concat_eq_append⟩
          obtain ⟨k, rfl⟩ : ∃ k', k = k' + 1 := ⟨k - 1, by omega⟩
          have hAl : ((A ++ L1) ++ X3).length = k := by rw [List.length_append, List.length_append, HA.out]; have h1 := hX1.out; have h2 := HLl.out; rw [List.length_append] at h1; simp at h1; omega
          have hrw2 : PRow κ wr g (((A ++ L1) ++ X3) ++ x :: y :: (X2 ++ B)) := by simpa using hrw.out
          have x01 := hrw2.at1 (p := k) (q := x) (by rw [← hAl]; simp)
          have y01 := hrw2.at1 (p := k + 1) (q := y) (by rw [← hAl, List.getElem?_append_right (by omega), Nat.add_sub_cancel_left]; rfl)
          obtain ⟨x0, x1⟩ := x01
          obtain ⟨y0, y1⟩ := y01
          have zx0 := hrw2.fz k
          have zy0 := hrw2.fz (k + 1)
          have ek : IntKind.i64.wrap (k : Int) = (k : Int) := IntWalk.i64_in _ (by omega)
          have ek1 : ((k + 1 : Nat) : Int) - 1 = (k : Int) := by omega
          have hI1 : (0 : Int) ≤ (k : Int) + 1 := by omega
          have hI2 : (k : Int) + 1 < (N : Int) := by omega
          have hI3 : ((k : Int) + 1).toNat = k + 1 := by omega
          have hI4 : (k : Int) < (N : Int) := by omega
          have hI5 : (0 : Int) ≤ (k : Int) := by omega
          have hI6 : (j : Int) < (k : Int) + 1 := by omega
          have HAl := Lib.hid hAl
          have Hrw := Lib.hid hrw2
          clear hAl hrw hrw2
          go_wp2_with fail
          go_region
          all_goals
            generalize hW : World.drew _ = W
            obtain ⟨h2, h3⟩ := Hrw.out.swap2r (W := W) HAl.out rfl hg2.out hW
            have H2 : Hid (PRow κ W g ((A ++ L1) ++ (X3 ++ y :: ((x :: X2) ++ B)))) := by show PRow κ _ _ _; simpa using h2
            have H3 := Lib.hid h3
            have H4 : Hid (X = X3 ++ (x :: X2)) := by show _ = _; rw [hXX.out]; simp
            have H5 : Hid (j + X3.length = k) := by show _ = _; have := hX1.out; rw [List.length_append] at this; simp at this; omega
            clear h2 h3 hW x0 x1 y0 y1 zx0 zy0
            go_wp2_with fail
            exact ⟨⟨k, X3, x :: X2, by simp, by omega, by omega, H4, H5, H2, H3⟩, by show k < k + 1; omega⟩
        · obtain rfl : k = j := by omega
          obtain rfl : X1 = [] := List.eq_nil_of_length_eq_zero (by have := hX1.out; omega)
          have H1 : Hid (PRow κ wr g (A ++ (isort (L ++ [y]) ++ B))) := by
            show PRow κ _ _ _
            have h := hrw.out
            have h2 := hXX.out
            rw [List.nil_append] at h2
            subst h2
            rw [HF.out]; simpa using h
          clear hrw hXX
          go_wp2_with fail
          (try simp only [Exit.inBlock, Exit.then])
          refine bodyPost_ret (results_none rfl _ _ _) rfl ?_
          exact ⟨rfl, H1.out, hg2.out⟩
end Go.Proofs.Ytdgnjalbpiciiaa
