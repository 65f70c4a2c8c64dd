/-
  Placed pairs sorted by insertion. (Written by gendsort.py out of tree's.)
-/
import Derived.Test.YtcbgnmolfdhnfaaEC
namespace Go.Proofs.Ytcbgnmolfdhnfaa
set_option linter.unusedVariables false
set_option linter.unusedSimpArgs false
open Go.RowKit

/-- Pairs in a block that may be written. -/
structure PRow (w : World) (g : Nat) (xs : List Pl) : Prop where
  pairs : PairsAt w g 0 xs
  fz : ∀ i, w.frozen? ⟨g, i, none⟩ = false
theorem PRow.later {w w' : World} {g : Nat} {xs : List Pl} (h : PRow w g xs) (hl : g < w.heap.size) (hb : Below w.heap.size w w') : PRow w' g xs :=
  ⟨h.pairs.later hb, fun i => (hb.frozen (p := ⟨g, i, none⟩) hl).trans (h.fz i)⟩
theorem PRow.drew {w : World} {g : Nat} {xs : List Pl} (h : PRow w g xs) : PRow w.drew g xs := ⟨h.pairs, h.fz⟩

theorem PRow.drewN {w : World} {g : Nat} {xs : List Pl} (h : PRow w g xs) (q : Nat) : PRow (w.drewN q) g xs := ⟨h.pairs, h.fz⟩

/-- A pair is laid at a place. -/
def putPair (w : World) (g i : Nat) (p : Pl) : World := ((w.setCell ⟨g, i * 3, none⟩ (.string p.1.2)).setCell ⟨g, i * 3 + 1, none⟩ (.string p.2)).setCell ⟨g, i * 3 + 2, none⟩ (.int .u64 p.1.1)
theorem putPair_size (w : World) (g i : Nat) (p : Pl) : (putPair w g i p).heap.size = w.heap.size := by simp [putPair, World.setCell]
theorem grown_put (w : World) (g i : Nat) (p : Pl) : w.grownBy (putPair w g i p) (some g) :=
  ⟨rfl, rfl, rfl, by rw [putPair_size]; exact Nat.le_refl _, fun k _ hk => by
    have h : g ≠ k := fun e => hk (by rw [e])
    unfold putPair
    rw [Below.heap_setCell _ _ _ _ (by simpa using Ne.symm h), Below.heap_setCell _ _ _ _ (by simpa using Ne.symm h), Below.heap_setCell _ _ _ _ (by simpa using Ne.symm h)]⟩
theorem PRow.put {w : World} {g : Nat} {A B : List Pl} {q : Pl} (h : PRow w g (A ++ q :: B)) (p : Pl) : PRow (putPair w g A.length p) g (A ++ p :: B) := by
  have hq := h.pairs A.length q (by simp)
  simp only [Nat.zero_add] at hq
  refine ⟨fun i r hr => ?_, fun i => (World.frozen?_setCell _ _ _ _).trans ((World.frozen?_setCell _ _ _ _).trans ((World.frozen?_setCell _ _ _ _).trans (h.fz i)))⟩
  simp only [Nat.zero_add]
  by_cases hi : i = A.length
  · subst hi
    have : r = p := by simpa using hr.symm
    subst this
    unfold putPair
    refine ⟨?_, ?_, ?_⟩
    · rw [World.cell?_setCell_other _ _ _ _ (by simp), World.cell?_setCell_other _ _ _ _ (by simp)]; exact World.cell?_setCell_same _ _ _ hq.1
    · rw [World.cell?_setCell_other _ _ _ _ (by simp)]; exact World.cell?_setCell_same _ _ _ ((World.cell?_setCell_other _ _ _ _ (by simp)).trans hq.2.1)
    · exact World.cell?_setCell_same _ _ _ ((World.cell?_setCell_other _ _ _ _ (by simp)).trans ((World.cell?_setCell_other _ _ _ _ (by simp)).trans hq.2.2))
  · have hr' : (A ++ q :: B)[i]? = some r := by
      rcases Nat.lt_or_ge i A.length with hlt | hge
      · rw [List.getElem?_append_left hlt] at hr ⊢; exact hr
      · rw [List.getElem?_append_right hge] at hr ⊢
        obtain ⟨k, hk⟩ : ∃ k, i - A.length = k + 1 := ⟨i - A.length - 1, by omega⟩
        rw [hk] at hr ⊢; simpa using hr
    have hc := h.pairs i r hr'
    simp only [Nat.zero_add] at hc
    unfold putPair
    refine ⟨?_, ?_, ?_⟩
    · rw [World.cell?_setCell_other _ _ _ _ (by simp <;> omega), World.cell?_setCell_other _ _ _ _ (by simp <;> omega), World.cell?_setCell_other _ _ _ _ (by simp <;> omega)]; exact hc.1
    · rw [World.cell?_setCell_other _ _ _ _ (by simp <;> omega), World.cell?_setCell_other _ _ _ _ (by simp <;> omega), World.cell?_setCell_other _ _ _ _ (by simp <;> omega)]; exact hc.2.1
    · rw [World.cell?_setCell_other _ _ _ _ (by simp <;> omega), World.cell?_setCell_other _ _ _ _ (by simp <;> omega), World.cell?_setCell_other _ _ _ _ (by simp <;> omega)]; exact hc.2.2

/-- A pair that is put behind all that is not more. -/
def ins (S : List Pl) (p : Pl) : List Pl := (S.reverse.dropWhile (fun q => plt p.1 q.1)).reverse ++ p :: (S.reverse.takeWhile (fun q => plt p.1 q.1)).reverse
def isort (l : List Pl) : List Pl := l.foldl ins []
theorem ins_length (S : List Pl) (p : Pl) : (ins S p).length = S.length + 1 := by
  have h := congrArg List.length (List.takeWhile_append_dropWhile (p := fun q : Pl => plt p.1 q.1) (l := S.reverse))
  simp only [List.length_append, List.length_reverse] at h
  simp only [ins, List.length_append, List.length_reverse, List.length_cons]
  omega
theorem ins_of {A C : List Pl} {p : Pl} (hC : ∀ q ∈ C, plt p.1 q.1 = true) (hA : ∀ q, A.getLast? = some q → plt p.1 q.1 = false) : ins (A ++ C) p = A ++ p :: C := by
  have h1 : ∀ (C : List Pl) (A : List Pl), (∀ q ∈ C, plt p.1 q.1 = true) → (C ++ A).dropWhile (fun q => plt p.1 q.1) = A.dropWhile (fun q => plt p.1 q.1) ∧ (C ++ A).takeWhile (fun q => plt p.1 q.1) = C ++ A.takeWhile (fun q => plt p.1 q.1) := by
    intro C
    induction C with
    | nil => intro A _; exact ⟨rfl, rfl⟩
    | cons c C ih =>
      intro A h
      have hc := h c (by simp)
      have := ih A (fun q hq => h q (by simp [hq]))
      simp [hc, this]
  have h2 : (A.reverse.dropWhile fun q => plt p.1 q.1) = A.reverse ∧ (A.reverse.takeWhile fun q => plt p.1 q.1) = [] := by
    cases hr : A.reverse with
    | nil => exact ⟨rfl, rfl⟩
    | cons a B =>
      have : A.getLast? = some a := by rw [List.getLast?_eq_head?_reverse, hr]; rfl
      simp [hA a this]
  unfold ins
  rw [List.reverse_append]
  have h3 := h1 C.reverse A.reverse (fun q hq => hC q (by simpa using hq))
  rw [h3.1, h3.2, h2.1, h2.2]
  simp

/-- What stands behind an insertion. -/
def Sorts (g : Nat) (ys : List Pl) (w : World) (w' : World) : Prop := PRow w' g ys ∧ w.grownBy w' (some g)

theorem isort_step (xs : List Pl) {i : Nat} {p : Pl} (h : xs[i]? = some p) : isort (xs.take (i + 1)) = ins (isort (xs.take i)) p := by
  have hlt := (List.getElem?_eq_some_iff.1 h).1
  have he := (List.getElem?_eq_some_iff.1 h).2
  rw [List.take_add_one, h]
  simp [isort, List.foldl_append]
theorem isort_length (l : List Pl) : (isort l).length = l.length := by
  have h : ∀ (l a : List Pl), (l.foldl ins a).length = a.length + l.length := by
    intro l
    induction l with
    | nil => intro a; simp
    | cons p l ih => intro a; rw [List.foldl_cons, ih, ins_length]; simp; omega
  rw [isort, h]; simp

theorem grown_of_below {w w1 w2 : World} {row : Option Nat} (h1 : w.grownBy w1 row) (h2 : Below w1.heap.size w1 w2) : w.grownBy w2 row :=
  ⟨h2.os.trans h1.os, h2.tape.trans h1.tape, h2.output.trans h1.output, Nat.le_trans h1.size h2.size, fun k hk hne => (h2.block k (Nat.lt_of_lt_of_le hk h1.size)).trans (h1.block k hk hne)⟩

set_option maxRecDepth 100000 in
set_option maxHeartbeats 6400000 in
theorem insertion_any {w : World} {g c n : Nat} {xs : List Pl} (hr : PRow w g xs) (hgl : g < w.heap.size) (hn : xs.length = n) (hn1 : 1 ≤ n) (hc : n ≤ c) (hnb : n ≤ 1073741824) :
    Calls Try.prog 119 #[.slice (some ⟨g, 0, none⟩) n c, .int .i64 0, .int .i64 n, .func (.func 81) #[] #[]] w fun e w' => e = .returned (.tuple #[]) ∧ Sorts g (isort xs) w w' := by
  have HR := Lib.hid hr
  have Hgl := Lib.hid hgl
  have Hn := Lib.hid hn
  clear hr hgl hn
  go_enter Try.func119, Try.ntmps119
  go_wp2_with fail
  go_loopw [8] (fun v wr => ∃ (i : Nat), v = .int .i64 i ∧ 1 ≤ i ∧ i ≤ n ∧ Hid (PRow wr g (isort (xs.take i) ++ xs.drop i)) ∧ Hid (w.grownBy wr (some g)))
    (fun v _ => n - (intOf v).toNat)
  case atStart =>
    refine ⟨1, rfl, Nat.le_refl _, hn1, ?_, grown_refl _ _⟩
    have : isort (xs.take 1) ++ xs.drop 1 = xs := by
      cases hx : xs with
      | nil => have := Hn.out; rw [hx] at this; simp at this; omega
      | cons a l => rfl
    show PRow w g _
    rw [this]; exact HR.out
  case round =>
    obtain ⟨i, rfl, hi1, hin, hrow, hgr⟩ := hrel
    have ei : IntKind.i64.wrap ((i : Int) + 1) = (i : Int) + 1 := IntWalk.i64_in _ (by omega)
    by_cases hlt : i < n
    · obtain ⟨p, hp⟩ : ∃ p, xs[i]? = some p := ⟨xs[i]'(by rw [Hn.out]; exact hlt), List.getElem?_eq_getElem _⟩
      obtain ⟨S, hS⟩ : ∃ S, S = isort (xs.take i) := ⟨_, rfl⟩
      have hSl : S.length = i := by rw [hS, isort_length, List.length_take, Hn.out]; omega
      obtain ⟨D, hD⟩ : ∃ D, D = xs.drop (i + 1) := ⟨_, rfl⟩
      have hrow' : Hid (PRow wr g (S ++ p :: D)) := by
        have h1 : xs.drop i = p :: D := by rw [hD]; have := (List.getElem?_eq_some_iff.1 hp); rw [← this.2]; exact List.drop_eq_getElem_cons this.1
        have := hrow.out
        rw [h1, ← hS] at this; exact this
      have Hp := Lib.hid hp
      have HS := Lib.hid hS
      have HSl := Lib.hid hSl
      have HD := Lib.hid hD
      clear hp hS hSl hD hrow
      go_wp2_with fail
      go_loopw [9] (fun v wr2 => ∃ (j : Nat) (A C : List Pl), v = .int .i64 j ∧ j ≤ i ∧ Hid (S = A ++ C) ∧ Hid (A.length = j) ∧ Hid (∀ q ∈ C, plt p.1 q.1 = true) ∧ Hid (PRow wr2 g (A ++ p :: (C ++ D))) ∧ Hid (w.grownBy wr2 (some g)))
        (fun v _ => (intOf v).toNat)
      case atStart => exact ⟨i, S, [], rfl, Nat.le_refl _, (by show _ = _; simp), HSl, (fun (q : Pl) (hq : q ∈ ([] : List Pl)) => absurd hq (by simp)), hrow', hgr⟩
      case round =>
        obtain ⟨j, A, C, rfl, hji, hSA, hAl, hC, hrw, hg2⟩ := hrel
        clear hrow' hgr
        have ej : IntKind.i64.wrap ((j : Int) - 1) = (j : Int) - 1 := IntWalk.i64_in _ (by omega)
        have hfin : Hid ((∀ q, A.getLast? = some q → plt p.1 q.1 = false) → isort (xs.take (i + 1)) ++ xs.drop (i + 1) = A ++ p :: (C ++ D)) := fun hA => by
          rw [isort_step xs Hp.out, ← HS.out, hSA.out, ins_of hC.out hA, ← HD.out]; simp
        by_cases hj : j = 0
        · subst hj
          obtain rfl : A = [] := List.eq_nil_of_length_eq_zero hAl.out
          rw [show ((0 : Nat) : Int) = 0 from rfl]
          go_wp2_with fail
          go_quiet (fail)
          go_wp2_with fail
          · refine ⟨⟨i + 1, by simp, by omega, by omega, ?_, grown_of_below hg2.out (below_drewN (Below.refl _ _) _)⟩, by show n - ((i : Int) + 1).toNat < n - ((i : Int)).toNat; omega⟩
            show PRow _ g _
            rw [hfin.out (fun q hq => by simp at hq)]
            exact hrw.out.drewN _
        · obtain ⟨A', q, rfl⟩ : ∃ A' q, A = A' ++ [q] := ⟨A.dropLast, A.getLast (fun e => hj (by rw [← hAl.out, e]; rfl)), (List.dropLast_concat_getLast _).symm⟩
          obtain ⟨k, rfl⟩ : ∃ k, j = k + 1 := ⟨j - 1, by omega⟩
          have hAl' : A'.length = k := by have := hAl.out; simp at this; omega
          have hrw2 : PRow wr g (A' ++ q :: p :: (C ++ D)) := by simpa using hrw.out
          have hrw3 : PRow wr g ((A' ++ [q]) ++ p :: (C ++ D)) := hrw.out
          have q0 := hrw2.pairs A'.length q (by simp)
          have p0 := hrw3.pairs (A' ++ [q]).length p (by simp)
          rw [hAl'] at q0
          rw [hAl.out] at p0
          simp only [Nat.zero_add] at q0 p0
          obtain ⟨q0, q1, q2⟩ := q0
          obtain ⟨p0, p1, p2⟩ := p0
          have HA' := Lib.hid hAl'
          have Hrw := Lib.hid hrw2
          have Hj := Lib.hid hj
          have hkn : k < n := by omega
          have hkn1 : k + 1 < n := by omega
          have ek : IntKind.i64.wrap (k : Int) = (k : Int) := IntWalk.i64_in _ (by omega)
          have ek1 : ((k + 1 : Nat) : Int) - 1 = (k : Int) := by omega
          have hI1 : (0 : Int) ≤ (k : Int) + 1 := by omega
          have hI2 : (k : Int) + 1 < (n : Int) := by omega
          have hI3 : ((k : Int) + 1).toNat = k + 1 := by omega
          clear hrw hrw2 hrw3 hAl' hj ej
          go_wp2_with fail
          go_region_held3 (fun V => V.cell? ⟨g, k * 3, none⟩ = some (.string q.1.2) ∧ V.cell? ⟨g, k * 3 + 1, none⟩ = some (.string q.2) ∧ V.cell? ⟨g, k * 3 + 2, none⟩ = some (.int .u64 q.1.1) ∧ V.cell? ⟨g, (k + 1) * 3, none⟩ = some (.string p.1.2) ∧ V.cell? ⟨g, (k + 1) * 3 + 1, none⟩ = some (.string p.2) ∧ V.cell? ⟨g, (k + 1) * 3 + 2, none⟩ = some (.int .u64 p.1.1)) (go_keep)
            (first
              | (go_at_call 81; (with_reducible refine (cmp_any wr.drew p q).mono ?_); rintro e w2 ⟨rfl, hb2⟩; have hbd : Below wr.heap.size wr w2 := (below_drew1 wr).trans hb2; have a0 := cell_later hbd q0; have a1 := cell_later hbd q1; have a2 := cell_later hbd q2; have b0 := cell_later hbd p0; have b1 := cell_later hbd p1; have b2 := cell_later hbd p2; have HB2 := Lib.hid hbd; clear hbd hb2))
          have Hrw2 := Lib.hid (Hrw.out.later (World.block_lt_of_cell? wr _ q0) HB2.out)
          have hg3 : Hid (w.grownBy w2 (some g)) := grown_of_below hg2.out HB2.out
          clear q0 q1 q2 p0 p1 p2 Hrw hg2 HB2
          cases hk : plt p.1 q.1 with
          | false =>
            have hcmp : ¬ cmpP p.1 q.1 < 0 := fun e => by rw [compare_plt, hk] at e; cases e
            have hcmp2 : decide (cmpP p.1 q.1 < 0) = false := by simpa using hcmp
            go_wp2_with fail
            refine ⟨⟨i + 1, by simp, by omega, by omega, ?_, hg3⟩, by show n - ((i : Int) + 1).toNat < n - ((i : Int)).toNat; omega⟩
            show PRow _ g _
            rw [hfin.out (fun r hr => by simp at hr; rw [← hr]; exact hk)]
            simpa using Hrw2.out
          | true =>
            have hcmp : cmpP p.1 q.1 < 0 := (compare_plt _ _).2 hk
            have hcmp2 : decide (cmpP p.1 q.1 < 0) = true := by simpa using hcmp
            have z0 := Hrw2.out.fz (k * 3)
            have z1 := Hrw2.out.fz (k * 3 + 1)
            have z1' := Hrw2.out.fz (k * 3 + 2)
            have z2 := Hrw2.out.fz ((k + 1) * 3)
            have z3 := Hrw2.out.fz ((k + 1) * 3 + 1)
            have z3' := Hrw2.out.fz ((k + 1) * 3 + 2)
            go_wp2_with fail
            go_region_with (fail)
            all_goals
              go_wp2_with fail
              have hA1 : (A' ++ [q]).length = k + 1 := by rw [List.length_append, HA'.out]; rfl
              have h1 : PRow (putPair w2 g (k + 1) q) g ((A' ++ [q]) ++ q :: (C ++ D)) := by
                rw [← hA1]
                exact PRow.put (q := p) (by simpa using Hrw2.out) q
              have h2 : PRow (putPair (putPair w2 g (k + 1) q) g k p) g (A' ++ p :: (q :: (C ++ D))) := by
                rw [← HA'.out]
                rw [← HA'.out] at h1
                exact PRow.put (q := q) (by simpa using h1) p
              refine ⟨⟨k, A', q :: C, rfl, by omega, ?_, HA', ?_, h2.drew, grown_drew (grown_seq (grown_seq hg3.out (grown_put w2 g (k + 1) q) (.inl rfl)) (grown_put _ g k p) (.inl rfl))⟩, by show k < k + 1; omega⟩
              · show S = _
                rw [hSA.out]; simp
              · show ∀ r ∈ q :: C, _
                intro r hr
                rcases List.mem_cons.1 hr with rfl | hr
                · exact hk
                · exact hC.out r hr
    · obtain rfl : i = n := by omega
      have hr : Hid (PRow wr g (isort xs)) := by
        have := hrow.out
        rw [← Hn.out, List.take_length, List.drop_length, List.append_nil] at this
        exact this
      clear hrow
      go_wp2_with fail
      go_end0
      exact ⟨rfl, hr.out, hgr.out⟩

end Go.Proofs.Ytcbgnmolfdhnfaa
