/-
  Walks: a tree of pairs.
-/
import Derived.Test.YtcncggndpnooeaaB20
namespace Go.Proofs.Ytcncggndpnooeaa
set_option linter.unusedVariables false
set_option linter.unusedSimpArgs false
open Go.RowKit

theorem prs_at : ∀ (xs : List Pr) (i : Nat), (prs xs)[2 * i]? = (xs[i]?).map (fun p => .string p.1) ∧ (prs xs)[2 * i + 1]? = (xs[i]?).map (fun p => .string p.2)
  | [], i => by simp [prs]
  | p :: l, 0 => by simp [prs]
  | p :: l, i + 1 => by
    have := prs_at l i
    have e : 2 * (i + 1) = 2 * i + 1 + 1 := by omega
    rw [e]
    simp only [prs, List.getElem?_cons_succ]
    exact this
theorem add_zero_lit (g j : Nat) : (⟨g, 0, none⟩ : Addr).add j = ⟨g, j, none⟩ := by rw [Addr.add_lit, Nat.zero_add]
theorem pairs_cells {w : World} {g : Nat} {xs : List Pr} (h : PairsAt w g 0 xs) : ∀ j u, (prs xs)[j]? = some u → w.cell? ((⟨g, 0, none⟩ : Addr).add j) = some u := by
  intro j u hj
  rw [add_zero_lit]
  rcases Nat.mod_two_eq_zero_or_one j with h0 | h0
  · obtain ⟨i, rfl⟩ : ∃ i, j = 2 * i := ⟨j / 2, by omega⟩
    rw [(prs_at xs i).1] at hj
    obtain ⟨p, hp, rfl⟩ := Option.map_eq_some_iff.1 hj
    have := (h i p hp).1
    rwa [Nat.zero_add, Nat.mul_comm] at this
  · obtain ⟨i, rfl⟩ : ∃ i, j = 2 * i + 1 := ⟨j / 2, by omega⟩
    rw [(prs_at xs i).2] at hj
    obtain ⟨p, hp, rfl⟩ := Option.map_eq_some_iff.1 hj
    have := (h i p hp).2
    rwa [Nat.zero_add, Nat.mul_comm] at this
theorem pairs_of_row {w : World} {B n g c : Nat} {xs : List Pr} (h : w.ownsRow B 34 2 (.slice (some ⟨g, 0, none⟩) n c) n (prs xs)) : PRow w g xs := by
  refine ⟨fun i p hp => ?_, fun i => ?_⟩
  · have h0 := h.cells (g := g) rfl (2 * i) (.string p.1) (by rw [(prs_at xs i).1, hp]; rfl)
    have h1 := h.cells (g := g) rfl (2 * i + 1) (.string p.2) (by rw [(prs_at xs i).2, hp]; rfl)
    rw [add_zero_lit] at h0 h1
    rw [Nat.zero_add, Nat.mul_comm]
    exact ⟨h0, h1⟩
  · rcases h.2 with ⟨h0, _⟩ | ⟨g', cap, cur, hv, _, hh, _⟩
    · cases h0
    · simp only [Value.slice.injEq, Option.some.injEq, Addr.mk.injEq, and_true, true_and] at hv
      obtain ⟨rfl, _⟩ := hv
      simp [World.frozen?, hh]
theorem prs_one (xs : List Pr) : ∀ u ∈ prs xs, u.oneCell' = true := by
  induction xs with
  | nil => intro u hu; cases hu
  | cons p l ih =>
    intro u hu
    simp only [prs, List.mem_cons] at hu
    rcases hu with rfl | rfl | hu
    · rfl
    · rfl
    · exact ih u hu

theorem row_base {w : World} {B B' n s : Nat} {E : TypeId} {v : Value} {xs : List Value} (h : B ≤ B') (hr : w.ownsRow B' E s v n xs) : w.ownsRow B E s v n xs := by
  refine ⟨hr.1, ?_⟩
  rcases hr.2 with h1 | ⟨g, cap, cur, hv, hb, rest⟩
  · exact .inl h1
  · exact .inr ⟨g, cap, cur, hv, Nat.le_trans h hb, rest⟩

set_option maxRecDepth 100000 in
set_option maxHeartbeats 3200000 in
theorem Clone_some {w : World} {g n c : Nat} {xs : List Pr} (hr : PairsAt w g 0 xs) (hn : xs.length = n) (hn1 : 1 ≤ n) (hcb : n ≤ 1073741824) :
    Calls Try.prog 61 #[.slice (some ⟨g, 0, none⟩) n c] w fun e w' => ∃ v, e = .returned v ∧ w'.ownsRow w.heap.size 34 2 v n (prs xs) ∧ Below w.heap.size w w' := by
  obtain ⟨i0, hi, hz0, hz1, hz2⟩ := info_parts Try.infoPair
  have hnil : (binOp .eql 27 (.slice (some ⟨g, 0, none⟩) n c) (.slice none 0 0)).run Try.prog w = .ok (.bool false) w := by
    simp only [binOp]
    have h : ∀ d : Nat, (Op.equalIn (d + 1) 27 (.slice (some ⟨g, 0, none⟩) n c) (.slice none 0 0)).run Try.prog w = .ok false w := fun d => by simp [Op.equalIn, run_underlying Try.underlying27]
    simp [Op.equal, Op.maxDepth, h 9999]
  have HR := Lib.hid hr
  have HB0 := Lib.hid (below_alloc w (Obj.cells #[] 34))
  clear hr
  go_enter Try.func61, Try.ntmps61
  go_wp2_with (at_builtin; go_loud (refine wpList_append_grows _ rfl _ _ 27 rfl 34 i0 _ 2 32 Try.underlying27 hi hz0 hz1 hz2 rfl (by decide) _ 0 0 [] rfl (fun h => by cases h) rfl (fun _ _ j u hj => by cases hj) ⟨g, 0, none⟩ n c (prs xs) rfl (by rw [prs_length, hn]) (pairs_cells (HR.out.later HB0.out)) (prs_one xs) (by omega) (by unfold maxLen; omega) (by omega) ?_; intro v1 w1 hown1 hg1; have Hown := Lib.hid hown1; have Hg := Lib.hid hg1; clear hown1 hg1))
  go_ret
  have h1 := Hown.out
  rw [Nat.zero_add, List.nil_append] at h1
  have hg := Hg.out
  refine ⟨v1, rfl, row_base (by simp) h1, HB0.out.grown hg HB0.out.size (fun k hk => by simp at hk)⟩

/-- A list of which, of pairs of one key one behind the other, the last one counts. -/
def dd1 (D : List Pr) (p : Pr) : List Pr :=
  match D.getLast? with
  | some q => if q.1 = p.1 then D.dropLast ++ [p] else D ++ [p]
  | none => [p]
def dd (l : List Pr) : List Pr := l.foldl dd1 []

theorem dd_step (ys : List Pr) {i : Nat} {p : Pr} (h : ys[i]? = some p) : dd (ys.take (i + 1)) = dd1 (dd (ys.take i)) p := by
  rw [List.take_add_one, h]
  simp [dd, List.foldl_append]
theorem PRow.at {w : World} {g : Nat} {A B : List Pr} {q : Pr} (h : PRow w g (A ++ q :: B)) : w.cell? ⟨g, A.length * 2, none⟩ = some (.string q.1) ∧ w.cell? ⟨g, A.length * 2 + 1, none⟩ = some (.string q.2) := by
  have := h.pairs A.length q (by simp)
  simpa using this

set_option maxRecDepth 100000 in
set_option maxHeartbeats 6400000 in
theorem Of_some {w : World} {g n c : Nat} {xs : List Pr} (hr : PairsAt w g 0 xs) (hn : xs.length = n) (hn1 : 1 ≤ n) (hn2 : n ≤ 19) :
    Calls Try.prog 27 #[.slice (some ⟨g, 0, none⟩) n c] w (Grows w (Built (dd (isort xs)))) := by
  have HC := Lib.hid (Clone_some (c := c) hr hn hn1 (by omega))
  clear hr
  go_enter Try.func27, Try.ntmps27
  go_wp2_with fail
  go_fit HC.out
  rintro e w1 ⟨v1, rfl, hown, hb1⟩
  obtain ⟨g1, c1, rfl⟩ : ∃ g1 c1, v1 = .slice (some ⟨g1, 0, none⟩) n c1 := by
    rcases hown.2 with ⟨_, h0⟩ | ⟨g1, cap, cur, rfl, _⟩
    · omega
    · exact ⟨g1, cap, rfl⟩
  have hrow := pairs_of_row hown
  obtain ⟨hg1, hg1'⟩ := hown.lt g1 rfl
  have hc1 : n ≤ c1 ∧ c1 ≤ maxLen := by
    obtain ⟨a, c', hv, h1, h2⟩ := row_slice hown
    simp only [Value.slice.injEq] at hv
    rw [hv.2.2]; exact ⟨h1, h2⟩
  have HS := Lib.hid (SortStable_any (c := c1) hrow hg1' hn hn1 hn2 hc1.1 (by omega))
  have HB1 := Lib.hid hb1
  have Hc1 := Lib.hid hc1.1
  have Hg1 := Lib.hid hg1
  have Hg1' := Lib.hid hg1'
  clear HC hown hrow hg1 hg1' hc1 hb1
  go_wp2_with fail
  go_fit HS.out
  rintro e w2 ⟨rfl, hs⟩
  have HS2 := Lib.hid hs.1
  have HG2 := Lib.hid hs.2
  have Hsl : Hid ((isort xs).length = n) := by show _ = _; rw [isort_length, hn]
  clear hs HS
  generalize isort xs = ys at *
  go_wp2_with fail
  have hg0 : g1 < w2.heap.size := Nat.lt_of_lt_of_le Hg1'.out HG2.out.size
  have Hg0 := Lib.hid hg0
  have hnb : n ≤ 1073741824 := by omega
  clear hg0 hn2
  go_loopw [4, 13] (fun u v wr => ∃ (i m : Nat) (D J : List Pr), v = .int .i64 i ∧ u = .int .i64 m ∧ i ≤ n ∧ Hid (D = dd (ys.take i)) ∧ D.length = m ∧ D.length + J.length = i ∧ Hid (PRow wr g1 (D ++ (J ++ ys.drop i))) ∧ Hid (w2.grownBy wr (some g1)))
    (fun _ v _ => n - (intOf v).toNat)
  case atStart => exact ⟨0, 0, [], [], rfl, rfl, Nat.zero_le _, rfl, rfl, rfl, HS2, grown_refl _ _⟩
  case round =>
    obtain ⟨i, m, D, J, rfl, rfl, hin, hD, hDl, hDJ, hrow, hgr⟩ := hrel
    have ei : IntKind.i64.wrap ((i : Int) + 1) = (i : Int) + 1 := IntWalk.i64_in _ (by omega)
    by_cases hlt : i < n
    · obtain ⟨p, hp⟩ : ∃ p, ys[i]? = some p := ⟨ys[i]'(by rw [Hsl.out]; exact hlt), List.getElem?_eq_getElem _⟩
      have hdr : ys.drop i = p :: ys.drop (i + 1) := by have := List.getElem?_eq_some_iff.1 hp; rw [← this.2]; exact List.drop_eq_getElem_cons this.1
      have hstep : Hid (dd (ys.take (i + 1)) = dd1 D p) := by show _ = _; rw [dd_step ys hp, ← hD.out]
      obtain ⟨R, hR⟩ : ∃ R, R = ys.drop (i + 1) := ⟨_, rfl⟩
      have HRR := Lib.hid hR
      rw [hdr, ← hR] at hrow
      have hr1 : PRow wr g1 ((D ++ J) ++ p :: R) := by simpa using hrow.out
      obtain ⟨p0, p1⟩ := hr1.at
      rw [List.length_append, hDJ] at p0 p1
      have hI1 : (i : Int) < (n : Int) := by omega
      have hI2 : (0 : Int) ≤ (i : Int) := by omega
      have Hrow := Lib.hid hrow.out
      have HDJ := Lib.hid hDJ
      have HDl := Lib.hid hDl
      have hg3 : Hid (g1 < wr.heap.size) := Nat.lt_of_lt_of_le Hg0.out hgr.out.size
      have hA := below_alloc wr (Obj.cells #[Value.string p.fst, Value.string p.snd] 34)
      have hx := box_alloc wr p.1 p.2 34
      clear hrow hr1 hdr hD hDl hDJ hR hp
      go_wp2_with fail
      have HX := Lib.hid hx
      have HRow := Lib.hid (Hrow.out.later hg3.out hA)
      have hgW : Hid (w2.grownBy (wr.alloc (Obj.cells #[Value.string p.fst, Value.string p.snd] 34)) (some g1)) := grown_of_below hgr.out hA
      have hbx : wr.heap.size ≠ g1 := by have := hg3.out; omega
      have x0 := hx.c0
      have x1 := hx.c1
      clear hx hA hgr Hrow p0 p1 hg3
      generalize wr.alloc (Obj.cells #[Value.string p.fst, Value.string p.snd] 34) = W at *
      have hend : Hid (∀ (q : Nat) (E Y : List Pr) (y : Pr), PRow W g1 (E ++ y :: (Y ++ R)) → dd1 D p = E ++ [p] → E.length + 1 + Y.length = i + 1 →
          ∃ (i' m' : Nat) (D J : List Pr), Value.int .i64 ((i : Int) + 1) = .int .i64 i' ∧ Value.int .i64 ((E.length : Int) + 1) = .int .i64 m' ∧ i' ≤ n ∧ Hid (D = dd (ys.take i')) ∧ D.length = m' ∧ D.length + J.length = i' ∧ Hid (PRow (putPair (W.drewN q) g1 E.length p) g1 (D ++ (J ++ ys.drop i'))) ∧ Hid (w2.grownBy (putPair (W.drewN q) g1 E.length p) (some g1))) := fun q E Y y h1 h2 h3 => by
        refine ⟨i + 1, E.length + 1, E ++ [p], Y, by simp, by simp, hlt, ?_, by simp, by simp; omega, ?_, grown_seq (grown_of_below hgW.out (below_drewN (Below.refl _ _) q)) (grown_put _ _ _ _) (.inl rfl)⟩
        · show _ = _; rw [hstep.out, h2]
        · show PRow _ g1 _
          have := (h1.drewN q).put p
          rw [← HRR.out]
          simpa using this
      by_cases hm0 : m = 0
      · subst hm0
        obtain rfl : D = [] := List.eq_nil_of_length_eq_zero HDl.out
        obtain ⟨y, Y, hy⟩ : ∃ y Y, J ++ [p] = y :: Y := by cases J with
          | nil => exact ⟨p, [], rfl⟩
          | cons a l => exact ⟨a, l ++ [p], rfl⟩
        have hyl := congrArg List.length hy
        simp at hyl
        have h1 : PRow W g1 ([] ++ y :: (Y ++ R)) := by
          have := HRow.out
          rw [List.nil_append] at this
          rw [List.nil_append, ← List.cons_append, ← hy]
          simpa using this
        have HE := Lib.hid (fun q => hend.out q [] Y y h1 rfl (by have := HDJ.out; simp at this; simp; omega))
        have c0 := h1.at.1
        have c1 := h1.at.2
        simp only [List.length_nil, Nat.zero_mul, Nat.zero_add] at c0 c1
        have z0 := h1.fz 0
        have z1 := h1.fz 1
        have hn0 : (0 : Int) < (n : Int) := by omega
        clear h1 hend HRow
        rw [show ((0 : Nat) : Int) = 0 from rfl]
        go_wp2_with fail
        go_quiet (fail)
        go_wp2_with fail
        exact ⟨HE.out _, by show n - ((i : Int) + 1).toNat < n - ((i : Int)).toNat; omega⟩
      · obtain ⟨k, rfl⟩ : ∃ k, m = k + 1 := ⟨m - 1, by omega⟩
        obtain ⟨D', q, rfl⟩ : ∃ D' q, D = D' ++ [q] := ⟨D.dropLast, D.getLast (fun e => hm0 (by rw [← HDl.out, e]; rfl)), (List.dropLast_concat_getLast _).symm⟩
        have hDl : D'.length = k := by have := HDl.out; simp at this; omega
        have hDJ := HDJ.out
        rw [HDl.out] at hDJ
        have ek : IntKind.i64.wrap (k : Int) = (k : Int) := IntWalk.i64_in _ (by omega)
        have ek1 : IntKind.i64.wrap ((k : Int) + 1) = (k : Int) + 1 := IntWalk.i64_in _ (by omega)
        have ek2 : IntKind.i64.wrap ((k : Int) + 1 + 1) = (k : Int) + 1 + 1 := IntWalk.i64_in _ (by omega)
        have hkn : k < n := by omega
        have hkI : (k : Int) < (n : Int) := by omega
        have hkI1 : (k : Int) + 1 < (n : Int) := by omega
        have hkI0 : (0 : Int) ≤ (k : Int) + 1 := by omega
        have hkT : ((k : Int) + 1).toNat = k + 1 := by omega
        have hrq : PRow W g1 (D' ++ q :: (J ++ p :: R)) := by simpa using HRow.out
        obtain ⟨q0, q1⟩ := hrq.at
        rw [hDl] at q0 q1
        have z0 := hrq.fz (k * 2)
        have z1 := hrq.fz (k * 2 + 1)
        have z2 := hrq.fz ((k + 1) * 2)
        have z3 := hrq.fz ((k + 1) * 2 + 1)
        have hgl : (D' ++ [q]).getLast? = some q := by simp
        by_cases hqp : q.1 = p.1
        · have h1 : PRow W g1 (D' ++ q :: ((J ++ [p]) ++ R)) := by simpa using hrq
          have HE := Lib.hid (fun r => hend.out r D' (J ++ [p]) q h1 (by simp [dd1, hqp]) (by simp; omega))
          rw [hDl] at HE
          have heq : (q.1.toList == p.1.toList) = true := by rw [ba_eq]; simp [hqp]
          clear h1 hend HRow hrq hDl hDJ HDJ HDl hm0 hgl
          go_wp2_with fail
          go_quiet (fail)
          go_wp2_with fail
          exact ⟨HE.out _, by show n - ((i : Int) + 1).toNat < n - ((i : Int)).toNat; omega⟩
        · obtain ⟨y, Y, hy⟩ : ∃ y Y, J ++ [p] = y :: Y := by cases J with
            | nil => exact ⟨p, [], rfl⟩
            | cons a l => exact ⟨a, l ++ [p], rfl⟩
          have hyl := congrArg List.length hy
          simp at hyl
          have h1 : PRow W g1 ((D' ++ [q]) ++ y :: (Y ++ R)) := by
            have := HRow.out
            rw [← List.cons_append, ← hy]
            simpa using this
          have HE := Lib.hid (fun r => hend.out r (D' ++ [q]) Y y h1 (by simp [dd1, hqp]) (by rw [HDl.out]; omega))
          rw [HDl.out] at HE
          obtain ⟨y0, y1⟩ := h1.at
          rw [HDl.out] at y0 y1
          have heq : (q.1.toList == p.1.toList) = false := by rw [ba_eq]; simp [hqp]
          clear h1 hend HRow hrq hDl hDJ HDJ HDl hm0 hgl hy hyl
          go_wp2_with fail
          go_quiet (fail)
          go_wp2_with fail
          exact ⟨HE.out _, by show n - ((i : Int) + 1).toNat < n - ((i : Int)).toNat; omega⟩
    · obtain rfl : i = n := by omega
      have hmc : m ≤ c1 := by have := Hc1.out; omega
      have hmb : m ≤ 1073741824 := by omega
      have HDD : Hid (D = dd ys) := by show _ = _; rw [hD.out, ← Hsl.out, List.take_length]
      subst hDl
      have HT := Lib.hid (build_any D.length (Nat.le_refl _) wr g1 0 c1 hmc hmb hrow.out.pairs.left)
      have hw : w.heap.size ≤ wr.heap.size ∧ Below w.heap.size w wr := by
        have g12 := grown_seq HG2.out hgr.out (.inl rfl)
        have hb := HB1.out.grown g12 HB1.out.size (fun k hk => by simp at hk; have := Hg1.out; omega)
        exact ⟨hb.size, hb⟩
      have HW := Lib.hid hw
      clear hrow hgr hmb hw hD hDJ hin hlt
      go_wp2_with fail
      go_fit HT.out
      rintro e w3 ⟨v3, t3, rfl, hq, hk3, hb3⟩
      have HE : Hid (Grows w (Built (dd ys)) (.returned (.pointer (some ⟨w3.heap.size, 0, none⟩))) (w3.alloc (.cells #[.pointer v3] 79))) := ⟨_, t3, rfl, by rw [← HDD.out]; exact hq, tree_made hk3, HW.out.2.trans ((hb3.trans ((below_alloc w3 _).mono hb3.size)).mono HW.out.1)⟩
      clear hq hk3 hb3
      go_wp2_with fail
      go_ret
      exact HE.out
end Go.Proofs.Ytcncggndpnooeaa
