/-
  Rows of sessions: one behind another one, one deleted; a copy.
-/
import Derived.Test.YtdcmefkejgjdeaaB2
import Derived.Laws.OwnMore
import Derived.Lib.LazyBuf
namespace Go.Proofs.Ytdcmefkejgjdeaa
set_option linter.unusedVariables false
set_option linter.unusedSimpArgs false
open Go.RowKit
variable {w : World} {B b : Nat} {L : List Nat} {t : Tb}

theorem grown_below {w w' : World} {v : Value} (h : w.grownBy w' v.ownBlock) (hv : ∀ g, v.ownBlock = some g → B ≤ g) (hB : B ≤ w.heap.size) : Below B w w' :=
  ⟨h.os, h.tape, h.output, h.size, fun k hk => h.block k (Nat.lt_of_lt_of_le hk hB) (fun e => by have := hv k e.symm; omega)⟩

/-- 'append(l, m...)' of sessions. -/
theorem run_cat {w : World} {B : Nat} {v u : Value} {xs ys : List Se} (ty : TypeId) (hown : w.ownsRow B 44 4 v xs.length (scs xs)) (hu : SeB w [] u ys) (hl : xs.length + ys.length ≤ 1000000) (hB : B ≤ w.heap.size) :
    ∃ v' w', (Builtin.append_ #[27, 27] ty #[v, u]).run Try.prog w = .ok v' w' ∧ w'.ownsRow B 44 4 v' (xs ++ ys).length (scs (xs ++ ys)) ∧ w.grownBy w' v.ownBlock ∧ (v'.ownBlock = v.ownBlock ∨ ∃ g, v'.ownBlock = some g ∧ w.heap.size ≤ g) := by
  obtain ⟨i0, hi, hz0, hz1, hz2⟩ := info_parts Try.infoSeat
  obtain ⟨a', c', rfl, hd1, hd2, hy⟩ := hu
  by_cases hy0 : ys = []
  · subst hy0
    refine ⟨v, w, ?_, by rw [List.append_nil]; exact hown, ⟨rfl, rfl, rfl, Nat.le_refl _, fun _ _ _ => rfl⟩, .inl rfl⟩
    rcases hown.2 with ⟨rfl, h0⟩ | ⟨g, cap, cur, rfl, _, _, hnc, _⟩
    · cases a' <;> simp [Builtin.append_, run_underlying Try.underlying27, sizeOf, typeInfo, hi, Builtin.lenOf, Builtin.firstCells, storeCells, loadCellsFrom, loadCells]
    · cases a' <;> simp [Builtin.append_, run_underlying Try.underlying27, sizeOf, typeInfo, hi, Builtin.lenOf, Builtin.firstCells, hnc, storeCells, loadCellsFrom, loadCells]
  · obtain ⟨g, off, rfl, _, _, hat⟩ := hy.resolve_left hy0
    have hm : 0 < ys.length := List.length_pos_iff.2 hy0
    have hnews : ∀ j u, (scs ys)[j]? = some u → w.cell? ((⟨g, off, none⟩ : Addr).add j) = some u := by
      intro j u hj
      rw [Addr.add_lit]
      have hjl : j < ys.length * 4 := by have := (List.getElem?_eq_some_iff.1 hj).1; rwa [scs_len] at this
      obtain ⟨s, hs⟩ : ∃ s, ys[j / 4]? = some s := ⟨ys[j / 4]'(by omega), List.getElem?_eq_getElem (by omega)⟩
      obtain ⟨e0, e1, e2, e3⟩ := scs_at ys (j / 4) s hs
      obtain ⟨c0, c1, c2, c3⟩ := hat (j / 4) s hs
      have hr : j % 4 = 0 ∨ j % 4 = 1 ∨ j % 4 = 2 ∨ j % 4 = 3 := by omega
      rcases hr with hr | hr | hr | hr
      · have ej : j = j / 4 * 4 := by omega
        rw [ej, e0] at hj; cases hj; rw [ej]; exact c0
      · have ej : j = j / 4 * 4 + 1 := by omega
        rw [ej, e1] at hj; cases hj; rw [ej]; exact c1
      · have ej : j = j / 4 * 4 + 2 := by omega
        rw [ej, e2] at hj; cases hj; rw [ej]; exact c2
      · have ej : j = j / 4 * 4 + 3 := by omega
        rw [ej, e3] at hj; cases hj; rw [ej]; exact c3
    obtain ⟨v', w', hr, h2, h3, _, h5⟩ := run_append_own_at (P := Try.prog) w B 27 ty 44 i0 _ 4 32 Try.underlying27 hi hz0 hz1 hz2 rfl (by decide) v xs.length (scs xs) hown ⟨g, off, none⟩ ys.length c' (scs ys) (scs_len ys) hnews (scs_one ys) (by unfold maxLen; omega) (by omega) hB
    refine ⟨v', w', hr, by rw [scs_app, List.length_append]; exact h2, h3, ?_⟩
    rcases h5 with h5 | h5
    · exact .inl h5
    · exact .inr ⟨_, h5, Nat.le_refl _⟩

theorem wpList_cat {w : World} {B : Nat} {v u : Value} {xs ys : List Se} {ops : Array Oper} {rest : List Oper} {o : Oper} {a : Act} {Q : Exit → Act → World → Prop} (hgd : o.guard = none) (s x : Operand)
    (ho : o.op = .call { callee := .builtin .append, args := #[s, x], argTypes := #[27, 27] })
    (hs : a.eval s = v) (hx : a.eval x = u) (hown : w.ownsRow B 44 4 v xs.length (scs xs)) (hu : SeB w [] u ys) (hl : xs.length + ys.length ≤ 1000000) (hB : B ≤ w.heap.size)
    (hk : ∀ v' w', w'.ownsRow B 44 4 v' (xs ++ ys).length (scs (xs ++ ys)) → w.grownBy w' v.ownBlock → (v'.ownBlock = v.ownBlock ∨ ∃ g, v'.ownBlock = some g ∧ w.heap.size ≤ g) → wpList Try.prog ops Q rest (a.put o.dst v') w') : wpList Try.prog ops Q (o :: rest) a w :=
  wpList_plain hgd fun _ hK => by
    obtain ⟨v', w', hr, h2, h3, h4⟩ := run_cat o.type hown hu hl hB
    unfold Oper.wp execOp
    simp only [ho, resolve, invoke, builtin, Sem.run_bind, Sem.run_pure, Result.andThen_ok, List.map_toArray, List.map_cons, List.map_nil, hs, hx, hr]
    exact hK _ _ (hk v' w' h2 h3 h4)

/-- What a copy leaves. -/
def Copied (l : List Se) (w : World) (e : Ending) (w' : World) : Prop := ∃ v, e = .returned v ∧ SeOwn w w' v l ∧ Below w.heap.size w w'
set_option maxRecDepth 100000 in
set_option maxHeartbeats 1600000 in
theorem Clone_any {v : Value} {l : List Se} (h : SeB w [] v l) (hl : l.length ≤ 100000) : Calls Try.prog 39 #[v] w (Copied l w) := by
  obtain ⟨a, c, rfl, h1, h2, h3⟩ := h
  cases a with
  | none =>
    have hx : l = [] := h3.resolve_right (by rintro ⟨p, o, hp, _⟩; cases hp)
    subst hx
    have hn0 : ∀ W : World, (binOp .eql 27 (.slice none 0 c) (.slice none 0 0)).run Try.prog W = .ok (.bool true) W := fun W => run_eql_slice_nil W 27 44 none 0 c Try.underlying27
    clear h3
    go_enter Try.func39, Try.ntmps39
    go_wp2_with fail
    go_ret
    exact ⟨_, rfl, World.ownsRow_nil _ _ _ _, Below.refl _ _⟩
  | some p =>
    have hs : SeB w [] (.slice (some p) l.length c) l := ⟨_, c, rfl, h1, h2, h3⟩
    have HB := Lib.hid (below_alloc w (.cells #[] 44))
    have HS := Lib.hid (hs.below HB.out)
    have HO : Hid ((w.alloc (.cells #[] 44)).ownsRow w.heap.size 44 4 (.slice (some ⟨w.heap.size, 0, none⟩) 0 0) ([] : List Se).length (scs [])) := World.ownsRow_lit w #[] 0 (Nat.le_refl _) (by unfold maxLen; omega) rfl
    have hn0 : ∀ W : World, (binOp .eql 27 (.slice (some p) l.length c) (.slice none 0 0)).run Try.prog W = .ok (.bool false) W := fun W => run_eql_slice_nil W 27 44 (some p) l.length c Try.underlying27
    clear hs h3
    go_enter Try.func39, Try.ntmps39
    go_wp2_with (at_builtin; refine wpList_cat rfl _ _ rfl rfl rfl HO.out HS.out (by simp; omega) (by simp) ?_; intro v' w' hown hg hat; rw [List.nil_append] at hown; have HW := Lib.hid hown; have HG := Lib.hid hg; clear hown hg hat)
    go_ret
    exact ⟨v', rfl, HW.out, HB.out.trans (grown_below HG.out (fun g hg => by cases hg; exact Nat.le_refl _) (by simp))⟩

set_option maxRecDepth 100000 in
set_option maxHeartbeats 1600000 in
theorem List_any (h : Tk w B b L t) (hl : t.seats.length ≤ 100000) : Calls Try.prog 21 #[.pointer (some ⟨b, 0, none⟩)] w (Copied t.seats w) := by
  obtain ⟨v, h⟩ := h
  have c1 := h.cells.cells 1 _ rfl
  have c2 := h.cells.cells 2 _ rfl
  obtain ⟨a, c, hv, h1, h2⟩ := h.seb.slice
  subst hv
  have HC := Lib.hid (Clone_any (h.seb.sub (L' := []) (fun k hk => by cases hk)) hl)
  clear h h1 h2
  go_enter Try.func21, Try.ntmps21
  go_wp2_with fail
  go_fit (ready_any c2)
  rintro e w1 ⟨rfl, rfl⟩
  go_wp2_with fail
  go_fit HC.out
  rintro e w1 ⟨v', rfl, ho, hb⟩
  have HO := Lib.hid ho
  have HB := Lib.hid hb
  clear ho hb HC
  go_wp2_with fail
  go_ret
  exact ⟨v', rfl, HO.out, HB.out⟩

/-! ### A row that is written -/
def setAt (xs : List Value) : Nat → List Value → List Value
  | _, [] => xs
  | o, v :: r => setAt (xs.set o v) (o + 1) r
theorem setAt_length : ∀ (vs : List Value) (xs : List Value) (o : Nat), (setAt xs o vs).length = xs.length
  | [], _, _ => rfl
  | v :: r, xs, o => by rw [setAt, setAt_length r]; simp
theorem setAt_eq : ∀ (vs xs : List Value) (o : Nat), o + vs.length ≤ xs.length → setAt xs o vs = xs.take o ++ vs ++ xs.drop (o + vs.length)
  | [], xs, o, _ => by simp [setAt]
  | v :: r, xs, o, h => by
    simp only [List.length_cons] at h
    rw [setAt, setAt_eq r (xs.set o v) (o + 1) (by simp; omega)]
    rw [List.set_eq_take_append_cons_drop, if_pos (by omega)]
    have h1 : (xs.take o).length = o := by simp; omega
    rw [List.take_append, List.take_of_length_le (by omega), h1, show o + 1 - o = 1 from by omega, List.drop_append, List.drop_of_length_le (by omega : (xs.take o).length ≤ o + 1 + r.length), h1, show o + 1 + r.length - o = r.length + 1 from by omega]
    simp [List.drop_drop, Nat.add_comm, Nat.add_left_comm, Nat.add_assoc]
theorem owns_cells {base g cap n : Nat} {e : TypeId} {size : Nat} : ∀ (vs : List Value) (o : Nat) (w : World) (xs : List Value), w.ownsRow base e size (.slice (some ⟨g, 0, none⟩) n cap) n xs → (w.setCells g o vs).ownsRow base e size (.slice (some ⟨g, 0, none⟩) n cap) n (setAt xs o vs) ∧ w.grownBy (w.setCells g o vs) (some g)
  | [], o, w, xs, h => ⟨h, rfl, rfl, rfl, Nat.le_refl _, fun _ _ _ => rfl⟩
  | v :: r, o, w, xs, h => by
    obtain ⟨h1, g1⟩ := h.stored o v
    obtain ⟨h2, g2⟩ := owns_cells r (o + 1) _ _ h1
    exact ⟨h2, g2.os.trans g1.os, g2.tape.trans g1.tape, g2.output.trans g1.output, Nat.le_trans g1.size g2.size, fun k hk hn => (g2.block k (Nat.lt_of_lt_of_le hk g1.size) hn).trans (g1.block k hk hn)⟩
theorem owns_less {w : World} {base g cap n m : Nat} {e : TypeId} {size : Nat} {xs : List Value} (h : w.ownsRow base e size (.slice (some ⟨g, 0, none⟩) n cap) n xs) (hm : m ≤ n) : w.ownsRow base e size (.slice (some ⟨g, 0, none⟩) m cap) m (xs.take (m * size)) := by
  have hl : m * size ≤ n * size := Nat.mul_le_mul_right _ hm
  refine ⟨by rw [List.length_take, h.1]; omega, ?_⟩
  rcases h.2 with ⟨h', _⟩ | ⟨g', cap', cur, h', hb, hg, hnc, hcm, hcs, htake⟩
  · simp at h'
  · simp only [Value.slice.injEq, Option.some.injEq, Addr.mk.injEq, and_true, true_and] at h'
    obtain ⟨rfl, rfl⟩ := h'
    refine .inr ⟨g, cap, cur, rfl, hb, hg, by omega, hcm, hcs, ?_⟩
    rw [← htake, List.take_take, Nat.min_eq_left hl]
theorem scs_take (l : List Se) (n : Nat) : (scs l).take (n * 4) = scs (l.take n) := by
  by_cases h : n ≤ l.length
  · have e : scs l = scs (l.take n) ++ scs (l.drop n) := by rw [← scs_app, List.take_append_drop]
    rw [e, List.take_append, List.take_of_length_le (by rw [scs_len]; simp; omega), scs_len, show n * 4 - (l.take n).length * 4 = 0 from by simp; omega]; simp
  · rw [List.take_of_length_le (by omega : l.length ≤ n), List.take_of_length_le (by rw [scs_len]; omega)]
/-- What a row is behind a session that was deleted. -/
theorem gone_cells (l : List Se) (i : Nat) (hi : i < l.length) (zs : List Value) (hz : zs.length = 4) :
    (setAt (setAt (scs l) (i * 4) (scs (l.drop (i + 1)))) ((l.length - 1) * 4) zs).take ((l.length - 1) * 4) = scs (l.eraseIdx i) := by
  have h1 : (scs (l.drop (i + 1))).length = (l.length - (i + 1)) * 4 := by rw [scs_len]; simp
  have h2 : (setAt (scs l) (i * 4) (scs (l.drop (i + 1)))).length = l.length * 4 := by rw [setAt_length, scs_len]
  rw [setAt_eq zs _ _ (by rw [h2]; omega), List.append_assoc, List.take_append, List.take_of_length_le (by rw [List.length_take, h2]; omega), List.length_take, h2, show (l.length - 1) * 4 - min ((l.length - 1) * 4) (l.length * 4) = 0 from by omega, List.take_zero, List.append_nil,
    setAt_eq _ _ _ (by rw [h1, scs_len]; omega), scs_take, ← scs_app, List.take_append, List.take_of_length_le (by rw [scs_len]; simp; omega), scs_len, show (l.length - 1) * 4 - (l.take i ++ l.drop (i + 1)).length * 4 = 0 from by simp; omega, List.take_zero, List.append_nil, List.eraseIdx_eq_take_drop_succ]
end Go.Proofs.Ytdcmefkejgjdeaa
