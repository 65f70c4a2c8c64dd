/-
  Walks: a session is deleted from a row; it begins.
-/
import Derived.Test.YtdcmefkejgjdeaaB3
namespace Go.Proofs.Ytdcmefkejgjdeaa
set_option linter.unusedVariables false
set_option linter.unusedSimpArgs false
open Go.RowKit
variable {w : World} {B b : Nat} {L : List Nat} {t : Tb}

theorem row_there {g c : Nat} {l : List Se} (h : w.ownsRow B 44 4 (.slice (some ⟨g, 0, none⟩) l.length c) l.length (scs l)) : ∀ j, j < l.length * 4 → (w.cell? ⟨g, j, none⟩).isSome = true := fun j hj => by
  rw [h.cellAt j hj, List.getElem?_eq_getElem (by rw [scs_len]; exact hj)]; rfl
theorem zeros4 (w : World) (g o : Nat) (c : Nat) (ty : TypeId) (hc : ∀ j, j < 4 → (w.cell? ⟨g, o + j, none⟩).isSome = true) (hf : ∀ j, j < 4 → w.frozen? ⟨g, o + j, none⟩ = false) :
    (Builtin.clear_ #[27] ty #[.slice (some ⟨g, o, none⟩) 1 c]).run Try.prog w = .ok (.tuple #[]) (w.setCells g o [.int .i64 0, .int .i64 0, .int .i64 0, .int .i64 0]) := by
  have hv : ∀ w, (zeroValue 44).run Try.prog w = .ok (.agg #[.int .i64 0, .int .i64 0, .int .i64 0, .int .i64 0]) w := fun w => by kernel_rfl
  have hst := run_storeCells_cells (P := Try.prog) g o [.int .i64 0, .int .i64 0, .int .i64 0, .int .i64 0] 0 w (by simpa using hc) (by simpa using hf) (by intro v hv'; simp at hv'; subst hv'; rfl)
  simp only [Nat.add_zero] at hst
  have hz : (Builtin.zeroCells #[Value.int .i64 0, .int .i64 0, .int .i64 0, .int .i64 0] 1).toList = [.int .i64 0, .int .i64 0, .int .i64 0, .int .i64 0] := by kernel_rfl
  simp [Builtin.clear_, run_underlying Try.underlying27, hv, Value.cells]
  rw [hz, hst]
  rfl

/-- What a deletion leaves. -/
def Gone (w : World) (g c : Nat) (l : List Se) (i : Nat) (e : Ending) (w' : World) : Prop :=
  e = .returned (.slice (some ⟨g, 0, none⟩) (l.length - 1) c) ∧ w'.ownsRow 0 44 4 (.slice (some ⟨g, 0, none⟩) (l.length - 1) c) (l.length - 1) (scs (l.eraseIdx i)) ∧ w.grownBy w' (some g)

set_option maxRecDepth 100000 in
set_option maxHeartbeats 3200000 in
theorem Delete_any {g c : Nat} {l : List Se} (i : Nat) (hi : i < l.length) (h : w.ownsRow 0 44 4 (.slice (some ⟨g, 0, none⟩) l.length c) l.length (scs l)) (hc1 : l.length ≤ c) (hc2 : c ≤ 9223372036854775807) :
    Calls Try.prog 38 #[.slice (some ⟨g, 0, none⟩) l.length c, .int .i64 i, .int .i64 ((i : Int) + 1)] w (Gone w g c l i) := by
  obtain ⟨i0, hi0, hz0, hz1, hz2⟩ := info_parts Try.infoSeat
  have hn1 : (scs (l.drop (i + 1))).length = (l.length - (i + 1)) * 4 := by rw [scs_len]; simp
  obtain ⟨A, hA, hnews⟩ : ∃ A : Addr, (if c = i + 1 then some (⟨g, 0, none⟩ : Addr) else some ⟨g, (i + 1) * 4, none⟩) = some A ∧ Hid (∀ j u, (scs (l.drop (i + 1)))[j]? = some u → w.drew.cell? (A.add j) = some u) := by
    by_cases hc : c = i + 1
    · refine ⟨⟨g, 0, none⟩, by simp [hc], fun j u hu => ?_⟩
      have := (List.getElem?_eq_some_iff.1 hu).1
      rw [hn1] at this
      omega
    · refine ⟨⟨g, (i + 1) * 4, none⟩, by simp [hc], fun j u hu => ?_⟩
      have hj := (List.getElem?_eq_some_iff.1 hu).1
      rw [hn1] at hj
      rw [Addr.add_lit]
      show w.cell? _ = _
      rw [h.cellAt _ (by omega)]
      have e : scs l = scs (l.take (i + 1)) ++ scs (l.drop (i + 1)) := by rw [← scs_app, List.take_append_drop]
      rw [e, List.getElem?_append_right (by rw [scs_len]; simp; omega), scs_len, show (i + 1) * 4 + j - (l.take (i + 1)).length * 4 = j from by simp; omega]
      exact hu
  have s1 : Hid ((scs (l.drop (i + 1))).length = (l.length - (i + 1)) * 4) := hn1
  have s3 : Hid (∀ j, j < (scs (l.drop (i + 1))).length → (w.drew.cell? ⟨g, 0 + i * 4 + j, none⟩).isSome = true ∧ w.drew.frozen? ⟨g, 0 + i * 4 + j, none⟩ = false) := fun j hj => by
    rw [hn1] at hj
    rw [Nat.zero_add]
    exact ⟨row_there h _ (by omega), h.frozenAt _⟩
  have hown1 := owns_cells (scs (l.drop (i + 1))) (i * 4) w.drew (scs l) h.drew
  have hown2 := owns_cells [.int .i64 0, .int .i64 0, .int .i64 0, .int .i64 0] ((l.length - 1) * 4) _ _ hown1.1
  have hless := owns_less hown2.1 (Nat.sub_le l.length 1)
  rw [gone_cells l i hi _ rfl] at hless
  have HL := Lib.hid hless
  have HG : Hid (w.grownBy ((w.drew.setCells g (i * 4) (scs (l.drop (i + 1)))).setCells g ((l.length - 1) * 4) [.int .i64 0, .int .i64 0, .int .i64 0, .int .i64 0]) (some g)) := by
    refine ⟨hown2.2.os.trans hown1.2.os, hown2.2.tape.trans hown1.2.tape, hown2.2.output.trans hown1.2.output, Nat.le_trans hown1.2.size hown2.2.size, fun k hk hn => ?_⟩
    exact (hown2.2.block k (Nat.lt_of_lt_of_le hk hown1.2.size) hn).trans (hown1.2.block k hk hn)
  have hz := zeros4 (w.drew.setCells g (i * 4) (scs (l.drop (i + 1)))) g ((l.length - 1) * 4)
  have hcl : ∀ (c' : Nat) (ty : TypeId), (Builtin.clear_ #[27] ty #[.slice (some ⟨g, (l.length - 1) * 4, none⟩) 1 c']).run Try.prog (w.drew.setCells g (i * 4) (scs (l.drop (i + 1)))) = .ok (.tuple #[]) ((w.drew.setCells g (i * 4) (scs (l.drop (i + 1)))).setCells g ((l.length - 1) * 4) [.int .i64 0, .int .i64 0, .int .i64 0, .int .i64 0]) := fun c' ty =>
    hz c' ty (fun j hj => by rw [hown1.1.cellAt _ (by omega), List.getElem?_eq_getElem (by rw [setAt_length, scs_len]; omega)]; rfl) (fun j _ => hown1.1.frozenAt _)
  have h1 : (i : Int) + 1 ≤ (l.length : Int) := by omega
  have h2 : (0 : Int) ≤ (i : Int) + 1 := by omega
  have h3 : ((i : Int) + 1).toNat = i + 1 := by omega
  have h4 : ¬ ((i : Int) = (i : Int) + 1) := by omega
  have h5 : i + (l.length - (i + 1)) = l.length - 1 := by omega
  have h6 : l.length - (l.length - 1) = 1 := by omega
  have h7 : l.length - 1 ≤ l.length := by omega
  have hnc : ¬ (c = l.length - 1) := by omega
  have hic : i ≤ c := by omega
  have hjc : l.length ≤ c := hc1
  clear h hown1 hown2 hless hz
  go_enter Try.func38, Try.ntmps38
  go_wp2_with fail
  go_region_law (refine step_append_room rfl (.tmp 22) (.tmp 25) 27 rfl 44 i0 4 Try.underlying27 hi0 hz1 g 0 i c (by simp [Act.eval, Act.put]) A (l.length - (i + 1)) (c - (i + 1)) (scs (l.drop (i + 1))) (by simp [Act.eval, Act.put]) s1.out hnews.out (scs_one _) (by omega) s3.out ?_)
  generalize w.drew.setCells g (i * 4) (scs (l.drop (i + 1))) = W1 at *
  generalize hW2 : W1.setCells g ((l.length - 1) * 4) [.int .i64 0, .int .i64 0, .int .i64 0, .int .i64 0] = W2 at *
  go_wp2
  go_ret
  exact ⟨rfl, HL.out, HG.out⟩
end Go.Proofs.Ytdcmefkejgjdeaa
