/-
  Where the pairs of a digit end: what is searched by, and the search.
-/
import Derived.Test.YtcbgnmolfdhnfaaH2
namespace Go.Proofs.Ytcbgnmolfdhnfaa
set_option linter.unusedVariables false
set_option linter.unusedSimpArgs false
open Go.RowKit

/-- What the search's function has caught. -/
structure Cap (w : World) (ta td ti g off c n i : Nat) (R : List Pl) : Prop where
  a : w.cell? ⟨ta, 0, none⟩ = some (.slice (some ⟨g, off, none⟩) R.length c)
  d : w.cell? ⟨td, 0, none⟩ = some (.int .i64 (3 - (n : Int)))
  i : w.cell? ⟨ti, 0, none⟩ = some (.int .i64 i)
  p : PairsAt w g off R
theorem Cap.later {w w' : World} {ta td ti g off c n i : Nat} {R : List Pl} (h : Cap w ta td ti g off c n i R) (hb : Below w.heap.size w w') : Cap w' ta td ti g off c n i R :=
  ⟨cell_later hb h.a, cell_later hb h.d, cell_later hb h.i, h.p.later hb⟩
def Low (R : List Pl) : Prop := ∀ p ∈ R, p.1.1 < 65536

set_option maxRecDepth 100000 in
set_option maxHeartbeats 3200000 in
theorem more_any {w : World} {ta td ti g off c n i j : Nat} {R : List Pl} (h : Cap w ta td ti g off c n i R) (hn : n < 4) (hj : j < R.length) (hl : R.length ≤ 100000) (hc : R.length ≤ c) (hw : Low R) {p : Pl} (hp : R[j]? = some p) :
    Calls Try.prog 77 #[.int .i64 j, .pointer (some ⟨ta, 0, none⟩), .pointer (some ⟨td, 0, none⟩), .pointer (some ⟨ti, 0, none⟩)] w fun e w' => e = .returned (.bool (decide (i < dgt n p))) ∧ Below w.heap.size w w' := by
  obtain ⟨c0, c1, c2⟩ := h.p j p hp
  have k0 := h.a
  have k1 := h.d
  have k2 := h.i
  have HH := Lib.hid h
  have HD := Lib.hid (fun W => digit_any W p n hn (hw p (List.mem_of_getElem? hp)))
  have HE : Hid (decide ((i : Int) < ((dgt n p : Nat) : Int)) = decide (i < dgt n p)) := by refine Lib.hid ?_; congr 1; exact propext Int.ofNat_lt
  generalize dgt n p = D at *
  obtain ⟨⟨d, k⟩, v⟩ := p
  simp only at c0 c1 c2 HD
  obtain ⟨m, hm⟩ : ∃ m, m = R.length := ⟨_, rfl⟩
  rw [← hm] at k0 hj hl hc
  have HM := Lib.hid hm
  have hI0 : (0 : Int) ≤ (j : Int) := by omega
  have hI1 : (j : Int) < (m : Int) := by omega
  have HW : Hid (Below w.heap.size w w.drew) := Lib.hid (below_drew1 w)
  clear h hw hp hm
  go_enter Try.func77, Try.ntmps77
  go_wp2_with fail
  go_region_held3 (fun V => V.cell? ⟨ta, 0, none⟩ = some (.slice (some ⟨g, off, none⟩) m c) ∧ V.cell? ⟨g, off + j * 3, none⟩ = some (.string k) ∧ V.cell? ⟨g, off + j * 3 + 1, none⟩ = some (.string v) ∧ V.cell? ⟨g, off + j * 3 + 2, none⟩ = some (.int .u64 d) ∧ V.cell? ⟨td, 0, none⟩ = some (.int .i64 (3 - (n : Int))) ∧ V.cell? ⟨ti, 0, none⟩ = some (.int .i64 i)) (go_keep)
    (first
      | (go_at_call 78; (with_reducible refine (HD.out _).mono ?_); rintro e w2 ⟨rfl, hb2⟩; have hbd : Below w.heap.size w w2 := (below_drew1 w).trans hb2; have z0 := cell_later hbd k0; have z1 := cell_later hbd c0; have z2 := cell_later hbd c1; have z3 := cell_later hbd c2; have z4 := cell_later hbd k1; have z5 := cell_later hbd k2; have HB2 := Lib.hid hbd; clear hbd hb2))
  all_goals
    go_wp2_with fail
    go_ret
    try rw [HE.out]
    exact ⟨rfl, HB2.out⟩

/-- What the search finds. -/
def Cut (n i : Nat) (R : List Pl) (w : World) (e : Ending) (w' : World) : Prop := ∃ m : Nat, e = .returned (.int .i64 m) ∧ m ≤ R.length ∧ (∀ k p, k < m → R[k]? = some p → dgt n p ≤ i) ∧ (∀ k p, m ≤ k → R[k]? = some p → i < dgt n p) ∧ Below w.heap.size w w'
theorem dgt_up {n : Nat} {R : List Pl} (h : R.Pairwise fun p q => dgt n p ≤ dgt n q) {i j : Nat} {p q : Pl} (hp : R[i]? = some p) (hq : R[j]? = some q) (hij : i ≤ j) : dgt n p ≤ dgt n q := by
  rcases Nat.lt_or_ge i j with h1 | h1
  · have hi := List.getElem?_eq_some_iff.1 hp
    have hj := List.getElem?_eq_some_iff.1 hq
    rw [← hi.2, ← hj.2]
    exact List.pairwise_iff_getElem.1 h i j hi.1 hj.1 h1
  · obtain rfl : i = j := by omega
    rw [hp] at hq; cases hq; exact Nat.le_refl _

set_option maxRecDepth 100000 in
set_option maxHeartbeats 3200000 in
theorem Search_any {w : World} {ta td ti g off c n i : Nat} {R : List Pl} (h : Cap w ta td ti g off c n i R) (hn : n < 4) (hl : R.length ≤ 100000) (hc : R.length ≤ c) (hw : Low R) (hm : R.Pairwise fun p q => dgt n p ≤ dgt n q) :
    Calls Try.prog 76 #[.int .i64 R.length, .func (.func 77) #[] #[.pointer (some ⟨ta, 0, none⟩), .pointer (some ⟨td, 0, none⟩), .pointer (some ⟨ti, 0, none⟩)]] w (Cut n i R w) := by
  have HH := Lib.hid h
  have HC := Lib.hid hc
  have HW := Lib.hid hw
  have HMn := Lib.hid hm
  obtain ⟨N, hN⟩ : ∃ N, N = R.length := ⟨_, rfl⟩
  rw [← hN] at hl ⊢
  have HN := Lib.hid hN
  clear h hw hm hN hc
  go_enter Try.func76, Try.ntmps76
  go_wp2_with fail
  go_loopw [5, 6] (fun u v wr => ∃ (a b : Nat), u = .int .i64 a ∧ v = .int .i64 b ∧ a ≤ b ∧ b ≤ N ∧ Hid (∀ k p, k < a → R[k]? = some p → dgt n p ≤ i) ∧ Hid (∀ k p, b ≤ k → R[k]? = some p → i < dgt n p) ∧ Hid (Below w.heap.size w wr)) (fun u v _ => (intOf v).toNat - (intOf u).toNat)
  case atStart =>
    refine ⟨0, N, rfl, rfl, Nat.zero_le _, Nat.le_refl _, Lib.hid fun k p hk => absurd hk (by omega), Lib.hid fun k p hk hp => ?_, Lib.hid (Below.refl _ _)⟩
    have := (List.getElem?_eq_some_iff.1 hp).1
    have := HN.out
    omega
  case round =>
    obtain ⟨a, b, rfl, rfl, hab, hbn, hlo, hhi, hbw⟩ := hrel
    by_cases hlt : a < b
    · have h1 : a ≤ (a + b) / 2 ∧ (a + b) / 2 < b := by omega
      have hH : ((a : Int) + (b : Int)) / 2 = (((a + b) / 2 : Nat) : Int) := by omega
      generalize (a + b) / 2 = H at *
      obtain ⟨p, hp⟩ : ∃ p, R[H]? = some p := ⟨R[H]'(by rw [← HN.out]; omega), List.getElem?_eq_getElem _⟩
      have HMo := Lib.hid (more_any (HH.out.later hbw.out) hn (by rw [← HN.out]; omega) (by rw [← HN.out]; omega) HC.out HW.out hp)
      have eH : IntKind.i64.wrap ((H : Int) + 1) = (H : Int) + 1 := IntWalk.i64_in _ (by omega)
      have HP := Lib.hid hp
      obtain ⟨h1a, h1b⟩ := h1
      clear hp
      go_wp2_with fail
      go_fit HMo.out
      rintro e w2 ⟨rfl, hb2⟩
      have HB2 : Hid (Below w.heap.size w w2) := Lib.hid (hbw.out.trans (hb2.mono hbw.out.size))
      clear hb2 HMo
      by_cases hd : i < dgt n p
      · have hd2 : decide (i < dgt n p) = true := by simpa using hd
        have HH2 : Hid (∀ k q, H ≤ k → R[k]? = some q → i < dgt n q) := Lib.hid fun k q hk hq => Nat.lt_of_lt_of_le hd (dgt_up HMn.out HP.out hq hk)
        clear hd hhi
        go_wp2_with fail
        exact ⟨⟨a, H, rfl, rfl, h1a, by omega, hlo, HH2, HB2⟩, by show ((H : Int)).toNat - ((a : Int)).toNat < ((b : Int)).toNat - ((a : Int)).toNat; omega⟩
      · have hd2 : decide (i < dgt n p) = false := by simpa using hd
        have HL2 : Hid (∀ k q, k < H + 1 → R[k]? = some q → dgt n q ≤ i) := Lib.hid fun k q hk hq => by
          have := dgt_up HMn.out hq HP.out (by omega)
          omega
        clear hd hlo
        go_wp2_with fail
        exact ⟨⟨H + 1, b, by push_cast; rfl, rfl, by omega, hbn, HL2, hhi, HB2⟩, by show ((b : Int)).toNat - ((H : Int) + 1).toNat < ((b : Int)).toNat - ((a : Int)).toNat; omega⟩
    · obtain rfl : a = b := by omega
      go_wp2_with fail
      go_ret
      exact ⟨a, rfl, by rw [← HN.out]; exact hbn, hlo.out, hhi.out, hbw.out⟩
end Go.Proofs.Ytcbgnmolfdhnfaa
