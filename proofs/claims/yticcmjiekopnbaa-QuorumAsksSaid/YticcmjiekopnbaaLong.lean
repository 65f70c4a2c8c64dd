/-
  Long rosters: long walked.
-/
import Derived.Test.YticcmjiekopnbaaAw
namespace Go.Proofs.Yticcmjiekopnbaa
set_option linter.unusedVariables false
set_option linter.unusedSimpArgs false
open Go.RowKit Go.Shelf

def longP (p : Sl × Sl) : Bool := decide (500 < p.1.2.1) || decide (500 < p.2.2.1)
def longB (l : List (Sl × Sl)) : Bool := l.any longP

set_option maxRecDepth 100000 in
set_option maxHeartbeats 1600000 in
theorem long1_any (p : Sl × Sl) (w : World) : Calls Try.prog 40 #[.agg #[p.1.v, p.2.v]] w (BoolP (longP p) w) := by
  obtain ⟨⟨a1, n1, c1⟩, ⟨a2, n2, c2⟩⟩ := p
  have hb := lay_alloc w (.cells #[.slice a1 n1 c1, .slice a2 n2 c2] 24)
  have HB := Lib.hid hb
  clear hb
  have HE : Hid (longP ((a1, n1, c1), (a2, n2, c2)) = (decide (500 < n1) || decide (500 < n2))) := rfl
  show Calls Try.prog 40 #[.agg #[.slice a1 n1 c1, .slice a2 n2 c2]] w _
  by_cases h1 : 500 < n1
  · have HE : Hid (longP ((a1, n1, c1), (a2, n2, c2)) = true) := by show _ = _; rw [HE.out, decide_eq_true h1, Bool.true_or]
    have h1' : (500 : Int) < (n1 : Int) := by omega
    go_enter Try.func40, Try.ntmps40
    go_wp2_with fail
    go_ret
    exact ⟨by rw [HE.out]; rfl, HB.out⟩
  · have HE : Hid (longP ((a1, n1, c1), (a2, n2, c2)) = decide (500 < n2)) := by show _ = _; rw [HE.out, decide_eq_false h1, Bool.false_or]
    have h1' : ¬ ((500 : Int) < (n1 : Int)) := by omega
    go_enter Try.func40, Try.ntmps40
    go_wp2_with fail
    go_ret
    exact ⟨by rw [HE.out]; first | done | rfl | (simp; omega), HB.out⟩

theorem ros_at {w : World} {a : Option Addr} {n c k : Nat} {l : List (Sl × Sl)} (h : roL.In w (.slice a n c) l) {a1 a2 : Option Addr} {n1 n2 c1 c2 : Nat} (hx : l[k]? = some ((a1, n1, c1), (a2, n2, c2))) : ∃ g off, a = some ⟨g, off, none⟩ ∧ w.cell? ⟨g, off + k * 2, none⟩ = some (.slice a1 n1 c1) ∧ w.cell? ⟨g, off + k * 2 + 1, none⟩ = some (.slice a2 n2 c2) := by
  obtain ⟨g, off, ha, _, hc⟩ := h.cells hx
  exact ⟨g, off, ha, hc 0 _ rfl, hc 1 _ rfl⟩
def IdxP (b : Bool) (w : World) (e : Ending) (w' : World) : Prop := ∃ z : Int, e = .returned (.int .i64 z) ∧ (0 ≤ z ↔ b = true) ∧ Below w.heap.size w w'
set_option maxRecDepth 100000 in
set_option maxHeartbeats 3200000 in
theorem IndexRo_any {w : World} {v : Value} {l : List (Sl × Sl)} (h : roL.In w v l) (hl : l.length ≤ 1000000) : Calls Try.prog 54 #[v, .func (.func 40) #[] #[]] w (IdxP (longB l) w) := by
  obtain ⟨a, c, rfl, _, _⟩ := h.slice
  have HI := Lib.hid h
  clear h
  go_enter Try.func54, Try.ntmps54
  go_wp2_with fail
  go_loopw [8] (fun i wr => ∃ k : Nat, i = .int .i64 k ∧ k ≤ l.length ∧ longB (l.take k) = false ∧ Below w.heap.size w wr) (fun i _ => l.length - (intOf i).toNat)
  case atStart => exact ⟨0, rfl, Nat.zero_le _, rfl, Below.refl _ _⟩
  case round =>
    obtain ⟨k, rfl, hk, hlo, hb⟩ := hrel
    have HB := Lib.hid hb
    have HL := Lib.hid hlo
    by_cases hlt : k < l.length
    · have hg : l[k]? = some l[k] := List.getElem?_eq_getElem hlt
      have HT : Hid (longB (l.take (k + 1)) = longP l[k]) := by
        show _ = _
        unfold longB at hlo ⊢
        rw [List.take_add_one, hg, Option.toList_some, List.any_append, hlo]
        simp
      have HM : Hid (longP l[k] = true → longB l = true) := fun e => List.any_eq_true.2 ⟨_, List.getElem_mem hlt, e⟩
      have HN := Lib.hid (long1_any l[k] wr)
      generalize l[k] = p at *
      obtain ⟨⟨a1, n1, c1⟩, ⟨a2, n2, c2⟩⟩ := p
      obtain ⟨g, off, rfl, d0, d1⟩ := ros_at (HI.out.later hb) hg
      have HN : Hid (Calls Try.prog 40 #[.agg #[.slice a1 n1 c1, .slice a2 n2 c2]] wr (BoolP (longP ((a1, n1, c1), (a2, n2, c2))) wr)) := HN.out
      clear hg hb hlo
      cases hp : longP ((a1, n1, c1), (a2, n2, c2)) with
      | true =>
        rw [hp] at HN
        have HP := Lib.hid hp
        clear hp
        go_wp2_with fail
        go_fit HN.out
        rintro e w2 ⟨rfl, hb2⟩
        have HB := Lib.hid (HB.out.trans (hb2.mono HB.out.size))
        clear hb2
        go_wp2_with fail
        go_ret
        exact ⟨(k : Int), rfl, ⟨fun _ => HM.out HP.out, fun _ => by omega⟩, HB.out⟩
      | false =>
        rw [hp] at HN
        have HP := Lib.hid hp
        clear hp
        go_wp2_with fail
        go_fit HN.out
        rintro e w2 ⟨rfl, hb2⟩
        have HB := Lib.hid (HB.out.trans (hb2.mono HB.out.size))
        clear hb2
        go_wp2_with fail
        exact ⟨⟨k + 1, by go_num, by omega, by rw [HT.out, HP.out], HB.out⟩, by simp [intOf]; omega⟩
    · obtain rfl : k = l.length := by omega
      rw [List.take_length] at HL
      clear hlo hb
      go_wp2_with fail
      go_ret
      exact ⟨-1, rfl, ⟨fun h => absurd h (by decide), fun h => by rw [HL.out] at h; cases h⟩, HB.out⟩
set_option maxHeartbeats 1600000 in
theorem long_any {w : World} {v : Value} {l : List (Sl × Sl)} (h : roL.In w v l) (hl : l.length ≤ 1000000) : Calls Try.prog 13 #[v] w (BoolP (longB l) w) := by
  have HI := Lib.hid (IndexRo_any h hl)
  obtain ⟨a, c, rfl, _, _⟩ := h.slice
  clear h
  have HC : Hid (Calls Try.prog 39 #[.slice a l.length c, .func (.func 40) #[] #[]] w (BoolP (longB l) w)) := by
    show Calls _ _ _ _ _
    go_enter Try.func39, Try.ntmps39
    go_wp2_with fail
    go_fit HI.out
    rintro e w2 ⟨z, rfl, hz, hb2⟩
    have HB := Lib.hid hb2
    have HZ := Lib.hid hz
    clear hb2 hz
    by_cases h0 : 0 ≤ z
    · have HL := Lib.hid (HZ.out.1 h0)
      go_wp2_with fail
      go_ret
      exact ⟨by rw [HL.out]; first | done | rfl, HB.out⟩
    · have HL : Hid (longB l = false) := by
        show _ = _
        cases e : longB l with
        | false => rfl
        | true => exact absurd (HZ.out.2 e) h0
      go_wp2_with fail
      go_ret
      exact ⟨by rw [HL.out]; first | done | rfl | (simp; omega), HB.out⟩
  clear HI
  go_enter Try.func13, Try.ntmps13
  go_wp2_with fail
  go_fit HC.out
  rintro e w2 ⟨rfl, hb2⟩
  have HB := Lib.hid hb2
  clear hb2
  go_wp2_with fail
  go_ret
  exact ⟨rfl, HB.out⟩
end Go.Proofs.Yticcmjiekopnbaa
