/-
  Entries: plain facts and memory; inRange, goOn, Check; the document's near, On, Check.
-/
import Derived.Test.YtcmfnokpbgfioaaLs
import Derived.Lib.MinMax
import Derived.BigRegion
import Derived.Deep.QuietTactic
namespace Go.Proofs.Ytcmfnokpbgfioaa
set_option linter.unusedVariables false
set_option linter.unusedSimpArgs false
open Go.RowKit

abbrev Sl := Option Addr × Nat × Nat
def Sl.v (s : Sl) : Value := .slice s.1 s.2.1 s.2.2
/-- An entry: its index, its term, where its bytes lie. -/
structure En where
  i : Int
  t : Int
  s : Sl
def enL : Lay En := ⟨fun e => [.int .i64 e.i, .int .i64 e.t, e.s.v], 3, fun _ => rfl, by intro o u hu; simp [Sl.v] at hu; rcases hu with rfl | rfl | rfl <;> rfl⟩
/-- The cells of an entry of a list. -/
theorem en_at {w : World} {a : Option Addr} {n c k : Nat} {l : List En} (h : enL.In w (.slice a n c) l) {i t : Int} {a1 : Option Addr} {n1 c1 : Nat} (hx : l[k]? = some ⟨i, t, (a1, n1, c1)⟩) :
    ∃ g off, a = some ⟨g, off, none⟩ ∧ w.cell? ⟨g, off + k * 3, none⟩ = some (.int .i64 i) ∧ w.cell? ⟨g, off + k * 3 + 1, none⟩ = some (.int .i64 t) ∧ w.cell? ⟨g, off + k * 3 + 2, none⟩ = some (.slice a1 n1 c1) := by
  obtain ⟨g, off, ha, _, hc⟩ := h.cells hx
  exact ⟨g, off, ha, hc 0 _ rfl, hc 1 _ rfl, hc 2 _ rfl⟩

def inM (n : Int) : Bool := decide (0 ≤ n ∧ n ≤ 1099511627776)
theorem inM_iff (n : Int) : inM n = true ↔ 0 ≤ n ∧ n ≤ 1099511627776 := by simp [inM]
def okE (i t : Int) (e : En) : Bool := decide (e.i = i + 1 ∧ e.i ≤ 1099511627776 ∧ max t 1 ≤ e.t ∧ e.t ≤ 1099511627776 ∧ e.s.2.1 ≤ 8192)
def goB : Int → Int → List En → Bool
  | _, _, [] => true
  | i, t, e :: l => okE i t e && goB e.i e.t l
def goOnB (i t : Int) (l : List En) : Bool := (decide (l.length = 0) || inM i) && goB i t l
theorem goB_at {i t : Int} {l : List En} {k : Nat} {e : En} (h : l[k]? = some e) : goB i t (l.drop k) = (okE i t e && goB e.i e.t (l.drop (k + 1))) := by
  obtain ⟨hk, he⟩ := List.getElem?_eq_some_iff.1 h
  rw [List.drop_eq_getElem_cons hk, he]
  rfl

def BoolP (b : Bool) (w : World) (e : Ending) (w' : World) : Prop := e = .returned (.bool b) ∧ Below w.heap.size w w'
def IntP (x : Int) (w : World) (e : Ending) (w' : World) : Prop := e = .returned (.int .i64 x) ∧ Below w.heap.size w w'
theorem below_drewN {B : Nat} {w w' : World} (h : Below B w w') (N : Nat) : Below B w (w'.drewN N) := ⟨h.os, h.tape, h.output, h.size, h.block⟩

set_option maxHeartbeats 800000 in
theorem inRange_any (n : Int) (w : World) : Calls Try.prog 48 #[.int .i64 n] w fun e w' => e = .returned (.bool (inM n)) ∧ w = w' := by
  have HI := Lib.hid (inM_iff n)
  by_cases h0 : 0 ≤ n
  · by_cases h1 : n ≤ 1099511627776
    · have HE : Hid (inM n = true) := HI.out.2 ⟨h0, h1⟩
      go_enter Try.func48, Try.ntmps48
      go_wp2_with fail
      go_ret
      exact ⟨by rw [HE.out]; first | done | rfl, rfl⟩
    · have HE : Hid (inM n = false) := by show _ = _; rw [Bool.eq_false_iff]; exact fun e => h1 (HI.out.1 e).2
      go_enter Try.func48, Try.ntmps48
      go_wp2_with fail
      go_ret
      exact ⟨by rw [HE.out]; first | done | rfl, rfl⟩
  · have HE : Hid (inM n = false) := by show _ = _; rw [Bool.eq_false_iff]; exact fun e => h0 (HI.out.1 e).1
    go_enter Try.func48, Try.ntmps48
    go_wp2_with fail
    go_ret
    exact ⟨by rw [HE.out]; first | done | rfl, rfl⟩
def nearB (n lo : Int) : Bool := decide (lo ≤ n ∧ n ≤ 1099511627776)
theorem nearB_iff (n lo : Int) : nearB n lo = true ↔ lo ≤ n ∧ n ≤ 1099511627776 := by simp [nearB]
set_option maxHeartbeats 800000 in
theorem near_any (n lo : Int) (w : World) : Calls Try.prog 36 #[.int .i64 n, .int .i64 lo] w fun e w' => e = .returned (.bool (nearB n lo)) ∧ w = w' := by
  have HI := Lib.hid (nearB_iff n lo)
  by_cases h0 : lo ≤ n
  · by_cases h1 : n ≤ 1099511627776
    · have HE : Hid (nearB n lo = true) := HI.out.2 ⟨h0, h1⟩
      go_enter Try.func36, Try.ntmps36
      go_wp2_with fail
      go_ret
      exact ⟨by rw [HE.out]; first | done | rfl, rfl⟩
    · have HE : Hid (nearB n lo = false) := by show _ = _; rw [Bool.eq_false_iff]; exact fun e => h1 (HI.out.1 e).2
      go_enter Try.func36, Try.ntmps36
      go_wp2_with fail
      go_ret
      exact ⟨by rw [HE.out]; first | done | rfl, rfl⟩
  · have HE : Hid (nearB n lo = false) := by show _ = _; rw [Bool.eq_false_iff]; exact fun e => h0 (HI.out.1 e).1
    go_enter Try.func36, Try.ntmps36
    go_wp2_with fail
    go_ret
    exact ⟨by rw [HE.out]; first | done | rfl, rfl⟩

set_option maxRecDepth 100000 in
set_option maxHeartbeats 3200000 in
theorem goOn_any {w : World} {v : Value} {l : List En} (h : enL.In w v l) (i t : Int) : Calls Try.prog 49 #[.int .i64 i, .int .i64 t, v] w (BoolP (goOnB i t l) w) := by
  obtain ⟨a, c, rfl, _, hcm⟩ := h.slice
  have HI := Lib.hid h
  have HG : Hid (goOnB i t l = ((decide (l.length = 0) || inM i) && goB i t l)) := by show _ = _; rfl
  clear h
  by_cases hbad : 0 < l.length ∧ inM i = false
  · have HE : Hid (goOnB i t l = false) := by
      show _ = _
      rw [HG.out, hbad.2, decide_eq_false (by omega)]; rfl
    have HN := inRange_any i w
    rw [hbad.2] at HN
    have HN := Lib.hid HN
    have hpos : (0 : Int) < (l.length : Int) := by omega
    clear hbad
    go_enter Try.func49, Try.ntmps49
    go_wp2_with fail
    go_fit HN.out
    rintro e w' ⟨rfl, rfl⟩
    go_wp2_with fail
    go_ret
    exact ⟨by rw [HE.out]; first | done | rfl, Below.refl _ _⟩
  · have HE : Hid (goOnB i t l = goB i t l) := by
      show _ = _
      rw [HG.out]
      by_cases h0 : l.length = 0
      · rw [decide_eq_true h0]; rfl
      · have : inM i = true := by
          cases e : inM i with
          | true => rfl
          | false => exact absurd ⟨by omega, e⟩ hbad
        rw [this, Bool.or_true, Bool.true_and]
    have HBD : Hid (0 < l.length → 0 ≤ i ∧ i ≤ 1099511627776) := by
      intro hp
      refine (inM_iff i).1 ?_
      cases e : inM i with
      | true => rfl
      | false => exact absurd ⟨hp, e⟩ hbad
    clear hbad
    go_enter Try.func49, Try.ntmps49
    have HWalk : ∀ (a' : Act), True := fun _ => trivial
    by_cases h0 : l.length = 0
    · obtain rfl : l = [] := List.eq_nil_of_length_eq_zero h0
      clear h0 HWalk
      go_wp2_with fail
      go_loopw [19] (fun j wr => j = .int .i64 0 ∧ wr = w) (fun _ _ => 0)
      case atStart => exact ⟨rfl, rfl⟩
      case round =>
        obtain ⟨rfl, rfl⟩ := hrel
        go_wp2_with fail
        go_ret
        exact ⟨by rw [HE.out]; first | done | rfl, Below.refl _ _⟩
    · have hpos : (0 : Int) < (l.length : Int) := by omega
      have HN := inRange_any i w
      rw [(inM_iff i).2 (HBD.out (by omega))] at HN
      have HN := Lib.hid HN
      clear h0 HWalk
      go_wp2_with fail
      go_fit HN.out
      rintro e w' ⟨rfl, rfl⟩
      go_wp2_with fail
      go_loopw [0, 1, 19] (fun x y j wr => ∃ (k : Nat) (p q : Int), j = .int .i64 k ∧ k ≤ l.length ∧ x = .int .i64 p ∧ y = .int .i64 q ∧ (0 ≤ p ∧ p ≤ 1099511627776) ∧ Hid (goB i t l = goB p q (l.drop k)) ∧ Below w.heap.size w wr) (fun _ _ j _ => l.length - (intOf j).toNat)
      case atStart => exact ⟨0, i, t, rfl, Nat.zero_le _, rfl, rfl, HBD.out (by omega), by show _ = _; rw [List.drop_zero], Below.refl _ _⟩
      case round =>
        obtain ⟨k, p, q, rfl, hk, rfl, rfl, ⟨hp0, hp1⟩, HGo, hb⟩ := hrel
        have HB := Lib.hid hb
        by_cases hlt : k < l.length
        · have hg : l[k]? = some l[k] := List.getElem?_eq_getElem hlt
          have HA := Lib.hid (goB_at (i := p) (t := q) hg)
          generalize l[k] = e at *
          obtain ⟨ei, et, a1, n1, c1⟩ := e
          obtain ⟨g, off, rfl, d0, d1, d2⟩ := en_at (HI.out.later hb) hg
          have hbx := lay_alloc wr (.cells #[.int .i64 ei, .int .i64 et, .slice a1 n1 c1] 44)
          have hk2 := Go.heap_alloc_new wr (.cells #[.int .i64 ei, .int .i64 et, .slice a1 n1 c1] 44)
          have HB2 := Lib.hid (hb.trans (hbx.mono hb.size))
          have HOK : Hid (okE p q ⟨ei, et, (a1, n1, c1)⟩ = decide (ei = p + 1 ∧ ei ≤ 1099511627776 ∧ max q 1 ≤ et ∧ et ≤ 1099511627776 ∧ n1 ≤ 8192)) := rfl
          have e1 : IntKind.i64.wrap (p + 1) = p + 1 := IntWalk.i64_in _ (by omega)
          have hmx : ∀ ts ty W, (Builtin.max_ ts ty #[.int .i64 q, .int .i64 1]).run Try.prog W = .ok (.int .i64 (max q 1)) W := fun ts ty W => by
            rw [run_max_int2]; congr 2; split <;> omega
          generalize hm : max q 1 = m at *
          have HMX := Lib.hid hm
          clear hm hg hb hbx hk2
          by_cases c1 : ei = p + 1
          · have b1 : (ei != p + 1) = false := by rw [bne_eq_false_iff_eq]; exact c1
            by_cases c2 : ei ≤ 1099511627776
            · have b2 : ¬ (1099511627776 < ei) := by omega
              by_cases c3 : m ≤ et
              · have b3 : ¬ (et < m) := by omega
                by_cases c4 : et ≤ 1099511627776
                · have b4 : ¬ (1099511627776 < et) := by omega
                  by_cases c5 : n1 ≤ 8192
                  · have b5 : ¬ ((8192 : Int) < (n1 : Int)) := by omega
                    have HT : Hid (goB i t l = goB ei et (l.drop (k + 1))) := by
                      show _ = _
                      rw [HGo.out, HA.out, HOK.out, decide_eq_true ⟨c1, c2, c3, c4, c5⟩, Bool.true_and]
                    have hei : 0 ≤ ei ∧ ei ≤ 1099511627776 := ⟨by omega, c2⟩
                    have HEI := Lib.hid hei
                    clear c1 c2 c3 c4 c5 hei
                    go_wp2_with fail
                    go_quiet (fail)
                    go_wp2_with fail
                    exact ⟨⟨k + 1, ei, et, by go_num, by omega, rfl, rfl, HEI.out, HT, below_drewN HB2.out _⟩, by simp [intOf]; omega⟩
                  · have HF : Hid (goB i t l = false) := by
                      show _ = _
                      rw [HGo.out, HA.out, HOK.out, decide_eq_false (fun h => c5 (h.2.2.2.2)), Bool.false_and]
                    have b5 : (8192 : Int) < (n1 : Int) := by omega
                    clear c1 c2 c3 c4 c5
                    go_wp2_with fail
                    go_ret
                    exact ⟨by rw [HE.out, HF.out]; first | done | rfl, HB2.out⟩
                · have HF : Hid (goB i t l = false) := by
                    show _ = _
                    rw [HGo.out, HA.out, HOK.out, decide_eq_false (fun h => c4 (h.2.2.2.1)), Bool.false_and]
                  have b4 : 1099511627776 < et := by omega
                  clear c1 c2 c3 c4
                  go_wp2_with fail
                  go_ret
                  exact ⟨by rw [HE.out, HF.out]; first | done | rfl, HB2.out⟩
              · have HF : Hid (goB i t l = false) := by
                  show _ = _
                  rw [HGo.out, HA.out, HOK.out, decide_eq_false (fun h => c3 (h.2.2.1)), Bool.false_and]
                have b3 : et < m := by omega
                clear c1 c2 c3
                go_wp2_with fail
                go_ret
                exact ⟨by rw [HE.out, HF.out]; first | done | rfl, HB2.out⟩
            · have HF : Hid (goB i t l = false) := by
                show _ = _
                rw [HGo.out, HA.out, HOK.out, decide_eq_false (fun h => c2 (h.2.1)), Bool.false_and]
              have b2 : 1099511627776 < ei := by omega
              clear c1 c2
              go_wp2_with fail
              go_ret
              exact ⟨by rw [HE.out, HF.out]; first | done | rfl, HB2.out⟩
          · have HF : Hid (goB i t l = false) := by
              show _ = _
              rw [HGo.out, HA.out, HOK.out, decide_eq_false (fun h => c1 (h.1)), Bool.false_and]
            have b1 : (ei != p + 1) = true := by rw [bne_iff_ne]; exact c1
            clear c1
            go_wp2_with fail
            go_ret
            exact ⟨by rw [HE.out, HF.out]; first | done | rfl, HB2.out⟩
        · obtain rfl : k = l.length := by omega
          have HF : Hid (goB i t l = true) := by show _ = _; rw [HGo.out, List.drop_length]; rfl
          go_wp2_with fail
          go_ret
          exact ⟨by rw [HE.out, HF.out]; first | done | rfl, HB.out⟩
end Go.Proofs.Ytcmfnokpbgfioaa
