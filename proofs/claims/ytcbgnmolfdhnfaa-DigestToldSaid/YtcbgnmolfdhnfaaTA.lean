/-
  What DigestTold asks of its lists. (Written by genta.py.)
-/
import Derived.Test.YtcbgnmolfdhnfaaV2
namespace Go.Proofs.Ytcbgnmolfdhnfaa
set_option linter.unusedVariables false
set_option linter.unusedSimpArgs false
open Go.RowKit

def Bool1 (b : Bool) (w : World) (e : Ending) (w' : World) : Prop := e = .returned (.bool b) ∧ w' = w
set_option maxHeartbeats 1600000 in
theorem nan_any (a : ByteArray) (w : World) : Calls Try.prog 89 #[.string a] w (Bool1 false w) := by
  go_enter Try.func89, Try.ntmps89
  go_wp2_with fail
  go_ret
  exact ⟨by first | done | rfl | simp, rfl⟩
set_option maxHeartbeats 1600000 in
theorem less_any (a b : ByteArray) (w : World) : Calls Try.prog 62 #[.string a, .string b] w (Bool1 (klt a b) w) := by
  have H1 := Lib.hid (nan_any a w)
  obtain ⟨r, hr⟩ : ∃ r, r = klt a b := ⟨_, rfl⟩
  have hr2 : Go.Op.bytesLess a.toList b.toList = r := hr.symm
  rw [← hr]
  clear hr
  go_enter Try.func62, Try.ntmps62
  go_wp2_with fail
  go_fit H1.out
  rintro e w2 ⟨rfl, rfl⟩
  go_wp2_with fail
  go_ret
  exact ⟨by first | done | rfl | simp [hr2], rfl⟩
def SortE (w : World) (e : Ending) (w' : World) : Prop := e = .returned (.bool true) ∧ Below w.heap.size w w'
set_option maxRecDepth 100000 in
set_option maxHeartbeats 3200000 in
theorem IsSorted_any {w : World} {v : Value} {l : List ByteArray} (h : strL.In w v l) (hl : l.length ≤ 1000000000) (hs : ∀ i a b, l[i]? = some a → l[i + 1]? = some b → klt b a = false) : Calls Try.prog 32 #[v] w (SortE w) := by
  obtain ⟨a, c, rfl, _, _⟩ := h.slice
  have HI := Lib.hid h
  have HS := Lib.hid hs
  clear h hs
  obtain ⟨n, hn⟩ : ∃ n, n = l.length := ⟨_, rfl⟩
  rw [← hn] at hl HI ⊢
  have HN := Lib.hid hn
  clear hn
  have en : IntKind.i64.wrap ((n : Int) - 1) = (n : Int) - 1 := IntWalk.i64_in _ (by omega)
  go_enter Try.func32, Try.ntmps32
  go_wp2_with fail
  go_loopw [3] (fun i wr => ∃ j : Nat, i = .int .i64 ((j : Int) - 1) ∧ j ≤ n ∧ Hid (Below w.heap.size w wr)) (fun i _ => (intOf i + 1).toNat)
  case atStart => exact ⟨n, rfl, Nat.le_refl _, Lib.hid (Below.refl _ _)⟩
  case round =>
    obtain ⟨j, rfl, hj, HB⟩ := hrel
    clear en
    have ej : IntKind.i64.wrap ((j : Int) - 1 - 1) = (j : Int) - 1 - 1 := IntWalk.i64_in _ (by omega)
    by_cases h2 : 2 ≤ j
    · obtain ⟨m, rfl⟩ : ∃ m, j = m + 2 := ⟨j - 2, by omega⟩
      have e1 : ((m + 2 : Nat) : Int) - 1 = ((m + 1 : Nat) : Int) := by push_cast; omega
      have e2 : ((m + 2 : Nat) : Int) - 1 - 1 = (m : Int) := by push_cast; omega
      rw [e1]
      obtain ⟨x, hx⟩ : ∃ x, l[m]? = some x := ⟨l[m]'(by rw [← HN.out]; omega), List.getElem?_eq_getElem _⟩
      obtain ⟨y, hy⟩ : ∃ y, l[m + 1]? = some y := ⟨l[m + 1]'(by rw [← HN.out]; omega), List.getElem?_eq_getElem _⟩
      have hk := HS.out m x y hx hy
      obtain ⟨g, off, rfl, hcl, hat⟩ := (HI.out.later HB.out).cells hx
      clear hcl
      have q0 : wr.cell? ⟨g, off + m, none⟩ = some (.string x) := by
        have h := hat 0 _ rfl
        rw [show strL.sz = 1 from rfl, Nat.mul_one] at h; exact h
      have q1 : wr.cell? ⟨g, off + (m + 1), none⟩ = some (.string y) := by
        obtain ⟨g', off', e, hcl, hat⟩ := (HI.out.later HB.out).cells hy
        obtain ⟨rfl, rfl⟩ : g = g' ∧ off = off' := by simpa using e
        have h := hat 0 _ rfl
        rw [show strL.sz = 1 from rfl, Nat.mul_one] at h; exact h
      have HL : Hid (∀ V : World, Calls Try.prog 62 #[.string y, .string x] V fun e w' => e = .returned (.bool false) ∧ w' = V) := Lib.hid fun V => by
        have h := less_any y x V
        rw [hk] at h
        exact h
      have hI1 : ((m + 1 : Nat) : Int) < (n : Int) := by omega
      have hI2 : (0 : Int) < ((m + 1 : Nat) : Int) := by omega
      have hI3 : (0 : Int) ≤ ((m + 1 : Nat) : Int) := by omega
      have hI4 : (m : Int) < (n : Int) := by omega
      have hI5 : (0 : Int) ≤ (m : Int) := by omega
      have ek : IntKind.i64.wrap (((m + 1 : Nat) : Int) - 1) = (m : Int) := by rw [IntWalk.i64_in _ (by omega)]; omega
      clear hat hx hy hk e1 e2 ej
      obtain ⟨M, hM⟩ : ∃ M, M = m + 1 := ⟨_, rfl⟩
      rw [← hM] at q1 hI1 hI2 hI3 ek ⊢
      have HM := Lib.hid hM
      clear hM
      go_wp2_with fail
      go_quiet ((go_at_call 62; exact Calls.quiet_of_same (HL.out _)))
      have HB2 : Hid (Below w.heap.size w (wr.drewN nq)) := Lib.hid (below_drewN HB.out nq)
      clear q0 q1 HL HB
      generalize wr.drewN nq = V at *
      go_wp2_with fail
      exact ⟨⟨m + 1, by push_cast; congr 1; omega, by omega, HB2⟩, by simp [intOf]; have := HM.out; omega⟩
    · have h3 : ¬ (0 : Int) < (j : Int) - 1 := by omega
      go_wp2_with fail
      go_ret
      exact ⟨rfl, HB.out⟩
/-- Is it this key? -/
def KeyE (b : Bool) (w : World) (e : Ending) (w' : World) : Prop := e = .returned (.bool b) ∧ Below w.heap.size w w'
set_option maxRecDepth 100000 in
set_option maxHeartbeats 1600000 in
theorem told1_any (k : ByteArray) (z : Int) (x y1 y2 : ByteArray) (b1 b2 : Bool) (b : Nat) (w : World) (hk : w.cell? ⟨b, 0, none⟩ = some (.string k)) : Calls Try.prog 34 #[.agg #[.int .i64 z, .string x, .bool b1, .string y1, .bool b2, .string y2], .pointer (some ⟨b, 0, none⟩)] w (KeyE (decide (x = k)) w) := by
  have HB := Lib.hid (below_alloc w (.cells #[.int .i64 z, .string x, .bool b1, .string y1, .bool b2, .string y2] 67))
  have k0 := cell_later HB.out hk
  have x0 : (w.alloc (.cells #[.int .i64 z, .string x, .bool b1, .string y1, .bool b2, .string y2] 67)).cell? ⟨w.heap.size, 1, none⟩ = some (.string x) := by go_simp
  clear hk
  go_enter Try.func34, Try.ntmps34
  go_upto_region 1 with fail
  generalize w.alloc (.cells #[.int .i64 z, .string x, .bool b1, .string y1, .bool b2, .string y2] 67) = W at *
  by_cases hx : x = k
  · subst hx
    go_wp2_with fail
    go_ret
    exact ⟨by first | done | rfl | simp, HB.out⟩
  · go_wp2_with fail
    go_ret
    exact ⟨by first | done | rfl | simp [hx, ba_eq], HB.out⟩
end Go.Proofs.Ytcbgnmolfdhnfaa
