/-
  Walks: few. (Written by genfew.py.)
-/
import Derived.Test.YtfkiemmkflchoaaFw
import Derived.Test.YtfkiemmkflchoaaF14
import Derived.BigRegion
namespace Go.Proofs.Ytfkiemmkflchoaa
set_option linter.unusedVariables false
set_option linter.unusedSimpArgs false
open Go.RowKit

def FitE (e : Kev) : Prop := e.key.size ≤ 9223372036854775807 ∧ e.old.size ≤ 9223372036854775807 ∧ e.now.size ≤ 9223372036854775807
set_option maxRecDepth 100000 in
set_option maxHeartbeats 3200000 in
theorem few_any {w : World} {v : Value} (l : List Kev) (hv : evL.In w v l) (hfit : ∀ e ∈ l, FitE e) : Calls Try.prog 17 #[v] w (HoldP (fewB l) w) := by
  obtain ⟨va, vc, rfl, hvc1, hvc2⟩ := hv.slice
  have HV := Lib.hid hv
  have HFit := Lib.hid hfit
  clear hv hfit
  go_enter Try.func17, Try.ntmps17
  go_wp2_with fail
  go_loopw [3, 4] (fun nv iv wr => ∃ (i : Nat) (n : Int), nv = .int .i64 n ∧ iv = .int .i64 i ∧ i ≤ l.length ∧ i ≤ 201 ∧ 0 ≤ n ∧ n ≤ 40000 ∧ Hid (fewGo l 0 0 = fewGo (l.drop i) i n) ∧ Hid (Below w.heap.size w wr))
    (fun _ v _ => l.length - (intOf v).toNat)
  case atStart => exact ⟨0, 0, rfl, rfl, Nat.zero_le _, by omega, by omega, by omega, rfl, Below.refl _ _⟩
  case round =>
    obtain ⟨i, n, rfl, rfl, hin, hi2, hn0, hn1, hgo, hb⟩ := hrel
    by_cases hlt : i < l.length
    · have hI1 : (i : Int) < ((l.length : Nat) : Int) := by omega
      obtain ⟨e, he⟩ : ∃ e, l[i]? = some e := ⟨l[i], List.getElem?_eq_getElem hlt⟩
      have hdrop : l.drop i = e :: l.drop (i + 1) := by
        rw [List.drop_eq_getElem_cons hlt]
        congr 1
        rw [List.getElem?_eq_getElem hlt] at he
        exact Option.some.inj he
      by_cases h200 : i ≤ 200
      · have h200' : (i : Int) ≤ 200 := by omega
        by_cases hN1 : n ≤ 8192
        · have ei : IntKind.i64.wrap ((i : Int) + 1) = (i : Int) + 1 := IntWalk.i64_in _ (by omega)
          have HGO : Hid (fewGo l 0 0 = fewGo (l.drop (i + 1)) (i + 1) (n + fewW e)) := by
            show _ = _
            rw [hgo.out, hdrop]
            show (if i ≤ 200 ∧ n ≤ 8192 then _ else n) = _
            rw [if_pos ⟨h200, hN1⟩]
          obtain ⟨hf1, hf2, hf3⟩ := HFit.out e (List.mem_of_getElem? he)
          have e1 : IntKind.i64.wrap (1 + min (e.key.size : Int) 8192) = 1 + min (e.key.size : Int) 8192 := IntWalk.i64_in _ (by omega)
          have e2 : IntKind.i64.wrap (1 + min (e.key.size : Int) 8192 + min (e.old.size : Int) 8192) = 1 + min (e.key.size : Int) 8192 + min (e.old.size : Int) 8192 := IntWalk.i64_in _ (by omega)
          have e3 : IntKind.i64.wrap (1 + min (e.key.size : Int) 8192 + min (e.old.size : Int) 8192 + min (e.now.size : Int) 8192) = 1 + min (e.key.size : Int) 8192 + min (e.old.size : Int) 8192 + min (e.now.size : Int) 8192 := IntWalk.i64_in _ (by omega)
          have e4 : IntKind.i64.wrap (n + (1 + min (e.key.size : Int) 8192 + min (e.old.size : Int) 8192 + min (e.now.size : Int) 8192)) = n + (1 + min (e.key.size : Int) 8192 + min (e.old.size : Int) 8192 + min (e.now.size : Int) 8192) := IntWalk.i64_in _ (by omega)
          obtain ⟨g, off, rfl, _, hcell⟩ := (HV.out.later hb.out).cells he
          have k1 : wr.cell? ⟨g, off + i * 6 + 1, none⟩ = some (.string e.key) := hcell 1 _ rfl
          have k3 : wr.cell? ⟨g, off + i * 6 + 3, none⟩ = some (.string e.old) := hcell 3 _ rfl
          have k5 : wr.cell? ⟨g, off + i * 6 + 5, none⟩ = some (.string e.now) := hcell 5 _ rfl
          have hI2 : (0 : Int) ≤ (i : Int) := by omega
          have HB9 : Hid (Below w.heap.size w wr.drew) := lay_drew hb.out
          clear he hdrop hgo hb hcell
          go_wp2_with fail
          go_region
          go_wp2_with fail
          refine ⟨⟨i + 1, n + (1 + min (e.key.size : Int) 8192 + min (e.old.size : Int) 8192 + min (e.now.size : Int) 8192), rfl, by simp, hlt, by omega, by omega, by omega, HGO, HB9⟩, by show l.length - ((i : Int) + 1).toNat < l.length - ((i : Int)).toNat; omega⟩
        · have HEX : Hid (fewGo l 0 0 = n) := by
            show _ = _
            rw [hgo.out, hdrop]
            show (if i ≤ 200 ∧ n ≤ 8192 then _ else n) = _
            rw [if_neg (by omega)]
          clear he hdrop
          have HFB : Hid (fewB l = (decide (l.length ≤ 200) && decide (n ≤ 8192))) := by show _ = _; unfold fewB; rw [HEX.out]
          have HB9 := Lib.hid hb.out
          clear hb hgo
          by_cases hA : l.length ≤ 200
          · have hA' : ((l.length : Nat) : Int) ≤ 200 := by omega
            by_cases hN : n ≤ 8192
            · exact absurd hN hN1
            · have HR : Hid (fewB l = false) := by show _ = _; rw [HFB.out, decide_eq_true hA, decide_eq_false hN]; rfl
              go_wp2_with fail
              go_ret
              rw [HR.out]
              exact ⟨rfl, HB9.out⟩
          · have hA' : ¬ ((l.length : Nat) : Int) ≤ 200 := by omega
            have HR : Hid (fewB l = false) := by show _ = _; rw [HFB.out, decide_eq_false hA]; rfl
            go_wp2_with fail
            go_ret
            rw [HR.out]
            exact ⟨rfl, HB9.out⟩
      · have h200' : ¬ (i : Int) ≤ 200 := by omega
        have HEX : Hid (fewGo l 0 0 = n) := by
          show _ = _
          rw [hgo.out, hdrop]
          show (if i ≤ 200 ∧ n ≤ 8192 then _ else n) = _
          rw [if_neg (by omega)]
        clear he hdrop
        have HFB : Hid (fewB l = (decide (l.length ≤ 200) && decide (n ≤ 8192))) := by show _ = _; unfold fewB; rw [HEX.out]
        have HB9 := Lib.hid hb.out
        clear hb hgo
        by_cases hA : l.length ≤ 200
        · have hA' : ((l.length : Nat) : Int) ≤ 200 := by omega
          by_cases hN : n ≤ 8192
          · have HR : Hid (fewB l = true) := by show _ = _; rw [HFB.out, decide_eq_true hA, decide_eq_true hN]; rfl
            go_wp2_with fail
            go_ret
            rw [HR.out]
            exact ⟨rfl, HB9.out⟩
          · have HR : Hid (fewB l = false) := by show _ = _; rw [HFB.out, decide_eq_true hA, decide_eq_false hN]; rfl
            go_wp2_with fail
            go_ret
            rw [HR.out]
            exact ⟨rfl, HB9.out⟩
        · have hA' : ¬ ((l.length : Nat) : Int) ≤ 200 := by omega
          have HR : Hid (fewB l = false) := by show _ = _; rw [HFB.out, decide_eq_false hA]; rfl
          go_wp2_with fail
          go_ret
          rw [HR.out]
          exact ⟨rfl, HB9.out⟩
    · obtain rfl : i = l.length := by omega
      have HEX : Hid (fewGo l 0 0 = n) := by show _ = _; rw [hgo.out, List.drop_length]; rfl
      have HFB : Hid (fewB l = (decide (l.length ≤ 200) && decide (n ≤ 8192))) := by show _ = _; unfold fewB; rw [HEX.out]
      have HB9 := Lib.hid hb.out
      clear hb hgo
      by_cases hA : l.length ≤ 200
      · have hA' : ((l.length : Nat) : Int) ≤ 200 := by omega
        by_cases hN : n ≤ 8192
        · have HR : Hid (fewB l = true) := by show _ = _; rw [HFB.out, decide_eq_true hA, decide_eq_true hN]; rfl
          go_wp2_with fail
          go_ret
          rw [HR.out]
          exact ⟨rfl, HB9.out⟩
        · have HR : Hid (fewB l = false) := by show _ = _; rw [HFB.out, decide_eq_true hA, decide_eq_false hN]; rfl
          go_wp2_with fail
          go_ret
          rw [HR.out]
          exact ⟨rfl, HB9.out⟩
      · have hA' : ¬ ((l.length : Nat) : Int) ≤ 200 := by omega
        have HR : Hid (fewB l = false) := by show _ = _; rw [HFB.out, decide_eq_false hA]; rfl
        go_wp2_with fail
        go_ret
        rw [HR.out]
        exact ⟨rfl, HB9.out⟩

theorem fewW_pos (e : Kev) : 1 ≤ fewW e := by unfold fewW; omega
theorem fewGo_ge : ∀ (l : List Kev) (i : Nat) (n : Int), n ≤ fewGo l i n
  | [], i, n => by simp [fewGo]
  | e :: r, i, n => by
    simp only [fewGo]
    split
    · have := fewGo_ge r (i + 1) (n + fewW e); have := fewW_pos e; omega
    · exact Int.le_refl _
theorem fewGo_small : ∀ (l : List Kev) (i : Nat) (n : Int), i + l.length ≤ 200 → 0 ≤ n → fewGo l i n ≤ 8192 → ∀ e ∈ l, fewW e ≤ 8192
  | [], i, n, _, _, _ => by simp
  | x :: r, i, n, h1, h2, h3 => by
    simp only [fewGo] at h3
    simp only [List.length_cons] at h1
    split at h3
    · have hx := fewW_pos x
      have h4 := fewGo_ge r (i + 1) (n + fewW x)
      intro e he
      rcases List.mem_cons.1 he with rfl | he
      · omega
      · exact fewGo_small r (i + 1) (n + fewW x) (by omega) (by omega) h3 e he
    · omega
theorem few_small {l : List Kev} (h : fewB l = true) : l.length ≤ 200 ∧ ∀ e ∈ l, e.key.size ≤ 8192 ∧ e.old.size ≤ 8192 ∧ e.now.size ≤ 8192 := by
  unfold fewB at h
  rw [Bool.and_eq_true, decide_eq_true_eq, decide_eq_true_eq] at h
  refine ⟨h.1, fun e he => ?_⟩
  have := fewGo_small l 0 0 (by omega) (by omega) h.2 e he
  unfold fewW at this
  omega
end Go.Proofs.Ytfkiemmkflchoaa
