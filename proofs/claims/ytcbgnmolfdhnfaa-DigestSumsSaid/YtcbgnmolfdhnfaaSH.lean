/-
  How much may be gone through here.
-/
import Derived.Test.YtcbgnmolfdhnfaaDB
namespace Go.Proofs.Ytcbgnmolfdhnfaa
set_option linter.unusedVariables false
set_option linter.unusedSimpArgs false
open Go.RowKit Go.Joins

/-- Lists of pairs, told. -/
def LsIn (w : World) (v : Value) (ls : List (List Pr)) : Prop := ∃ a c, v = .slice a ls.length c ∧ (ls = [] ∨ ∃ g off, a = some ⟨g, off, none⟩ ∧ ∀ i l, ls[i]? = some l → ∃ u, w.cell? ⟨g, off + i, none⟩ = some u ∧ prL.In w u l)
theorem LsIn.later {w w' : World} {v : Value} {ls : List (List Pr)} (h : LsIn w v ls) (hb : Below w.heap.size w w') : LsIn w' v ls := by
  obtain ⟨a, c, hv, h⟩ := h
  refine ⟨a, c, hv, h.imp id ?_⟩
  rintro ⟨g, off, ha, h⟩
  refine ⟨g, off, ha, fun i l hl => ?_⟩
  obtain ⟨u, hu, hi⟩ := h i l hl
  exact ⟨u, cell_later hb hu, hi.later hb⟩
def cutN (n : Nat) : Nat := min n 8192
theorem min_run (t : Nat) : ∀ (ts : Array TypeId) (ty : TypeId) (W : World), (Builtin.min_ ts ty #[.int .i64 t, .int .i64 8192]).run Try.prog W = .ok (.int .i64 (cutN t : Nat)) W := fun ts ty W => by
  rw [run_min_int2]
  congr 2
  unfold cutN
  split <;> omega
theorem cutN_le (n : Nat) : cutN n ≤ 8192 := Nat.min_le_right _ _
/-- A pair that may be gone through. -/
def Fine (p : Pr) : Prop := cutN p.1.size + cutN p.2.size ≤ 8192
def FineL (ls : List (List Pr)) : Prop := ∀ l ∈ ls, l.length ≤ 60 ∧ ∀ p ∈ l, Fine p
def Short (ls : List (List Pr)) (w : World) (e : Ending) (w' : World) : Prop := ∃ b : Bool, e = .returned (.bool b) ∧ (b = true → FineL ls) ∧ Below w.heap.size w w'

set_option maxRecDepth 100000 in
set_option maxHeartbeats 6400000 in
theorem short_any {w : World} {v : Value} {ls : List (List Pr)} (h : LsIn w v ls) (hl : ls.length ≤ 1000) : Calls Try.prog 10 #[v] w (Short ls w) := by
  obtain ⟨a, c, rfl, hls⟩ := h
  have HL := Lib.hid hls
  obtain ⟨m, hm⟩ : ∃ m, m = ls.length := ⟨_, rfl⟩
  rw [← hm] at hl ⊢
  have HM := Lib.hid hm
  clear hls hm
  go_enter Try.func10, Try.ntmps10
  go_wp2_with fail
  have H0 : Hid (FineL (ls.take 0) ∧ Below w.heap.size w w) := Lib.hid ⟨fun l hl => by simp at hl, Below.refl _ _⟩
  go_loopw [3, 10] (fun u v wr => ∃ (i s : Nat), v = .int .i64 i ∧ i ≤ m ∧ u = .int .i64 s ∧ s ≤ 8192 ∧ Hid (FineL (ls.take i) ∧ Below w.heap.size w wr)) (fun _ v _ => m - (intOf v).toNat)
  case atStart => exact ⟨0, 0, rfl, Nat.zero_le _, rfl, by omega, H0⟩
  case round =>
    obtain ⟨i, s, rfl, him, rfl, hs, hst⟩ := hrel
    generalize wr = wo at *
    clear H0
    have ei : IntKind.i64.wrap ((i : Int) + 1) = (i : Int) + 1 := IntWalk.i64_in _ (by omega)
    by_cases hlt : i < m
    · obtain ⟨l, hi⟩ : ∃ l, ls[i]? = some l := ⟨ls[i]'(by rw [← HM.out]; exact hlt), List.getElem?_eq_getElem _⟩
      obtain ⟨g, off, rfl, hat⟩ := HL.out.resolve_left (fun e => by rw [e] at hi; simp at hi)
      obtain ⟨u, hu, hin⟩ := hat i l hi
      have hu2 := cell_later hst.out.2 hu
      obtain ⟨la, lc, rfl, _, _⟩ := hin.slice
      have HIn := Lib.hid (hin.later hst.out.2)
      have HI := Lib.hid hi
      obtain ⟨n, hn⟩ : ∃ n, n = l.length := ⟨_, rfl⟩
      rw [← hn] at hu2 HIn
      have HN := Lib.hid hn
      clear hi hat hu hin hn
      by_cases h60 : 60 < n
      · have h60I : (60 : Int) < (n : Int) := by omega
        go_wp2_with fail
        go_ret
        exact ⟨false, rfl, (fun h => by cases h), hst.out.2⟩
      · have h60I : ¬ (60 : Int) < (n : Int) := by omega
        have HJ0 : Hid ((∀ p ∈ l.take 0, Fine p) ∧ Below w.heap.size w wo ∧ Below wo.heap.size wo wo) := Lib.hid ⟨fun p hp => by simp at hp, hst.out.2, Below.refl _ _⟩
        go_wp2_with fail
        go_loopw [3, 19] (fun u v wr => ∃ (j s : Nat), v = .int .i64 j ∧ j ≤ n ∧ u = .int .i64 s ∧ s ≤ 8192 ∧ Hid ((∀ p ∈ l.take j, Fine p) ∧ Below w.heap.size w wr ∧ Below wo.heap.size wo wr)) (fun _ v _ => n - (intOf v).toNat)
        case atStart => exact ⟨0, s, rfl, Nat.zero_le _, rfl, hs, HJ0⟩
        case round =>
          obtain ⟨j, t, rfl, hjn, rfl, ht, hjt⟩ := hrel
          clear HJ0
          have ej : IntKind.i64.wrap ((j : Int) + 1) = (j : Int) + 1 := IntWalk.i64_in _ (by omega)
          by_cases hjl : j < n
          · obtain ⟨p, hp⟩ : ∃ p, l[j]? = some p := ⟨l[j]'(by rw [← HN.out]; exact hjl), List.getElem?_eq_getElem _⟩
            obtain ⟨g2, off2, rfl, _, hat2⟩ := (HIn.out.later hjt.out.2.2).cells hp
            have c0 := hat2 0 _ rfl
            have c1 := hat2 1 _ rfl
            obtain ⟨k, x⟩ := p
            have d0 : wr.cell? ⟨g2, off2 + j * 2, none⟩ = some (.string k) := c0
            have d1 : wr.cell? ⟨g2, off2 + j * 2 + 1, none⟩ = some (.string x) := c1
            have HP := Lib.hid hp
            have hk1 := min_run k.size
            have hk2 := min_run x.size
            have b1 := cutN_le k.size
            have b2 := cutN_le x.size
            have HFi := Lib.hid (show cutN k.size + cutN x.size ≤ 8192 → Fine (k, x) from id)
            generalize cutN k.size = A at *
            generalize cutN x.size = B at *
            have HB := Lib.hid (below_alloc wr (.cells #[.string k, .string x] 27))
            clear hp hat2 c0 c1
            by_cases hbig : 8192 < t + (A + B)
            · have hbI : (8192 : Int) < (t : Int) + ((A : Int) + (B : Int)) := by omega
              go_wp2_with fail
              go_ret
              exact ⟨false, rfl, (fun h => by cases h), hjt.out.2.1.trans (HB.out.mono hjt.out.2.1.size)⟩
            · have hbI : ¬ (8192 : Int) < (t : Int) + ((A : Int) + (B : Int)) := by omega
              have HNx : Hid ((∀ p ∈ l.take (j + 1), Fine p) ∧ Below w.heap.size w (wr.alloc (.cells #[.string k, .string x] 27)) ∧ Below wo.heap.size wo (wr.alloc (.cells #[.string k, .string x] 27))) := by
                refine Lib.hid ⟨fun p hp => ?_, hjt.out.2.1.trans (HB.out.mono hjt.out.2.1.size), hjt.out.2.2.trans (HB.out.mono hjt.out.2.2.size)⟩
                rw [List.take_add_one, HP.out] at hp
                rcases List.mem_append.1 hp with hp | hp
                · exact hjt.out.1 p hp
                · obtain rfl : p = (k, x) := by simpa using hp
                  exact HFi.out (by omega)
              go_wp2_with fail
              exact ⟨⟨j + 1, t + (A + B), by push_cast; rfl, by omega, by push_cast; rfl, by omega, HNx⟩, by simp [intOf]; omega⟩
          · obtain rfl : j = n := by omega
            have HNx : Hid (FineL (ls.take (i + 1)) ∧ Below w.heap.size w wr) := by
              refine Lib.hid ⟨fun l' hl' => ?_, hjt.out.2.1⟩
              rw [List.take_add_one, HI.out] at hl'
              rcases List.mem_append.1 hl' with hl' | hl'
              · exact hst.out.1 l' hl'
              · obtain rfl : l' = l := by simpa using hl'
                have h1 := hjt.out.1
                rw [List.take_of_length_le (by rw [← HN.out]; exact Nat.le_refl _)] at h1
                exact ⟨by rw [← HN.out]; omega, h1⟩
            go_wp2_with fail
            exact ⟨⟨i + 1, t, by push_cast; rfl, by omega, rfl, ht, HNx⟩, by simp [intOf]; omega⟩
    · obtain rfl : i = m := by omega
      have hF := hst.out.1
      rw [List.take_of_length_le (by rw [← HM.out]; exact Nat.le_refl _)] at hF
      go_wp2_with fail
      go_ret
      exact ⟨true, rfl, fun _ => hF, hst.out.2⟩
end Go.Proofs.Ytcbgnmolfdhnfaa
