/-
  Walks of package wire's number and Next.
-/
import Derived.Test.YtnfpobbdcjfcoaaWb2
import Derived.Test.YtnfpobbdcjfcoaaWm2
import Derived.Deep.QuietTactic
import Derived.BigQuiet
namespace Go.Proofs.Ytnfpobbdcjfcoaa
set_option linter.unusedVariables false
set_option linter.unusedSimpArgs false
open Go.RowKit

/-- Bytes, the highest one first, as a number. -/
def ofBe (l : List Int) : Nat := l.foldl (fun a x => a * 256 + x.toNat) 0

/-- With which number bytes begin, how many bytes it has, and why there is none. -/
def numAt (xs : List Int) : Nat × Nat × Int :=
  if xs.length = 0 then (0, 0, 2) else
  let k := xs.getD 0 0
  if 8 < k then (0, 0, 11) else
  if (xs.length : Int) ≤ k then (0, 0, 2) else
  if 0 < k ∧ xs.getD 1 0 = 0 then (0, 0, 11) else
  if k = 8 ∧ 127 < xs.getD 1 0 then (0, 0, 5) else
  (ofBe ((xs.drop 1).take k.toNat), 1 + k.toNat, 0)

theorem ofBe_snoc (l : List Int) (i : Nat) (h : i < l.length) : ofBe (l.take (i + 1)) = ofBe (l.take i) * 256 + (l.getD i 0).toNat := by
  unfold ofBe
  rw [List.take_succ_eq_append_getElem h, List.foldl_append, List.getD_eq_getElem?_getD, List.getElem?_eq_getElem h]; rfl

theorem fold_be (l : List Int) : ∀ a : Nat, l.foldl (fun a x => a * 256 + x.toNat) a = a * 256 ^ l.length + ofBe l := by
  unfold ofBe
  induction l with
  | nil => intro a; simp
  | cons x l ih =>
    intro a
    simp only [List.foldl_cons, List.length_cons]
    rw [ih (a * 256 + x.toNat), ih (0 * 256 + x.toNat), Nat.pow_succ]
    simp only [Nat.add_mul, Nat.zero_mul, Nat.zero_add, Nat.add_assoc, Nat.mul_assoc, Nat.mul_comm 256]

theorem ofBe_cons (x : Int) (l : List Int) : ofBe (x :: l) = x.toNat * 256 ^ l.length + ofBe l := by
  have := fold_be l (0 * 256 + x.toNat)
  simpa [ofBe] using this

theorem ofBe_lt (l : List Int) (hl : ∀ x ∈ l, x < 256) : ofBe l < 256 ^ l.length := by
  induction l with
  | nil => simp [ofBe]
  | cons x l ih =>
    rw [ofBe_cons, List.length_cons, Nat.pow_succ]
    have h1 := ih (fun y hy => hl y (by simp [hy]))
    have h2 : x.toNat + 1 ≤ 256 := by have := hl x (by simp); omega
    have h3 := Nat.mul_le_mul_right (256 ^ l.length) h2
    rw [Nat.add_mul] at h3
    omega

/-- A beginning of a number, and 256 times it, are not above the number. -/
theorem ofBe_front (l : List Int) (i : Nat) (h : i < l.length) : ofBe (l.take i) * 256 + (l.getD i 0).toNat ≤ ofBe l := by
  rw [← ofBe_snoc l i h]
  have e : ofBe l = ofBe (l.take (i + 1)) * 256 ^ (l.drop (i + 1)).length + ofBe (l.drop (i + 1)) := by
    have := fold_be (l.drop (i + 1)) (ofBe (l.take (i + 1)))
    rw [← this]
    unfold ofBe
    rw [← List.foldl_append, List.take_append_drop]
  rw [e]
  have := Nat.le_mul_of_pos_right (ofBe (l.take (i + 1))) (Nat.pow_pos (a := 256) (n := (l.drop (i + 1)).length) (by omega))
  omega

theorem ofBe_bound (l : List Int) (hl : ∀ x ∈ l, 0 ≤ x ∧ x < 256) (h8 : l.length ≤ 8) (hh : l.length = 8 → l.getD 0 0 ≤ 127) : ofBe l ≤ 9223372036854775807 := by
  rcases Nat.lt_or_ge l.length 8 with h | h
  · have h1 := ofBe_lt l (fun x hx => (hl x hx).2)
    have h2 : 256 ^ l.length ≤ 256 ^ 7 := Nat.pow_le_pow_right (by omega) (by omega)
    omega
  · have e8 : l.length = 8 := by omega
    cases l with
    | nil => simp at e8
    | cons x r =>
      have h1 := ofBe_lt r (fun y hy => (hl y (by simp [hy])).2)
      have er : r.length = 7 := by simpa using e8
      have hx := hh e8
      simp only [List.getD_cons_zero] at hx
      have h0 := (hl x (by simp)).1
      rw [ofBe_cons, er]
      rw [er] at h1
      have : x.toNat ≤ 127 := by omega
      omega

/-- Three ints. -/
def Three (t : Nat × Nat × Int) (w : World) (e : Ending) (w' : World) : Prop := e = .returned (.tuple #[.int .i64 t.1, .int .i64 t.2.1, .int .i64 t.2.2]) ∧ w = w'

theorem three_ret {a b c a' b' c' : Int} (h1 : a = a') (h2 : b = b') (h3 : c = c') : Ending.returned (.tuple #[.int .i64 a, .int .i64 b, .int .i64 c]) = .returned (.tuple #[.int .i64 a', .int .i64 b', .int .i64 c']) := by rw [h1, h2, h3]

set_option maxHeartbeats 800000 in
theorem number_loop (b o n c k : Nat) (ys : List Int) (w : World) (hk : 1 ≤ k) (h8 : k ≤ 8) (hn : k < n) (hn2 : n ≤ 140737488355328) (hnc : n ≤ c) (hy : ys.length = k) (h0 : w.cell? ⟨b, o, none⟩ = some (.int .u8 k))
    (hc : ∀ i, i < k → w.cell? ⟨b, o + 1 + i, none⟩ = some (.int .u8 (ys.getD i 0))) (hr : ∀ x ∈ ys, 0 ≤ x ∧ x < 256) (hz : ys.getD 0 0 ≠ 0) (h127 : k = 8 → ys.getD 0 0 ≤ 127) :
    Calls Try.prog 57 #[.slice (some ⟨b, o, none⟩) n c] w (Three (ofBe ys, 1 + k, 0) w) := by
  have hc1 := hc 0 (by omega)
  have hb := ofBe_bound ys hr (by omega) (fun h => h127 (by omega))
  have Hb := Lib.hid hb
  have Hc := Lib.hid hc
  have Hr := Lib.hid hr
  have Hy := Lib.hid hy
  obtain ⟨z, hzz⟩ : ∃ z : Int, z = ys.getD 0 0 := ⟨_, rfl⟩
  rw [← hzz] at hc1 hz h127
  simp only [Nat.add_zero] at hc1
  have t1 : (z == 0) = false := by simpa using hz
  have t2 : ((k : Int) == 8 && decide (127 < z)) = false := by
    by_cases e : k = 8
    · have := h127 e; simp [show ¬ 127 < z by omega]
    · have : ¬ (k : Int) = 8 := by omega
      simp [this]
  have hlen0 : ((n : Int) == 0) = false := by simp; omega
  clear hb hc hr hy hzz hz
  go_enter Try.func57, Try.ntmps57
  go_wp2_with fail
  all_goals
    go_loop [6, 47] (fun v i => ∃ (j a : Nat), j ≤ k ∧ i = .int .i64 j ∧ v = .int .i64 a ∧ Hid (a = ofBe (ys.take j))) (fun _ i => k - (intOf i).toNat)
    case atStart => exact ⟨0, 0, Nat.zero_le _, rfl, rfl, rfl⟩
    case round =>
      obtain ⟨j, a, hj, rfl, rfl, Ha⟩ := hrel
      by_cases hlt : j < k
      · have hcell := Hc.out j hlt
        have hjy : j < ys.length := by rw [Hy.out]; exact hlt
        have hx := Hr.out (ys.getD j 0) (by rw [List.getD_eq_getElem?_getD, List.getElem?_eq_getElem hjy]; simp)
        have hf := ofBe_front ys j hjy
        have Hs := Lib.hid (ofBe_snoc ys j hjy)
        have hB := Hb.out
        rw [← Ha.out] at hf
        generalize ys.getD j 0 = x at *
        obtain ⟨y, rfl⟩ := Int.eq_ofNat_of_zero_le hx.1
        have hy2 : y < 256 := by omega
        have hay : a * 256 + y ≤ 9223372036854775807 := by simp only [Int.toNat_natCast] at hf; omega
        have e1 := or_i64_8 a y hay hy2
        obtain ⟨C, hC⟩ : ∃ C : Nat, C = a * 256 + y := ⟨_, rfl⟩
        rw [← hC] at e1
        have HC := Lib.hid hC
        clear hC hf hB hx hjy
        go_wp2_with fail
        go_round
        case rel => exact ⟨j + 1, C, by omega, by go_num, rfl, by show C = _; rw [Hs.out, ← Ha.out, HC.out]; simp⟩
        case measure => simp [intOf]; omega
      · have He : Hid (a = ofBe ys) := by show a = _; rw [Ha.out, List.take_of_length_le (by rw [Hy.out]; omega)]
        go_wp2_with fail
        go_ret3
        rw [← He.out]
        exact ⟨three_ret rfl (by show _ = ((1 + k : Nat) : Int); omega) rfl, rfl⟩

theorem byte_at {w : World} {b o n : Nat} {xs : List Int} (hc : ∀ i, i < n → w.cell? ⟨b, o + i, none⟩ = some (.int .u8 (xs.getD i 0))) (hx : xs.length = n) (hr : ∀ x ∈ xs, 0 ≤ x ∧ x < 256) (i : Nat) (hi : i < n) :
    ∃ y : Nat, xs.getD i 0 = (y : Int) ∧ y < 256 ∧ w.cell? ⟨b, o + i, none⟩ = some (.int .u8 y) := by
  have h := hr (xs.getD i 0) (by rw [List.getD_eq_getElem?_getD, List.getElem?_eq_getElem (by omega)]; simp)
  refine ⟨(xs.getD i 0).toNat, by omega, by omega, ?_⟩
  rw [hc i hi]; congr 2; omega

set_option maxHeartbeats 400000 in
theorem number_none (p : Option Addr) (c : Nat) (w : World) : Calls Try.prog 57 #[.slice p 0 c] w (Three (0, 0, 2) w) := by
  go_enter Try.func57, Try.ntmps57
  go_wp2_with fail
  go_ret3
  exact ⟨rfl, rfl⟩

set_option maxHeartbeats 400000 in
theorem number_form (b o n c k : Nat) (w : World) (hn : 0 < n) (hk : 8 < k) (hk2 : k < 256) (h0 : w.cell? ⟨b, o, none⟩ = some (.int .u8 k)) : Calls Try.prog 57 #[.slice (some ⟨b, o, none⟩) n c] w (Three (0, 0, 11) w) := by
  have hlen0 : ((n : Int) == 0) = false := by simp; omega
  go_enter Try.func57, Try.ntmps57
  go_wp2_with fail
  go_ret3
  exact ⟨rfl, rfl⟩

set_option maxHeartbeats 400000 in
theorem number_short (b o n c k : Nat) (w : World) (hn : 0 < n) (hk : k ≤ 8) (hnk : n ≤ k) (h0 : w.cell? ⟨b, o, none⟩ = some (.int .u8 k)) : Calls Try.prog 57 #[.slice (some ⟨b, o, none⟩) n c] w (Three (0, 0, 2) w) := by
  have hlen0 : ((n : Int) == 0) = false := by simp; omega
  go_enter Try.func57, Try.ntmps57
  go_wp2_with fail
  go_ret3
  exact ⟨rfl, rfl⟩

set_option maxHeartbeats 400000 in
theorem number_zero (b o n c : Nat) (w : World) (hn : 0 < n) (hn2 : n ≤ 140737488355328) (hnc : n ≤ c) (h0 : w.cell? ⟨b, o, none⟩ = some (.int .u8 0)) : Calls Try.prog 57 #[.slice (some ⟨b, o, none⟩) n c] w (Three (0, 1, 0) w) := by
  have hlen0 : ((n : Int) == 0) = false := by simp; omega
  go_enter Try.func57, Try.ntmps57
  go_wp2_with fail
  all_goals
    refine wp_loop_rounds 1 ?_
    rw [rounds_succ]
    go_wp2_with fail
    go_ret3
    exact ⟨rfl, rfl⟩

set_option maxHeartbeats 400000 in
theorem number_nought (b o n c k : Nat) (w : World) (h1k : 1 ≤ k) (hk : k ≤ 8) (hnk : k < n) (h0 : w.cell? ⟨b, o, none⟩ = some (.int .u8 k)) (h1 : w.cell? ⟨b, o + 1, none⟩ = some (.int .u8 0)) : Calls Try.prog 57 #[.slice (some ⟨b, o, none⟩) n c] w (Three (0, 0, 11) w) := by
  have hlen0 : ((n : Int) == 0) = false := by simp; omega
  go_enter Try.func57, Try.ntmps57
  go_wp2_with fail
  go_ret3
  exact ⟨rfl, rfl⟩

set_option maxHeartbeats 400000 in
theorem number_range (b o n c z : Nat) (w : World) (hnk : 8 < n) (hz : 127 < z) (hz2 : z < 256) (h0 : w.cell? ⟨b, o, none⟩ = some (.int .u8 8)) (h1 : w.cell? ⟨b, o + 1, none⟩ = some (.int .u8 z)) : Calls Try.prog 57 #[.slice (some ⟨b, o, none⟩) n c] w (Three (0, 0, 5) w) := by
  have hlen0 : ((n : Int) == 0) = false := by simp; omega
  have t1 : ((z : Int) == 0) = false := by simp; omega
  go_enter Try.func57, Try.ntmps57
  go_wp2_with fail
  go_ret3
  exact ⟨rfl, rfl⟩

theorem number_any (p : Option Addr) (n c : Nat) (xs : List Int) (w : World) (hx : xs.length = n) (hb : Lib.BytesIn w p n xs) (hnc : n ≤ c) (hn2 : n ≤ 140737488355328) (hr : ∀ x ∈ xs, 0 ≤ x ∧ x < 256) :
    Calls Try.prog 57 #[.slice p n c] w (Three (numAt xs) w) := by
  unfold numAt
  rcases Nat.eq_zero_or_pos n with h0 | h0
  · subst h0
    rw [if_pos hx]
    exact number_none p c w
  · obtain ⟨b, o, rfl, hc⟩ := hb h0
    rw [if_neg (by omega)]
    obtain ⟨k, ek, hk, hck⟩ := byte_at hc hx hr 0 h0
    simp only [Nat.add_zero] at hck
    simp only [ek]
    by_cases h8 : 8 < (k : Int)
    · rw [if_pos h8]; exact number_form b o n c k w h0 (by omega) hk hck
    rw [if_neg h8]
    by_cases hs : (xs.length : Int) ≤ k
    · rw [if_pos hs]; exact number_short b o n c k w h0 (by omega) (by omega) hck
    rw [if_neg hs]
    rcases Nat.eq_zero_or_pos k with hk0 | hk0
    · subst hk0
      rw [if_neg (by omega), if_neg (by omega)]
      have := number_zero b o n c w h0 hn2 hnc hck
      simpa [ofBe] using this
    obtain ⟨z, ez, hz, hcz⟩ := byte_at hc hx hr 1 (by omega)
    simp only [ez]
    by_cases hz0 : z = 0
    · subst hz0
      rw [if_pos ⟨by omega, rfl⟩]; exact number_nought b o n c k w hk0 (by omega) (by omega) hck hcz
    rw [if_neg (by omega)]
    by_cases h127 : (k : Int) = 8 ∧ 127 < (z : Int)
    · rw [if_pos h127]
      obtain rfl : k = 8 := by omega
      exact number_range b o n c z w (by omega) (by omega) hz hck hcz
    rw [if_neg h127]
    have ey : ∀ i, i < k → ((xs.drop 1).take k).getD i 0 = xs.getD (i + 1) 0 := by
      intro i hi
      simp only [List.getD_eq_getElem?_getD, List.getElem?_take, hi, if_true, List.getElem?_drop, Nat.add_comm]
    refine number_loop b o n c k ((xs.drop 1).take k) w hk0 (by omega) (by omega) hn2 hnc (by simp; omega) hck ?_ (fun x h => hr x (List.mem_of_mem_drop (List.mem_of_mem_take h))) ?_ ?_
    · intro i hi
      rw [ey i hi, ← hc (i + 1) (by omega)]; congr 2; omega
    · rw [ey 0 hk0]; simp only [Nat.zero_add]; rw [ez]; omega
    · intro e; rw [ey 0 hk0]; simp only [Nat.zero_add]; rw [ez]; omega

theorem quiet_left {P : Program} {f : FuncId} {args : Array Value} {w : World} {n : Nat} {v : Value}
    (h : Calls P f args (w.drewN n) fun e w' => e = .returned v ∧ w.drewN n = w') : Calls P f args (w.drewN n) fun e w'' => e = .returned v ∧ ∃ m, w'' = w.drewN m :=
  h.mono fun _ _ ⟨he, hm⟩ => ⟨he, n, hm.symm⟩

theorem numAt_ok (xs : List Int) (hr : ∀ x ∈ xs, 0 ≤ x ∧ x < 256) (h : (numAt xs).2.2 = 0) : 1 ≤ (numAt xs).2.1 ∧ (numAt xs).2.1 ≤ 9 ∧ (numAt xs).2.1 ≤ xs.length := by
  revert h
  unfold numAt
  by_cases h0 : xs.length = 0
  · rw [if_pos h0]; intro h; cases h
  rw [if_neg h0]
  have hk := hr (xs.getD 0 0) (by rw [List.getD_eq_getElem?_getD, List.getElem?_eq_getElem (by omega)]; simp)
  simp only []
  split
  · intro h; cases h
  split
  · intro h; cases h
  split
  · intro h; cases h
  split
  · intro h; cases h
  intro _
  simp only []
  omega

theorem drewN_zero (w : World) : ∃ q, w = w.drewN q := ⟨0, rfl⟩

end Go.Proofs.Ytnfpobbdcjfcoaa
