/-
  Walks of the document's own frames, and of what the statements call of the library: slices.Clone, bytes.Equal.
-/
import Derived.Test.YtpdabpcdmenlaaaDoorR2
namespace Go.Proofs.YtpdabpcdmenlaaaDoor
set_option linter.unusedVariables false
set_option linter.unusedSimpArgs false
open Go.RowKit

set_option maxHeartbeats 400000 in
theorem RFrame_long (p : Option Addr) (n c : Nat) (w : World) (hn : 32768 < n) :
    Calls Tryd.prog 27 #[.slice p n c] w fun e w' => e = .returned (.tuple #[.slice none 0 0, .int .i64 4]) ∧ w = w' := by
  go_enter Tryd.func27, Tryd.ntmps27
  go_wp2_with fail
  go_ret2
  exact ⟨rfl, rfl⟩

/-- The rest of a sum's bytes, behind the first k. -/
def restSum (c k : Nat) : List Int := (sum4 c).drop k

theorem sum4_get (c : Nat) (hc : c < 4294967296) (k : Nat) (hk : k < 4) : restSum c k = (((c / 256 ^ k : Nat) : Int) % 256) :: restSum c (k + 1) := by
  unfold restSum sum4
  match k, hk with
  | 0, _ => simp
  | 1, _ => simp
  | 2, _ => simp
  | 3, _ => simp; omega

set_option maxHeartbeats 1600000 in
theorem RFrame_any (p : Option Addr) (n c : Nat) (xs : List Int) (w : World) (hx : xs.length = n) (hb : Lib.BytesIn w p n xs) (hp : p = none → n = 0 ∧ c = 0) (hr : ∀ x ∈ xs, 0 ≤ x ∧ x < 256) (hn : n ≤ 32768) :
    Calls Tryd.prog 27 #[.slice p n c] w (MadeE w.heap.size w (frame xs) 0) := by
  have Hx : Hid (xs.length = n) := hx
  have hnl := num_le n (by omega)
  have hfr : Hid (frame xs = num n ++ xs ++ sum4 (sumOf (num n ++ xs))) := by unfold frame; rw [hx]; rfl
  have Hby : Hid (∀ x ∈ num n ++ xs, 0 ≤ x ∧ x < 256) := by
    intro x h; rcases List.mem_append.1 h with h | h
    · exact num_byte n (by omega) x h
    · exact hr x h
  have Hb := Lib.hid hb
  clear hx hr hb
  go_enter Tryd.func27, Tryd.ntmps27
  go_wp2_with fail
  go_fit (RNumber_nat none 0 0 [] n n w rfl (Lib.BytesIn.nil _ _ _) (fun _ => ⟨rfl, rfl⟩) (by omega) (by omega) (by omega))
  rintro e w2 ⟨g2, n2, c2, rfl, hown2, hb2⟩
  have hn2 : n2 ≤ 9 := by rw [← owns_len hown2]; simpa using hnl
  have hat2 := owns_at hown2
  have hin2 := later Hb.out hb2
  have hw2 := hb2.size
  simp only [List.nil_append] at hown2
  go_wp2_with (at_builtin; (refine wpList_push rfl (.tmp 11) (.tmp 12) rfl w.heap.size g2 n2 c2 (num n) rfl hown2 p n c xs rfl hin2 Hx.out hp (by omega) hw2 ?_; intro g3 c3 w3 hown3 hgrow3))
  have hbel3 := made_grown hb2 hgrow3 hw2 hat2.1
  have hw3 : w.heap.size ≤ w3.heap.size := Nat.le_trans hw2 hgrow3.size
  have hS := sumOf_lt (num n ++ xs)
  go_fit (RSum_any _ _ _ _ w3 (owns_len hown3) (owns_in hown3) (by omega) Hby.out)
  rintro e w' ⟨rfl, rfl⟩
  generalize sumOf (num n ++ xs) = S at *
  generalize num n ++ xs = body at *
  generalize hn3 : n2 + n = n3 at *
  have hn3l : n3 ≤ 32777 := by omega
  clear hn3 hown2 hgrow3 hin2 hb2 hnl
  have hfin : Hid (frame xs = body ++ sum4 S) := hfr
  clear hfr
  go_wp2_with fail
  go_loopw [4, 5, 16] (fun v s i wr => ∃ (k g m d C : Nat) (ys : List Int), k ≤ 4 ∧ i = .int .i64 k ∧ v = .slice (some ⟨g, 0, none⟩) m d ∧ s = .int .u32 C ∧ C < 4294967296 ∧ Hid (C = S / 256 ^ k) ∧ m ≤ n3 + k ∧ wr.ownsRow w.heap.size 5 1 (.slice (some ⟨g, 0, none⟩) m d) m (ys.map (Value.int .u8)) ∧ Below w.heap.size w wr ∧ Hid (ys ++ restSum S k = body ++ sum4 S))
    (fun _ _ i _ => (4 - (intOf i).toNat))
  case atStart => exact ⟨0, g3, n3, c3, S, body, by omega, rfl, rfl, rfl, hS, by show S = S / 256 ^ 0; simp, by omega, hown3, hbel3, rfl⟩
  case round =>
    obtain ⟨k, g, m, d, C, ys, hk, rfl, rfl, rfl, hC, HC, hm, hown, hbel, He⟩ := hrel
    have hat := owns_at hown
    have hBw : w.heap.size ≤ wr.heap.size := hbel.size
    by_cases hlt : k < 4
    · have hst := sum4_get S hS k hlt
      rw [← HC.out] at hst
      have He2 : Hid (ys ++ [(C : Int) % 256] ++ restSum S (k + 1) = body ++ sum4 S) := by
        show _ = _
        rw [← He.out, hst]; simp
      have HC2 : Hid (C / 256 = S / 256 ^ (k + 1)) := by
        show _ = _
        rw [HC.out, Nat.div_div_eq_div_mul, Nat.pow_succ]
      clear hst He
      go_wp2_with (at_builtin; go_loud (refine wpList_push rfl _ _ rfl w.heap.size g m d ys rfl (hown.alloc _) (some ⟨wr.heap.size, 0, none⟩) 1 1 [(C : Int) % 256] rfl (in_one _ _) rfl (by intro h; cases h) (by omega) (by simp; omega) ?_; intro g4 c4 w4 hown4 hgrow4))
      go_roundw
      case rel => exact ⟨k + 1, g4, m + 1, c4, C / 256, _, by omega, by go_num, rfl, by go_num, by omega, HC2.out, by omega, hown4, below_push hbel hgrow4 hBw hat.1, He2.out⟩
      case measure => simp [intOf]; omega
    · have He2 : Hid (ys = body ++ sum4 S) := by
        show _ = _
        rw [← He.out, show k = 4 from by omega]; simp [restSum, sum4]
      go_wp2_with fail
      go_ret2
      rw [hfin.out, ← He2.out]
      exact ⟨g, m, d, rfl, hown, hbel⟩

/-- bytes.Equal of slices that read alike. -/
theorem Equal_same (p q : Option Addr) (n c m d : Nat) (xs : List Int) (w : World) (hx : xs.length = n) (hy : xs.length = m) (h1 : Lib.BytesIn w p n xs) (h2 : Lib.BytesIn w q m xs) :
    Calls Tryd.prog 18 #[.slice p n c, .slice q m d] w fun e w' => e = .returned (.bool true) ∧ w = w' :=
  (Tryd.bytes_Equal_all p q n c m d xs xs w hx hy h1 h2).mono fun _ _ ⟨h, e⟩ => ⟨by rw [h]; simp, e.symm⟩

/-- A slice's clone: the same bytes, nil of nil. -/
def Cloned (w : World) (xs : List Int) (e : Ending) (w' : World) : Prop :=
  ∃ p n c, e = .returned (.slice p n c) ∧ Lib.BytesIn w' p n xs ∧ xs.length = n ∧ n ≤ c ∧ (p = none → n = 0 ∧ c = 0) ∧ Below w.heap.size w w'

set_option maxHeartbeats 800000 in
theorem Clone_any (p : Option Addr) (n c : Nat) (xs : List Int) (w : World) (hx : xs.length = n) (hb : Lib.BytesIn w p n xs) (hp : p = none → n = 0 ∧ c = 0) (h1 : n ≤ 140737488355328) :
    Calls Tryd.prog 15 #[.slice p n c] w (Cloned w xs) := by
  have Hx := Lib.hid hx
  have Hb := Lib.hid hb
  have q22 : ∀ (w : World) (a : Option Addr) (n c n' c' : Nat), (binOp .eql 22 (.slice a n c) (.slice none n' c')).run Tryd.prog w = .ok (.bool a.isNone) w := fun w a n c n' c' => Lib.run_eql_slice_nil w _ _ a n c n' c' Tryd.underlying22
  clear hx hb
  cases p with
  | none =>
    obtain ⟨rfl, rfl⟩ := hp rfl
    go_enter Tryd.func15, Tryd.ntmps15
    go_wp2_with fail
    go_ret
    exact ⟨none, 0, 0, rfl, Hb.out, Hx.out, Nat.le_refl _, fun _ => ⟨rfl, rfl⟩, Below.refl _ _⟩
  | some ad =>
    have hb0 := (Below.refl w.heap.size w).alloc (Nat.le_refl _) (.cells #[] 5)
    have hin0 := later Hb.out hb0
    go_enter Tryd.func15, Tryd.ntmps15
    go_wp2_with (at_builtin; go_loud (refine wpList_push rfl _ _ rfl w.heap.size w.heap.size 0 0 [] rfl (own_lit w.heap.size _ [] rfl (Nat.le_refl _) (by simp)) (some ad) n c xs rfl hin0 Hx.out hp (by omega) (by simp) ?_; intro g1 c1 w1 hown1 hgrow1))
    simp only [Nat.zero_add, List.nil_append] at hown1
    have hc1 : n ≤ c1 := by
      rcases hown1.2 with ⟨h, _⟩ | ⟨_, cap, _, h, _, _, h2, _⟩
      · cases h
      · simp only [Value.slice.injEq] at h; omega
    go_ret
    exact ⟨some ⟨g1, 0, none⟩, n, c1, by simp, owns_in hown1, Hx.out, hc1, (by intro h; cases h), made_grown hb0 hgrow1 (by simp) (Nat.le_refl _)⟩

end Go.Proofs.YtpdabpcdmenlaaaDoor
