/-
  Walks: something done to a tree; whether a tree is as shallow as it must be.
-/
import Derived.Test.YtcncggndpnooeaaB24
namespace Go.Proofs.Ytcncggndpnooeaa
set_option linter.unusedVariables false
set_option linter.unusedSimpArgs false
open Go.RowKit

namespace T
theorem fib_le {m n : Nat} (h : m ≤ n) : fib m ≤ fib n := by
  induction n with
  | zero => obtain rfl : m = 0 := by omega
            exact Nat.le_refl _
  | succ n ih =>
    rcases Nat.lt_or_ge m (n + 1) with h1 | h1
    · exact Nat.le_trans (ih (by omega)) (fib_mono n)
    · obtain rfl : m = n + 1 := by omega
      exact Nat.le_refl _
theorem fib_two (n : Nat) : 2 ^ n ≤ fib (2 * n + 1) := by
  induction n with
  | zero => decide
  | succ n ih =>
    have h := fib_mono (2 * n + 1)
    have e : fib (2 * (n + 1) + 1) = fib (2 * n + 1) + fib (2 * n + 1 + 1) + 1 := rfl
    rw [e, Nat.pow_succ]; omega
theorem fib_next (n : Nat) : fib (n + 1) ≤ 2 * fib n + 1 := by
  cases n with
  | zero => decide
  | succ n => have := fib_mono n; simp only [fib]; omega
end T
theorem Good.deep {t : T} (g : Good t 500000000) : t.deep ≤ 60 := by
  rcases Nat.lt_or_ge 60 t.deep with h | h
  · have h1 := T.bal_fib t g.bal
    have h2 : T.fib (2 * 29 + 1) ≤ T.fib t.deep := T.fib_le (by omega)
    have h3 := T.fib_two 29
    have h4 := g.size
    omega
  · exact h

set_option maxRecDepth 100000 in
set_option maxHeartbeats 3200000 in
theorem shallow_any {w : World} {t : T} {v : Option Addr} (h : Tr w w.heap.size t v) (g : Good t 500000000) : Calls Try.prog 44 #[.pointer v] w fun e w' => e = .returned (.bool true) ∧ Below w.heap.size w w' := by
  have H := Lib.hid h
  have hd60 := g.deep
  have HF := Lib.hid (T.bal_fib t g.bal)
  have HS := Lib.hid g.size
  have HD := Lib.hid t.deep_size
  clear h g
  have HL := Lib.hid (Len_any H.out)
  have HDe := Lib.hid (Depth_any H.out)
  by_cases h0 : t.deep = 0
  · have hz : t.size = 0 := by rw [T.deep_zero h0]; rfl
    rw [h0] at HDe
    rw [hz] at HL
    go_enter Try.func44, Try.ntmps44
    go_wp2_with fail
    go_fit HDe.out
    rintro e w' ⟨rfl, rfl⟩
    go_wp2_with fail
    first
      | (go_region_with (first | (go_at_call 56; (with_reducible refine HDe.out.mono ?_); rintro e w' ⟨rfl, rfl⟩)))
      | skip
    (try go_wp2_with fail)
    first
      | go_fit HL.out
      | (go_fit HDe.out; rintro e w' ⟨rfl, rfl⟩; go_wp2_with fail; go_fit HL.out)
    rintro e w' ⟨rfl, rfl⟩
    go_wp2_with fail
    go_ret
    exact ⟨rfl, Below.refl _ _⟩
  · generalize hDD : t.deep = D at *
    have hD0 : ¬ ((D : Nat) : Int) = 0 := by omega
    have hD1 : ¬ (60 : Int) < ((D : Nat) : Int) := by omega
    have hD2 : (((D : Nat) : Int) == 0 || decide ((60 : Int) < ((D : Nat) : Int))) = false := by simp [hD0, hD1]; omega
    have hD3 : IntKind.i64.wrap (((D : Nat) : Int) - 1) = ((D : Nat) : Int) - 1 := IntWalk.i64_in _ (by omega)
    have h1 := Lib.hid (show 1 ≤ D by omega)
    have hd60 := Lib.hid hd60
    go_enter Try.func44, Try.ntmps44
    go_wp2_with fail
    go_fit HDe.out
    rintro e w' ⟨rfl, rfl⟩
    go_wp2_with fail
    go_fit HDe.out
    rintro e w' ⟨rfl, rfl⟩
    go_wp2_with fail
    go_fit HDe.out
    rintro e w' ⟨rfl, rfl⟩
    go_wp2_with fail
    go_loopw [3, 4, 19] (fun a b j wr => ∃ i : Nat, a = .int .i64 (T.fib (i + 1) : Nat) ∧ b = .int .i64 (T.fib (i + 2) : Nat) ∧ j = .int .i64 (i : Nat) ∧ i + 1 ≤ D ∧ wr = w)
      (fun _ _ v _ => D - (intOf v).toNat)
    case atStart => exact ⟨0, rfl, rfl, rfl, h1.out, rfl⟩
    case round =>
      obtain ⟨i, rfl, rfl, rfl, hi, rfl⟩ := hrel
      have hb1 : T.fib (i + 1) ≤ 500000000 := Nat.le_trans (Nat.le_trans (T.fib_le hi) HF.out) HS.out
      have hb2 : T.fib (i + 2) ≤ 1000000001 := by have h : T.fib (i + 2) ≤ 2 * T.fib (i + 1) + 1 := T.fib_next (i + 1); omega
      have ei : IntKind.i64.wrap ((i : Int) + 1) = (i : Int) + 1 := IntWalk.i64_in _ (by have := hd60.out; omega)
      have e1 : IntKind.i64.wrap (((T.fib (i + 1) : Nat) : Int) + ((T.fib (i + 2) : Nat) : Int)) = ((T.fib (i + 1) : Nat) : Int) + ((T.fib (i + 2) : Nat) : Int) := IntWalk.i64_in _ (by omega)
      have e2 : IntKind.i64.wrap (((T.fib (i + 1) : Nat) : Int) + ((T.fib (i + 2) : Nat) : Int) + 1) = ((T.fib (i + 1) : Nat) : Int) + ((T.fib (i + 2) : Nat) : Int) + 1 := IntWalk.i64_in _ (by omega)
      by_cases hlt : i + 1 < D
      · have hltI : (i : Int) < ((D : Nat) : Int) - 1 := by omega
        go_wp2_with fail
        exact ⟨⟨i + 1, rfl, by show _ = Value.int .i64 ((T.fib (i + 1) + T.fib (i + 2) + 1 : Nat) : Int); simp, by simp, hlt, trivial⟩, by show D - ((i : Int) + 1).toNat < D - ((i : Int)).toNat; omega⟩
      · have hltI : ¬ (i : Int) < ((D : Nat) : Int) - 1 := by omega
        have hle : ((T.fib (i + 1) : Nat) : Int) ≤ ((t.size : Nat) : Int) := by
          have e : i + 1 = D := by omega
          have := HF.out
          rw [e]; omega
        go_wp2_with fail
        go_fit HL.out
        rintro e w' ⟨rfl, rfl⟩
        go_wp2_with fail
        go_ret
        exact ⟨rfl, Below.refl _ _⟩

/-- Whether a pair is put; else a key is dropped. -/
def isPut (op : Int) : Bool := decide (bits BinOp.and IntKind.i64 op 7 < 6)

/-- A tree behind something that was done to it. -/
def Done (t : T) (k : Dk) (u : T) : Prop := if isPut k.op = true then T.IsPut t (k.key, k.val) u else T.IsDrop t k.key u

set_option maxRecDepth 100000 in
set_option maxHeartbeats 3200000 in
theorem does_any {w : World} {t : T} {v : Option Addr} (k : Dk) (h : Tr w w.heap.size t v) (g : Good t 500000000) : Calls Try.prog 18 #[.pointer v, .agg #[.int .i64 k.op, .string k.key, .string k.val]] w (Grows w (Done t k)) := by
  have hA := below_alloc w (Obj.cells #[Value.int .i64 k.op, .string k.key, .string k.val] 30)
  have HA := Lib.hid hA
  have H := Lib.hid (h.all hA)
  have G := Lib.hid g
  clear h g hA
  by_cases hp : bits BinOp.and IntKind.i64 k.op 7 < 6
  · have HP : Hid (isPut k.op = true) := by show _ = _; unfold isPut; exact decide_eq_true hp
    go_enter Try.func18, Try.ntmps18
    go_wp2_with fail
    go_fit (Put_any k.key k.val H.out G.out)
    rintro e w1 ⟨u, r, rfl, hq, hr, hb⟩
    have HE : Hid (Grows w (Done t k) (.returned (.pointer u)) w1) := ⟨u, r, rfl, by unfold Done; rw [if_pos HP.out]; exact hq, hr, HA.out.trans (hb.mono HA.out.size)⟩
    clear hq hr hb
    go_wp2_with fail
    go_ret
    exact HE.out
  · have HP : Hid (¬ isPut k.op = true) := by show ¬ _; unfold isPut; simpa using hp
    go_enter Try.func18, Try.ntmps18
    go_wp2_with fail
    go_fit (Drop_any k.key H.out G.out)
    rintro e w1 ⟨u, r, rfl, hq, hr, hb⟩
    have HE : Hid (Grows w (Done t k) (.returned (.pointer u)) w1) := ⟨u, r, rfl, by unfold Done; rw [if_neg HP.out]; exact hq, hr, HA.out.trans (hb.mono HA.out.size)⟩
    clear hq hr hb
    go_wp2_with fail
    go_ret
    exact HE.out
theorem Done.good {t u : T} {k : Dk} {n : Nat} (g : Good t n) (h : Done t k u) : Good u (n + 1) := by
  unfold Done at h
  split at h
  · exact ⟨h.bal, h.sorted, by have := h.size; have := g.size; omega⟩
  · exact ⟨h.bal, h.sorted, by have := h.size; have := g.size; omega⟩
end Go.Proofs.Ytcncggndpnooeaa
