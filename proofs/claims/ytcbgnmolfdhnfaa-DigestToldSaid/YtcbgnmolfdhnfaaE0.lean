/-
  Placed pairs: their order, their cells; what compares them. (Written by gendsort.py.)
-/
import Derived.Test.YtcbgnmolfdhnfaaDA
import GoSem.Op.String
import Derived.IntWalk
import Derived.ArgAppend
import Derived.Deep.RegionLaw
import Derived.Deep.RegionWith
import Derived.BigRegion
import Derived.BigQuiet
import Derived.StillTailTactics
namespace Go.Proofs.Ytcbgnmolfdhnfaa
set_option linter.unusedVariables false
set_option linter.unusedSimpArgs false
open Go.RowKit Go.Joins

/-- A key is less than another one. -/
def klt (a b : ByteArray) : Bool := Go.Op.bytesLess a.toList b.toList

theorem bl_irr : ∀ l : List UInt8, Go.Op.bytesLess l l = false
  | [] => rfl
  | a :: l => by simp [Go.Op.bytesLess, bl_irr l, UInt8.lt_irrefl]

theorem bl_trans : ∀ a b c : List UInt8, Go.Op.bytesLess a b = true → Go.Op.bytesLess b c = true → Go.Op.bytesLess a c = true
  | _, _, [], _, h => by cases ‹List UInt8› <;> simp [Go.Op.bytesLess] at h
  | _, [], _ :: _, h, _ => by cases ‹List UInt8› <;> simp [Go.Op.bytesLess] at h
  | [], _ :: _, _ :: _, _, _ => rfl
  | x :: a, y :: b, z :: c, h, g => by
    simp only [Go.Op.bytesLess, Bool.or_eq_true, decide_eq_true_eq, Bool.and_eq_true, beq_iff_eq] at h g ⊢
    rcases h with h | ⟨rfl, h⟩
    · rcases g with g | ⟨rfl, g⟩
      · exact .inl (UInt8.lt_trans h g)
      · exact .inl h
    · rcases g with g | ⟨rfl, g⟩
      · exact .inl g
      · exact .inr ⟨rfl, bl_trans a b c h g⟩

theorem bl_tri : ∀ a b : List UInt8, Go.Op.bytesLess a b = true ∨ a = b ∨ Go.Op.bytesLess b a = true
  | [], [] => .inr (.inl rfl)
  | [], _ :: _ => .inl rfl
  | _ :: _, [] => .inr (.inr rfl)
  | x :: a, y :: b => by
    simp only [Go.Op.bytesLess, Bool.or_eq_true, decide_eq_true_eq, Bool.and_eq_true, beq_iff_eq]
    rcases Nat.lt_trichotomy x.toNat y.toNat with h | h | h
    · exact .inl (.inl (UInt8.lt_iff_toNat_lt.2 h))
    · obtain rfl := UInt8.toNat_inj.1 h
      rcases bl_tri a b with h | rfl | h
      · exact .inl (.inr ⟨rfl, h⟩)
      · exact .inr (.inl rfl)
      · exact .inr (.inr (.inr ⟨rfl, h⟩))
    · exact .inr (.inr (.inl (UInt8.lt_iff_toNat_lt.2 h)))

theorem ba_list (a : ByteArray) : a.toList = a.data.toList := by
  have h : ∀ (n i : Nat) (r : List UInt8), n = a.size - i → ByteArray.toList.loop a i r = r.reverse ++ a.data.toList.drop i := by
    intro n
    induction n with
    | zero =>
      intro i r h
      rw [ByteArray.toList.loop]
      have : ¬ i < a.size := by omega
      simp only [this, if_false]
      rw [List.drop_eq_nil_of_le (by have : a.data.toList.length = a.size := rfl
                                     omega)]
      exact (List.append_nil _).symm
    | succ n ih =>
      intro i r h
      rw [ByteArray.toList.loop]
      have hi : i < a.size := by omega
      simp only [hi, if_true]
      rw [ih (i + 1) _ (by omega)]
      have hl : i < a.data.toList.length := hi
      rw [List.drop_eq_getElem_cons hl]
      have hsz : i < a.data.size := hi
      have e : a.get! i = a.data.toList[i] := by
        cases a with
        | mk d =>
          show d.getD i default = _
          simp [Array.getD, show i < d.size from hi]
      rw [e]
      simp
  have := h a.size 0 [] (by omega)
  simpa [ByteArray.toList] using this

theorem ba_inj {a b : ByteArray} (h : a.toList = b.toList) : a = b := by
  rw [ba_list, ba_list] at h
  cases a; cases b; exact congrArg ByteArray.mk (Array.toList_inj.1 h)

theorem klt_irr (a : ByteArray) : klt a a = false := bl_irr _
theorem klt_trans {a b c : ByteArray} (h : klt a b = true) (g : klt b c = true) : klt a c = true := bl_trans _ _ _ h g
theorem klt_tri (a b : ByteArray) : klt a b = true ∨ a = b ∨ klt b a = true := by
  rcases bl_tri a.toList b.toList with h | h | h
  · exact .inl h
  · exact .inr (.inl (ba_inj h))
  · exact .inr (.inr h)
theorem klt_asym {a b : ByteArray} (h : klt a b = true) : klt b a = false := by
  cases hb : klt b a
  · rfl
  · have := klt_trans h hb; rw [klt_irr] at this; cases this
theorem klt_ne {a b : ByteArray} (h : klt a b = true) : a ≠ b := by
  rintro rfl; rw [klt_irr] at h; cases h
theorem ba_eq (a b : ByteArray) : (a.toList == b.toList) = decide (a = b) := by
  by_cases h : a = b
  · subst h; simp
  · have : ¬ a.toList = b.toList := fun e => h (ba_inj e)
    simp [h, this]
theorem klt_le {a b : ByteArray} (h : klt a b = false) : b = a ∨ klt b a = true := by
  rcases klt_tri a b with g | g | g
  · rw [g] at h; cases h
  · exact .inl g.symm
  · exact .inr g
theorem klt_le_trans {a b c : ByteArray} (h : klt b a = false) (g : klt b c = true) : klt a c = true := by
  rcases klt_le h with rfl | h'
  · exact g
  · exact klt_trans h' g
theorem klt_trans_le {a b c : ByteArray} (h : klt a b = true) (g : klt c b = false) : klt a c = true := by
  rcases klt_le g with rfl | h'
  · exact h
  · exact klt_trans h h'

abbrev Pr := ByteArray × ByteArray

theorem compare_klt (a b : ByteArray) : (Lib.compareBytes a.data.toList b.data.toList < 0) ↔ klt a b = true := by
  unfold klt
  rw [ba_list, ba_list]
  generalize a.data.toList = x
  generalize b.data.toList = y
  induction x generalizing y with
  | nil => cases y <;> simp [Lib.compareBytes, Go.Op.bytesLess]
  | cons c x ih =>
    cases y with
    | nil => simp [Lib.compareBytes, Go.Op.bytesLess]
    | cons d y =>
      simp only [Lib.compareBytes, Go.Op.bytesLess]
      by_cases h : c < d
      · simp [h]
      · by_cases h' : d < c
        · have hne : c ≠ d := fun e => by rw [e] at h'; exact absurd h' (UInt8.lt_irrefl _)
          simp [h, h', hne]
        · have he : c = d := by
            have h1 : ¬ c.toNat < d.toNat := fun e => h (UInt8.lt_iff_toNat_lt.2 e)
            have h2 : ¬ d.toNat < c.toNat := fun e => h' (UInt8.lt_iff_toNat_lt.2 e)
            exact UInt8.toNat_inj.1 (by omega)
          subst he
          simp [h, ih]


/-- What placed pairs stand by: their digits, their key. -/
abbrev Kp := Nat × ByteArray
/-- A placed pair. -/
abbrev Pl := Kp × ByteArray
def plt (a b : Kp) : Bool := decide (a.1 < b.1) || (decide (a.1 = b.1) && klt a.2 b.2)
theorem plt_irr (a : Kp) : plt a a = false := by simp [plt, klt_irr]
theorem plt_trans {a b c : Kp} (h : plt a b = true) (g : plt b c = true) : plt a c = true := by
  simp only [plt, Bool.or_eq_true, decide_eq_true_eq, Bool.and_eq_true] at *
  rcases h with h | ⟨h, h'⟩ <;> rcases g with g | ⟨g, g'⟩
  · left; omega
  · left; omega
  · left; omega
  · right; exact ⟨by omega, klt_trans h' g'⟩
theorem plt_tri (a b : Kp) : plt a b = true ∨ a = b ∨ plt b a = true := by
  rcases Nat.lt_trichotomy a.1 b.1 with h | h | h
  · left; simp [plt, h]
  · rcases klt_tri a.2 b.2 with g | g | g
    · left; simp [plt, h, g]
    · right; left; exact Prod.ext h g
    · right; right; simp [plt, h, g]
  · right; right; simp [plt, h]
theorem plt_asym {a b : Kp} (h : plt a b = true) : plt b a = false := by
  cases hb : plt b a
  · rfl
  · have := plt_trans h hb; rw [plt_irr] at this; cases this
theorem plt_ne {a b : Kp} (h : plt a b = true) : a ≠ b := by
  rintro rfl; rw [plt_irr] at h; cases h
theorem plt_le {a b : Kp} (h : plt a b = false) : b = a ∨ plt b a = true := by
  rcases plt_tri a b with g | g | g
  · rw [g] at h; cases h
  · exact .inl g.symm
  · exact .inr g
theorem plt_le_trans {a b c : Kp} (h : plt b a = false) (g : plt b c = true) : plt a c = true := by
  rcases plt_le h with rfl | h'
  · exact g
  · exact plt_trans h' g
theorem plt_trans_le {a b c : Kp} (h : plt a b = true) (g : plt c b = false) : plt a c = true := by
  rcases plt_le g with rfl | h'
  · exact h
  · exact plt_trans h h'
def cmpN (x y : Nat) : Int := if x < y then -1 else if y < x then 1 else 0
def cmpP (a b : Kp) : Int := if cmpN a.1 b.1 = 0 then Lib.compareBytes a.2.data.toList b.2.data.toList else cmpN a.1 b.1
theorem compare_plt (a b : Kp) : (cmpP a b < 0) ↔ plt a b = true := by
  unfold cmpP cmpN plt
  rcases Nat.lt_trichotomy a.1 b.1 with h | h | h
  · simp [h]
  · simp [h, compare_klt]
  · have h1 : ¬ a.1 < b.1 := by omega
    have h2 : ¬ a.1 = b.1 := by omega
    simp [h, h1, h2]

theorem cell_later {w w' : World} (hb : Below w.heap.size w w') {p : Addr} {v : Value} (h : w.cell? p = some v) : w'.cell? p = some v :=
  (hb.cell (p := p) (World.block_lt_of_cell? w _ h)).trans h
theorem below_drew {B : Nat} {w w' : World} (h : Below B w w') : Below B w w'.drew := ⟨h.os, h.tape, h.output, h.size, h.block⟩
theorem below_drew1 (W : World) : Below W.heap.size W W.drew := below_drew (Below.refl _ _)
theorem below_drewN {B : Nat} {w w' : World} (h : Below B w w') (q : Nat) : Below B w (w'.drewN q) := ⟨h.os, h.tape, h.output, h.size, h.block⟩
theorem below_alloc (w : World) (o : Obj) : Below w.heap.size w (w.alloc o) := (Below.refl _ _).alloc (Nat.le_refl _) _
theorem grown_refl (w : World) (row : Option Nat) : w.grownBy w row := ⟨rfl, rfl, rfl, Nat.le_refl _, fun _ _ _ => rfl⟩
theorem grown_seq {w w1 w2 : World} {r1 r2 : Option Nat} (h1 : w.grownBy w1 r1) (h2 : w1.grownBy w2 r2) (hr : r2 = r1 ∨ ∀ g, r2 = some g → w.heap.size ≤ g) : w.grownBy w2 r1 :=
  ⟨h2.os.trans h1.os, h2.tape.trans h1.tape, h2.output.trans h1.output, Nat.le_trans h1.size h2.size, fun k hk hne => (h2.block k (Nat.lt_of_lt_of_le hk h1.size) (fun e => by
    rcases hr with rfl | hr
    · exact hne e
    · exact absurd (hr k e.symm) (Nat.not_le_of_lt hk))).trans (h1.block k hk hne)⟩
theorem grown_drew {w w' : World} {row : Option Nat} (h : w.grownBy w' row) : w.grownBy w'.drew row := ⟨h.os, h.tape, h.output, h.size, h.block⟩
def PairsAt (w : World) (g off : Nat) (xs : List Pl) : Prop := ∀ i p, xs[i]? = some p → w.cell? ⟨g, off + i * 3, none⟩ = some (.string p.1.2) ∧ w.cell? ⟨g, off + i * 3 + 1, none⟩ = some (.string p.2) ∧ w.cell? ⟨g, off + i * 3 + 2, none⟩ = some (.int .u64 p.1.1)
theorem PairsAt.later {w w' : World} {g off : Nat} {xs : List Pl} (h : PairsAt w g off xs) (hb : Below w.heap.size w w') : PairsAt w' g off xs := fun i p hp => ⟨cell_later hb (h i p hp).1, cell_later hb (h i p hp).2.1, cell_later hb (h i p hp).2.2⟩

set_option maxRecDepth 100000 in
set_option maxHeartbeats 1600000 in
theorem isNaN_any (x : Nat) (w : World) : Calls Try.prog 99 #[.int .u64 x] w fun e w' => e = .returned (.bool false) ∧ w = w' := by
  go_enter Try.func99, Try.ntmps99
  go_wp2_with fail
  go_ret
  exact ⟨rfl, rfl⟩
set_option maxRecDepth 100000 in
set_option maxHeartbeats 1600000 in
theorem cmpN_any (x y : Nat) (w : World) : Calls Try.prog 83 #[.int .u64 x, .int .u64 y] w fun e w' => e = .returned (.int .i64 (cmpN x y)) ∧ w = w' := by
  have HE : Hid ((x < y → cmpN x y = -1) ∧ (¬ x < y → y < x → cmpN x y = 1) ∧ (¬ x < y → ¬ y < x → cmpN x y = 0)) := Lib.hid ⟨fun h => by simp [cmpN, h], fun h g => by simp [cmpN, h, g], fun h g => by simp [cmpN, h, g]⟩
  by_cases h1 : x < y
  · rw [HE.out.1 h1]
    go_enter Try.func83, Try.ntmps83
    go_wp2_with (go_at_call 99; refine (isNaN_any _ _).mono ?_; rintro e w' ⟨rfl, rfl⟩)
    go_ret
    exact ⟨rfl, rfl⟩
  · by_cases h2 : y < x
    · rw [HE.out.2.1 h1 h2]
      go_enter Try.func83, Try.ntmps83
      go_wp2_with (go_at_call 99; refine (isNaN_any _ _).mono ?_; rintro e w' ⟨rfl, rfl⟩)
      go_ret
      exact ⟨rfl, rfl⟩
    · rw [HE.out.2.2 h1 h2]
      go_enter Try.func83, Try.ntmps83
      go_wp2_with (go_at_call 99; refine (isNaN_any _ _).mono ?_; rintro e w' ⟨rfl, rfl⟩)
      go_ret
      exact ⟨rfl, rfl⟩
/-- The first of two that is not 0. -/
def or2 (a b : Int) : Int := if a = 0 then b else a
set_option maxRecDepth 100000 in
set_option maxHeartbeats 1600000 in
theorem Or_any {w : World} {g c : Nat} {a b : Int} (h0 : w.cell? ⟨g, 0, none⟩ = some (.int .i64 a)) (h1 : w.cell? ⟨g, 1, none⟩ = some (.int .i64 b)) : Calls Try.prog 82 #[.slice (some ⟨g, 0, none⟩) 2 c] w fun e w' => e = .returned (.int .i64 (or2 a b)) ∧ w = w' := by
  have HE : Hid ((a = 0 → or2 a b = b) ∧ (¬ a = 0 → or2 a b = a)) := Lib.hid ⟨fun h => by simp [or2, h], fun h => by simp [or2, h]⟩
  by_cases ha : a = 0
  · rw [HE.out.1 ha]
    subst ha
    by_cases hb : b = 0
    · subst hb
      go_enter Try.func82, Try.ntmps82
      go_wp2_with fail
      refine wp_loop_rounds 3 ?_
      rw [rounds_succ]
      go_wp2_with fail
      rw [rounds_succ]
      go_wp2_with fail
      rw [rounds_succ]
      go_wp2_with fail
      go_ret
      exact ⟨rfl, rfl⟩
    · go_enter Try.func82, Try.ntmps82
      go_wp2_with fail
      refine wp_loop_rounds 2 ?_
      rw [rounds_succ]
      go_wp2_with fail
      rw [rounds_succ]
      go_wp2_with fail
      go_ret
      exact ⟨rfl, rfl⟩
  · rw [HE.out.2 ha]
    go_enter Try.func82, Try.ntmps82
    go_wp2_with fail
    refine wp_loop_rounds 1 ?_
    rw [rounds_succ]
    go_wp2_with fail
    go_ret
    exact ⟨rfl, rfl⟩
end Go.Proofs.Ytcbgnmolfdhnfaa
