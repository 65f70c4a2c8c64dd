/-
  Ints that are sorted by what a map says of them: the closure that compares, walked.
-/
import Derived.Test.YtdgnjalbpiciiaaLs
import Derived.Maps.OwnOps
import Derived.Maps.OwnSet
import Derived.Maps.Views
namespace Go.Proofs.Ytdgnjalbpiciiaa
set_option linter.unusedVariables false
set_option linter.unusedSimpArgs false
open Go.RowKit Go.Maps

abbrev Pl := Nat × Int
def plt (a b : Nat) : Bool := decide (b < a)
theorem plt_irr (a : Nat) : plt a a = false := by simp [plt]
theorem plt_trans {a b c : Nat} (h : plt a b = true) (g : plt b c = true) : plt a c = true := by simp only [plt, decide_eq_true_eq] at *; omega
theorem plt_tri (a b : Nat) : plt a b = true ∨ a = b ∨ plt b a = true := by simp only [plt, decide_eq_true_eq]; omega
theorem plt_asym {a b : Nat} (h : plt a b = true) : plt b a = false := by simp only [plt, decide_eq_true_eq, decide_eq_false_iff_not] at *; omega
theorem plt_ne {a b : Nat} (h : plt a b = true) : a ≠ b := by simp only [plt, decide_eq_true_eq] at *; omega
theorem plt_le {a b : Nat} (h : plt a b = false) : b = a ∨ plt b a = true := by simp only [plt, decide_eq_true_eq, decide_eq_false_iff_not] at *; omega
theorem plt_le_trans {a b c : Nat} (h : plt b a = false) (g : plt b c = true) : plt a c = true := by simp only [plt, decide_eq_true_eq, decide_eq_false_iff_not] at *; omega
theorem plt_trans_le {a b c : Nat} (h : plt a b = true) (g : plt c b = false) : plt a c = true := by simp only [plt, decide_eq_true_eq, decide_eq_false_iff_not] at *; omega
def cmpP (a b : Nat) : Int := if b < a then -1 else if a < b then 1 else 0
theorem compare_plt (a b : Nat) : (cmpP a b < 0) ↔ plt a b = true := by
  unfold cmpP plt
  simp only [decide_eq_true_eq]
  split
  · simp; assumption
  · split <;> simp <;> omega

theorem cell_later {w w' : World} (hb : Below w.heap.size w w') {p : Addr} {v : Value} (h : w.cell? p = some v) : w'.cell? p = some v :=
  (hb.cell (p := p) (World.block_lt_of_cell? w _ h)).trans h
theorem below_drew {B : Nat} {w w' : World} (h : Below B w w') : Below B w w'.drew := ⟨h.os, h.tape, h.output, h.size, h.block⟩
theorem below_drew1 (W : World) : Below W.heap.size W W.drew := below_drew (Below.refl _ _)
theorem below_drewM {B : Nat} {w w' : World} (h : Below B w w') (N : Nat) : Below B w (w'.drewN N) := ⟨h.os, h.tape, h.output, h.size, h.block⟩
theorem below_alloc (w : World) (o : Obj) : Below w.heap.size w (w.alloc o) := (Below.refl _ _).alloc (Nat.le_refl _) _
theorem grown_refl (w : World) (row : Option Nat) : w.grownBy w row := ⟨rfl, rfl, rfl, Nat.le_refl _, fun _ _ _ => rfl⟩
theorem grown_seq {w w1 w2 : World} {r1 r2 : Option Nat} (h1 : w.grownBy w1 r1) (h2 : w1.grownBy w2 r2) (hr : r2 = r1 ∨ ∀ g, r2 = some g → w.heap.size ≤ g) : w.grownBy w2 r1 :=
  ⟨h2.os.trans h1.os, h2.tape.trans h1.tape, h2.output.trans h1.output, Nat.le_trans h1.size h2.size, fun k hk hne => (h2.block k (Nat.lt_of_lt_of_le hk h1.size) (fun e => by
    rcases hr with rfl | hr
    · exact hne e
    · exact absurd (hr k e.symm) (Nat.not_le_of_lt hk))).trans (h1.block k hk hne)⟩
theorem grown_drew {w w' : World} {row : Option Nat} (h : w.grownBy w' row) : w.grownBy w'.drew row := ⟨h.os, h.tape, h.output, h.size, h.block⟩
theorem grown_below {w w' : World} (hb : Below w.heap.size w w') (row : Option Nat) : w.grownBy w' row := ⟨hb.os, hb.tape, hb.output, hb.size, fun k hk _ => hb.block k hk⟩

/-! maps from ints to ints -/
theorem keyI : Keyed Try.prog 3 := int_keyed Try.underlying3
theorem zeroI (w : World) : (zeroValue 3).run Try.prog w = .ok (.int .i64 0) w := by kernel_rfl
/-- A number of 64 bits. -/
def W64 (x : Int) : Prop := (Lit.int .i64 x).wf = true
theorem w64 {x : Int} (h0 : -9223372036854775808 ≤ x) (h1 : x ≤ 9223372036854775807) : W64 x := WalkArith.wf_i64 (by omega)
/-- What a map says, number by number. -/
def Mp (w : World) (b n : Nat) (f : Int → Int) : Prop := ∃ D : DataW Unit, w.ownsMap Try.prog 3 (plainElem Try.prog 3) b n D ∧ ∀ x, W64 x → D.atKey (.int .i64 x) (.lit (.int .i64 0)) = .lit (.int .i64 (f x))
theorem Mp.kept {w w' : World} {b n : Nat} {f : Int → Int} {row : Option Nat} (h : Mp w b n f) (hg : w.grownBy w' row) (hne : some b ≠ row) : Mp w' b n f := by
  obtain ⟨D, ho, ha⟩ := h
  exact ⟨D, ho.kept hg hne, ha⟩
theorem Mp.below {w w' : World} {b n : Nat} {f : Int → Int} (h : Mp w b n f) (hb : Below w.heap.size w w') : Mp w' b n f := h.kept (grown_below hb none) (by simp)
theorem Mp.lt {w : World} {b n : Nat} {f : Int → Int} (h : Mp w b n f) : b < w.heap.size := by obtain ⟨D, ho, _⟩ := h; exact ho.lt
theorem Mp.look {w : World} {b n : Nat} {f : Int → Int} (h : Mp w b n f) {x : Int} (hx : W64 x) : (Instr.lookup 82 (.map (some b)) (.int .i64 x) false).run Try.prog w = .ok (.int .i64 (f x)) w := by
  obtain ⟨D, ho, ha⟩ := h
  obtain ⟨c, hrun, hat, _⟩ := ho.lookup_int keyI Try.underlying82 Try.underlying3 (zeroI w) (keyOf_int_mk Try.underlying3 hx)
  rw [ha x hx] at hat
  have : f x = c := by simpa using hat
  rw [this]; exact hrun
theorem Mp.made (w : World) : Mp (w.alloc (.map #[] 0)) w.heap.size 0 (fun _ => 0) := ⟨.map [], World.ownsMap_made _ _ _ _, fun _ _ => rfl⟩
/-- The datum of a map in which one number has been told. -/
theorem Mp.put {w w' : World} {b n : Nat} {f : Int → Int} {D : DataW Unit} {x y : Int} (ho : w.ownsMap Try.prog 3 (plainElem Try.prog 3) b n D) (ha : ∀ x, W64 x → D.atKey (.int .i64 x) (.lit (.int .i64 0)) = .lit (.int .i64 (f x)))
    (ho' : w'.ownsMap Try.prog 3 (plainElem Try.prog 3) b (n + 1) (D.put (.int .i64 x) (.lit (.int .i64 y)))) : Mp w' b (n + 1) (fun z => if z = x then y else f z) := by
  refine ⟨_, ho', fun z hz => ?_⟩
  show _ = DataW.lit (Lit.int .i64 (if z = x then y else f z))
  have hm : IsMap D := by
    obtain ⟨es, clock, _, _, _, hD⟩ := ho
    exact ⟨_, hD⟩
  by_cases e : z = x
  · subst e
    rw [if_pos rfl, atKey_put_same (k := .int .i64 z) hm trivial]
  · rw [if_neg e, atKey_put_other (fun h => e (by simpa using h)), ha z hz]

/-- What ints are sorted by: a box that leads to a map. -/
structure Env where
  bx : Nat
  bm : Nat
  n : Nat
  had : Int → Nat
def Env.ok (κ : Env) (w : World) (g : Nat) : Prop := w.cell? ⟨κ.bx, 0, none⟩ = some (.map (some κ.bm)) ∧ Mp w κ.bm κ.n (fun x => (κ.had x : Int)) ∧ κ.bx ≠ g ∧ κ.bm ≠ g
def Env.key (κ : Env) (p : Pl) : Prop := Hid (p.1 = κ.had p.2 ∧ W64 p.2)
variable {κ : Env}
theorem Env.ok.grown {w w' : World} {g : Nat} (h : κ.ok w g) (hg : w.grownBy w' (some g)) : κ.ok w' g := by
  obtain ⟨h1, h2, h3, h4⟩ := h
  refine ⟨(World.cell?_of_block (a := ⟨κ.bx, 0, none⟩) (hg.block κ.bx (World.block_lt_of_cell? w _ h1) (by simpa using h3))).trans h1, h2.kept hg (by simpa using h4), h3, h4⟩
theorem Env.ok.below {w w' : World} {g : Nat} (h : κ.ok w g) (hb : Below w.heap.size w w') : κ.ok w' g := h.grown (grown_below hb _)
theorem Env.ok.drew {w : World} {g : Nat} (h : κ.ok w g) : κ.ok w.drew g := h.below (below_drew1 w)
theorem Env.ok.drewN {w : World} {g : Nat} (h : κ.ok w g) (q : Nat) : κ.ok (w.drewN q) g := h.below (below_drewM (Below.refl _ _) q)
def PairsAt (κ : Env) (w : World) (g off : Nat) (xs : List Pl) : Prop := ∀ i p, xs[i]? = some p → w.cell? ⟨g, off + i, none⟩ = some (.int .i64 p.2) ∧ κ.key p
theorem PairsAt.later {w w' : World} {g off : Nat} {xs : List Pl} (h : PairsAt κ w g off xs) (hb : Below w.heap.size w w') : PairsAt κ w' g off xs := fun i p hp => ⟨cell_later hb (h i p hp).1, (h i p hp).2⟩

def cmpN (x y : Int) : Int := if x < y then -1 else if y < x then 1 else 0
set_option maxRecDepth 100000 in
set_option maxHeartbeats 1600000 in
theorem isNaN_any (x : Int) (w : World) : Calls Try.prog 95 #[.int .i64 x] w fun e w' => e = .returned (.bool false) ∧ w = w' := by
  go_enter Try.func95, Try.ntmps95
  go_wp2_with fail
  go_ret
  exact ⟨rfl, rfl⟩
set_option maxRecDepth 100000 in
set_option maxHeartbeats 1600000 in
theorem cmpN_any (x y : Int) (w : World) : Calls Try.prog 81 #[.int .i64 x, .int .i64 y] w fun e w' => e = .returned (.int .i64 (cmpN x y)) ∧ w = w' := by
  have HE : Hid ((x < y → cmpN x y = -1) ∧ (¬ x < y → y < x → cmpN x y = 1) ∧ (¬ x < y → ¬ y < x → cmpN x y = 0)) := Lib.hid ⟨fun h => by simp [cmpN, h], fun h g => by simp [cmpN, h, g], fun h g => by simp [cmpN, h, g]⟩
  by_cases h1 : x < y
  · rw [HE.out.1 h1]
    go_enter Try.func81, Try.ntmps81
    go_wp2_with (go_at_call 95; refine (isNaN_any _ _).mono ?_; rintro e w' ⟨rfl, rfl⟩)
    go_ret
    exact ⟨rfl, rfl⟩
  · by_cases h2 : y < x
    · rw [HE.out.2.1 h1 h2]
      go_enter Try.func81, Try.ntmps81
      go_wp2_with (go_at_call 95; refine (isNaN_any _ _).mono ?_; rintro e w' ⟨rfl, rfl⟩)
      go_ret
      exact ⟨rfl, rfl⟩
    · rw [HE.out.2.2 h1 h2]
      go_enter Try.func81, Try.ntmps81
      go_wp2_with (go_at_call 95; refine (isNaN_any _ _).mono ?_; rintro e w' ⟨rfl, rfl⟩)
      go_ret
      exact ⟨rfl, rfl⟩
theorem cmpN_P (a b : Nat) : cmpN (b : Int) (a : Int) = cmpP a b := by
  unfold cmpN cmpP
  have e1 : ((b : Int) < (a : Int)) ↔ b < a := by omega
  have e2 : ((a : Int) < (b : Int)) ↔ a < b := by omega
  simp only [e1, e2]
set_option maxRecDepth 100000 in
set_option maxHeartbeats 1600000 in
theorem cmp_any {w : World} {g : Nat} {p q : Pl} (he : κ.ok w g) (hp : κ.key p) (hq : κ.key q) : Calls Try.prog 80 #[.int .i64 p.2, .int .i64 q.2, .pointer (some ⟨κ.bx, 0, none⟩)] w fun e w' => e = .returned (.int .i64 (cmpP p.1 q.1)) ∧ Below w.heap.size w w' := by
  obtain ⟨a, x⟩ := p
  obtain ⟨b, y⟩ := q
  obtain ⟨hb, hm, _, _⟩ := he
  have hp1 : a = κ.had x := hp.out.1
  have hq1 : b = κ.had y := hq.out.1
  have h1 := hm.look hp.out.2
  have h2 := hm.look hq.out.2
  simp only at h1 h2
  rw [← hp1] at h1
  rw [← hq1] at h2
  have HC : Hid (∀ V, Calls Try.prog 81 #[.int .i64 (b : Int), .int .i64 (a : Int)] V fun e w' => e = .returned (.int .i64 (cmpP a b)) ∧ V = w') := Lib.hid fun V => by rw [← cmpN_P]; exact cmpN_any _ _ _
  clear hm hp hq hp1 hq1
  show Calls _ _ #[.int .i64 x, .int .i64 y, _] _ fun e w' => e = .returned (.int .i64 (cmpP a b)) ∧ _
  generalize cmpP a b = r at *
  generalize κ.bx = bx at *
  generalize κ.bm = bm at *
  go_enter Try.func80, Try.ntmps80
  go_wp2_with fail
  go_fit (HC.out _)
  rintro e w' ⟨rfl, rfl⟩
  go_wp2_with fail
  go_ret
  exact ⟨rfl, Below.refl _ _⟩
end Go.Proofs.Ytdgnjalbpiciiaa
