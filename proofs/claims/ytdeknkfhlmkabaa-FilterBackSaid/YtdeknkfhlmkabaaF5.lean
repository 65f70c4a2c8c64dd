/-
  Questions in memory; a part is entered; what an any holds.
-/
import Derived.Test.YtdeknkfhlmkabaaF4
import Derived.Stop.Asserts
namespace Go.Proofs.Ytdeknkfhlmkabaa
set_option linter.unusedVariables false
set_option linter.unusedSimpArgs false
open Go.RowKit

/-- A question is the one that a filter is; its rows lie in blocks of S. -/
inductive Qu (w : World) (S : Nat → Prop) : Value → Fl → Prop
  | all (f : Fl) (h1 : f.kind ≠ 1) (h2 : f.kind ≠ 2) (h3 : f.kind ≠ 3) (h4 : f.kind ≠ 4) (h5 : f.kind ≠ 5) (h6 : f.kind ≠ 6) : Qu w S (.iface 112 (.agg #[])) f
  | begins (f : Fl) (h : f.kind = 1) : Qu w S (.iface 103 (.agg #[.string f.text])) f
  | equals (f : Fl) (h : f.kind = 2) : Qu w S (.iface 105 (.agg #[.string f.name, .string f.text])) f
  | puts (f : Fl) (h : f.kind = 3) : Qu w S (.iface 107 (.agg #[])) f
  | nots (f k : Fl) (q : Value) (h : f.kind = 4) (hk : f.kids = [k]) (hq : Qu w S q k) : Qu w S (.iface 109 (.agg #[q])) f
  | each (f : Fl) (a : Option Addr) (c : Nat) (qs : Nat → Value) (h : f.kind = 5) (hc : f.kids.length ≤ c ∧ c ≤ 9223372036854775807)
      (hs : f.kids = [] ∨ ∃ g, a = some ⟨g, 0, none⟩ ∧ S g ∧ g < w.heap.size ∧ ∀ i, i < f.kids.length → w.cell? ⟨g, i, none⟩ = some (qs i))
      (hq : ∀ i k, f.kids[i]? = some k → Qu w S (qs i) k) : Qu w S (.iface 110 (.slice a f.kids.length c)) f
  | some_ (f : Fl) (a : Option Addr) (c : Nat) (qs : Nat → Value) (h : f.kind = 6) (hc : f.kids.length ≤ c ∧ c ≤ 9223372036854775807)
      (hs : f.kids = [] ∨ ∃ g, a = some ⟨g, 0, none⟩ ∧ S g ∧ g < w.heap.size ∧ ∀ i, i < f.kids.length → w.cell? ⟨g, i, none⟩ = some (qs i))
      (hq : ∀ i k, f.kids[i]? = some k → Qu w S (qs i) k) : Qu w S (.iface 111 (.slice a f.kids.length c)) f
theorem Qu.keep {w w' : World} {S S' : Nat → Prop} {v : Value} {f : Fl} (h : Qu w S v f) (hs : w.heap.size ≤ w'.heap.size) (hk : ∀ g, S g → g < w.heap.size → w'.heap[g]? = w.heap[g]?) (hS : ∀ g, S g → g < w.heap.size → S' g) : Qu w' S' v f := by
  have row : ∀ (f : Fl) (a : Option Addr) (qs : Nat → Value), (f.kids = [] ∨ ∃ g, a = some ⟨g, 0, none⟩ ∧ S g ∧ g < w.heap.size ∧ ∀ i, i < f.kids.length → w.cell? ⟨g, i, none⟩ = some (qs i)) →
      (f.kids = [] ∨ ∃ g, a = some ⟨g, 0, none⟩ ∧ S' g ∧ g < w'.heap.size ∧ ∀ i, i < f.kids.length → w'.cell? ⟨g, i, none⟩ = some (qs i)) := by
    rintro f a qs (h | ⟨g, ha, hg, hlt, hc⟩)
    · exact .inl h
    · exact .inr ⟨g, ha, hS g hg hlt, Nat.lt_of_lt_of_le hlt hs, fun i hi => (World.cell?_of_block (a := ⟨g, i, none⟩) (hk g hg hlt)).trans (hc i hi)⟩
  induction h with
  | all f h1 h2 h3 h4 h5 h6 => exact .all f h1 h2 h3 h4 h5 h6
  | begins f h => exact .begins f h
  | equals f h => exact .equals f h
  | puts f h => exact .puts f h
  | nots f k q h hk hq ih => exact .nots f k q h hk ih
  | each f a c qs h hc hs hq ih => exact .each f a c qs h hc (row f a qs hs) ih
  | some_ f a c qs h hc hs hq ih => exact .some_ f a c qs h hc (row f a qs hs) ih
theorem Qu.later {w w' : World} {S : Nat → Prop} {v : Value} {f : Fl} (h : Qu w S v f) (hb : Below w.heap.size w w') : Qu w' S v f := h.keep hb.size (fun g _ hg => hb.block g hg) (fun _ h _ => h)
theorem Qu.one {w : World} {S : Nat → Prop} {v : Value} {f : Fl} (h : Qu w S v f) : v.oneCell' = true := by
  cases h <;> rfl
theorem Qu.iface {w : World} {S : Nat → Prop} {v : Value} {f : Fl} (h : Qu w S v f) : ∃ t x, v = .iface t x ∧ (t = 112 ∨ t = 103 ∨ t = 105 ∨ t = 107 ∨ t = 109 ∨ t = 110 ∨ t = 111) := by
  cases h <;> exact ⟨_, _, rfl, by simp⟩

/-! ### What an any holds -/
theorem is_q {w : World} {S : Nat → Prop} {v : Value} {f : Fl} (h : Qu w S v f) (W : World) : (Instr.typeAssert v 20 71 true).run Try.prog W = .ok (.tuple #[v, .bool true]) W := by
  obtain ⟨t, x, rfl, ht⟩ := h.iface
  rcases ht with rfl | rfl | rfl | rfl | rfl | rfl | rfl
  all_goals exact run_typeAssert_hasB Try.underlying71 (by kernel_rfl) x _ W
theorem no_q (x : Value) (W : World) : (Instr.typeAssert (.iface 26 x) 20 71 true).run Try.prog W = .ok (.tuple #[.nilIface, .bool false]) W :=
  run_typeAssert_lacksB Try.underlying71 (by kernel_rfl) (by kernel_rfl) x _ W
theorem is_e (x : Value) (W : World) : (Instr.typeAssert (.iface 26 x) 20 26 true).run Try.prog W = .ok (.tuple #[x, .bool true]) W := by kernel_rfl
theorem no_e {w : World} {S : Nat → Prop} {v : Value} {f : Fl} (h : Qu w S v f) (W : World) : (Instr.typeAssert v 20 26 true).run Try.prog W = .ok (.tuple #[.int .i64 0, .bool false]) W := by
  obtain ⟨t, x, rfl, ht⟩ := h.iface
  rcases ht with rfl | rfl | rfl | rfl | rfl | rfl | rfl
  all_goals kernel_rfl

/-! ### A part is entered -/
def EntP (b : Bool) (wb ah : Nat) (w : World) (e : Ending) (w' : World) : Prop := e = .returned (.bool b) ∧ DC w' wb [.int .i64 (ah : Nat)] ∧ w.grownBy w' (some wb)
set_option maxHeartbeats 1600000 in
theorem enter_no {w : World} {wb : Nat} (deep ah : Nat) (h : DC w wb [.int .i64 (ah : Nat)]) (hd : 6 ≤ deep ∨ 24 ≤ ah) (hdd : deep ≤ 1000) : Calls Try.prog 59 #[.pointer (some ⟨wb, 0, none⟩), .int .i64 (deep : Nat)] w (EntP false wb ah w) := by
  have HD := Lib.hid h
  have c0 := h.cells 0 _ rfl
  clear h
  by_cases h6 : (6 : Int) ≤ (deep : Int)
  · go_enter Try.func59, Try.ntmps59
    go_wp2_with fail
    go_ret
    exact ⟨rfl, HD.out, World.grownBy.refl _ _⟩
  · have h24 : (24 : Int) ≤ (ah : Int) := by omega
    go_enter Try.func59, Try.ntmps59
    go_wp2_with fail
    go_ret
    exact ⟨rfl, HD.out, World.grownBy.refl _ _⟩
set_option maxHeartbeats 1600000 in
theorem enter_yes {w : World} {wb : Nat} (deep ah : Nat) (h : DC w wb [.int .i64 (ah : Nat)]) (hd : deep < 6) (ha : ah < 24) : Calls Try.prog 59 #[.pointer (some ⟨wb, 0, none⟩), .int .i64 (deep : Nat)] w (EntP true wb (ah + 1) w) := by
  have HD := Lib.hid (h.set 0 (.int .i64 ((ah + 1 : Nat) : Int)) (by simp))
  have c0 := h.cells 0 _ rfl
  have z0 := h.fz 0
  have h6 : ¬ (6 : Int) ≤ (deep : Int) := by omega
  have h24 : ¬ (24 : Int) ≤ (ah : Int) := by omega
  have e1 : IntKind.i64.wrap ((ah : Int) + 1) = (((ah + 1 : Nat)) : Int) := by rw [IntWalk.i64_in _ (by omega)]; omega
  have HG := Lib.hid (grown_put w wb 0 (.int .i64 ((ah + 1 : Nat) : Int)))
  clear h
  go_enter Try.func59, Try.ntmps59
  go_wp2_with fail
  go_ret
  exact ⟨rfl, HD.out, HG.out⟩
end Go.Proofs.Ytdeknkfhlmkabaa
