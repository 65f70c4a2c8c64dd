/-
  Walks: the question that a part is, over those of its kids.
-/
import Derived.Test.YtdeknkfhlmkabaaF5
namespace Go.Proofs.Ytdeknkfhlmkabaa
set_option linter.unusedVariables false
set_option linter.unusedSimpArgs false
open Go.RowKit

/-- The questions of kids, in a row. -/
structure QsIn (w : World) (S : Nat → Prop) (v : Value) (ks : List Fl) (a : Option Addr) (c : Nat) (qs : Nat → Value) : Prop where
  val : v = .slice a ks.length c
  cap : ks.length ≤ c ∧ c ≤ 9223372036854775807
  row : ks = [] ∨ ∃ g, a = some ⟨g, 0, none⟩ ∧ S g ∧ g < w.heap.size ∧ ∀ i, i < ks.length → w.cell? ⟨g, i, none⟩ = some (qs i)
  qu : ∀ i k, ks[i]? = some k → Qu w S (qs i) k
theorem QsIn.later {w w' : World} {S : Nat → Prop} {v : Value} {ks : List Fl} {a : Option Addr} {c : Nat} {qs : Nat → Value} (h : QsIn w S v ks a c qs) (hb : Below w.heap.size w w') : QsIn w' S v ks a c qs :=
  ⟨h.val, h.cap, h.row.imp id (fun ⟨g, ha, hg, hlt, hc⟩ => ⟨g, ha, hg, Nat.lt_of_lt_of_le hlt hb.size, fun i hi => lay_later hb (hc i hi)⟩), fun i k hk => (h.qu i k hk).later hb⟩
def AskP (S : Nat → Prop) (f : Fl) (w : World) (e : Ending) (w' : World) : Prop := ∃ q, e = .returned q ∧ Qu w' S q f ∧ Below w.heap.size w w'
variable {w : World} {S : Nat → Prop} {v : Value} {a : Option Addr} {c : Nat} {qs : Nat → Value}

set_option maxRecDepth 100000 in
set_option maxHeartbeats 1600000 in
theorem asked_1 (f : Fl) (a0 : Option Addr) (c0 : Nat) (hk : f.kind = 1) (h : QsIn w S v f.kids a c qs) : Calls Try.prog 66 #[.agg #[.int .i64 1, .string f.name, .string f.text, .slice a0 f.kids.length c0], v] w (AskP S f w) := by
  have hb := lay_alloc w (.cells #[.int .i64 1, .string f.name, .string f.text, .slice a0 f.kids.length c0] 24)
  have HB := Lib.hid hb
  have HQ := Lib.hid (h.later hb)
  have HK := Lib.hid hk
  obtain rfl := h.val
  clear h hk hb
  go_enter Try.func66, Try.ntmps66
  go_wp2_with fail
  all_goals
    go_ret
    exact ⟨_, rfl, .begins f HK.out, HB.out⟩

set_option maxRecDepth 100000 in
set_option maxHeartbeats 1600000 in
theorem asked_2 (f : Fl) (a0 : Option Addr) (c0 : Nat) (hk : f.kind = 2) (h : QsIn w S v f.kids a c qs) : Calls Try.prog 66 #[.agg #[.int .i64 2, .string f.name, .string f.text, .slice a0 f.kids.length c0], v] w (AskP S f w) := by
  have hb := lay_alloc w (.cells #[.int .i64 2, .string f.name, .string f.text, .slice a0 f.kids.length c0] 24)
  have HB := Lib.hid hb
  have HQ := Lib.hid (h.later hb)
  have HK := Lib.hid hk
  obtain rfl := h.val
  clear h hk hb
  go_enter Try.func66, Try.ntmps66
  go_wp2_with fail
  all_goals
    go_ret
    exact ⟨_, rfl, .equals f HK.out, HB.out⟩

set_option maxRecDepth 100000 in
set_option maxHeartbeats 1600000 in
theorem asked_3 (f : Fl) (a0 : Option Addr) (c0 : Nat) (hk : f.kind = 3) (h : QsIn w S v f.kids a c qs) : Calls Try.prog 66 #[.agg #[.int .i64 3, .string f.name, .string f.text, .slice a0 f.kids.length c0], v] w (AskP S f w) := by
  have hb := lay_alloc w (.cells #[.int .i64 3, .string f.name, .string f.text, .slice a0 f.kids.length c0] 24)
  have HB := Lib.hid hb
  have HQ := Lib.hid (h.later hb)
  have HK := Lib.hid hk
  obtain rfl := h.val
  clear h hk hb
  go_enter Try.func66, Try.ntmps66
  go_wp2_with fail
  all_goals
    go_ret
    exact ⟨_, rfl, .puts f HK.out, HB.out⟩

set_option maxRecDepth 100000 in
set_option maxHeartbeats 1600000 in
theorem asked_5 (f : Fl) (a0 : Option Addr) (c0 : Nat) (hk : f.kind = 5) (h : QsIn w S v f.kids a c qs) : Calls Try.prog 66 #[.agg #[.int .i64 5, .string f.name, .string f.text, .slice a0 f.kids.length c0], v] w (AskP S f w) := by
  have hb := lay_alloc w (.cells #[.int .i64 5, .string f.name, .string f.text, .slice a0 f.kids.length c0] 24)
  have HB := Lib.hid hb
  have HQ := Lib.hid (h.later hb)
  have HK := Lib.hid hk
  obtain rfl := h.val
  clear h hk hb
  go_enter Try.func66, Try.ntmps66
  go_wp2_with fail
  all_goals
    go_ret
    exact ⟨_, rfl, .each f a c qs HK.out HQ.out.cap HQ.out.row HQ.out.qu, HB.out⟩

set_option maxRecDepth 100000 in
set_option maxHeartbeats 1600000 in
theorem asked_6 (f : Fl) (a0 : Option Addr) (c0 : Nat) (hk : f.kind = 6) (h : QsIn w S v f.kids a c qs) : Calls Try.prog 66 #[.agg #[.int .i64 6, .string f.name, .string f.text, .slice a0 f.kids.length c0], v] w (AskP S f w) := by
  have hb := lay_alloc w (.cells #[.int .i64 6, .string f.name, .string f.text, .slice a0 f.kids.length c0] 24)
  have HB := Lib.hid hb
  have HQ := Lib.hid (h.later hb)
  have HK := Lib.hid hk
  obtain rfl := h.val
  clear h hk hb
  go_enter Try.func66, Try.ntmps66
  go_wp2_with fail
  all_goals
    go_ret
    exact ⟨_, rfl, .some_ f a c qs HK.out HQ.out.cap HQ.out.row HQ.out.qu, HB.out⟩

set_option maxRecDepth 100000 in
set_option maxHeartbeats 1600000 in
theorem asked_4 (f k : Fl) (a0 : Option Addr) (c0 : Nat) (hk : f.kind = 4) (h1 : f.kids = [k]) (h : QsIn w S v f.kids a c qs) : Calls Try.prog 66 #[.agg #[.int .i64 4, .string f.name, .string f.text, .slice a0 f.kids.length c0], v] w (AskP S f w) := by
  have hb := lay_alloc w (.cells #[.int .i64 4, .string f.name, .string f.text, .slice a0 f.kids.length c0] 24)
  have HB := Lib.hid hb
  have h' := h.later hb
  obtain ⟨g, rfl, _, _, hc⟩ := h'.row.resolve_left (by rw [h1]; simp)
  have hc0 := hc 0 (by rw [h1]; simp)
  have hq := h'.qu 0 k (by rw [h1]; rfl)
  have HM := Lib.hid (Qu.nots (S := S) f k (qs 0) hk h1 hq)
  obtain rfl := h.val
  rw [h1]
  simp only [List.length_cons, List.length_nil, Nat.zero_add]
  rw [h1] at HB HM hc0
  simp only [List.length_cons, List.length_nil, Nat.zero_add] at HB HM hc0
  obtain ⟨qt, qx, hqv, _⟩ := hq.iface
  rw [hqv] at hc0 HM
  clear h h' hk hb hc hq h1 hqv
  go_enter Try.func66, Try.ntmps66
  go_wp2_with fail
  all_goals
    go_ret
    exact ⟨_, rfl, HM.out, HB.out⟩
set_option maxRecDepth 100000 in
set_option maxHeartbeats 1600000 in
theorem asked_x (f : Fl) (k : Int) (a0 : Option Addr) (c0 : Nat) (hk : f.kind = k) (h1 : k ≠ 1) (h2 : k ≠ 2) (h3 : k ≠ 3) (h4 : k ≠ 4) (h5 : k ≠ 5) (h6 : k ≠ 6) (h : QsIn w S v f.kids a c qs) : Calls Try.prog 66 #[.agg #[.int .i64 k, .string f.name, .string f.text, .slice a0 f.kids.length c0], v] w (AskP S f w) := by
  have hb := lay_alloc w (.cells #[.int .i64 k, .string f.name, .string f.text, .slice a0 f.kids.length c0] 24)
  have HB := Lib.hid hb
  have HM : Hid (∀ W, Qu W S (.iface 112 (.agg #[])) f) := fun W => Qu.all f (by rw [hk]; exact h1) (by rw [hk]; exact h2) (by rw [hk]; exact h3) (by rw [hk]; exact h4) (by rw [hk]; exact h5) (by rw [hk]; exact h6)
  have q1 : (k == 1) = false := by simpa using h1
  have q2 : (k == 2) = false := by simpa using h2
  have q3 : (k == 3) = false := by simpa using h3
  have q4 : (k == 4) = false := by simpa using h4
  have q5 : (k == 5) = false := by simpa using h5
  have q6 : (k == 6) = false := by simpa using h6
  obtain rfl := h.val
  clear h hk hb
  go_enter Try.func66, Try.ntmps66
  go_wp2_with fail
  all_goals
    go_ret
    exact ⟨_, rfl, HM.out _, HB.out⟩

theorem asked_any (f : Fl) {u : Value} {B : Nat} (hu : KidsIn w B u f.kids) (hm : mayF f.kind f.name f.text f.kids.length = true) (h : QsIn w S v f.kids a c qs) : Calls Try.prog 66 #[flV f u, v] w (AskP S f w) := by
  obtain ⟨a0, c0, rfl, _, _⟩ := hu.slice
  unfold flV
  generalize hk : f.kind = k at *
  by_cases h1 : k = 1
  · subst h1; exact asked_1 f a0 c0 hk h
  by_cases h2 : k = 2
  · subst h2; exact asked_2 f a0 c0 hk h
  by_cases h3 : k = 3
  · subst h3; exact asked_3 f a0 c0 hk h
  by_cases h4 : k = 4
  · subst h4
    obtain ⟨x, hx⟩ : ∃ x, f.kids = [x] := by
      have : f.kids.length = 1 := by
        simp [mayF] at hm
        exact hm.2
      exact List.length_eq_one_iff.1 this
    exact asked_4 f x a0 c0 hk hx h
  by_cases h5 : k = 5
  · subst h5; exact asked_5 f a0 c0 hk h
  by_cases h6 : k = 6
  · subst h6; exact asked_6 f a0 c0 hk h
  exact asked_x f k a0 c0 hk h1 h2 h3 h4 h5 h6 h
end Go.Proofs.Ytdeknkfhlmkabaa
