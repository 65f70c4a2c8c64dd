/-
  Walks: whether a filter may be; what its question holds of.
-/
import Derived.Test.YtdeknkfhlmkabaaF8
import Derived.Test.YtdeknkfhlmkabaaQA
namespace Go.Proofs.Ytdeknkfhlmkabaa
set_option linter.unusedVariables false
set_option linter.unusedSimpArgs false
open Go.RowKit

def ErrP (n : Int) (w : World) (e : Ending) (w' : World) : Prop := e = .returned (.int .i64 n) ∧ Below w.heap.size w w'
theorem KidsIn.on {w W : World} {u : Value} {ks : List Fl} (h : KidsIn w w.heap.size u ks) (hb : Below w.heap.size w W) : KidsIn W W.heap.size u ks := (h.later hb).wider hb.size
set_option maxHeartbeats 1600000 in
theorem Check_any {w : World} {u : Value} (f : Fl) (hl : Light f) (hk : KidsIn w w.heap.size u f.kids) : Calls Try.prog 14 #[flV f u] w (ErrP (ckF f) w) := by
  obtain ⟨a, cap, rfl, _, _⟩ := hk.slice
  have hb0 := lay_alloc w (.cells #[.int .i64 f.kind, .string f.name, .string f.text, .slice a f.kids.length cap] 24)
  have HC := Lib.hid (Ready_any f hl (hk.on hb0))
  have HB0 := Lib.hid hb0
  unfold flV at HC ⊢
  clear hk hb0
  go_enter Try.func14, Try.ntmps14
  go_wp2_with fail
  go_fit HC.out
  rintro e w1 ⟨v, rfl, hb, hv⟩
  have HB := Lib.hid (HB0.out.trans (hb.mono HB0.out.size))
  clear hb
  rcases hv with ⟨h0, hq⟩ | ⟨h0, rfl⟩
  · have hty := fun W => no_e hq W
    obtain ⟨t, x, rfl, _⟩ := hq.iface
    have HE := Lib.hid h0
    clear hq h0
    go_wp2_with fail
    go_ret
    exact ⟨by rw [HE.out]; rfl, HB.out⟩
  · have hty := fun W => is_e (.int .i64 (ckF f)) W
    clear h0
    go_wp2_with fail
    go_ret
    exact ⟨rfl, HB.out⟩

def evV (e : Kev) : Value := .agg #[.int .i64 e.pos, .string e.key, .bool e.had, .string e.old, .bool e.has, .string e.now]
/-- What a question answers. -/
def HoldP (b : Bool) (w : World) (e : Ending) (w' : World) : Prop := e = .returned (.bool b) ∧ Below w.heap.size w w'
/-- A question can be asked. -/
def Asks (q : Value) (b : Bool) (ev : Kev) (w : World) : Prop := ∃ (t : TypeId) (x : Value) (K : FuncId) (r : Value), q = .iface t x ∧ (∀ W, (method 252 t x "tidemark/filter.holds").run Try.prog W = .ok (K, r) W) ∧ (∀ vs W, (callFunc K vs).run Try.prog W = .ok (.enter K vs) W) ∧ Calls Try.prog K #[r, evV ev] w (HoldP b w)
theorem ok_kid {m ah : Nat} {f k : Fl} (h : (ec (m + 1) f ah).2 = 0) (hk : k ∈ f.kids) : ∃ a, (ec m k a).2 = 0 := by
  rw [ec_succ] at h
  split at h
  · simp at h
  · split at h
    · simp at h
    · obtain ⟨i, hi⟩ := List.mem_iff_getElem?.1 hk
      have key : ∀ j, (ecs m (f.kids.take j) (ah + 1)).2 = 0 := fun j => by
        by_cases e : (ecs m (f.kids.take j) (ah + 1)).2 = 0
        · exact e
        · rw [ecs_bad m (ah + 1) e] at h; exact h
      have h1 := key (i + 1)
      rw [ecs_step hi m (ah + 1) (key i)] at h1
      exact ⟨_, h1⟩
theorem ok_may {m ah : Nat} {f : Fl} (h : (ec (m + 1) f ah).2 = 0) : mayF f.kind f.name f.text f.kids.length = true := by
  rw [ec_succ] at h
  split at h
  · simp at h
  · split at h
    · simp at h
    · rename_i h1
      simpa using h1
variable {w : World}
theorem HasPrefix_any (s p : ByteArray) (w : World) : Calls Try.prog 108 #[.string s, .string p] w fun e w' => e = .returned (.bool (Lib.hasPrefix s.data.toList p.data.toList)) ∧ w = w' :=
  (Try.strings_HasPrefix s p w).mono fun _ _ ⟨a, b⟩ => ⟨a, b.symm⟩
theorem Begins_any (s p : ByteArray) (w : World) : Calls Try.prog 107 #[.string s, .string p] w fun e w' => e = .returned (.bool (beginsB s p)) ∧ w = w' := by
  have hc := Lib.hid (HasPrefix_any s p w)
  unfold beginsB
  go_enter Try.func107, Try.ntmps107
  go_wp2_with fail
  go_fit hc.out
  rintro e w' ⟨rfl, rfl⟩
  go_wp2_with fail
  go_ret
  exact ⟨rfl, rfl⟩

theorem asks_all (ev : Kev) (w : World) : Asks (.iface 112 (.agg #[])) true ev w := by
  refine ⟨_, _, 128, .agg #[], rfl, fun W => by kernel_rfl, fun vs W => by kernel_rfl, ?_⟩
  unfold evV
  have hb1 := lay_alloc w (.cells #[] 112)
  have hb2 := lay_alloc (w.alloc (.cells #[] 112)) (.cells #[.int .i64 ev.pos, .string ev.key, .bool ev.had, .string ev.old, .bool ev.has, .string ev.now] 32)
  have hb := hb1.trans (hb2.mono hb1.size)
  have HB := Lib.hid hb
  go_enter Try.func128, Try.ntmps128
  go_wp2_with fail
  go_ret
  exact ⟨rfl, HB.out⟩
theorem asks_puts (ev : Kev) (w : World) : Asks (.iface 107 (.agg #[])) ev.has ev w := by
  refine ⟨_, _, 124, .agg #[], rfl, fun W => by kernel_rfl, fun vs W => by kernel_rfl, ?_⟩
  unfold evV
  have hb1 := lay_alloc w (.cells #[] 107)
  have hb2 := lay_alloc (w.alloc (.cells #[] 107)) (.cells #[.int .i64 ev.pos, .string ev.key, .bool ev.had, .string ev.old, .bool ev.has, .string ev.now] 32)
  have hb := hb1.trans (hb2.mono hb1.size)
  have HB := Lib.hid hb
  go_enter Try.func124, Try.ntmps124
  go_wp2_with fail
  go_ret
  exact ⟨rfl, HB.out⟩
theorem asks_begins (t : ByteArray) (ev : Kev) (w : World) : Asks (.iface 103 (.agg #[.string t])) (beginsB ev.key t) ev w := by
  refine ⟨_, _, 106, .agg #[.string t], rfl, fun W => by kernel_rfl, fun vs W => by kernel_rfl, ?_⟩
  unfold evV
  have hb1 := lay_alloc w (.cells #[.string t] 103)
  have hb2 := lay_alloc (w.alloc (.cells #[.string t] 103)) (.cells #[.int .i64 ev.pos, .string ev.key, .bool ev.had, .string ev.old, .bool ev.has, .string ev.now] 32)
  have hb := hb1.trans (hb2.mono hb1.size)
  have HB := Lib.hid hb
  have HC := Lib.hid (Begins_any ev.key t ((w.alloc (.cells #[.string t] 103)).alloc (.cells #[.int .i64 ev.pos, .string ev.key, .bool ev.had, .string ev.old, .bool ev.has, .string ev.now] 32)))
  go_enter Try.func106, Try.ntmps106
  go_wp2_with fail
  go_fit HC.out
  rintro e w' ⟨rfl, rfl⟩
  go_wp2_with fail
  go_ret
  exact ⟨rfl, HB.out⟩
set_option maxHeartbeats 1600000 in
theorem asks_equals (n t : ByteArray) (ev : Kev) (w : World) (hs : ev.now.size ≤ 1073741824) : Asks (.iface 105 (.agg #[.string n, .string t])) (eqB n t ev) ev w := by
  refine ⟨_, _, 110, .agg #[.string n, .string t], rfl, fun W => by kernel_rfl, fun vs W => by kernel_rfl, ?_⟩
  unfold evV
  obtain ⟨pos, key, had, old, has, now⟩ := ev
  simp only at hs ⊢
  have hb1 := lay_alloc w (.cells #[.string n, .string t] 105)
  have hb2 := lay_alloc (w.alloc (.cells #[.string n, .string t] 105)) (.cells #[.int .i64 pos, .string key, .bool had, .string old, .bool has, .string now] 32)
  have hb := hb1.trans (hb2.mono hb1.size)
  have HB := Lib.hid hb
  clear hb1 hb2
  cases has
  · have HE : Hid (eqB n t ⟨pos, key, had, old, false, now⟩ = false) := by show _ = _; simp [eqB]
    clear hb
    go_enter Try.func110, Try.ntmps110
    go_wp2_with fail
    go_ret
    rw [HE.out]
    exact ⟨rfl, HB.out⟩
  · have hF := Tx.Field_any now n ((w.alloc (.cells #[.string n, .string t] 105)).alloc (.cells #[.int .i64 pos, .string key, .bool had, .string old, .bool true, .string now] 32)) hs
    have HX := Lib.hid (DC.alloc w [.string n, .string t] 105)
    have HXB := Lib.hid (lay_alloc (w.alloc (.cells #[.string n, .string t] 105)) (.cells #[.int .i64 pos, .string key, .bool had, .string old, .bool true, .string now] 32))
    have HE : Hid (eqB n t ⟨pos, key, had, old, true, now⟩ = ((Tx.fieldOf n (Tx.partsOf now 32)).2 && decide ((Tx.fieldOf n (Tx.partsOf now 32)).1 = t))) := by show _ = _; simp [eqB]
    unfold Tx.FieldP at hF
    generalize Tx.fieldOf n (Tx.partsOf now 32) = r at *
    obtain ⟨r1, r2⟩ := r
    simp only at hF HE
    have HF := Lib.hid hF
    clear hb hF
    go_enter Try.func110, Try.ntmps110
    go_wp2_with fail
    go_fit HF.out
    rintro e w1 ⟨rfl, hb1⟩
    have HB1 := Lib.hid (HB.out.trans (hb1.mono HB.out.size))
    have hX1 := (HX.out.below HXB.out).below hb1
    have z1 := hX1.cells 1 _ rfl
    have hq : (r1.toList == t.toList) = decide (r1 = t) := by rw [← beq_toListBytes, Tx.beq_bytes]
    clear hb1 hX1
    cases r2
    · go_wp2_with fail
      go_ret
      rw [HE.out]
      exact ⟨rfl, HB1.out⟩
    · go_wp2_with fail
      go_ret
      rw [HE.out]
      exact ⟨by simp, HB1.out⟩
end Go.Proofs.Ytdeknkfhlmkabaa
