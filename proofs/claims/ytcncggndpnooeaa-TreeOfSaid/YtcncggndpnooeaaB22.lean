/-
  Walks: whether two lists of pairs, of events, are alike.
-/
import Derived.Test.YtcncggndpnooeaaB21
import Derived.Laws.StructEq
namespace Go.Proofs.Ytcncggndpnooeaa
set_option linter.unusedVariables false
set_option linter.unusedSimpArgs false
open Go.RowKit

instance : DecidableEq Ev := fun a b => decidable_of_iff (a.key = b.key ∧ a.had = b.had ∧ a.old = b.old ∧ a.has = b.has ∧ a.now = b.now) ⟨fun h => by cases a; cases b; simp at h; simp [h], fun h => by subst h; exact ⟨rfl, rfl, rfl, rfl, rfl⟩⟩

theorem Try.pairFields : (Try.prog.fieldsOf 34).toList.map (fun f => (f.name, f.type, f.offset)) = [("Key", 9, 0), ("Value", 9, 1)] := by kernel_rfl
theorem Try.evFields : (Try.prog.fieldsOf 72).toList.map (fun f => (f.name, f.type, f.offset)) = [("Pos", 3, 0), ("Key", 9, 1), ("Had", 4, 2), ("Old", 9, 3), ("Has", 4, 4), ("Now", 9, 5)] := by kernel_rfl
theorem part_string (W : World) (cs : Array Value) (o : Nat) (s : ByteArray) (h : cs[o]? = some (.string s)) : (part 9 cs o).run Try.prog W = .ok (.string s) W := by
  simp [part, isAgg, run_underlying Try.underlying9, h]
theorem pairs_neq (W : World) (a b c d : ByteArray) : (binOp .neq 34 (.agg #[.string a, .string b]) (.agg #[.string c, .string d])).run Try.prog W = .ok (.bool (!(decide (a = c) && decide (b = d)))) W := by
  have h : ∀ k : Nat, (Op.equalIn (k + 1 + 1) 34 (.agg #[.string a, .string b]) (.agg #[.string c, .string d])).run Try.prog W = .ok (decide (a = c) && decide (b = d)) W := fun k => by
    rw [run_equalIn_struct _ _ _ _ _ (by kernel_rfl) (by kernel_rfl)]
    obtain ⟨f1, l1, hl1, e1, hm1⟩ := List.map_eq_cons_iff.1 Try.pairFields
    obtain ⟨f2, l2, rfl, e2, hm2⟩ := List.map_eq_cons_iff.1 hm1
    obtain rfl := List.map_eq_nil_iff.1 hm2
    rw [hl1]
    simp only [Prod.mk.injEq] at e1 e2
    obtain ⟨n1, t1, o1⟩ := e1
    obtain ⟨n2, t2, o2⟩ := e2
    simp only [Op.eqFields, n1, n2, t1, t2, o1, o2]
    simp [part_string _ _ _ a, part_string, ba_eq, run_equalIn_string W k _ _ _ Try.underlying9]
    by_cases h1 : a = c <;> by_cases h2 : b = d <;> simp [h1, h2]
  rw [run_neq_struct, h 9998]
  rfl

theorem part_bool (W : World) (cs : Array Value) (o : Nat) (s : Bool) (h : cs[o]? = some (.bool s)) : (part 4 cs o).run Try.prog W = .ok (.bool s) W := by
  simp [part, isAgg, run_underlying Try.underlying4, h]
theorem part_int (W : World) (cs : Array Value) (o : Nat) (s : Int) (h : cs[o]? = some (.int .i64 s)) : (part 3 cs o).run Try.prog W = .ok (.int .i64 s) W := by
  simp [part, isAgg, run_underlying Try.underlying3, h]
theorem events_neq (W : World) (a b : Ev) : (binOp .neq 72 (.agg #[.int .i64 0, .string a.key, .bool a.had, .string a.old, .bool a.has, .string a.now]) (.agg #[.int .i64 0, .string b.key, .bool b.had, .string b.old, .bool b.has, .string b.now])).run Try.prog W =
    .ok (.bool (!(decide (a = b)))) W := by
  have h : ∀ k : Nat, (Op.equalIn (k + 1 + 1) 72 (.agg #[.int .i64 0, .string a.key, .bool a.had, .string a.old, .bool a.has, .string a.now]) (.agg #[.int .i64 0, .string b.key, .bool b.had, .string b.old, .bool b.has, .string b.now])).run Try.prog W = .ok (decide (a = b)) W := fun k => by
    rw [run_equalIn_struct _ _ _ _ _ (by kernel_rfl) (by kernel_rfl)]
    obtain ⟨f1, l1, hl1, e1, hm1⟩ := List.map_eq_cons_iff.1 Try.evFields
    obtain ⟨f2, l2, rfl, e2, hm2⟩ := List.map_eq_cons_iff.1 hm1
    obtain ⟨f3, l3, rfl, e3, hm3⟩ := List.map_eq_cons_iff.1 hm2
    obtain ⟨f4, l4, rfl, e4, hm4⟩ := List.map_eq_cons_iff.1 hm3
    obtain ⟨f5, l5, rfl, e5, hm5⟩ := List.map_eq_cons_iff.1 hm4
    obtain ⟨f6, l6, rfl, e6, hm6⟩ := List.map_eq_cons_iff.1 hm5
    obtain rfl := List.map_eq_nil_iff.1 hm6
    rw [hl1]
    simp only [Prod.mk.injEq] at e1 e2 e3 e4 e5 e6
    obtain ⟨n1, t1, o1⟩ := e1
    obtain ⟨n2, t2, o2⟩ := e2
    obtain ⟨n3, t3, o3⟩ := e3
    obtain ⟨n4, t4, o4⟩ := e4
    obtain ⟨n5, t5, o5⟩ := e5
    obtain ⟨n6, t6, o6⟩ := e6
    simp only [Op.eqFields, n1, n2, n3, n4, n5, n6, t1, t2, t3, t4, t5, t6, o1, o2, o3, o4, o5, o6]
    simp [part_string, part_bool, part_int, ba_eq, run_equalIn_string W k _ _ _ Try.underlying9, run_equalIn_bool' W k _ _ _ Try.underlying4, run_equalIn_int W k _ _ _ _ _ Try.underlying3]
    cases a with
    | mk a1 a2 a3 a4 a5 =>
      cases b with
      | mk b1 b2 b3 b4 b5 =>
        simp only [Ev.mk.injEq]
        by_cases h1 : a1 = b1 <;> by_cases h2 : a2 = b2 <;> by_cases h3 : a3 = b3 <;> by_cases h4 : a4 = b4 <;> by_cases h5 : a5 = b5 <;> simp [h1, h2, h3, h4, h5]
  rw [run_neq_struct, h 9998]
  rfl

/-- A list of pairs is told. -/
def PairsIn (w : World) (v : Value) (xs : List Pr) : Prop := ∃ a c, v = .slice a xs.length c ∧ (xs = [] ∨ ∃ g off, a = some ⟨g, off, none⟩ ∧ PairsAt w g off xs)
/-- A list of events is told. -/
def EvsAt (w : World) (g off : Nat) (xs : List Ev) : Prop := ∀ i e, xs[i]? = some e → w.cell? ⟨g, off + i * 6, none⟩ = some (.int .i64 0) ∧ w.cell? ⟨g, off + i * 6 + 1, none⟩ = some (.string e.key) ∧ w.cell? ⟨g, off + i * 6 + 2, none⟩ = some (.bool e.had) ∧
  w.cell? ⟨g, off + i * 6 + 3, none⟩ = some (.string e.old) ∧ w.cell? ⟨g, off + i * 6 + 4, none⟩ = some (.bool e.has) ∧ w.cell? ⟨g, off + i * 6 + 5, none⟩ = some (.string e.now)
def EvsIn (w : World) (v : Value) (xs : List Ev) : Prop := ∃ a c, v = .slice a xs.length c ∧ (xs = [] ∨ ∃ g off, a = some ⟨g, off, none⟩ ∧ EvsAt w g off xs)

theorem take_step {α : Type} [DecidableEq α] {xs ys : List α} {i : Nat} {p q : α} (hp : xs[i]? = some p) (hq : ys[i]? = some q) (h : xs.take i = ys.take i) (e : p = q) : xs.take (i + 1) = ys.take (i + 1) := by
  rw [List.take_add_one, List.take_add_one, hp, hq, h, e]

set_option maxRecDepth 100000 in
set_option maxHeartbeats 3200000 in
theorem EqualP_any {w : World} {u v : Value} {xs ys : List Pr} (hu : PairsIn w u xs) (hv : PairsIn w v ys) (hb : xs.length ≤ 1073741824) :
    Calls Try.prog 57 #[u, v] w fun e w' => (e = .returned (.bool true) ∧ xs = ys ∨ e = .returned (.bool false) ∧ xs ≠ ys) ∧ Below w.heap.size w w' := by
  obtain ⟨a, c, rfl, ha⟩ := hu
  obtain ⟨b, d, rfl, hb'⟩ := hv
  by_cases hl : xs.length = ys.length
  · obtain ⟨n, hn⟩ : ∃ n, n = ys.length := ⟨_, rfl⟩
    have HA := Lib.hid ha
    have HB := Lib.hid hb'
    have Hx : Hid (xs.length = n) := by show _ = _; omega
    have Hy : Hid (ys.length = n) := hn.symm
    rw [hl] at hb ⊢
    rw [← hn] at hb ⊢
    clear hl hn ha hb'
    go_enter Try.func57, Try.ntmps57
    go_wp2_with fail
    go_loopw [13] (fun v wr => ∃ i : Nat, v = .int .i64 i ∧ i ≤ n ∧ Hid (xs.take i = ys.take i) ∧ Hid (Below w.heap.size w wr))
      (fun v _ => n - (intOf v).toNat)
    case atStart => exact ⟨0, rfl, Nat.zero_le _, rfl, Below.refl _ _⟩
    case round =>
      obtain ⟨i, rfl, hin, hT, hbw⟩ := hrel
      have ei : IntKind.i64.wrap ((i : Int) + 1) = (i : Int) + 1 := IntWalk.i64_in _ (by omega)
      by_cases hlt : i < n
      · obtain ⟨p, hp⟩ : ∃ p, xs[i]? = some p := ⟨xs[i]'(by rw [Hx.out]; exact hlt), List.getElem?_eq_getElem _⟩
        obtain ⟨q, hq⟩ : ∃ q, ys[i]? = some q := ⟨ys[i]'(by rw [Hy.out]; exact hlt), List.getElem?_eq_getElem _⟩
        obtain ⟨g, off, rfl, hx⟩ := HA.out.resolve_left (fun e => by rw [e] at hp; simp at hp)
        obtain ⟨g2, off2, rfl, hy⟩ := HB.out.resolve_left (fun e => by rw [e] at hq; simp at hq)
        obtain ⟨p0, p1⟩ := hx i p hp
        obtain ⟨q0, q1⟩ := hy i q hq
        have hlw : ∀ (P : Addr) (x : Value), w.cell? P = some x → wr.cell? P = some x := fun P x h => cell_later hbw.out h
        have p0 := hlw _ _ p0
        have q0 := hlw _ _ q0
        have p1 := hlw _ _ p1
        have q1 := hlw _ _ q1
        have hI1 : (i : Int) < (n : Int) := by omega
        have hI0 : (0 : Int) ≤ (i : Int) := by omega
        have hN := fun W => pairs_neq W p.1 p.2 q.1 q.2
        have Hp := Lib.hid hp
        have Hq := Lib.hid hq
        clear hx hy hlw hp hq HA HB
        by_cases hpq : p = q
        · have hd : decide (p = q) = true := by simp [hpq]
          have hd2 : (decide (p.1 = q.1) && decide (p.2 = q.2)) = true := by simp [hpq]
          simp only [hd2] at hN
          go_wp2_with fail
          go_quiet (fail)
          go_wp2_with fail
          exact ⟨⟨i + 1, by simp, hlt, take_step Hp.out Hq.out hT.out hpq, hbw.out.trans (below_drewN (Below.refl _ _) _)⟩, by show n - ((i : Int) + 1).toNat < n - ((i : Int)).toNat; omega⟩
        · have hd : decide (p = q) = false := by simp [hpq]
          have hd2 : (decide (p.1 = q.1) && decide (p.2 = q.2)) = false := by
            have : ¬ (p.1 = q.1 ∧ p.2 = q.2) := fun e => hpq (Prod.ext e.1 e.2)
            simpa using this
          simp only [hd2] at hN
          go_wp2_with fail
          go_quiet (fail)
          go_wp2_with fail
          go_ret
          refine ⟨.inr ⟨rfl, fun e => hpq ?_⟩, hbw.out.trans (below_drewN (Below.refl _ _) _)⟩
          have h1 := Hp.out
          rw [e, Hq.out] at h1
          exact (Option.some.inj h1).symm
      · obtain rfl : i = n := by omega
        go_wp2_with fail
        go_ret
        refine ⟨.inl ⟨rfl, ?_⟩, hbw.out⟩
        have h1 := hT.out
        rw [List.take_of_length_le (by rw [Hx.out]; exact Nat.le_refl _), List.take_of_length_le (by rw [Hy.out]; exact Nat.le_refl _)] at h1
        exact h1
  · have hne : ¬ xs = ys := fun e => hl (by rw [e])
    have hlI : ¬ ((xs.length : Nat) : Int) = ((ys.length : Nat) : Int) := by omega
    go_enter Try.func57, Try.ntmps57
    go_wp2_with fail
    go_ret
    exact ⟨.inr ⟨rfl, hne⟩, Below.refl _ _⟩

set_option maxRecDepth 100000 in
set_option maxHeartbeats 3200000 in
theorem EqualE_any {w : World} {u v : Value} {xs ys : List Ev} (hu : EvsIn w u xs) (hv : EvsIn w v ys) (hb : xs.length ≤ 1073741824) :
    Calls Try.prog 52 #[u, v] w fun e w' => (e = .returned (.bool true) ∧ xs = ys ∨ e = .returned (.bool false) ∧ xs ≠ ys) ∧ Below w.heap.size w w' := by
  obtain ⟨a, c, rfl, ha⟩ := hu
  obtain ⟨b, d, rfl, hb'⟩ := hv
  by_cases hl : xs.length = ys.length
  · obtain ⟨n, hn⟩ : ∃ n, n = ys.length := ⟨_, rfl⟩
    have HA := Lib.hid ha
    have HB := Lib.hid hb'
    have Hx : Hid (xs.length = n) := by show _ = _; omega
    have Hy : Hid (ys.length = n) := hn.symm
    rw [hl] at hb ⊢
    rw [← hn] at hb ⊢
    clear hl hn ha hb'
    go_enter Try.func52, Try.ntmps52
    go_wp2_with fail
    go_loopw [13] (fun v wr => ∃ i : Nat, v = .int .i64 i ∧ i ≤ n ∧ Hid (xs.take i = ys.take i) ∧ Hid (Below w.heap.size w wr))
      (fun v _ => n - (intOf v).toNat)
    case atStart => exact ⟨0, rfl, Nat.zero_le _, rfl, Below.refl _ _⟩
    case round =>
      obtain ⟨i, rfl, hin, hT, hbw⟩ := hrel
      have ei : IntKind.i64.wrap ((i : Int) + 1) = (i : Int) + 1 := IntWalk.i64_in _ (by omega)
      by_cases hlt : i < n
      · obtain ⟨p, hp⟩ : ∃ p, xs[i]? = some p := ⟨xs[i]'(by rw [Hx.out]; exact hlt), List.getElem?_eq_getElem _⟩
        obtain ⟨q, hq⟩ : ∃ q, ys[i]? = some q := ⟨ys[i]'(by rw [Hy.out]; exact hlt), List.getElem?_eq_getElem _⟩
        obtain ⟨g, off, rfl, hx⟩ := HA.out.resolve_left (fun e => by rw [e] at hp; simp at hp)
        obtain ⟨g2, off2, rfl, hy⟩ := HB.out.resolve_left (fun e => by rw [e] at hq; simp at hq)
        obtain ⟨p0, p1, p2, p3, p4, p5⟩ := hx i p hp
        obtain ⟨q0, q1, q2, q3, q4, q5⟩ := hy i q hq
        have hlw : ∀ (P : Addr) (x : Value), w.cell? P = some x → wr.cell? P = some x := fun P x h => cell_later hbw.out h
        have p0 := hlw _ _ p0
        have q0 := hlw _ _ q0
        have p1 := hlw _ _ p1
        have q1 := hlw _ _ q1
        have p2 := hlw _ _ p2
        have q2 := hlw _ _ q2
        have p3 := hlw _ _ p3
        have q3 := hlw _ _ q3
        have p4 := hlw _ _ p4
        have q4 := hlw _ _ q4
        have p5 := hlw _ _ p5
        have q5 := hlw _ _ q5
        have hI1 : (i : Int) < (n : Int) := by omega
        have hI0 : (0 : Int) ≤ (i : Int) := by omega
        have hN := fun W => events_neq W p q
        have Hp := Lib.hid hp
        have Hq := Lib.hid hq
        clear hx hy hlw hp hq HA HB
        by_cases hpq : p = q
        · have hd : decide (p = q) = true := by simp [hpq]
          simp only [hd] at hN
          go_wp2_with fail
          go_quiet (fail)
          go_wp2_with fail
          exact ⟨⟨i + 1, by simp, hlt, take_step Hp.out Hq.out hT.out hpq, hbw.out.trans (below_drewN (Below.refl _ _) _)⟩, by show n - ((i : Int) + 1).toNat < n - ((i : Int)).toNat; omega⟩
        · have hd : decide (p = q) = false := by simp [hpq]
          simp only [hd] at hN
          go_wp2_with fail
          go_quiet (fail)
          go_wp2_with fail
          go_ret
          refine ⟨.inr ⟨rfl, fun e => hpq ?_⟩, hbw.out.trans (below_drewN (Below.refl _ _) _)⟩
          have h1 := Hp.out
          rw [e, Hq.out] at h1
          exact (Option.some.inj h1).symm
      · obtain rfl : i = n := by omega
        go_wp2_with fail
        go_ret
        refine ⟨.inl ⟨rfl, ?_⟩, hbw.out⟩
        have h1 := hT.out
        rw [List.take_of_length_le (by rw [Hx.out]; exact Nat.le_refl _), List.take_of_length_le (by rw [Hy.out]; exact Nat.le_refl _)] at h1
        exact h1
  · have hne : ¬ xs = ys := fun e => hl (by rw [e])
    have hlI : ¬ ((xs.length : Nat) : Int) = ((ys.length : Nat) : Int) := by omega
    go_enter Try.func52, Try.ntmps52
    go_wp2_with fail
    go_ret
    exact ⟨.inr ⟨rfl, hne⟩, Below.refl _ _⟩

end Go.Proofs.Ytcncggndpnooeaa
