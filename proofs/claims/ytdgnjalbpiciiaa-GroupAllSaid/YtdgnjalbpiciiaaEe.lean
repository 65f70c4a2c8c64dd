/-
  Events; slices.Equal of events.
-/
import Derived.Test.YtdgnjalbpiciiaaG1
import Derived.Test.YtdgnjalbpiciiaaLi
import Derived.Test.YtdgnjalbpiciiaaDA
import Derived.Laws.StructEq
import Derived.Lib.MinMax
namespace Go.Proofs.Ytdgnjalbpiciiaa
set_option linter.unusedVariables false
set_option linter.unusedSimpArgs false
open Go.RowKit

/-- An event. -/
structure Kev where
  pos : Int
  key : ByteArray
  had : Bool
  old : ByteArray
  has : Bool
  now : ByteArray
def evL : Lay Kev := ⟨fun e => [.int .i64 e.pos, .string e.key, .bool e.had, .string e.old, .bool e.has, .string e.now], 6, fun _ => rfl, by intro o u hu; simp at hu; rcases hu with rfl | rfl | rfl | rfl | rfl | rfl <;> rfl⟩

def PassP (l : List Kev) (w : World) (e : Ending) (w' : World) : Prop := ∃ v, e = .returned v ∧ Rw evL 51 w w' v l
theorem Try.infoEv : (Try.prog.info? 51).map (fun i => (i.zero, i.size, i.bytes)) = some (some (.agg #[.int .i64 0, .string ByteArray.empty, .bool false, .string ByteArray.empty, .bool false, .string ByteArray.empty]), 6, 72) := by kernel_rfl
theorem Try.evFields : (Try.prog.fieldsOf 51).toList.map (fun f => (f.name, f.type, f.offset)) = [("Pos", 3, 0), ("Key", 9, 1), ("Had", 4, 2), ("Old", 9, 3), ("Has", 4, 4), ("Now", 9, 5)] := by kernel_rfl
theorem part_string (W : World) (cs : Array Value) (o : Nat) (s : ByteArray) (h : cs[o]? = some (.string s)) : (part 9 cs o).run Try.prog W = .ok (.string s) W := by
  simp [part, isAgg, run_underlying Try.underlying9, h]
theorem part_bool (W : World) (cs : Array Value) (o : Nat) (s : Bool) (h : cs[o]? = some (.bool s)) : (part 4 cs o).run Try.prog W = .ok (.bool s) W := by
  simp [part, isAgg, run_underlying Try.underlying4, h]
theorem part_int (W : World) (cs : Array Value) (o : Nat) (s : Int) (h : cs[o]? = some (.int .i64 s)) : (part 3 cs o).run Try.prog W = .ok (.int .i64 s) W := by
  simp [part, isAgg, run_underlying Try.underlying3, h]
theorem events_same (W : World) (a : Kev) : (binOp .neq 51 (.agg #[.int .i64 a.pos, .string a.key, .bool a.had, .string a.old, .bool a.has, .string a.now]) (.agg #[.int .i64 a.pos, .string a.key, .bool a.had, .string a.old, .bool a.has, .string a.now])).run Try.prog W = .ok (.bool false) W := by
  have h : ∀ k : Nat, (Op.equalIn (k + 1 + 1) 51 (.agg #[.int .i64 a.pos, .string a.key, .bool a.had, .string a.old, .bool a.has, .string a.now]) (.agg #[.int .i64 a.pos, .string a.key, .bool a.had, .string a.old, .bool a.has, .string a.now])).run Try.prog W = .ok true W := fun k => by
    rw [run_equalIn_struct _ _ _ _ _ (by kernel_rfl) (by kernel_rfl)]
    obtain ⟨f1, l1, hl1, e1, hm1⟩ := List.map_eq_cons_iff.1 Try.evFields
    obtain ⟨f2, l2, rfl, e2, hm2⟩ := List.map_eq_cons_iff.1 hm1
    obtain ⟨f3, l3, rfl, e3, hm3⟩ := List.map_eq_cons_iff.1 hm2
    obtain ⟨f4, l4, rfl, e4, hm4⟩ := List.map_eq_cons_iff.1 hm3
    obtain ⟨f5, l5, rfl, e5, hm5⟩ := List.map_eq_cons_iff.1 hm4
    obtain ⟨f6, l6, rfl, e6, hm6⟩ := List.map_eq_cons_iff.1 hm5
    obtain rfl := List.map_eq_nil_iff.1 hm6
    rw [hl1]
    simp only [Prod.mk.injEq] at e1 e2 e3 e4 e5 e6
    obtain ⟨n1, t1, o1⟩ := e1
    obtain ⟨n2, t2, o2⟩ := e2
    obtain ⟨n3, t3, o3⟩ := e3
    obtain ⟨n4, t4, o4⟩ := e4
    obtain ⟨n5, t5, o5⟩ := e5
    obtain ⟨n6, t6, o6⟩ := e6
    simp only [Op.eqFields, n1, n2, n3, n4, n5, n6, t1, t2, t3, t4, t5, t6, o1, o2, o3, o4, o5, o6]
    simp [part_string, part_bool, part_int, ba_eq, run_equalIn_string W k _ _ _ Try.underlying9, run_equalIn_bool' W k _ _ _ Try.underlying4, run_equalIn_int W k _ _ _ _ _ Try.underlying3]
  rw [run_neq_struct, h 9998]
  rfl

set_option maxRecDepth 100000 in
set_option maxHeartbeats 3200000 in
theorem EqualE {w : World} {u v : Value} {xs : List Kev} (hu : evL.In w u xs) (hv : evL.In w v xs) : Calls Try.prog 33 #[u, v] w (BoolP true w) := by
  obtain ⟨a, c, rfl, hc1, hc2⟩ := hu.slice
  obtain ⟨b, d, rfl, hd1, hd2⟩ := hv.slice
  have HA := Lib.hid hu
  have HB := Lib.hid hv
  clear hu hv
  go_enter Try.func33, Try.ntmps33
  go_wp2_with fail
  go_loopw [13] (fun v wr => ∃ i : Nat, v = .int .i64 i ∧ i ≤ xs.length ∧ Hid (Below w.heap.size w wr))
    (fun v _ => xs.length - (intOf v).toNat)
  case atStart => exact ⟨0, rfl, Nat.zero_le _, Below.refl _ _⟩
  case round =>
    obtain ⟨i, rfl, hin, hbw⟩ := hrel
    by_cases hlt : i < xs.length
    · have ei : IntKind.i64.wrap ((i : Int) + 1) = (i : Int) + 1 := IntWalk.i64_in _ (by omega)
      obtain ⟨p, hp⟩ : ∃ p, xs[i]? = some p := ⟨xs[i], List.getElem?_eq_getElem hlt⟩
      obtain ⟨g, off, rfl, _, hx⟩ := HA.out.cells hp
      obtain ⟨g2, off2, rfl, _, hy⟩ := HB.out.cells hp
      have p0 : wr.cell? ⟨g, off + i * 6, none⟩ = some (.int .i64 p.pos) := lay_later hbw.out (hx 0 _ rfl)
      have p1 : wr.cell? ⟨g, off + i * 6 + 1, none⟩ = some (.string p.key) := lay_later hbw.out (hx 1 _ rfl)
      have p2 : wr.cell? ⟨g, off + i * 6 + 2, none⟩ = some (.bool p.had) := lay_later hbw.out (hx 2 _ rfl)
      have p3 : wr.cell? ⟨g, off + i * 6 + 3, none⟩ = some (.string p.old) := lay_later hbw.out (hx 3 _ rfl)
      have p4 : wr.cell? ⟨g, off + i * 6 + 4, none⟩ = some (.bool p.has) := lay_later hbw.out (hx 4 _ rfl)
      have p5 : wr.cell? ⟨g, off + i * 6 + 5, none⟩ = some (.string p.now) := lay_later hbw.out (hx 5 _ rfl)
      have q0 : wr.cell? ⟨g2, off2 + i * 6, none⟩ = some (.int .i64 p.pos) := lay_later hbw.out (hy 0 _ rfl)
      have q1 : wr.cell? ⟨g2, off2 + i * 6 + 1, none⟩ = some (.string p.key) := lay_later hbw.out (hy 1 _ rfl)
      have q2 : wr.cell? ⟨g2, off2 + i * 6 + 2, none⟩ = some (.bool p.had) := lay_later hbw.out (hy 2 _ rfl)
      have q3 : wr.cell? ⟨g2, off2 + i * 6 + 3, none⟩ = some (.string p.old) := lay_later hbw.out (hy 3 _ rfl)
      have q4 : wr.cell? ⟨g2, off2 + i * 6 + 4, none⟩ = some (.bool p.has) := lay_later hbw.out (hy 4 _ rfl)
      have q5 : wr.cell? ⟨g2, off2 + i * 6 + 5, none⟩ = some (.string p.now) := lay_later hbw.out (hy 5 _ rfl)
      have hI1 : (i : Int) < (xs.length : Int) := by omega
      have hI0 : (0 : Int) ≤ (i : Int) := by omega
      have hN := fun W => events_same W p
      clear hx hy hp
      go_wp2_with fail
      go_quiet (fail)
      go_wp2_with fail
      exact ⟨⟨i + 1, by simp, hlt, below_drewN hbw.out _⟩, by show xs.length - ((i : Int) + 1).toNat < xs.length - ((i : Int)).toNat; omega⟩
    · obtain rfl : i = xs.length := by omega
      go_wp2_with fail
      go_ret
      exact ⟨rfl, hbw.out⟩
end Go.Proofs.Ytdgnjalbpiciiaa
