/-
  Walks: knots in memory; how many there are, how deep they stand; a pair between two sides.
-/
import Derived.Test.YtdfjnpnkfjcpcaaTM4
import Derived.Test.YtdfjnpnkfjcpcaaProg
import Derived.Test.YtdfjnpnkfjcpcaaShelf
import Derived.WalkKit
import Derived.WalkSpells
import Derived.WalkLawsBesides
import Derived.Laws.AppendOwnNone
import Derived.Deep.DeepFit
import Derived.Lib.Hide
import Derived.Lib.MinMax
import Derived.IntWalk
import Derived.Deep.RegionWith
import Derived.Deep.RegionHeld3
import Derived.Deep.QuietTactic
import Derived.BigQuiet
namespace Go.Proofs.Ytdfjnpnkfjcpcaa
set_option linter.unusedVariables false
set_option linter.unusedSimpArgs false
open Go.RowKit

/-- A block below B that is a knot's. -/
def KB (w : World) (B b : Nat) : Prop := b < B ∧ ∃ cs, w.heap[b]? = some (.cells cs 119 (0, 0))
theorem KB.later {w w' : World} {B b : Nat} (h : KB w B b) (hb : Below B w w') : KB w' B b := ⟨h.1, h.2.elim fun cs hc => ⟨cs, (hb.block b h.1).trans hc⟩⟩
theorem KB.mono {w : World} {B B' b : Nat} (h : KB w B b) (hb : B ≤ B') : KB w B' b := ⟨Nat.lt_of_lt_of_le h.1 hb, h.2⟩

/-- A tree of knots lies in memory, in blocks below B. -/
def Knot (w : World) (B : Nat) : T → Option Addr → Prop
  | .nil, a => a = none
  | .node l p r, a => ∃ b x y, a = some ⟨b, 0, none⟩ ∧ KB w B b ∧ w.cell? ⟨b, 0, none⟩ = some (.string p.1) ∧ w.cell? ⟨b, 1, none⟩ = some (.string p.2) ∧
      w.cell? ⟨b, 2, none⟩ = some (.pointer x) ∧ w.cell? ⟨b, 3, none⟩ = some (.pointer y) ∧ w.cell? ⟨b, 4, none⟩ = some (.int .i64 ((T.node l p r).size : Nat)) ∧ w.cell? ⟨b, 5, none⟩ = some (.int .i64 ((T.node l p r).deep : Nat)) ∧ Knot w B l x ∧ Knot w B r y

theorem Knot.later {w w' : World} {B : Nat} (hb : Below B w w') : ∀ {t : T} {v : Option Addr}, Knot w B t v → Knot w' B t v
  | .nil, _, h => h
  | .node l p r, _, ⟨b, x, y, hv, hB, h0, h1, h2, h3, h4, h5, hl, hr⟩ =>
    ⟨b, x, y, hv, hB.later hb, (hb.cell (p := ⟨b, 0, none⟩) hB.1).trans h0, (hb.cell (p := ⟨b, 1, none⟩) hB.1).trans h1, (hb.cell (p := ⟨b, 2, none⟩) hB.1).trans h2, (hb.cell (p := ⟨b, 3, none⟩) hB.1).trans h3, (hb.cell (p := ⟨b, 4, none⟩) hB.1).trans h4, (hb.cell (p := ⟨b, 5, none⟩) hB.1).trans h5, hl.later hb, hr.later hb⟩
theorem Knot.mono {w : World} {B B' : Nat} (hB : B ≤ B') : ∀ {t : T} {v : Option Addr}, Knot w B t v → Knot w B' t v
  | .nil, _, h => h
  | .node l p r, _, ⟨b, x, y, hv, hb, h0, h1, h2, h3, h4, h5, hl, hr⟩ => ⟨b, x, y, hv, hb.mono hB, h0, h1, h2, h3, h4, h5, hl.mono hB, hr.mono hB⟩
/-- One pointer, one tree. -/
theorem Knot.one {w : World} {B B' : Nat} : ∀ {t t' : T} {v : Option Addr}, Knot w B t v → Knot w B' t' v → t = t'
  | .nil, .nil, _, _, _ => rfl
  | .nil, .node _ _ _, _, h, ⟨b, x, y, hv, _⟩ => by rw [show _ = _ from h] at hv; cases hv
  | .node _ _ _, .nil, _, ⟨b, x, y, hv, _⟩, h => by rw [show _ = _ from h] at hv; cases hv
  | .node l p r, .node l' p' r', _, ⟨b, x, y, hv, hb, h0, h1, h2, h3, h4, h5, hl, hr⟩, ⟨b', x', y', hv', hb', h0', h1', h2', h3', h4', h5', hl', hr'⟩ => by
    subst hv
    simp only [Option.some.injEq, Addr.mk.injEq, and_true] at hv'
    obtain rfl := hv'
    rw [h0] at h0'; rw [h1] at h1'; rw [h2] at h2'; rw [h3] at h3'
    simp only [Option.some.injEq, Value.string.injEq, Value.pointer.injEq] at h0' h1' h2' h3'
    subst h2'; subst h3'
    rw [hl.one hl', hr.one hr', Prod.ext h0' h1']

set_option maxHeartbeats 800000 in
theorem len_any {w : World} {B : Nat} {t : T} {v : Option Addr} (h : Knot w B t v) : Calls Try.prog 91 #[.pointer v] w fun e w' => e = .returned (.int .i64 (t.size : Nat)) ∧ w = w' := by
  cases t with
  | nil =>
    obtain rfl : v = none := h
    go_enter Try.func91, Try.ntmps91
    go_wp2_with fail
    go_ret
    exact ⟨rfl, rfl⟩
  | node l p r =>
    obtain ⟨b, x, y, rfl, hb, h0, h1, h2, h3, h4, h5, _, _⟩ := h
    go_enter Try.func91, Try.ntmps91
    go_wp2_with fail
    go_ret
    exact ⟨rfl, rfl⟩

set_option maxHeartbeats 800000 in
theorem deep_any {w : World} {B : Nat} {t : T} {v : Option Addr} (h : Knot w B t v) : Calls Try.prog 115 #[.pointer v] w fun e w' => e = .returned (.int .i64 (t.deep : Nat)) ∧ w = w' := by
  cases t with
  | nil =>
    obtain rfl : v = none := h
    go_enter Try.func115, Try.ntmps115
    go_wp2_with fail
    go_ret
    exact ⟨rfl, rfl⟩
  | node l p r =>
    obtain ⟨b, x, y, rfl, hb, h0, h1, h2, h3, h4, h5, _, _⟩ := h
    go_enter Try.func115, Try.ntmps115
    go_wp2_with fail
    go_ret
    exact ⟨rfl, rfl⟩

/-- What is made: a tree, in blocks that are there. -/
def Makes (w : World) (Q : T → Prop) (e : Ending) (w' : World) : Prop := ∃ v t, e = .returned (.pointer v) ∧ Q t ∧ Knot w' w'.heap.size t v ∧ Below w.heap.size w w'

theorem Makes.mono {w w' : World} {Q Q' : T → Prop} {e : Ending} (h : ∀ t, Q t → Q' t) : Makes w Q e w' → Makes w Q' e w' := fun ⟨v, t, he, hq, hk, hb⟩ => ⟨v, t, he, h t hq, hk, hb⟩

theorem below_alloc (w : World) (o : Obj) : Below w.heap.size w (w.alloc o) := (Below.refl _ _).alloc (Nat.le_refl _) _
theorem below_drew {B : Nat} {w w' : World} (h : Below B w w') : Below B w w'.drew := ⟨h.os, h.tape, h.output, h.size, h.block⟩

set_option maxRecDepth 100000 in
set_option maxHeartbeats 1600000 in
theorem tie_any {w : World} {l r : T} {x y : Option Addr} (p : Pr) (hl : Knot w w.heap.size l x) (hr : Knot w w.heap.size r y) (hs : l.size + r.size ≤ 1073741824) :
    Calls Try.prog 103 #[.pointer x, .agg #[.string p.1, .string p.2], .pointer y] w (Makes w (· = .node l p r)) := by
  have HB := Lib.hid (below_alloc w (Obj.cells #[Value.string p.fst, Value.string p.snd] 87))
  have hc0 : (w.alloc (Obj.cells #[Value.string p.fst, Value.string p.snd] 87)).cell? ⟨w.heap.size, 0, none⟩ = some (.string p.1) := by rw [World.cell?_alloc_at _ _ _ _ rfl]; rfl
  have hc1 : (w.alloc (Obj.cells #[Value.string p.fst, Value.string p.snd] 87)).cell? ⟨w.heap.size, 1, none⟩ = some (.string p.2) := by rw [World.cell?_alloc_at _ _ _ _ rfl]; rfl
  have e1 : IntKind.i64.wrap ((l.size : Int) + 1) = (l.size : Int) + 1 := IntWalk.i64_in _ (by omega)
  have e2 : IntKind.i64.wrap ((l.size : Int) + 1 + (r.size : Int)) = (l.size : Int) + 1 + (r.size : Int) := IntWalk.i64_in _ (by omega)
  have hd := l.deep_size
  have hd' := r.deep_size
  have e3 : IntKind.i64.wrap (max (l.deep : Int) (r.deep : Int) + 1) = max (l.deep : Int) (r.deep : Int) + 1 := IntWalk.i64_in _ (by omega)
  clear hd hd'
  go_enter Try.func103, Try.ntmps103
  go_wp2_with fail
  generalize w.alloc (Obj.cells #[Value.string p.fst, Value.string p.snd] 87) = W at *
  have Hl : Hid (Knot W.drew w.heap.size l x) := hl.later (below_drew HB.out)
  have Hr : Hid (Knot W.drew w.heap.size r y) := hr.later (below_drew HB.out)
  have H0l := Lib.hid hl
  have H0r := Lib.hid hr
  clear hl hr
  go_region_held3 (fun V => V.cell? ⟨w.heap.size, 0, none⟩ = some (.string p.1) ∧ V.cell? ⟨w.heap.size, 1, none⟩ = some (.string p.2)) (go_keep)
    (first | (go_at_call 91; first | (with_reducible refine (len_any Hl.out).mono ?_; rintro e w' ⟨rfl, rfl⟩) | (with_reducible refine (len_any Hr.out).mono ?_; rintro e w' ⟨rfl, rfl⟩)) | (go_at_call 115; first | (with_reducible refine (deep_any Hl.out).mono ?_; rintro e w' ⟨rfl, rfl⟩) | (with_reducible refine (deep_any Hr.out).mono ?_; rintro e w' ⟨rfl, rfl⟩)))
  have hB2 : Below w.heap.size w (W.alloc (Obj.cells #[Value.string p.fst, Value.string p.snd, Value.pointer x, Value.pointer y, Value.int IntKind.i64 ((l.size : Int) + 1 + r.size), Value.int IntKind.i64 (max (l.deep : Int) r.deep + 1)] 119)).drew :=
    below_drew (HB.out.trans ((below_alloc W _).mono HB.out.size))
  have HE : Hid (Makes w (· = .node l p r) (.returned (.pointer (some ⟨W.heap.size, 0, none⟩))) (W.alloc (Obj.cells #[Value.string p.fst, Value.string p.snd, Value.pointer x, Value.pointer y, Value.int IntKind.i64 ((l.size : Int) + 1 + r.size), Value.int IntKind.i64 (max (l.deep : Int) r.deep + 1)] 119)).drew) := by
    have hbw : Below W.heap.size W (W.alloc (Obj.cells #[Value.string p.fst, Value.string p.snd, Value.pointer x, Value.pointer y, Value.int IntKind.i64 ((l.size : Int) + 1 + r.size), Value.int IntKind.i64 (max (l.deep : Int) r.deep + 1)] 119)).drew := below_drew (below_alloc W _)
    have hsz : w.heap.size ≤ W.heap.size := HB.out.size
    have hc : ∀ (i : Nat) (v : Value), #[Value.string p.fst, Value.string p.snd, Value.pointer x, Value.pointer y, Value.int IntKind.i64 ((l.size : Int) + 1 + r.size), Value.int IntKind.i64 (max (l.deep : Int) r.deep + 1)][i]? = some v → (W.alloc (Obj.cells #[Value.string p.fst, Value.string p.snd, Value.pointer x, Value.pointer y, Value.int IntKind.i64 ((l.size : Int) + 1 + r.size), Value.int IntKind.i64 (max (l.deep : Int) r.deep + 1)] 119)).drew.cell? ⟨W.heap.size, i, none⟩ = some v := fun i v h => by
      show (W.alloc _).cell? _ = _
      rw [World.cell?_alloc_at _ _ _ _ rfl]; exact h
    have hs' : (W.alloc (Obj.cells #[Value.string p.fst, Value.string p.snd, Value.pointer x, Value.pointer y, Value.int IntKind.i64 ((l.size : Int) + 1 + r.size), Value.int IntKind.i64 (max (l.deep : Int) r.deep + 1)] 119)).drew.heap.size = W.heap.size + 1 := by show (W.alloc _).heap.size = _; simp
    refine ⟨_, _, rfl, rfl, ⟨W.heap.size, x, y, rfl, ⟨by rw [hs']; omega, _, Go.heap_alloc_new W _⟩, hc 0 _ rfl, hc 1 _ rfl, hc 2 _ rfl, hc 3 _ rfl, (hc 4 _ rfl).trans ?_, (hc 5 _ rfl).trans ?_, ?_, ?_⟩, hB2⟩
    · simp [T.size]
    · exact congrArg (fun z => some (Value.int .i64 z)) (show max (l.deep : Int) (r.deep : Int) + 1 = ((max l.deep r.deep + 1 : Nat) : Int) by omega)
    · exact (((H0l.out.later HB.out).mono hsz).later hbw).mono (by rw [hs']; omega)
    · exact (((H0r.out.later HB.out).mono hsz).later hbw).mono (by rw [hs']; omega)
  clear hB2 hc0 hc1 Hl Hr H0l H0r e1 e2 e3 hs HB
  go_wp2_with fail
  go_ret
  exact HE.out
end Go.Proofs.Ytdfjnpnkfjcpcaa
