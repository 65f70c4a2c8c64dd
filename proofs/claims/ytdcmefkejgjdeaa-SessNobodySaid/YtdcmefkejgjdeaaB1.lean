/-
  Tables of sessions: what they are, plainly; a table in memory; where a session stands.
-/
import Derived.Test.YtdcmefkejgjdeaaProg
import Derived.WalkKit
import Derived.WalkSpells
import Derived.WalkLawsBesides
import Derived.Laws.AppendOwnNone
import Derived.Deep.DeepFit
import Derived.Lib.Hide
import Derived.ArgAppend
import Derived.IntWalk
import Derived.Deep.RegionLaw
import Derived.Deep.AppendLies
import Derived.Deep.RegionHeld3
import Derived.Deep.RegionWith
import Derived.Deep.MidRow
import Derived.Laws.Small
import Derived.Laws.ResultCell
namespace Go.Proofs.Ytdcmefkejgjdeaa
set_option linter.unusedVariables false
set_option linter.unusedSimpArgs false
open Go.RowKit

/-- A session: its number, what it counted last, the reply to that. -/
structure Se where
  id : Int
  seq : Int
  err : Int
  n : Int
/-- A table. -/
structure Tb where
  begun : Int
  seats : List Se
def Se.cs (s : Se) : List Value := [.int .i64 s.id, .int .i64 s.seq, .int .i64 s.err, .int .i64 s.n]
def scs (l : List Se) : List Value := l.flatMap Se.cs
theorem scs_app (a b : List Se) : scs (a ++ b) = scs a ++ scs b := List.flatMap_append
theorem scs_len : ∀ l : List Se, (scs l).length = l.length * 4
  | [] => rfl
  | s :: l => by
    have ih := scs_len l
    have e : scs (s :: l) = s.cs ++ scs l := rfl
    rw [e, List.length_append, ih, List.length_cons]
    simp only [Se.cs, List.length_cons, List.length_nil]
    omega
theorem scs_one (l : List Se) : ∀ u ∈ scs l, u.oneCell' = true := by
  intro u hu
  obtain ⟨s, _, hs⟩ := List.mem_flatMap.1 hu
  simp [Se.cs] at hs
  rcases hs with rfl | rfl | rfl | rfl <;> rfl
theorem scs_at : ∀ (l : List Se) (i : Nat) (s : Se), l[i]? = some s → (scs l)[i * 4]? = some (.int .i64 s.id) ∧ (scs l)[i * 4 + 1]? = some (.int .i64 s.seq) ∧ (scs l)[i * 4 + 2]? = some (.int .i64 s.err) ∧ (scs l)[i * 4 + 3]? = some (.int .i64 s.n)
  | [], i, s, h => by simp at h
  | q :: l, 0, s, h => by simp at h; subst h; exact ⟨rfl, rfl, rfl, rfl⟩
  | q :: l, i + 1, s, h => by
    have ih := scs_at l i s (by simpa using h)
    have e : ∀ j, (scs (q :: l))[j + 4]? = (scs l)[j]? := fun j => rfl
    refine ⟨?_, ?_, ?_, ?_⟩
    · rw [show (i + 1) * 4 = i * 4 + 4 from by omega, e]; exact ih.1
    · rw [show (i + 1) * 4 + 1 = i * 4 + 1 + 4 from by omega, e]; exact ih.2.1
    · rw [show (i + 1) * 4 + 2 = i * 4 + 2 + 4 from by omega, e]; exact ih.2.2.1
    · rw [show (i + 1) * 4 + 3 = i * 4 + 3 + 4 from by omega, e]; exact ih.2.2.2

/-- Where a session stands. -/
def plc : List Se → Int → Option Nat
  | [], _ => none
  | s :: l, k => if s.id = k then some 0 else (plc l k).map (· + 1)
def plcI (l : List Se) (k : Int) : Int := match plc l k with | some i => i | none => -1
theorem plc_some : ∀ {l : List Se} {k : Int} {i : Nat}, plc l k = some i → ∃ s, l[i]? = some s ∧ s.id = k
  | [], k, i, h => by simp [plc] at h
  | s :: l, k, i, h => by
    unfold plc at h
    split at h
    · rename_i e; cases h; exact ⟨s, rfl, e⟩
    · cases hp : plc l k with
      | none => rw [hp] at h; simp at h
      | some j =>
        rw [hp] at h
        simp at h; subst h
        obtain ⟨s', h1, h2⟩ := plc_some hp
        exact ⟨s', by simpa using h1, h2⟩
theorem plc_lt {l : List Se} {k : Int} {i : Nat} (h : plc l k = some i) : i < l.length := by
  obtain ⟨s, h1, _⟩ := plc_some h
  exact (List.getElem?_eq_some_iff.1 h1).1
theorem plc_none : ∀ {l : List Se} {k : Int}, plc l k = none → ∀ s ∈ l, s.id ≠ k
  | [], k, _, s, hs => by simp at hs
  | x :: l, k, h, s, hs => by
    unfold plc at h
    split at h
    · cases h
    · rename_i e
      rcases List.mem_cons.1 hs with rfl | hs
      · exact e
      · exact plc_none (by cases hp : plc l k with | none => rfl | some j => rw [hp] at h; simp at h) s hs
theorem plc_hit : ∀ (l : List Se) (k : Int) (i : Nat) (s : Se), l[i]? = some s → s.id = k → (∀ (j : Nat) (y : Se), j < i → l[j]? = some y → y.id ≠ k) → plc l k = some i
  | [], k, i, s, h, _, _ => by simp at h
  | x :: l, k, 0, s, h, e, _ => by simp at h; subst h; simp [plc, e]
  | x :: l, k, i + 1, s, h, e, hn => by
    have h0 := hn 0 x (by omega) rfl
    unfold plc
    rw [if_neg h0, plc_hit l k i s (by simpa using h) e (fun j y hj hy => hn (j + 1) y (by omega) (by simpa using hy))]; rfl
theorem plc_miss : ∀ (l : List Se) (k : Int), (∀ (j : Nat) (y : Se), l[j]? = some y → y.id ≠ k) → plc l k = none
  | [], k, _ => rfl
  | x :: l, k, h => by
    unfold plc
    rw [if_neg (h 0 x rfl), plc_miss l k (fun j y hy => h (j + 1) y (by simpa using hy))]; rfl

theorem cell_later {w w' : World} (hb : Below w.heap.size w w') {p : Addr} {v : Value} (h : w.cell? p = some v) : w'.cell? p = some v := (hb.cell (World.block_lt_of_cell? w _ h)).trans h
theorem below_alloc (w : World) (o : Obj) : Below w.heap.size w (w.alloc o) := (Below.refl _ _).alloc (Nat.le_refl _) _

/-- A block's cells. -/
structure DC (w : World) (b : Nat) (cs : List Value) : Prop where
  cells : ∀ i v, cs[i]? = some v → w.cell? ⟨b, i, none⟩ = some v
  fz : ∀ i, w.frozen? ⟨b, i, none⟩ = false
  lt : b < w.heap.size
theorem DC.alloc (w : World) (cs : List Value) (t : TypeId) : DC (w.alloc (.cells cs.toArray t)) w.heap.size cs :=
  ⟨fun i v h => by rw [World.cell?_alloc_at _ _ _ _ rfl]; simpa using h, fun i => World.frozen?_alloc_at _ _ _ _ rfl, by simp⟩
theorem DC.keep {w w' : World} {b : Nat} {cs : List Value} (h : DC w b cs) (hs : w.heap.size ≤ w'.heap.size) (hk : w'.heap[b]? = w.heap[b]?) : DC w' b cs :=
  ⟨fun i v hv => (World.cell?_of_block (a := ⟨b, i, none⟩) hk).trans (h.cells i v hv), fun i => (World.frozen?_of_block (a := ⟨b, i, none⟩) hk).trans (h.fz i), Nat.lt_of_lt_of_le h.lt hs⟩
theorem DC.below {w w' : World} {b : Nat} {cs : List Value} (h : DC w b cs) (hb : Below w.heap.size w w') : DC w' b cs := h.keep hb.size (hb.block b h.lt)
theorem DC.set {w : World} {b : Nat} {cs : List Value} (h : DC w b cs) (i : Nat) (x : Value) (hi : i < cs.length) : DC (w.setCell ⟨b, i, none⟩ x) b (cs.set i x) := by
  refine ⟨fun j v hv => ?_, fun j => (World.frozen?_setCell _ _ _ _).trans (h.fz j), by simpa [World.setCell] using h.lt⟩
  by_cases e : i = j
  · subst e
    rw [List.getElem?_set_self hi] at hv
    obtain rfl := Option.some.inj hv
    exact World.cell?_setCell_same _ _ _ (h.cells i _ (List.getElem?_eq_getElem hi))
  · rw [List.getElem?_set_ne e] at hv
    exact (World.cell?_setCell_other _ _ _ _ (by simp [Ne.symm e])).trans (h.cells j v hv)
theorem DC.other {w : World} {b k o : Nat} {x : Value} {cs : List Value} (h : DC w b cs) (hk : b ≠ k) : DC (w.setCell ⟨k, o, none⟩ x) b cs :=
  h.keep (by simp [World.setCell]) (Below.heap_setCell _ _ _ _ hk)

/-- Sessions from a place on. -/
def SeAt (w : World) (g off : Nat) (l : List Se) : Prop := ∀ j s, l[j]? = some s → w.cell? ⟨g, off + j * 4, none⟩ = some (.int .i64 s.id) ∧ w.cell? ⟨g, off + j * 4 + 1, none⟩ = some (.int .i64 s.seq) ∧ w.cell? ⟨g, off + j * 4 + 2, none⟩ = some (.int .i64 s.err) ∧ w.cell? ⟨g, off + j * 4 + 3, none⟩ = some (.int .i64 s.n)
theorem SeAt.later {w w' : World} {g off : Nat} {l : List Se} (h : SeAt w g off l) (hb : Below w.heap.size w w') : SeAt w' g off l := fun j s hs => by
  obtain ⟨h0, h1, h2, h3⟩ := h j s hs
  exact ⟨cell_later hb h0, cell_later hb h1, cell_later hb h2, cell_later hb h3⟩
theorem SeAt.keep {w w' : World} {g off : Nat} {l : List Se} (h : SeAt w g off l) (hk : w'.heap[g]? = w.heap[g]?) : SeAt w' g off l := fun j s hs => by
  obtain ⟨h0, h1, h2, h3⟩ := h j s hs
  exact ⟨(World.cell?_of_block (w := w) (w' := w') (a := ⟨g, _, none⟩) hk).trans h0, (World.cell?_of_block (w := w) (w' := w') (a := ⟨g, _, none⟩) hk).trans h1, (World.cell?_of_block (w := w) (w' := w') (a := ⟨g, _, none⟩) hk).trans h2, (World.cell?_of_block (w := w) (w' := w') (a := ⟨g, _, none⟩) hk).trans h3⟩
/-- A list of sessions that nobody writes over: it lies in none of some blocks. -/
def SeB (w : World) (L : List Nat) (v : Value) (l : List Se) : Prop :=
  ∃ a c, v = .slice a l.length c ∧ l.length ≤ c ∧ c ≤ 9223372036854775807 ∧ (l = [] ∨ ∃ g off, a = some ⟨g, off, none⟩ ∧ g ∉ L ∧ g < w.heap.size ∧ SeAt w g off l)
theorem SeB.nil (w : World) (L : List Nat) : SeB w L (.slice none 0 0) [] := ⟨none, 0, rfl, Nat.le_refl _, by decide, .inl rfl⟩
theorem SeB.keep {w w' : World} {L L' : List Nat} {v : Value} {l : List Se} (h : SeB w L v l) (hs : w.heap.size ≤ w'.heap.size) (hk : ∀ k, k < w.heap.size → k ∉ L → w'.heap[k]? = w.heap[k]?) (hl : ∀ k ∈ L', k ∈ L ∨ w.heap.size ≤ k) : SeB w' L' v l := by
  obtain ⟨a, c, hv, h1, h2, h⟩ := h
  refine ⟨a, c, hv, h1, h2, h.imp id ?_⟩
  rintro ⟨g, off, ha, hp, hlt, hr⟩
  refine ⟨g, off, ha, fun hm => ?_, Nat.lt_of_lt_of_le hlt hs, hr.keep (hk _ hlt hp)⟩
  rcases hl _ hm with h | h
  · exact hp h
  · omega
theorem SeB.below {w w' : World} {L : List Nat} {v : Value} {l : List Se} (h : SeB w L v l) (hb : Below w.heap.size w w') : SeB w' L v l :=
  h.keep hb.size (fun k hk _ => hb.block k hk) (fun k hk => .inl hk)
theorem SeB.sub {w : World} {L L' : List Nat} {v : Value} {l : List Se} (h : SeB w L v l) (hl : ∀ k ∈ L', k ∈ L) : SeB w L' v l :=
  h.keep (Nat.le_refl _) (fun _ _ _ => rfl) (fun k hk => .inl (hl k hk))
theorem SeB.slice {w : World} {L : List Nat} {v : Value} {l : List Se} (h : SeB w L v l) : ∃ a c, v = .slice a l.length c ∧ l.length ≤ c ∧ c ≤ 9223372036854775807 := by
  obtain ⟨a, c, hv, h1, h2, _⟩ := h
  exact ⟨a, c, hv, h1, h2⟩
theorem row_at {w : World} {B g c : Nat} {l : List Se} (h : w.ownsRow B 44 4 (.slice (some ⟨g, 0, none⟩) l.length c) l.length (scs l)) : SeAt w g 0 l := fun j s hs => by
  obtain ⟨e0, e1, e2, e3⟩ := scs_at l j s hs
  have h0 := h.cells (g := g) rfl _ _ e0
  have h1 := h.cells (g := g) rfl _ _ e1
  have h2 := h.cells (g := g) rfl _ _ e2
  have h3 := h.cells (g := g) rfl _ _ e3
  rw [Addr.add_lit] at h0 h1 h2 h3
  simp only [Nat.zero_add] at h0 h1 h2 h3 ⊢
  exact ⟨h0, h1, h2, h3⟩

/-- A table's memory: its block, and the row of its sessions, if there is one. -/
structure Tv (w : World) (B b : Nat) (L : List Nat) (t : Tb) (v : Value) : Prop where
  cells : DC w b [.int .i64 t.begun, v, .bool true]
  own : w.ownsRow 0 44 4 v t.seats.length (scs t.seats)
  at_ : (L = [b] ∧ v = .slice none 0 0 ∧ t.seats = []) ∨ ∃ g c, L = [b, g] ∧ g ≠ b ∧ v = .slice (some ⟨g, 0, none⟩) t.seats.length c ∧ t.seats.length ≤ c ∧ c ≤ 9223372036854775807
  low : ∀ k ∈ L, B ≤ k
def Tk (w : World) (B b : Nat) (L : List Nat) (t : Tb) : Prop := ∃ v, Tv w B b L t v
theorem Tv.seb {w : World} {B b : Nat} {L : List Nat} {t : Tb} {v : Value} (h : Tv w B b L t v) : SeB w [b] v t.seats := by
  rcases h.at_ with ⟨_, rfl, e⟩ | ⟨g, c, _, hg, rfl, h1, h2⟩
  · rw [e]; exact SeB.nil _ _
  · exact ⟨_, c, rfl, h1, h2, .inr ⟨g, 0, rfl, by simpa using hg, (h.own.lt g rfl).2, row_at h.own⟩⟩
theorem Tv.below {w w' : World} {B b : Nat} {L : List Nat} {t : Tb} {v : Value} (h : Tv w B b L t v) (hb : Below w.heap.size w w') : Tv w' B b L t v :=
  ⟨h.cells.below hb, h.own.kept (row := none) ⟨hb.os, hb.tape, hb.output, hb.size, fun k hk _ => hb.block k hk⟩ (by cases v.ownBlock <;> simp), h.at_, h.low⟩
theorem Tk.below {w w' : World} {B b : Nat} {L : List Nat} {t : Tb} (h : Tk w B b L t) (hb : Below w.heap.size w w') : Tk w' B b L t := by
  obtain ⟨v, h⟩ := h
  exact ⟨v, h.below hb⟩
theorem Tv.bL {w : World} {B b : Nat} {L : List Nat} {t : Tb} {v : Value} (h : Tv w B b L t v) : b ∈ L := by
  rcases h.at_ with ⟨rfl, _⟩ | ⟨g, c, rfl, _⟩ <;> simp
theorem Tk.low {w : World} {B b : Nat} {L : List Nat} {t : Tb} (h : Tk w B b L t) : ∀ k ∈ L, B ≤ k := by obtain ⟨v, h⟩ := h; exact h.low
theorem Tv.llt {w : World} {B b : Nat} {L : List Nat} {t : Tb} {v : Value} (h : Tv w B b L t v) : ∀ k ∈ L, k < w.heap.size := by
  rcases h.at_ with ⟨rfl, _⟩ | ⟨g, c, rfl, _, hv, _⟩
  · intro k hk; obtain rfl : k = b := by simpa using hk
    exact h.cells.lt
  · intro k hk
    have ho := h.own
    rw [hv] at ho
    rcases List.mem_cons.1 hk with rfl | hk
    · exact h.cells.lt
    · obtain rfl : k = g := by simpa using hk
      exact (ho.lt k rfl).2
theorem Tk.llt {w : World} {B b : Nat} {L : List Nat} {t : Tb} (h : Tk w B b L t) : ∀ k ∈ L, k < w.heap.size := by obtain ⟨v, h⟩ := h; exact h.llt
/-- The world behind a call of a table. -/
structure Ext (w : World) (L : List Nat) (w' : World) (L' : List Nat) : Prop where
  os : w'.os = w.os
  tape : w'.tape = w.tape
  output : w'.output = w.output
  size : w.heap.size ≤ w'.heap.size
  block : ∀ k, k < w.heap.size → k ∉ L → w'.heap[k]? = w.heap[k]?
  new : ∀ k ∈ L', k ∈ L ∨ w.heap.size ≤ k
theorem Ext.refl (w : World) (L : List Nat) : Ext w L w L := ⟨rfl, rfl, rfl, Nat.le_refl _, fun _ _ _ => rfl, fun k hk => .inl hk⟩
theorem Ext.trans {w w1 w2 : World} {L L1 L2 : List Nat} (h1 : Ext w L w1 L1) (h2 : Ext w1 L1 w2 L2) : Ext w L w2 L2 :=
  ⟨h2.os.trans h1.os, h2.tape.trans h1.tape, h2.output.trans h1.output, Nat.le_trans h1.size h2.size,
   fun k hk hn => (h2.block k (Nat.lt_of_lt_of_le hk h1.size) (fun hm => (h1.new k hm).elim hn (fun h => by omega))).trans (h1.block k hk hn),
   fun k hk => (h2.new k hk).elim (h1.new k) (fun h => .inr (Nat.le_trans h1.size h))⟩
theorem Ext.of_below {w w' : World} {L : List Nat} (h : Below w.heap.size w w') : Ext w L w' L := ⟨h.os, h.tape, h.output, h.size, fun k hk _ => h.block k hk, fun k hk => .inl hk⟩
theorem Ext.below {w w' : World} {L L' : List Nat} {B : Nat} (h : Ext w L w' L') (hB : B ≤ w.heap.size) (hl : ∀ k ∈ L, B ≤ k) : Below B w w' :=
  ⟨h.os, h.tape, h.output, h.size, fun k hk => h.block k (Nat.lt_of_lt_of_le hk hB) (fun hm => by have := hl k hm; omega)⟩
theorem SeB.ext {w w' : World} {L L' : List Nat} {v : Value} {l : List Se} (h : SeB w L v l) (e : Ext w L w' L') : SeB w' L' v l := h.keep e.size e.block e.new
/-- What a call of a table leaves. -/
def Did (w : World) (B b : Nat) (L : List Nat) (t' : Tb) (v : Value) (e : Ending) (w' : World) : Prop := ∃ L', e = .returned v ∧ Tk w' B b L' t' ∧ Ext w L w' L'

set_option maxHeartbeats 400000 in
theorem ready_any {w : World} {b : Nat} (h : w.cell? ⟨b, 2, none⟩ = some (.bool true)) : Calls Try.prog 37 #[.pointer (some ⟨b, 0, none⟩)] w fun e w' => e = .returned (.bool true) ∧ w = w' := by
  go_enter Try.func37, Try.ntmps37
  go_wp2_with fail
  go_ret
  exact ⟨rfl, rfl⟩
set_option maxHeartbeats 400000 in
theorem here_any {w : World} {p : Addr} {k : Int} (s : Se) (hp : w.cell? p = some (.int .i64 k)) : Calls Try.prog 49 #[.agg #[.int .i64 s.id, .int .i64 s.seq, .int .i64 s.err, .int .i64 s.n], .pointer (some p)] w fun e w' => e = .returned (.bool (decide (s.id = k))) ∧ Below w.heap.size w w' := by
  have HB := Lib.hid (below_alloc w (.cells #[.int .i64 s.id, .int .i64 s.seq, .int .i64 s.err, .int .i64 s.n] 44))
  have hp2 := cell_later HB.out hp
  have HC := DC.alloc w [.int .i64 s.id, .int .i64 s.seq, .int .i64 s.err, .int .i64 s.n] 44
  have c0 := HC.cells 0 _ rfl
  clear hp HC
  go_enter Try.func49, Try.ntmps49
  go_wp2_with fail
  go_ret
  refine ⟨?_, HB.out⟩
  rfl
theorem plcI_hit {l : List Se} {k : Int} {i : Nat} {s : Se} (h : l[i]? = some s) (e : s.id = k) (hn : ∀ j y, j < i → l[j]? = some y → y.id ≠ k) : plcI l k = i := by
  unfold plcI; rw [plc_hit l k i s h e hn]
theorem plcI_miss {l : List Se} {k : Int} (h : ∀ j y, j < l.length → l[j]? = some y → y.id ≠ k) : plcI l k = -1 := by
  unfold plcI; rw [plc_miss l k (fun j y hy => h j y (List.getElem?_eq_some_iff.1 hy).1 hy)]

set_option maxRecDepth 100000 in
set_option maxHeartbeats 1600000 in
theorem index_any {w : World} {L : List Nat} {v : Value} {l : List Se} {p : Addr} {k : Int} (h : SeB w L v l) (hp : w.cell? p = some (.int .i64 k)) :
    Calls Try.prog 48 #[v, .func (.func 49) #[] #[.pointer (some p)]] w fun e w' => e = .returned (.int .i64 (plcI l k)) ∧ Below w.heap.size w w' := by
  obtain ⟨a, c, rfl, h1, h2, h⟩ := h
  have HD := Lib.hid h
  have HP := Lib.hid hp
  clear h hp
  go_enter Try.func48, Try.ntmps48
  go_wp2_with fail
  go_loopw [5, 8] (fun _ v wr => ∃ i : Nat, v = .int .i64 i ∧ i ≤ l.length ∧ Hid (Below w.heap.size w wr) ∧ Hid (∀ j y, j < i → l[j]? = some y → y.id ≠ k))
    (fun _ v _ => l.length - (intOf v).toNat)
  case atStart => exact ⟨0, rfl, Nat.zero_le _, Below.refl _ _, fun j y hj => by omega⟩
  case round =>
    obtain ⟨i, rfl, hin, HB, HN⟩ := hrel
    by_cases hlt : i < l.length
    · have ei : IntKind.i64.wrap ((i : Int) + 1) = (i : Int) + 1 := IntWalk.i64_in _ (by omega)
      obtain ⟨s, hs⟩ : ∃ s, l[i]? = some s := ⟨l[i], List.getElem?_eq_getElem hlt⟩
      obtain ⟨g, off, rfl, _, _, hat⟩ := HD.out.resolve_left (fun e => by rw [e] at hs; simp at hs)
      obtain ⟨k0, k1, k2, k3⟩ := hat i s hs
      have k0 := cell_later HB.out k0
      have k1 := cell_later HB.out k1
      have k2 := cell_later HB.out k2
      have k3 := cell_later HB.out k3
      have hI1 : (i : Int) < ((l.length : Nat) : Int) := by omega
      have hI2 : (0 : Int) ≤ (i : Int) := by omega
      have HC := Lib.hid (here_any s (cell_later HB.out HP.out))
      have HS := Lib.hid hs
      clear hat hs
      go_wp2_with fail
      go_fit HC.out
      rintro e w2 ⟨rfl, hb⟩
      have HB2 := Lib.hid (HB.out.trans (hb.mono HB.out.size))
      clear hb k0 k1 k2 k3 HC
      by_cases e : s.id = k
      · rw [decide_eq_true e]
        go_wp2_with fail
        go_ret
        exact ⟨by rw [plcI_hit HS.out e HN.out]; rfl, HB2.out⟩
      · rw [decide_eq_false e]
        go_wp2_with fail
        refine ⟨⟨i + 1, by simp, hlt, HB2, fun j y hj hy => ?_⟩, by show l.length - ((i : Int) + 1).toNat < l.length - ((i : Int)).toNat; omega⟩
        by_cases hji : j = i
        · subst hji
          rw [HS.out] at hy
          cases hy
          exact e
        · exact HN.out j y (by omega) hy
    · obtain rfl : i = l.length := by omega
      go_wp2_with fail
      go_ret
      exact ⟨by rw [plcI_miss HN.out]; rfl, HB.out⟩
end Go.Proofs.Ytdcmefkejgjdeaa
