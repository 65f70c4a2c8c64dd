/-
  A disk in memory; where the power goes.
-/
import Derived.Test.YtlfknldgfeicmaaG2
import Derived.Lib.MinMax
import Derived.Deep.MidRow
namespace Go.Proofs.Ytlfknldgfeicmaa
set_option linter.unusedVariables false
set_option linter.unusedSimpArgs false
open Go.RowKit

abbrev Pa := Ac × Value
/-- The cells of acts. -/
def wcs (ps : List Pa) : List Value := ps.flatMap fun p => [.int .i64 p.1.kind, .int .i64 p.1.slot, p.2]
theorem wcs_app (a b : List Pa) : wcs (a ++ b) = wcs a ++ wcs b := List.flatMap_append
theorem wcs_at : ∀ (ps : List Pa) (i : Nat) (p : Pa), ps[i]? = some p → (wcs ps)[i * 3]? = some (.int .i64 p.1.kind) ∧ (wcs ps)[i * 3 + 1]? = some (.int .i64 p.1.slot) ∧ (wcs ps)[i * 3 + 2]? = some p.2
  | [], i, p, h => by simp at h
  | q :: ps, 0, p, h => by simp at h; subst h; exact ⟨rfl, rfl, rfl⟩
  | q :: ps, i + 1, p, h => by
    have ih := wcs_at ps i p (by simpa using h)
    have e : ∀ j, (wcs (q :: ps))[j + 3]? = (wcs ps)[j]? := fun j => rfl
    refine ⟨?_, ?_, ?_⟩
    · rw [show (i + 1) * 3 = i * 3 + 3 from by omega, e]; exact ih.1
    · rw [show (i + 1) * 3 + 1 = i * 3 + 1 + 3 from by omega, e]; exact ih.2.1
    · rw [show (i + 1) * 3 + 2 = i * 3 + 2 + 3 from by omega, e]; exact ih.2.2
/-- Acts that wait, in a row of their own. -/
structure Wt (w : World) (L : List Nat) (wt : Value) (ps : List Pa) (Lw : List Nat) : Prop where
  own : w.ownsRow 0 89 3 wt ps.length (wcs ps)
  at_ : (Lw = [] ∧ wt = .slice none 0 0 ∧ ps = []) ∨ ∃ g c, Lw = [g] ∧ wt = .slice (some ⟨g, 0, none⟩) ps.length c
  byt : ∀ p ∈ ps, Byt w L p.2 p.1.b
  ok : ∀ p ∈ ps, p.1.Ok
theorem Wt.slice {w : World} {L Lw : List Nat} {wt : Value} {ps : List Pa} (h : Wt w L wt ps Lw) : ∃ a c, wt = .slice a ps.length c ∧ ps.length ≤ c ∧ c ≤ 9223372036854775807 := by
  rcases h.own.2 with ⟨h0, h1⟩ | ⟨g', cap, cur, hv, _, _, hn, hm, _⟩
  · exact ⟨none, 0, by rw [h0, h1], by omega, by decide⟩
  · exact ⟨_, cap, hv, hn, by unfold maxLen at hm; exact hm⟩
theorem Wt.cells {w : World} {L Lw : List Nat} {wt : Value} {ps : List Pa} (h : Wt w L wt ps Lw) {i : Nat} {p : Pa} (hp : ps[i]? = some p) : ∃ g c, wt = .slice (some ⟨g, 0, none⟩) ps.length c ∧ w.cell? ⟨g, i * 3, none⟩ = some (.int .i64 p.1.kind) ∧ w.cell? ⟨g, i * 3 + 1, none⟩ = some (.int .i64 p.1.slot) ∧ w.cell? ⟨g, i * 3 + 2, none⟩ = some p.2 := by
  rcases h.at_ with ⟨_, _, h0⟩ | ⟨g, c, _, hv⟩
  · rw [h0] at hp; simp at hp
  · subst hv
    obtain ⟨e0, e1, e2⟩ := wcs_at ps i p hp
    refine ⟨g, c, rfl, ?_⟩
    have h0 := h.own.cells (g := g) rfl _ _ e0
    have h1 := h.own.cells (g := g) rfl _ _ e1
    have h2 := h.own.cells (g := g) rfl _ _ e2
    rw [Addr.add_lit, Nat.zero_add] at h0 h1 h2
    exact ⟨h0, h1, h2⟩
/-- The tape that lasts: read alone; it may be the beginning of what is told. -/
def Lp (w : World) (L : List Nat) (l2 : Value) (ys : List Int) (t2 : Value) (xs : List Int) (Lt : List Nat) : Prop :=
  (∃ a, l2 = .slice a ys.length ys.length) ∧ (Byt w L l2 ys ∨ ∃ g c, Lt = [g] ∧ t2 = .slice (some ⟨g, 0, none⟩) xs.length c ∧ l2 = .slice (some ⟨g, 0, none⟩) ys.length ys.length ∧ ys = xs.take ys.length)
/-- A disk's memory. -/
structure Dv (w : World) (B b : Nat) (L : List Nat) (d : Ds) (t0 t1 t2 l0 l1 l2 wt : Value) (ps : List Pa) (Lt Lw : List Nat) : Prop where
  cells : DC w b [.int .i64 d.room, .bool d.on, t0, t1, t2, l0, l1, l2, wt, .int .i64 d.left, .int .i64 d.keep, .int .i64 d.tear]
  hL : L = (b :: Lw) ++ Lt
  a0 : Byt w L t0 d.told.s0
  a1 : Byt w L t1 d.told.s1
  ta : Tp w (b :: Lw) t2 d.told.tp Lt
  e0 : Byt w L l0 d.lasts.s0
  e1 : Byt w L l1 d.lasts.s1
  ea : Lp w L l2 d.lasts.tp t2 d.told.tp Lt
  wa : Wt w L wt ps Lw
  ws : d.waits = ps.map (·.1)
  nb : b ∉ Lw
  low : ∀ k ∈ L, B ≤ k
  room : 0 < d.room ∧ d.room ≤ 16777216
  tw : d.told = acts d.waits d.lasts
  pre : ∀ k, ((acts (d.waits.take k) d.lasts).size : Int) ≤ d.room
theorem Dv.told {w : World} {B b : Nat} {L : List Nat} {d : Ds} {t0 t1 t2 l0 l1 l2 wt : Value} {ps : List Pa} {Lt Lw : List Nat} (h : Dv w B b L d t0 t1 t2 l0 l1 l2 wt ps Lt Lw) : (d.told.size : Int) ≤ d.room := by
  have := h.pre d.waits.length
  rw [List.take_length, ← h.tw] at this; exact this
theorem Dv.lasts {w : World} {B b : Nat} {L : List Nat} {d : Ds} {t0 t1 t2 l0 l1 l2 wt : Value} {ps : List Pa} {Lt Lw : List Nat} (h : Dv w B b L d t0 t1 t2 l0 l1 l2 wt ps Lt Lw) : (d.lasts.size : Int) ≤ d.room := h.pre 0
def Dk (w : World) (B b : Nat) (L : List Nat) (d : Ds) : Prop := ∃ t0 t1 t2 l0 l1 l2 wt ps Lt Lw, Dv w B b L d t0 t1 t2 l0 l1 l2 wt ps Lt Lw
/-- The world behind a call of a disk. -/
structure Ext (w : World) (L : List Nat) (w' : World) (L' : List Nat) : Prop where
  os : w'.os = w.os
  tape : w'.tape = w.tape
  output : w'.output = w.output
  size : w.heap.size ≤ w'.heap.size
  block : ∀ k, k < w.heap.size → k ∉ L → w'.heap[k]? = w.heap[k]?
  new : ∀ k ∈ L', k ∈ L ∨ w.heap.size ≤ k
theorem Ext.refl (w : World) (L : List Nat) : Ext w L w L := ⟨rfl, rfl, rfl, Nat.le_refl _, fun _ _ _ => rfl, fun k hk => .inl hk⟩
theorem Ext.trans {w w1 w2 : World} {L L1 L2 : List Nat} (h1 : Ext w L w1 L1) (h2 : Ext w1 L1 w2 L2) : Ext w L w2 L2 :=
  ⟨h2.os.trans h1.os, h2.tape.trans h1.tape, h2.output.trans h1.output, Nat.le_trans h1.size h2.size,
   fun k hk hn => (h2.block k (Nat.lt_of_lt_of_le hk h1.size) (fun hm => (h1.new k hm).elim hn (fun h => by omega))).trans (h1.block k hk hn),
   fun k hk => (h2.new k hk).elim (h1.new k) (fun h => .inr (Nat.le_trans h1.size h))⟩
theorem Ext.of_below {w w' : World} {L : List Nat} (h : Below w.heap.size w w') : Ext w L w' L := ⟨h.os, h.tape, h.output, h.size, fun k hk _ => h.block k hk, fun k hk => .inl hk⟩
theorem Ext.below {w w' : World} {L L' : List Nat} {B : Nat} (h : Ext w L w' L') (hB : B ≤ w.heap.size) (hl : ∀ k ∈ L, B ≤ k) : Below B w w' :=
  ⟨h.os, h.tape, h.output, h.size, fun k hk => h.block k (Nat.lt_of_lt_of_le hk hB) (fun hm => by have := hl k hm; omega)⟩
theorem Byt.ext {w w' : World} {L L' : List Nat} {v : Value} {xs : List Int} (h : Byt w L v xs) (e : Ext w L w' L') : Byt w' L' v xs := h.keep e.size e.block e.new
theorem Tail.below {w w' : World} {Lt : List Nat} {n B : Nat} (h : Tail w w' Lt n) (hB : B ≤ w.heap.size) (hl : ∀ k ∈ Lt, B ≤ k) : Below B w w' :=
  ⟨h.os, h.tape, h.output, h.size, fun k hk => h.block k (Nat.lt_of_lt_of_le hk hB) (fun hm => by have := hl k hm; omega)⟩
theorem below_put {w : World} {B k o : Nat} {x : Value} (hk : B ≤ k) : Below B w (w.setCell ⟨k, o, none⟩ x) :=
  ⟨rfl, rfl, rfl, by simp [World.setCell], fun j hj => Below.heap_setCell _ _ _ _ (by simp only; omega)⟩
/-- What a call of a disk leaves. -/
def Did' (w : World) (B b : Nat) (L : List Nat) (d' : Ds) (v : Value) (e : Ending) (w' : World) : Prop := ∃ L', e = .returned v ∧ Dk w' B b L' d' ∧ Ext w L w' L'

theorem max_run (t : Int) (n : Nat) (hn : (n : Int) = max t 0) : ∀ (ts : Array TypeId) (ty : TypeId) (W : World), (Builtin.max_ ts ty #[.int .i64 t, .int .i64 0]).run Try.prog W = .ok (.int .i64 n) W := fun ts ty W => by
  rw [run_max_int2]
  congr 2
  split <;> omega

theorem torn_size (a : Ac) (ok : a.Ok) (t : Int) (f : Fc) : ((a.torn t).does f).size ≤ max f.size (a.does f).size := by
  obtain ⟨kind, slot, bb⟩ := a
  have hk := ok.kind
  simp only at hk
  unfold Ac.torn
  by_cases h : t < 1 ∨ kind = 3
  · rw [if_pos h]
    simp only [Ac.does]
    simp
    omega
  · rw [if_neg h]
    simp only [Ac.does, Fc.size]
    rcases hk with rfl | rfl | rfl | rfl
    · simp <;> omega
    · by_cases hs : slot = 0 <;> simp [hs] <;> omega
    · simp <;> omega
    · simp at h
theorem Ds.last_size (d : Ds) (keep tear : Int) (ok : ∀ a ∈ d.waits, a.Ok) (pre : ∀ k, ((acts (d.waits.take k) d.lasts).size : Int) ≤ d.room) : ((d.last keep tear).size : Int) ≤ d.room := by
  unfold Ds.last
  have hp := pre (keepN keep d.waits.length)
  split
  · rename_i a ha
    have h1 := torn_size a (ok a (List.mem_of_getElem? ha)) tear (acts (d.waits.take (keepN keep d.waits.length)) d.lasts)
    have h2 := pre (keepN keep d.waits.length + 1)
    rw [acts_step ha] at h2
    omega
  · exact hp
/-- The cells of a disk that lies there without power. -/
def darks (room : Int) (t0 t1 t2 : Value) : List Value := [.int .i64 room, .bool false, t0, t1, t2, t0, t1, t2, .slice none 0 0, .int .i64 0, .int .i64 0, .int .i64 0]
theorem Try.infoDisk : (Try.prog.info? 72).map (·.size) = some 12 := by kernel_rfl
theorem frozen_setCells (b : Nat) : ∀ (vs : List Value) (o : Nat) (w : World) (p : Addr), (w.setCells b o vs).frozen? p = w.frozen? p
  | [], o, w, p => rfl
  | v :: vs, o, w, p => (frozen_setCells b vs (o + 1) (w.setCell ⟨b, o, none⟩ v) p).trans (World.frozen?_setCell _ _ _ _)
theorem DC.there {w : World} {b : Nat} {cs : List Value} (h : DC w b cs) : w.there b 0 cs.length := fun j hj => by
  rw [Nat.zero_add]
  exact ⟨by rw [h.cells j _ (List.getElem?_eq_getElem hj)]; rfl, h.fz j⟩
theorem DC.all {w : World} {b : Nat} {cs vs : List Value} (h : DC w b cs) (hl : vs.length = cs.length) : DC (w.setCells b 0 vs) b vs :=
  ⟨fun i v hv => by
    have := World.rangeAt_setCells_same w b 0 vs (by rw [hl]; exact h.there) i v hv
    rwa [Nat.zero_add] at this, fun i => (frozen_setCells b vs 0 w _).trans (h.fz i), by rw [setCells_size]; exact h.lt⟩
theorem dark_end {w w7 : World} {B b : Nat} {L : List Nat} {d : Ds} {t0 t1 t2 l0 l1 l2 wt : Value} {ps : List Pa} {Lt Lw : List Nat} {a0 a1 a2 : Option Addr} {c0 c1 : Nat} {f : Fc} (h : Dv w B b L d t0 t1 t2 l0 l1 l2 wt ps Lt Lw) (hb : Below w.heap.size w w7)
    (h0 : Byt w7 [b] (.slice a0 f.s0.length c0) f.s0) (h1 : Byt w7 [b] (.slice a1 f.s1.length c1) f.s1) (h2 : Byt w7 [b] (.slice a2 f.tp.length f.tp.length) f.tp) (hf : (f.size : Int) ≤ d.room) :
    Did' w B b L ⟨d.room, false, f, f, [], 0, 0, 0⟩ (.tuple #[]) (.returned (.tuple #[])) (w7.setCells b 0 (darks d.room (.slice a0 f.s0.length c0) (.slice a1 f.s1.length c1) (.slice a2 f.tp.length f.tp.length))) := by
  have hc := (h.cells.below hb).all (vs := darks d.room (.slice a0 f.s0.length c0) (.slice a1 f.s1.length c1) (.slice a2 f.tp.length f.tp.length)) rfl
  have hbL : b ∈ L := by rw [h.hL]; simp
  obtain ⟨o1, o2, o3⟩ := setCells_os b (darks d.room (.slice a0 f.s0.length c0) (.slice a1 f.s1.length c1) (.slice a2 f.tp.length f.tp.length)) 0 w7
  have hbk := fun k hk => setCells_block b (darks d.room (.slice a0 f.s0.length c0) (.slice a1 f.s1.length c1) (.slice a2 f.tp.length f.tp.length)) 0 w7 k hk
  have hsz := setCells_size b (darks d.room (.slice a0 f.s0.length c0) (.slice a1 f.s1.length c1) (.slice a2 f.tp.length f.tp.length)) 0 w7
  generalize hV : w7.setCells b 0 (darks d.room (.slice a0 f.s0.length c0) (.slice a1 f.s1.length c1) (.slice a2 f.tp.length f.tp.length)) = V at *
  have by_ : ∀ {v : Value} {xs : List Int}, Byt w7 [b] v xs → Byt V [b] v xs := fun h =>
    h.keep (by rw [hsz]; exact Nat.le_refl _) (fun k _ hk => hbk k (by simpa using hk)) (fun k hk => .inl hk)
  refine ⟨[b], rfl, ⟨_, _, _, _, _, _, .slice none 0 0, [], [], [], hc, rfl, by_ h0, by_ h1, .inl ⟨rfl, by_ h2, a2, rfl⟩, by_ h0, by_ h1, ⟨⟨a2, rfl⟩, .inl (by_ h2)⟩, ⟨World.ownsRow_nil _ _ _ _, .inl ⟨rfl, rfl, rfl⟩, (fun p hp => absurd hp (by simp)), (fun p hp => absurd hp (by simp))⟩, rfl, by simp, fun k hk => ?_, h.room, rfl, fun k => by simp [acts]; exact hf⟩, ?_⟩
  · obtain rfl : k = b := by simpa using hk
    exact h.low k hbL
  · refine ⟨o1.trans hb.os, o2.trans hb.tape, o3.trans hb.output, by rw [hsz]; exact hb.size, fun k hk hn => (hbk k (fun e => hn (by rw [e]; exact hbL))).trans (hb.block k hk), fun k hk => .inl ?_⟩
    obtain rfl : k = b := by simpa using hk
    exact hbL
theorem step_store_all {P : Program} {ops : Array Oper} {o : Oper} {a : Act} {w : World} {K : Act → World → Prop} {Q : Exit → Act → World → Prop} {E : Prop} (hgd : o.guard = none) (ty : TypeId) (x y : Operand) (ho : o.op = .store ty x y)
    (b : Nat) (cells : List Value) (hx : a.eval x = .pointer (some ⟨b, 0, none⟩)) (hy : a.eval y = .agg cells.toArray)
    (ht : w.there b 0 cells.length) (hi : (P.info? ty).map (·.size) = some cells.length) (h1 : ∀ v ∈ cells, v.oneCell' = true)
    (h : K (a.put o.dst undef) (w.setCells b 0 cells)) : if Region.wanted o (yielded ops a.tmps) = true then Oper.wp P o a w K Q else E := by
  have hw : Region.wanted o (yielded ops a.tmps) = true := by simp [Region.wanted, hgd]
  rw [if_pos hw]
  exact wp_store_mid ty x y ho b 0 cells.toArray hx hy (by simpa using ht) (by simpa using hi) (all_oneCell_toArray h1) (by simpa using h)

end Go.Proofs.Ytlfknldgfeicmaa
