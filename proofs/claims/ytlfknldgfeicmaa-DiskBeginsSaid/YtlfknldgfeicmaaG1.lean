/-
  Disks: what they are, plainly; bytes, tapes and acts in memory.
-/
import Derived.Test.YtlfknldgfeicmaaB2
import Derived.ArgAppend
import Derived.Lib.BytesEntry
import Derived.IntWalk
import Derived.Deep.RegionLaw
import Derived.Deep.AppendLies
import Derived.Deep.RegionHeld3
import Derived.Deep.RegionWith
namespace Go.Proofs.Ytlfknldgfeicmaa
set_option linter.unusedVariables false
set_option linter.unusedSimpArgs false
open Go.RowKit

/-- Two slots and a tape. -/
structure Fc where
  s0 : List Int
  s1 : List Int
  tp : List Int
def Fc.size (f : Fc) : Nat := f.tp.length + f.s0.length + f.s1.length
/-- An act. -/
structure Ac where
  kind : Int
  slot : Int
  b : List Int
def Ac.does (a : Ac) (f : Fc) : Fc :=
  if a.kind = 1 then (if a.slot = 0 then ⟨a.b, f.s1, f.tp⟩ else ⟨f.s0, a.b, f.tp⟩) else if a.kind = 2 then ⟨f.s0, f.s1, f.tp ++ a.b⟩ else if a.kind = 3 then ⟨f.s0, f.s1, []⟩ else f
structure Ac.Ok (a : Ac) : Prop where
  kind : a.kind = 0 ∨ a.kind = 1 ∨ a.kind = 2 ∨ a.kind = 3
  slot : a.slot = 0 ∨ a.slot = 1
  size : a.b.length ≤ 16777216
def Ac.torn (a : Ac) (t : Int) : Ac := if t < 1 ∨ a.kind = 3 then ⟨0, 0, []⟩ else ⟨a.kind, a.slot, a.b.take t.toNat⟩
theorem Ac.Ok.torn {a : Ac} (h : a.Ok) (t : Int) : (a.torn t).Ok := by
  unfold Ac.torn
  split
  · exact ⟨.inl rfl, .inl rfl, by simp⟩
  · exact ⟨h.kind, h.slot, by have := h.size; simp; omega⟩
theorem Ac.does_tp (a : Ac) (f : Fc) : (a.does f).tp.length ≤ f.tp.length + a.b.length := by
  unfold Ac.does
  split
  · split <;> simp
  · split
    · simp
    · split <;> simp
/-- A disk. -/
structure Ds where
  room : Int
  on : Bool
  told : Fc
  lasts : Fc
  waits : List Ac
  left : Int
  keep : Int
  tear : Int
def acts (l : List Ac) (f : Fc) : Fc := l.foldl (fun f a => a.does f) f
theorem acts_step {l : List Ac} {i : Nat} {a : Ac} (h : l[i]? = some a) (f : Fc) : acts (l.take (i + 1)) f = a.does (acts (l.take i) f) := by
  unfold acts
  rw [List.take_add_one, h, List.foldl_append]; rfl
theorem acts_tp : ∀ (l : List Ac), (∀ a ∈ l, a.Ok) → ∀ f : Fc, (acts l f).tp.length ≤ f.tp.length + l.length * 16777216
  | [], _, f => by simp [acts]
  | a :: l, h, f => by
    have h1 := acts_tp l (fun x hx => h x (by simp [hx])) (a.does f)
    have h2 := a.does_tp f
    have h3 := (h a (by simp)).size
    simp only [acts, List.foldl_cons, List.length_cons] at h1 ⊢
    omega
def keepN (k : Int) (n : Nat) : Nat := min k.toNat n
/-- What lasts where the power goes. -/
def Ds.last (d : Ds) (keep tear : Int) : Fc :=
  match d.waits[keepN keep d.waits.length]? with
  | some a => (a.torn tear).does (acts (d.waits.take (keepN keep d.waits.length)) d.lasts)
  | none => acts (d.waits.take (keepN keep d.waits.length)) d.lasts
def Ds.fall (d : Ds) (keep tear : Int) : Ds := ⟨d.room, false, d.last keep tear, d.last keep tear, [], 0, 0, 0⟩
def Ds.burn (d : Ds) : Int × Ds :=
  if d.left = 0 then (0, d) else if 1 < d.left then (0, { d with left := d.left - 1 }) else (30, d.fall d.keep d.tear)
def Ds.wait (d : Ds) (a : Ac) : Int × Ds := Ds.burn { d with told := a.does d.told, waits := d.waits ++ [a] }

theorem Try.infoU8 : (Try.prog.info? 5).map (fun i => (i.zero, i.size, i.bytes)) = some (some (.int .u8 0), 1, 1) := by kernel_rfl
def u8s (xs : List Int) : List Value := xs.map (Value.int .u8)
theorem u8s_length (xs : List Int) : (u8s xs).length = xs.length := by simp [u8s]
theorem u8s_one (xs : List Int) : ∀ u ∈ u8s xs, u.oneCell' = true := by
  intro u hu
  obtain ⟨x, _, rfl⟩ := List.mem_map.1 hu
  rfl
theorem u8s_app (xs ys : List Int) : u8s (xs ++ ys) = u8s xs ++ u8s ys := List.map_append
theorem add_block (p : Addr) (j : Nat) : (p.add j).block = p.block := by
  unfold Addr.add
  first | rfl | (split <;> rfl)
/-- A slice's bytes. -/
def Reads (w : World) (p : Addr) (xs : List Int) : Prop := ∀ j u, (u8s xs)[j]? = some u → w.cell? (p.add j) = some u
theorem Reads.at {w : World} {p : Addr} {xs : List Int} (h : Reads w p xs) {i : Nat} (hi : i < xs.length) : w.cell? (p.add i) = some (.int .u8 (xs.getD i 0)) :=
  h i _ (by simp [u8s, hi])
theorem Reads.keep {w w' : World} {p : Addr} {xs : List Int} (h : Reads w p xs) (hk : w'.heap[p.block]? = w.heap[p.block]?) : Reads w' p xs := fun j u hj => by
  rw [World.cell?_of_block (w := w) (w' := w') (a := p.add j) (by rw [add_block]; exact hk)]
  exact h j u hj
theorem Reads.take {w : World} {p : Addr} {ys : List Int} (h : Reads w p ys) (n : Nat) : Reads w p (ys.take n) := fun j u hj => by
  refine h j u ?_
  unfold u8s at hj ⊢
  rw [List.map_take, List.getElem?_take] at hj
  split at hj
  · exact hj
  · cases hj

/-- Bytes that nobody writes over: they lie in none of some blocks. -/
def Byt (w : World) (L : List Nat) (v : Value) (xs : List Int) : Prop :=
  ∃ a c, v = .slice a xs.length c ∧ xs.length ≤ c ∧ c ≤ 9223372036854775807 ∧ (xs = [] ∨ ∃ p : Addr, a = some p ∧ p.block ∉ L ∧ p.block < w.heap.size ∧ Reads w p xs)
theorem Byt.nil (w : World) (L : List Nat) : Byt w L (.slice none 0 0) [] := ⟨none, 0, rfl, Nat.le_refl _, by decide, .inl rfl⟩
theorem Byt.keep {w w' : World} {L L' : List Nat} {v : Value} {xs : List Int} (h : Byt w L v xs) (hs : w.heap.size ≤ w'.heap.size) (hk : ∀ k, k < w.heap.size → k ∉ L → w'.heap[k]? = w.heap[k]?) (hl : ∀ k ∈ L', k ∈ L ∨ w.heap.size ≤ k) : Byt w' L' v xs := by
  obtain ⟨a, c, hv, h1, h2, h⟩ := h
  refine ⟨a, c, hv, h1, h2, h.imp id ?_⟩
  rintro ⟨p, ha, hp, hlt, hr⟩
  refine ⟨p, ha, fun hm => ?_, Nat.lt_of_lt_of_le hlt hs, hr.keep (hk _ hlt hp)⟩
  rcases hl _ hm with h | h
  · exact hp h
  · omega
theorem Byt.below {w w' : World} {L : List Nat} {v : Value} {xs : List Int} (h : Byt w L v xs) (hb : Below w.heap.size w w') : Byt w' L v xs :=
  h.keep hb.size (fun k hk _ => hb.block k hk) (fun k hk => .inl hk)
theorem Byt.sub {w : World} {L L' : List Nat} {v : Value} {xs : List Int} (h : Byt w L v xs) (hl : ∀ k ∈ L', k ∈ L) : Byt w L' v xs :=
  h.keep (Nat.le_refl _) (fun _ _ _ => rfl) (fun k hk => .inl (hl k hk))
theorem Byt.slice {w : World} {L : List Nat} {v : Value} {xs : List Int} (h : Byt w L v xs) : ∃ a c, v = .slice a xs.length c ∧ xs.length ≤ c ∧ c ≤ 9223372036854775807 := by
  obtain ⟨a, c, hv, h1, h2, _⟩ := h
  exact ⟨a, c, hv, h1, h2⟩
theorem Byt.take {w : World} {L : List Nat} {a : Option Addr} {n c : Nat} {xs : List Int} (h : Byt w L (.slice a n c) xs) (k : Nat) (hk : k ≤ xs.length) : Byt w L (.slice a k k) (xs.take k) := by
  obtain ⟨a', c', hv, h1, h2, h⟩ := h
  simp only [Value.slice.injEq] at hv
  obtain ⟨rfl, rfl, rfl⟩ := hv
  have hl : (xs.take k).length = k := by simp; omega
  refine ⟨a, k, by rw [hl], by omega, by omega, ?_⟩
  rcases h with rfl | ⟨p, ha, hp, hlt, hr⟩
  · exact .inl (by simp)
  · exact .inr ⟨p, ha, hp, hlt, hr.take k⟩
theorem byt_row {w : World} {B n : Nat} {L : List Nat} {v : Value} {xs : List Int} (h : w.ownsRow B 5 1 v n (u8s xs)) (hn : n = xs.length) (hL : ∀ g, v.ownBlock = some g → g ∉ L) : Byt w L v xs := by
  subst hn
  rcases h.2 with ⟨rfl, h0⟩ | ⟨g, cap, cur, rfl, _, hg, hnc, hcm, _⟩
  · exact ⟨none, 0, by rw [h0], by omega, by decide, .inl (List.eq_nil_of_length_eq_zero h0)⟩
  · refine ⟨_, cap, rfl, hnc, by unfold maxLen at hcm; omega, .inr ⟨_, rfl, hL g rfl, ?_, h.cells (g := g) rfl⟩⟩
    by_cases e : g < w.heap.size
    · exact e
    · rw [Array.getElem?_eq_none (by omega)] at hg; cases hg

/-- A tape: shut, or a row that may be put on. -/
def Tp (w : World) (M : List Nat) (v : Value) (xs : List Int) (Lt : List Nat) : Prop :=
  (Lt = [] ∧ Byt w M v xs ∧ ∃ a, v = .slice a xs.length xs.length) ∨ ∃ g c, Lt = [g] ∧ g ∉ M ∧ v = .slice (some ⟨g, 0, none⟩) xs.length c ∧ w.ownsRow 0 5 1 v xs.length (u8s xs)
theorem Tp.slice {w : World} {M Lt : List Nat} {v : Value} {xs : List Int} (h : Tp w M v xs Lt) : ∃ a c, v = .slice a xs.length c ∧ xs.length ≤ c ∧ c ≤ 9223372036854775807 := by
  rcases h with ⟨_, h, _⟩ | ⟨g, c, _, _, rfl, h⟩
  · exact h.slice
  · rcases h.2 with ⟨h0, _⟩ | ⟨g', cap, cur, hv, _, _, hn, hm, _⟩
    · cases h0
    · refine ⟨_, c, rfl, ?_⟩
      simp only [Value.slice.injEq] at hv
      unfold maxLen at hm
      omega
theorem Tp.lt {w : World} {M Lt : List Nat} {v : Value} {xs : List Int} (h : Tp w M v xs Lt) : ∀ k ∈ Lt, k < w.heap.size ∧ k ∉ M := by
  intro k hk
  rcases h with ⟨rfl, _⟩ | ⟨g, c, rfl, hg, rfl, h⟩
  · cases hk
  · obtain rfl : k = g := by simpa using hk
    exact ⟨(h.lt k rfl).2, hg⟩
theorem Tp.nil (w : World) (M : List Nat) : Tp w M (.slice none 0 0) [] [] := .inl ⟨rfl, Byt.nil w M, none, rfl⟩
/-- The tape, shut: whoever reads it. -/
theorem Tp.shut {w : World} {M Lt : List Nat} {a : Option Addr} {n c : Nat} {xs : List Int} (h : Tp w M (.slice a n c) xs Lt) : Byt w M (.slice a n n) xs := by
  rcases h with ⟨_, h, a', hv⟩ | ⟨g, c', _, hg, hv, h⟩
  · simp only [Value.slice.injEq] at hv
    obtain ⟨rfl, rfl, rfl⟩ := hv
    exact h
  · simp only [Value.slice.injEq] at hv
    obtain ⟨rfl, rfl, rfl⟩ := hv
    have hb := byt_row (L := M) h rfl (fun g' hg' => by simp [Value.ownBlock] at hg'; subst hg'; exact hg)
    have := hb.take xs.length (Nat.le_refl _)
    rwa [List.take_length] at this

/-- The world behind a tape that was put on: nothing else is written over, nor what the tape had. -/
structure Tail (w w' : World) (Lt : List Nat) (n : Nat) : Prop where
  os : w'.os = w.os
  tape : w'.tape = w.tape
  output : w'.output = w.output
  size : w.heap.size ≤ w'.heap.size
  block : ∀ k, k < w.heap.size → k ∉ Lt → w'.heap[k]? = w.heap[k]?
  pre : ∀ g ∈ Lt, ∀ o, o < n → w'.cell? ⟨g, o, none⟩ = w.cell? ⟨g, o, none⟩
theorem Tail.of_below {w w' : World} {Lt : List Nat} {n : Nat} (h : Below w.heap.size w w') (hl : ∀ k ∈ Lt, k < w.heap.size) : Tail w w' Lt n :=
  ⟨h.os, h.tape, h.output, h.size, fun k hk _ => h.block k hk, fun g hg o _ => hb hg h hl o⟩
where hb {w w' : World} {Lt : List Nat} {g : Nat} (hg : g ∈ Lt) (h : Below w.heap.size w w') (hl : ∀ k ∈ Lt, k < w.heap.size) (o : Nat) : w'.cell? ⟨g, o, none⟩ = w.cell? ⟨g, o, none⟩ := h.cell (p := ⟨g, o, none⟩) (hl g hg)
theorem Tail.behind {w w1 w2 : World} {Lt : List Nat} {n : Nat} (h1 : Below w.heap.size w w1) (hl : ∀ k ∈ Lt, k < w.heap.size) (h2 : Tail w1 w2 Lt n) : Tail w w2 Lt n :=
  ⟨h2.os.trans h1.os, h2.tape.trans h1.tape, h2.output.trans h1.output, Nat.le_trans h1.size h2.size, fun k hk hn => (h2.block k (Nat.lt_of_lt_of_le hk h1.size) hn).trans (h1.block k hk), fun g hg o ho => (h2.pre g hg o ho).trans (h1.cell (p := ⟨g, o, none⟩) (hl g hg))⟩
theorem Tail.then {w w1 w2 : World} {Lt : List Nat} {n : Nat} (h1 : Tail w w1 Lt n) (hl : ∀ k ∈ Lt, k < w.heap.size) (h2 : Below w.heap.size w1 w2) : Tail w w2 Lt n :=
  ⟨h2.os.trans h1.os, h2.tape.trans h1.tape, h2.output.trans h1.output, Nat.le_trans h1.size h2.size, fun k hk hn => (h2.block k hk).trans (h1.block k hk hn), fun g hg o ho => (h2.cell (p := ⟨g, o, none⟩) (hl g hg)).trans (h1.pre g hg o ho)⟩

theorem setCells_size (b : Nat) : ∀ (vs : List Value) (o : Nat) (w : World), (w.setCells b o vs).heap.size = w.heap.size
  | [], o, w => rfl
  | v :: vs, o, w => by
    show ((w.setCell ⟨b, o, none⟩ v).setCells b (o + 1) vs).heap.size = _
    rw [setCells_size b vs]; simp [World.setCell]
theorem setCells_block (b : Nat) : ∀ (vs : List Value) (o : Nat) (w : World) (k : Nat), k ≠ b → (w.setCells b o vs).heap[k]? = w.heap[k]?
  | [], o, w, k, _ => rfl
  | v :: vs, o, w, k, h => by
    show ((w.setCell ⟨b, o, none⟩ v).setCells b (o + 1) vs).heap[k]? = _
    rw [setCells_block b vs _ _ k h]
    exact Below.heap_setCell _ _ _ _ h
theorem setCells_os (b : Nat) : ∀ (vs : List Value) (o : Nat) (w : World), (w.setCells b o vs).os = w.os ∧ (w.setCells b o vs).tape = w.tape ∧ (w.setCells b o vs).output = w.output
  | [], o, w => ⟨rfl, rfl, rfl⟩
  | v :: vs, o, w => setCells_os b vs (o + 1) (w.setCell ⟨b, o, none⟩ v)

/-- Bytes that are put behind a tape. -/
theorem tape_cat {w : World} {M Lt : List Nat} {v u : Value} {xs ys : List Int} (ty : TypeId) (h : Tp w M v xs Lt) (hu : Byt w (M ++ Lt) u ys) (hM : ∀ k ∈ M, k < w.heap.size) (hl : xs.length + ys.length ≤ 70368744177664) :
    ∃ v' w' Lt', (Builtin.append_ #[32, 32] ty #[v, u]).run Try.prog w = .ok v' w' ∧ Tp w' M v' (xs ++ ys) Lt' ∧ Tail w w' Lt xs.length ∧ (∀ k ∈ Lt', k ∈ Lt ∨ w.heap.size ≤ k) := by
  obtain ⟨i0, hi, hz0, hz1, hz2⟩ := info_parts Try.infoU8
  have hLt := h.lt
  obtain ⟨a, c, rfl, hc1, hc2⟩ := h.slice
  obtain ⟨a', c', rfl, hd1, hd2, hy⟩ := hu
  by_cases hy0 : ys = []
  · subst hy0
    refine ⟨.slice a xs.length c, w, Lt, ?_, by rw [List.append_nil]; exact h, Tail.of_below (Below.refl _ _) (fun k hk => (hLt k hk).1), fun k hk => .inl hk⟩
    cases a <;> cases a' <;> simp [Builtin.append_, run_underlying Try.underlying32, sizeOf, typeInfo, hi, Builtin.lenOf, Builtin.firstCells, hc1, storeCells, loadCellsFrom, loadCells]
  · obtain ⟨p, rfl, hpL, hplt, hr⟩ := hy.resolve_left hy0
    have hm : 0 < ys.length := List.length_pos_iff.2 hy0
    have hml : (u8s ys).length = ys.length * 1 := by simp [u8s]
    have grows : ∀ (q : Addr), a = some q → Reads w q xs → c < xs.length + ys.length → ∃ v' w' Lt', (Builtin.append_ #[32, 32] ty #[.slice a xs.length c, .slice (some p) ys.length c']).run Try.prog w = .ok v' w' ∧ Tp w' M v' (xs ++ ys) Lt' ∧ Tail w w' Lt xs.length ∧ (∀ k ∈ Lt', k ∈ Lt ∨ w.heap.size ≤ k) := by
      intro q hq hrq hcap
      subst hq
      obtain ⟨v', w', hrun, r1, r2⟩ := run_append_arg_grows (P := Try.prog) w 32 ty 5 i0 (.int .u8 0) 1 1 Try.underlying32 hi hz0 hz1 hz2 rfl (by decide) q xs.length c (u8s xs) (by simp [u8s]) hrq p ys.length c' (u8s ys) hml hr hcap (by unfold maxLen; omega) (by omega)
      have hb : Below w.heap.size w w' := ⟨r2.os, r2.tape, r2.output, r2.size, fun k hk => r2.block k hk (by simp)⟩
      rw [← u8s_app] at r1
      rcases r1.2 with ⟨rfl, h0⟩ | ⟨g, cap, cur, rfl, hg, rest⟩
      · omega
      · refine ⟨_, w', [g], hrun, .inr ⟨g, cap, rfl, fun hm => by have := hM g hm; omega, by simp, ?_⟩, Tail.of_below hb (fun k hk => (hLt k hk).1), fun k hk => .inr (by simp at hk; subst hk; exact hg)⟩
        rw [List.length_append]
        exact ⟨r1.1, .inr ⟨g, cap, cur, rfl, Nat.zero_le _, rest⟩⟩
    rcases h with ⟨rfl, hb, a0, hv⟩ | ⟨g, c0, rfl, hg, hv, hown⟩
    · simp only [Value.slice.injEq] at hv
      obtain ⟨rfl, _, rfl⟩ := hv
      obtain ⟨a1, c1, hv, _, _, hx⟩ := hb
      simp only [Value.slice.injEq] at hv
      obtain ⟨rfl, _, _⟩ := hv
      cases a with
      | some q =>
        refine grows q rfl ?_ (by omega)
        rcases hx with rfl | ⟨p', hp', _, _, hr'⟩
        · intro j u hj; simp [u8s] at hj
        · cases hp'; exact hr'
      | none =>
        have hx0 : xs = [] := hx.resolve_right (by rintro ⟨p', hp', _⟩; cases hp')
        subst hx0
        obtain ⟨v', w', hr0, r1, r2, _, r5⟩ := run_append_own_at (P := Try.prog) w w.heap.size 32 ty 5 i0 (.int .u8 0) 1 1 Try.underlying32 hi hz0 hz1 hz2 rfl (by decide) (.slice none 0 0) 0 [] (World.ownsRow_nil _ _ _ _) p ys.length c' (u8s ys) hml hr (u8s_one ys) (by unfold maxLen; omega) (by omega) (Nat.le_refl _)
        have hb : Below w.heap.size w w' := ⟨r2.os, r2.tape, r2.output, r2.size, fun k hk => r2.block k hk (by simp [Value.ownBlock])⟩
        rcases r1.2 with ⟨rfl, h0⟩ | ⟨g, cap, cur, rfl, hg, rest⟩
        · omega
        · refine ⟨_, w', [g], hr0, .inr ⟨g, cap, rfl, fun hm => by have := hM g hm; omega, by simp, ?_⟩, Tail.of_below hb (fun k hk => by cases hk), fun k hk => .inr (by simp at hk; subst hk; exact hg)⟩
          rw [List.nil_append] at r1 rest ⊢
          rw [Nat.zero_add] at r1 rest
          exact ⟨r1.1, .inr ⟨g, cap, cur, by rw [Nat.zero_add], Nat.zero_le _, rest⟩⟩
    · simp only [Value.slice.injEq] at hv
      obtain ⟨rfl, _, rfl⟩ := hv
      have hrg : Reads w ⟨g, 0, none⟩ xs := hown.cells (g := g) rfl
      by_cases hroom : xs.length + ys.length ≤ c
      · rcases hown.2 with ⟨h0, _⟩ | ⟨g', cap', cur, hv, _, hh, hn, hcm, hsz, htk⟩
        · cases h0
        simp only [Value.slice.injEq, Option.some.injEq, Addr.mk.injEq] at hv
        obtain ⟨⟨rfl, _, _⟩, _, rfl⟩ := hv
        have hcell : ∀ j, j < (u8s ys).length → (w.cell? ⟨g, 0 + xs.length * i0.size + j, none⟩).isSome = true := by
          intro j hj
          rw [u8s_length] at hj
          have : w.cell? ⟨g, 0 + xs.length * i0.size + j, none⟩ = cur[0 + xs.length * i0.size + j]? := by simp [World.cell?, hh]
          rw [this, hz1, Array.getElem?_eq_getElem (by omega)]; rfl
        have hrun := run_append_room_cells (P := Try.prog) w 32 ty 5 i0 Try.underlying32 hi g 0 xs.length c p ys.length c' (u8s ys) (by rw [hz1]; exact hml) hr (u8s_one ys) hroom hcell (fun j _ => hown.frozenAt _)
        obtain ⟨v2, w2, hr2, r1, _, _, r5⟩ := run_append_own_at (P := Try.prog) w 0 32 ty 5 i0 (.int .u8 0) 1 1 Try.underlying32 hi hz0 hz1 hz2 rfl (by decide) (.slice (some ⟨g, 0, none⟩) xs.length c) xs.length (u8s xs) hown p ys.length c' (u8s ys) hml hr (u8s_one ys) (by unfold maxLen; omega) (by omega) (Nat.zero_le _)
        rw [hrun] at hr2
        simp only [Result.ok.injEq] at hr2
        obtain ⟨rfl, rfl⟩ := hr2
        rw [← u8s_app] at r1
        refine ⟨_, _, [g], hrun, .inr ⟨g, c, rfl, hg, by simp, by rw [List.length_append]; exact r1⟩, ?_, fun k hk => .inl hk⟩
        obtain ⟨o1, o2, o3⟩ := setCells_os g (u8s ys) (0 + xs.length * i0.size) w
        refine ⟨o1, o2, o3, by rw [setCells_size]; exact Nat.le_refl _, fun k _ hk => setCells_block g _ _ _ k (by simpa using hk), ?_⟩
        intro g' hg' o ho
        obtain rfl : g' = g := by simpa using hg'
        exact World.cell?_setCells_out g' _ _ _ _ (fun _ _ => .inl (by simp only [hz1]; omega))
      · exact grows ⟨g, 0, none⟩ rfl hrg (by omega)
end Go.Proofs.Ytlfknldgfeicmaa
