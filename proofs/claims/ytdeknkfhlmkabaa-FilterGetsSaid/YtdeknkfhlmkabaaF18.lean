/-
  A filter that is being read, in memory.
-/
import Derived.Test.YtdeknkfhlmkabaaF17
namespace Go.Proofs.Ytdeknkfhlmkabaa
set_option linter.unusedVariables false
set_option linter.unusedSimpArgs false
open Go.RowKit

/-- Kids are told, in blocks of S. -/
inductive KidsS (w : World) (S : Nat → Prop) : Value → List Fl → Prop
  | nul (a : Option Addr) (c : Nat) (hc : c ≤ 9223372036854775807) : KidsS w S (.slice a 0 c) []
  | more (g off c : Nat) (ks : List Fl) (us : Nat → Value) (hS : S g) (hg : g < w.heap.size) (h0 : 0 < ks.length) (hc1 : ks.length ≤ c) (hc2 : c ≤ 9223372036854775807)
      (hcell : ∀ i k, ks[i]? = some k → w.cell? ⟨g, off + i * 4, none⟩ = some (.int .i64 k.kind) ∧ w.cell? ⟨g, off + i * 4 + 1, none⟩ = some (.string k.name) ∧ w.cell? ⟨g, off + i * 4 + 2, none⟩ = some (.string k.text) ∧ w.cell? ⟨g, off + i * 4 + 3, none⟩ = some (us i))
      (hk : ∀ i k, ks[i]? = some k → KidsS w S (us i) k.kids) : KidsS w S (.slice (some ⟨g, off, none⟩) ks.length c) ks
theorem KidsS.keep {w w' : World} {S S' : Nat → Prop} {v : Value} {ks : List Fl} (h : KidsS w S v ks) (hs : w.heap.size ≤ w'.heap.size) (hb : ∀ k, S k → k < w.heap.size → w'.heap[k]? = w.heap[k]?) (hS' : ∀ k, S k → k < w.heap.size → S' k) : KidsS w' S' v ks := by
  induction h with
  | nul a c hc => exact .nul a c hc
  | more g off c ks us hS hg h0 hc1 hc2 hcell hk ih =>
    have e : ∀ o, w'.cell? ⟨g, o, none⟩ = w.cell? ⟨g, o, none⟩ := fun o => World.cell?_of_block (a := ⟨g, o, none⟩) (hb g hS hg)
    exact .more g off c ks us (hS' g hS hg) (Nat.lt_of_lt_of_le hg hs) h0 hc1 hc2 (fun i k hi => by rw [e, e, e, e]; exact hcell i k hi) ih
theorem KidsS.told {w : World} {S : Nat → Prop} {v : Value} {ks : List Fl} (h : KidsS w S v ks) : KidsIn w w.heap.size v ks := by
  induction h with
  | nul a c hc => exact .nul a c hc
  | more g off c ks us hS hg h0 hc1 hc2 hcell hk ih => exact .more g off c ks us hg h0 hc1 hc2 hcell ih
theorem KidsS.slice {w : World} {S : Nat → Prop} {v : Value} {ks : List Fl} (h : KidsS w S v ks) : ∃ a c, v = .slice a ks.length c ∧ ks.length ≤ c ∧ c ≤ 9223372036854775807 := h.told.slice
theorem KidsS.later {w w' : World} {S : Nat → Prop} {v : Value} {ks : List Fl} (h : KidsS w S v ks) (hb : Below w.heap.size w w') : KidsS w' S v ks := h.keep hb.size (fun k _ hk => hb.block k hk) (fun _ h _ => h)

/-- A filter and its kids' slice. -/
structure FV where
  f : Fl
  u : Value
  one : u.oneCell' = true
def fvL : Lay FV := ⟨fun q => [.int .i64 q.f.kind, .string q.f.name, .string q.f.text, q.u], 4, fun _ => rfl, by intro q u hu; simp at hu; rcases hu with rfl | rfl | rfl | rfl; rfl; rfl; rfl; exact q.one⟩
theorem Try.infoF : (Try.prog.info? 24).map (fun i => (i.zero, i.size, i.bytes)) = some (some (.agg #[.int .i64 0, .string ByteArray.empty, .string ByteArray.empty, .slice none 0 0]), 4, 64) := by kernel_rfl
/-- Kids that are read, in a row that grows, in blocks from B on. -/
structure Rk (B : Nat) (wr : World) (v : Value) (l : List FV) : Prop where
  own : wr.ownsRow B 24 4 v l.length (fvL.all l)
  kd : ∀ q ∈ l, KidsS wr (fun g => B ≤ g ∧ some g ≠ v.ownBlock) q.u q.f.kids
  size : B ≤ wr.heap.size
theorem Rk.keep {B : Nat} {wr w' : World} {v : Value} {l : List FV} (h : Rk B wr v l) (hs : wr.heap.size ≤ w'.heap.size) (hb : ∀ k, B ≤ k → k < wr.heap.size → w'.heap[k]? = wr.heap[k]?) : Rk B w' v l := by
  refine ⟨⟨h.own.1, ?_⟩, fun q hq => (h.kd q hq).keep hs (fun k hk hlt => hb k hk.1 hlt) (fun k hk _ => hk), Nat.le_trans h.size hs⟩
  rcases h.own.2 with h0 | ⟨g, cap, cur, hv, hg, hgg, rest⟩
  · exact .inl h0
  · refine .inr ⟨g, cap, cur, hv, hg, ?_, rest⟩
    rw [hb g hg (h.own.lt g (by rw [hv]; rfl)).2]; exact hgg
theorem Rk.nil (w : World) (B : Nat) (hB : B ≤ w.heap.size) : Rk B w (.slice none 0 0) [] := ⟨World.ownsRow_nil _ _ _ _, fun q hq => by simp at hq, hB⟩
/-- Behind an append. -/
theorem Rk.push {B : Nat} {wr w2 : World} {v : Value} {l : List FV} {g c2 : Nat} (x : FV) (h : Rk B wr v l) (hx : KidsS wr (fun g => B ≤ g ∧ some g ≠ v.ownBlock) x.u x.f.kids)
    (hown : w2.ownsRow B 24 4 (.slice (some ⟨g, 0, none⟩) (l.length + 1) c2) (l.length + 1) (fvL.all l ++ fvL.enc x)) (hg : wr.grownBy w2 v.ownBlock) (hat : v.ownBlock = some g ∨ wr.heap.size ≤ g) :
    Rk B w2 (.slice (some ⟨g, 0, none⟩) (l.length + 1) c2) (l ++ [x]) := by
  have key : ∀ (q : FV), KidsS wr (fun g => B ≤ g ∧ some g ≠ v.ownBlock) q.u q.f.kids → KidsS w2 (fun g' => B ≤ g' ∧ some g' ≠ (Value.slice (some ⟨g, 0, none⟩) (l.length + 1) c2).ownBlock) q.u q.f.kids := by
    intro q hq
    refine hq.keep hg.size (fun b hb hlt => hg.block b hlt hb.2) (fun b hb hlt => ⟨hb.1, fun e => ?_⟩)
    simp [Value.ownBlock] at e
    subst e
    rcases hat with h1 | h1
    · exact hb.2 h1.symm
    · omega
  refine ⟨by rw [Lay.all_app, Lay.all_one, List.length_append]; exact hown, fun q hq => ?_, Nat.le_trans h.size hg.size⟩
  rcases List.mem_append.1 hq with hq | hq
  · exact key q (h.kd q hq)
  · simp at hq; subst hq; exact key q hx
/-- The row, told. -/
theorem Rk.told {B : Nat} {wr : World} {v : Value} {l : List FV} (h : Rk B wr v l) : KidsS wr (fun g => B ≤ g) v (l.map FV.f) := by
  rcases h.own.2 with ⟨rfl, h0⟩ | ⟨g, cap, cur, hv, hg, hgg, hn, hcm, _⟩
  · have hk0 : l = [] := List.eq_nil_of_length_eq_zero (by omega)
    subst hk0
    exact .nul none 0 (by decide)
  · subst hv
    by_cases hl : l = []
    · subst hl
      exact .nul _ cap (by unfold maxLen at hcm; omega)
    have hin := h.own.cells (g := g) rfl
    have hlen : (l.map FV.f).length = l.length := by simp
    rw [← hlen]
    refine .more g 0 cap (l.map FV.f) (fun i => (l[i]?.map FV.u).getD .nilIface) hg (h.own.lt g rfl).2 (by rw [hlen]; exact List.length_pos_iff.2 hl) (by rw [hlen]; omega) (by unfold maxLen at hcm; omega) ?_ ?_
    · intro i k hk
      rw [List.getElem?_map, Option.map_eq_some_iff] at hk
      obtain ⟨q, hq, rfl⟩ := hk
      have c : ∀ j u, (fvL.enc q)[j]? = some u → wr.cell? ⟨g, 0 + i * 4 + j, none⟩ = some u := fun j u hu => by
        have hj : j < 4 := by have h1 := (List.getElem?_eq_some_iff.1 hu).1; rw [fvL.len q] at h1; exact h1
        have := hin (i * 4 + j) u (by
          have e := Lay.all_at fvL l i j hj
          rw [show i * fvL.sz + j = i * 4 + j from rfl] at e
          rw [e, hq]; exact hu)
        rw [lay_add] at this
        rw [← this]; congr 2; omega
      refine ⟨c 0 _ rfl, c 1 _ rfl, c 2 _ rfl, ?_⟩
      rw [hq]
      exact c 3 _ rfl
    · intro i k hk
      rw [List.getElem?_map, Option.map_eq_some_iff] at hk
      obtain ⟨q, hq, rfl⟩ := hk
      rw [hq]
      exact (h.kd q (List.mem_of_getElem? hq)).keep (Nat.le_refl _) (fun _ _ _ => rfl) (fun g hg _ => hg.1)

/-- All blocks but two are as they were. -/
structure Kept2 (w w' : World) (rb wb : Nat) : Prop where
  os : w'.os = w.os
  tape : w'.tape = w.tape
  output : w'.output = w.output
  size : w.heap.size ≤ w'.heap.size
  block : ∀ k, k < w.heap.size → k ≠ rb → k ≠ wb → w'.heap[k]? = w.heap[k]?
theorem Kept2.refl (w : World) (rb wb : Nat) : Kept2 w w rb wb := ⟨rfl, rfl, rfl, Nat.le_refl _, fun _ _ _ _ => rfl⟩
theorem Kept2.trans {w w1 w2 : World} {rb wb : Nat} (h1 : Kept2 w w1 rb wb) (h2 : Kept2 w1 w2 rb wb) : Kept2 w w2 rb wb :=
  ⟨h2.os.trans h1.os, h2.tape.trans h1.tape, h2.output.trans h1.output, Nat.le_trans h1.size h2.size, fun k hk n1 n2 => (h2.block k (Nat.lt_of_lt_of_le hk h1.size) n1 n2).trans (h1.block k hk n1 n2)⟩
theorem Kept2.rb {w w' : World} {rb wb : Nat} (h : w.grownBy w' (some rb)) : Kept2 w w' rb wb := ⟨h.os, h.tape, h.output, h.size, fun k hk n _ => h.block k hk (by simpa using n)⟩
theorem Kept2.wb {w w' : World} {rb wb : Nat} (h : w.grownBy w' (some wb)) : Kept2 w w' rb wb := ⟨h.os, h.tape, h.output, h.size, fun k hk _ n => h.block k hk (by simpa using n)⟩
theorem Kept2.below {w w' : World} {rb wb : Nat} (h : Below w.heap.size w w') : Kept2 w w' rb wb := ⟨h.os, h.tape, h.output, h.size, fun k hk _ _ => h.block k hk⟩
theorem Kept2.putx {w w1 : World} {rb wb k o : Nat} {x : Value} (h : Kept2 w w1 rb wb) (hk : w.heap.size ≤ k) : Kept2 w (w1.setCell ⟨k, o, none⟩ x) rb wb :=
  ⟨h.os, h.tape, h.output, by have := h.size; simpa [World.setCell] using this, fun j hj n1 n2 => (Below.heap_setCell _ _ _ _ (by simp only; omega)).trans (h.block j hj n1 n2)⟩
theorem RS_block {w w' : World} {rb g n cap : Nat} {xs : List Int} {i : Nat} {err : Int} (h : Wi.RS w rb g n cap xs i err) (h1 : w'.heap[rb]? = w.heap[rb]?) (h2 : w'.heap[g]? = w.heap[g]?) : Wi.RS w' rb g n cap xs i err where
  c0 := (World.cell?_of_block (a := ⟨rb, 0, none⟩) h1).trans h.c0
  c1 := (World.cell?_of_block (a := ⟨rb, 1, none⟩) h1).trans h.c1
  c2 := (World.cell?_of_block (a := ⟨rb, 2, none⟩) h1).trans h.c2
  c3 := (World.cell?_of_block (a := ⟨rb, 3, none⟩) h1).trans h.c3
  f1 := (World.frozen?_of_block (a := ⟨rb, 1, none⟩) h1).trans h.f1
  f2 := (World.frozen?_of_block (a := ⟨rb, 2, none⟩) h1).trans h.f2
  inn := by
    intro hn
    obtain ⟨b', o', hbo, hc⟩ := h.inn hn
    simp only [Option.some.injEq, Addr.mk.injEq] at hbo
    obtain ⟨rfl, rfl, _⟩ := hbo
    exact ⟨g, 0, rfl, fun i hi => (World.cell?_of_block (a := ⟨g, 0 + i, none⟩) h2).trans (hc i hi)⟩
  len := h.len
  ncap := h.ncap
  ile := h.ile
  gne := h.gne
  rng := h.rng
  nb := h.nb

/-- What reading a filter leaves. -/
def TkP (r : Tk) (rb wb g n cap : Nat) (xs : List Int) (w : World) (e : Ending) (w' : World) : Prop :=
  Kept2 w w' rb wb ∧
  ((r.ok = true ∧ ∃ u, e = .returned (.tuple #[flV r.f u, .bool true]) ∧ KidsS w' (fun b => w.heap.size ≤ b) u r.f.kids ∧ Wi.RS w' rb g n cap xs r.st.1 r.st.2 ∧ DC w' wb [.int .i64 (r.ah : Nat)]) ∨
   (r.ok = false ∧ ∃ (f : Fl) (a : Option Addr) (n c : Nat), e = .returned (.tuple #[flV f (.slice a n c), .bool false])))
def TkOk (m : Nat) : Prop := ∀ (w : World) (rb wb g n cap : Nat) (xs : List Int) (i : Nat) (err : Int) (ah : Nat), Wi.RS w rb g n cap xs i err → rb < w.heap.size → g < w.heap.size → DC w wb [.int .i64 (ah : Nat)] → rb ≠ wb → g ≠ wb → ah ≤ 24 → m ≤ 6 →
  Calls Try.prog 47 #[.pointer (some ⟨wb, 0, none⟩), .pointer (some ⟨rb, 0, none⟩), .int .i64 ((6 - m : Nat) : Int)] w (TkP (tk xs m (i, err) ah) rb wb g n cap xs w)
end Go.Proofs.Ytdeknkfhlmkabaa
