/-
  Walks: a filter is made ready.
-/
import Derived.Test.YtdeknkfhlmkabaaF6
namespace Go.Proofs.Ytdeknkfhlmkabaa
set_option linter.unusedVariables false
set_option linter.unusedSimpArgs false
open Go.RowKit

theorem Try.infoQ : (Try.prog.info? 71).map (fun i => (i.zero, i.size, i.bytes)) = some (some .nilIface, 1, 16) := by kernel_rfl
/-- A value of one cell. -/
structure QV where
  v : Value
  one : v.oneCell' = true
def qvL : Lay QV := ⟨fun q => [q.v], 1, fun _ => rfl, by intro q u hu; simp at hu; rw [hu]; exact q.one⟩
/-- What making ready leaves. -/
def RdyP (r : Nat × Int) (f : Fl) (wb : Nat) (w : World) (e : Ending) (w' : World) : Prop :=
  ∃ v, e = .returned v ∧ w.grownBy w' (some wb) ∧ ((r.2 = 0 ∧ Qu w' (fun g => w.heap.size ≤ g) v f ∧ DC w' wb [.int .i64 (r.1 : Nat)]) ∨ (r.2 ≠ 0 ∧ v = .iface 26 (.int .i64 r.2)))
def RdyOk (m : Nat) (f : Fl) : Prop := ∀ (w : World) (B wb ah : Nat) (u : Value), KidsIn w B u f.kids → B ≤ wb → B ≤ w.heap.size → DC w wb [.int .i64 (ah : Nat)] → ah ≤ 24 → Light f → m ≤ 6 →
  Calls Try.prog 50 #[.pointer (some ⟨wb, 0, none⟩), flV f u, .int .i64 ((6 - m : Nat) : Int)] w (RdyP (ec m f ah) f wb w)

/-- The questions of the first kids, in a row that grows. -/
structure Rq (w wr : World) (v : Value) (ks : List Fl) (l : List QV) : Prop where
  own : wr.ownsRow w.heap.size 71 1 v l.length (qvL.all l)
  qu : ∀ (i : Nat) (k : Fl) (q : QV), ks[i]? = some k → l[i]? = some q → Qu wr (fun g => w.heap.size ≤ g ∧ some g ≠ v.ownBlock) q.v k
  size : w.heap.size ≤ wr.heap.size
theorem Rq.grown {w wr w' : World} {v : Value} {ks : List Fl} {l : List QV} {wb : Nat} (h : Rq w wr v ks l) (hg : wr.grownBy w' (some wb)) (hw : wb < w.heap.size) : Rq w w' v ks l := by
  refine ⟨h.own.kept hg (.inr fun e => ?_), fun i k q hk hq => (h.qu i k q hk hq).keep hg.size (fun g hs hlt => hg.block g hlt (fun e => by cases e; omega)) (fun g hs _ => hs), Nat.le_trans h.size hg.size⟩
  have := (h.own.lt wb e).1
  omega
theorem ones_take {ks : List Fl} {i : Nat} {k : Fl} (h : ks[i]? = some k) : ks.take (i + 1) = ks.take i ++ [k] := by
  rw [List.take_add_one, h]; rfl
/-- Behind an append. -/
theorem Rq.push {w wr w2 : World} {v : Value} {ks : List Fl} {l : List QV} {g c2 : Nat} (x : QV) (k : Fl) (h : Rq w wr v ks l) (hl : l.length = ks.length) (hx : Qu wr (fun g => w.heap.size ≤ g ∧ some g ≠ v.ownBlock) x.v k)
    (hown : w2.ownsRow w.heap.size 71 1 (.slice (some ⟨g, 0, none⟩) (l.length + 1) c2) (l.length + 1) (qvL.all l ++ qvL.enc x)) (hg : wr.grownBy w2 v.ownBlock) (hat : v.ownBlock = some g ∨ wr.heap.size ≤ g) :
    Rq w w2 (.slice (some ⟨g, 0, none⟩) (l.length + 1) c2) (ks ++ [k]) (l ++ [x]) := by
  have key : ∀ (q : QV) (k : Fl), Qu wr (fun g => w.heap.size ≤ g ∧ some g ≠ v.ownBlock) q.v k → Qu w2 (fun g' => w.heap.size ≤ g' ∧ some g' ≠ (Value.slice (some ⟨g, 0, none⟩) (l.length + 1) c2).ownBlock) q.v k := by
    intro q k hq
    refine hq.keep hg.size (fun b hb hlt => hg.block b hlt hb.2) (fun b hb hlt => ⟨hb.1, fun e => ?_⟩)
    simp [Value.ownBlock] at e
    subst e
    rcases hat with h1 | h1
    · exact hb.2 h1.symm
    · omega
  refine ⟨by rw [Lay.all_app, Lay.all_one, List.length_append]; exact hown, fun i k' q hk hq => ?_, Nat.le_trans h.size hg.size⟩
  by_cases hi : i < ks.length
  · rw [List.getElem?_append_left hi] at hk
    rw [List.getElem?_append_left (by omega)] at hq
    exact key q k' (h.qu i k' q hk hq)
  · rw [List.getElem?_append_right (by omega)] at hk
    rw [List.getElem?_append_right (by omega), hl] at hq
    have h0 : i - ks.length = 0 := by
      have := (List.getElem?_eq_some_iff.1 hk).1
      simp at this; omega
    rw [h0] at hk hq
    simp at hk hq
    subst hk hq
    exact key x k hx
/-- The row, told. -/
theorem Rq.told {w wr : World} {v : Value} {ks : List Fl} {l : List QV} (h : Rq w wr v ks l) (hl : l.length = ks.length) : ∃ a c, QsIn wr (fun g => w.heap.size ≤ g) v ks a c (fun i : Nat => (l[i]?.map QV.v).getD .nilIface) := by
  have hq : ∀ (i : Nat) (k : Fl), ks[i]? = some k → Qu wr (fun g => w.heap.size ≤ g) ((l[i]?.map QV.v).getD .nilIface) k := by
    intro i k hk
    have hi : i < l.length := by rw [hl]; exact (List.getElem?_eq_some_iff.1 hk).1
    rw [List.getElem?_eq_getElem hi]
    exact (h.qu i k l[i] hk (List.getElem?_eq_getElem hi)).keep (Nat.le_refl _) (fun _ _ _ => rfl) (fun g hg _ => hg.1)
  rcases h.own.2 with ⟨rfl, h0⟩ | ⟨g, cap, cur, hv, hg, hgg, hn, hcm, _⟩
  · have hk0 : ks = [] := List.eq_nil_of_length_eq_zero (by omega)
    exact ⟨none, 0, by rw [hk0]; rfl, by rw [hk0]; simp, .inl hk0, hq⟩
  · subst hv
    refine ⟨_, cap, by rw [hl], ⟨by omega, by unfold maxLen at hcm; omega⟩, .inr ⟨g, rfl, hg, (h.own.lt g rfl).2, fun i hi => ?_⟩, hq⟩
    have hi' : i < l.length := by omega
    have := h.own.cells (g := g) rfl i (l[i].v) (by
      have := Lay.all_at qvL l i 0 (by decide)
      simp only [qvL, Nat.mul_one, Nat.add_zero] at this
      rw [show (Lay.all ⟨fun q => [q.v], 1, _, _⟩ l) = qvL.all l from rfl] at this
      rw [this, List.getElem?_eq_getElem hi']; rfl)
    rw [lay_add, Nat.zero_add] at this
    rw [List.getElem?_eq_getElem hi']
    exact this
end Go.Proofs.Ytdeknkfhlmkabaa
