/-
  Entries in memory: bytes, structs in blocks of their own, lists of entries.
-/
import Derived.Test.YtcmfnokpbgfioaaN1
import Derived.Test.YtcmfnokpbgfioaaLc
namespace Go.Proofs.Ytcmfnokpbgfioaa
set_option linter.unusedVariables false
set_option linter.unusedSimpArgs false
open Go.RowKit

theorem Try.infoU8 : (Try.prog.info? 5).map (fun i => (i.zero, i.size, i.bytes)) = some (some (.int .u8 0), 1, 1) := by kernel_rfl
def u8s (xs : List Int) : List Value := xs.map (Value.int .u8)
theorem u8s_length (xs : List Int) : (u8s xs).length = xs.length := by simp [u8s]
theorem u8s_one (xs : List Int) : ∀ u ∈ u8s xs, u.oneCell' = true := by
  intro u hu
  obtain ⟨x, _, rfl⟩ := List.mem_map.1 hu
  rfl
theorem u8s_app (xs ys : List Int) : u8s (xs ++ ys) = u8s xs ++ u8s ys := List.map_append
theorem add_block (p : Addr) (j : Nat) : (p.add j).block = p.block := by
  unfold Addr.add
  first | rfl | (split <;> rfl)
/-- A slice's bytes. -/
def Reads (w : World) (p : Addr) (xs : List Int) : Prop := ∀ j u, (u8s xs)[j]? = some u → w.cell? (p.add j) = some u
theorem Reads.at {w : World} {p : Addr} {xs : List Int} (h : Reads w p xs) {i : Nat} (hi : i < xs.length) : w.cell? (p.add i) = some (.int .u8 (xs.getD i 0)) :=
  h i _ (by simp [u8s, hi])
theorem Reads.keep {w w' : World} {p : Addr} {xs : List Int} (h : Reads w p xs) (hk : w'.heap[p.block]? = w.heap[p.block]?) : Reads w' p xs := fun j u hj => by
  rw [World.cell?_of_block (w := w) (w' := w') (a := p.add j) (by rw [add_block]; exact hk)]
  exact h j u hj
theorem Reads.take {w : World} {p : Addr} {ys : List Int} (h : Reads w p ys) (n : Nat) : Reads w p (ys.take n) := fun j u hj => by
  refine h j u ?_
  unfold u8s at hj ⊢
  rw [List.map_take, List.getElem?_take] at hj
  split at hj
  · exact hj
  · cases hj

/-- Bytes that nobody writes over: they lie in none of some blocks. -/
def Byt (w : World) (L : List Nat) (v : Value) (xs : List Int) : Prop :=
  ∃ a c, v = .slice a xs.length c ∧ xs.length ≤ c ∧ c ≤ 9223372036854775807 ∧ (xs = [] ∨ ∃ p : Addr, a = some p ∧ p.block ∉ L ∧ p.block < w.heap.size ∧ Reads w p xs)
theorem Byt.nil (w : World) (L : List Nat) : Byt w L (.slice none 0 0) [] := ⟨none, 0, rfl, Nat.le_refl _, by decide, .inl rfl⟩
theorem Byt.keep {w w' : World} {L L' : List Nat} {v : Value} {xs : List Int} (h : Byt w L v xs) (hs : w.heap.size ≤ w'.heap.size) (hk : ∀ k, k < w.heap.size → k ∉ L → w'.heap[k]? = w.heap[k]?) (hl : ∀ k ∈ L', k ∈ L ∨ w.heap.size ≤ k) : Byt w' L' v xs := by
  obtain ⟨a, c, hv, h1, h2, h⟩ := h
  refine ⟨a, c, hv, h1, h2, h.imp id ?_⟩
  rintro ⟨p, ha, hp, hlt, hr⟩
  refine ⟨p, ha, fun hm => ?_, Nat.lt_of_lt_of_le hlt hs, hr.keep (hk _ hlt hp)⟩
  rcases hl _ hm with h | h
  · exact hp h
  · omega
theorem Byt.below {w w' : World} {L : List Nat} {v : Value} {xs : List Int} (h : Byt w L v xs) (hb : Below w.heap.size w w') : Byt w' L v xs :=
  h.keep hb.size (fun k hk _ => hb.block k hk) (fun k hk => .inl hk)
theorem Byt.sub {w : World} {L L' : List Nat} {v : Value} {xs : List Int} (h : Byt w L v xs) (hl : ∀ k ∈ L', k ∈ L) : Byt w L' v xs :=
  h.keep (Nat.le_refl _) (fun _ _ _ => rfl) (fun k hk => .inl (hl k hk))
theorem Byt.slice {w : World} {L : List Nat} {v : Value} {xs : List Int} (h : Byt w L v xs) : ∃ a c, v = .slice a xs.length c ∧ xs.length ≤ c ∧ c ≤ 9223372036854775807 := by
  obtain ⟨a, c, hv, h1, h2, _⟩ := h
  exact ⟨a, c, hv, h1, h2⟩
theorem Byt.take {w : World} {L : List Nat} {a : Option Addr} {n c : Nat} {xs : List Int} (h : Byt w L (.slice a n c) xs) (k : Nat) (hk : k ≤ xs.length) : Byt w L (.slice a k k) (xs.take k) := by
  obtain ⟨a', c', hv, h1, h2, h⟩ := h
  simp only [Value.slice.injEq] at hv
  obtain ⟨rfl, rfl, rfl⟩ := hv
  have hl : (xs.take k).length = k := by simp; omega
  refine ⟨a, k, by rw [hl], by omega, by omega, ?_⟩
  rcases h with rfl | ⟨p, ha, hp, hlt, hr⟩
  · exact .inl (by simp)
  · exact .inr ⟨p, ha, hp, hlt, hr.take k⟩
theorem byt_row {w : World} {B n : Nat} {L : List Nat} {v : Value} {xs : List Int} (h : w.ownsRow B 5 1 v n (u8s xs)) (hn : n = xs.length) (hL : ∀ g, v.ownBlock = some g → g ∉ L) : Byt w L v xs := by
  subst hn
  rcases h.2 with ⟨rfl, h0⟩ | ⟨g, cap, cur, rfl, _, hg, hnc, hcm, _⟩
  · exact ⟨none, 0, by rw [h0], by omega, by decide, .inl (List.eq_nil_of_length_eq_zero h0)⟩
  · refine ⟨_, cap, rfl, hnc, by unfold maxLen at hcm; omega, .inr ⟨_, rfl, hL g rfl, ?_, h.cells (g := g) rfl⟩⟩
    by_cases e : g < w.heap.size
    · exact e
    · rw [Array.getElem?_eq_none (by omega)] at hg; cases hg

structure DC (w : World) (b : Nat) (cs : List Value) : Prop where
  cells : ∀ i v, cs[i]? = some v → w.cell? ⟨b, i, none⟩ = some v
  fz : ∀ i, w.frozen? ⟨b, i, none⟩ = false
  lt : b < w.heap.size
theorem DC.alloc (w : World) (cs : List Value) (t : TypeId) : DC (w.alloc (.cells cs.toArray t)) w.heap.size cs :=
  ⟨fun i v h => by rw [World.cell?_alloc_at _ _ _ _ rfl]; simpa using h, fun i => World.frozen?_alloc_at _ _ _ _ rfl, by simp⟩
theorem DC.keep {w w' : World} {b : Nat} {cs : List Value} (h : DC w b cs) (hs : w.heap.size ≤ w'.heap.size) (hk : w'.heap[b]? = w.heap[b]?) : DC w' b cs :=
  ⟨fun i v hv => (World.cell?_of_block (a := ⟨b, i, none⟩) hk).trans (h.cells i v hv), fun i => (World.frozen?_of_block (a := ⟨b, i, none⟩) hk).trans (h.fz i), Nat.lt_of_lt_of_le h.lt hs⟩
theorem DC.below {w w' : World} {b : Nat} {cs : List Value} (h : DC w b cs) (hb : Below w.heap.size w w') : DC w' b cs := h.keep hb.size (hb.block b h.lt)
theorem DC.set {w : World} {b : Nat} {cs : List Value} (h : DC w b cs) (i : Nat) (x : Value) (hi : i < cs.length) : DC (w.setCell ⟨b, i, none⟩ x) b (cs.set i x) := by
  refine ⟨fun j v hv => ?_, fun j => (World.frozen?_setCell _ _ _ _).trans (h.fz j), by simpa [World.setCell] using h.lt⟩
  by_cases e : i = j
  · subst e
    rw [List.getElem?_set_self hi] at hv
    obtain rfl := Option.some.inj hv
    exact World.cell?_setCell_same _ _ _ (h.cells i _ (List.getElem?_eq_getElem hi))
  · rw [List.getElem?_set_ne e] at hv
    exact (World.cell?_setCell_other _ _ _ _ (by simp [Ne.symm e])).trans (h.cells j v hv)
theorem DC.other {w : World} {b k o : Nat} {x : Value} {cs : List Value} (h : DC w b cs) (hk : b ≠ k) : DC (w.setCell ⟨k, o, none⟩ x) b cs :=
  h.keep (by simp [World.setCell]) (Below.heap_setCell _ _ _ _ hk)

theorem DC.grown {w w' : World} {b nb : Nat} {cs : List Value} (h : DC w b cs) (hg : w.grownBy w' (some nb)) (hn : b ≠ nb) : DC w' b cs := h.keep hg.size (hg.block b h.lt (by simpa using hn))
theorem Lay.In.drop {α : Type} {I : Lay α} {w : World} {a : Option Addr} {n c : Nat} {l : List α} (h : I.In w (.slice a n c) l) (k : Nat) (hk : k ≤ n) : I.In w (.slice (if c = k then a else a.map (fun p => p.add (k * I.sz))) (n - k) (c - k)) (l.drop k) := by
  obtain ⟨a', c', hv, h1, h2, h⟩ := h
  simp only [Value.slice.injEq] at hv
  obtain ⟨rfl, rfl, rfl⟩ := hv
  refine ⟨_, _, by rw [List.length_drop], by rw [List.length_drop]; omega, by omega, ?_⟩
  rcases h with rfl | ⟨g', off', rfl, hg, h⟩
  · exact .inl (by simp)
  · by_cases e : l.length = k
    · exact .inl (by rw [← e]; simp)
    · rw [if_neg (by omega)]
      refine .inr ⟨g', off' + k * I.sz, by simp [lay_add], hg, fun i x hx j v hv => ?_⟩
      rw [List.getElem?_drop] at hx
      have := h (k + i) x hx j v hv
      rw [← this]; congr 2; rw [Nat.add_mul]; omega
/-- Entries in memory, with their bytes. -/
def EIn (w : World) (v : Value) (es : List Er) : Prop := ∃ ls : List En, enL.In w v ls ∧ ls.length = es.length ∧ ∀ (k : Nat) (x : En) (e : Er), ls[k]? = some x → es[k]? = some e → x.i = e.i ∧ x.t = e.t ∧ Byt w [] x.s.v e.d
theorem EIn.later {w w' : World} {v : Value} {es : List Er} (h : EIn w v es) (hb : Below w.heap.size w w') : EIn w' v es := by
  obtain ⟨ls, h1, h2, h3⟩ := h
  exact ⟨ls, h1.later hb, h2, fun k x e hx he => ⟨(h3 k x e hx he).1, (h3 k x e hx he).2.1, (h3 k x e hx he).2.2.below hb⟩⟩
theorem EIn.nil (w : World) : EIn w (.slice none 0 0) [] := ⟨[], Lay.In.nil w, rfl, fun k x e hx => by simp at hx⟩
theorem EIn.slice {w : World} {v : Value} {es : List Er} (h : EIn w v es) : ∃ a c, v = .slice a es.length c ∧ es.length ≤ c ∧ c ≤ 9223372036854775807 := by
  obtain ⟨ls, h1, h2, _⟩ := h
  rw [← h2]; exact h1.slice
theorem EIn.take {w : World} {a : Option Addr} {n c : Nat} {es : List Er} (h : EIn w (.slice a n c) es) (k : Nat) (hk : k ≤ n) : EIn w (.slice a k c) (es.take k) := by
  obtain ⟨ls, h1, h2, h3⟩ := h
  refine ⟨ls.take k, h1.take k hk, by simp [h2], fun j x e hx he => ?_⟩
  rw [List.getElem?_take] at hx he
  split at hx
  · rename_i hj; rw [if_pos hj] at he; exact h3 j x e hx he
  · cases hx
theorem EIn.drop {w : World} {a : Option Addr} {n c : Nat} {es : List Er} (h : EIn w (.slice a n c) es) (k : Nat) (hk : k ≤ n) : EIn w (.slice (if c = k then a else a.map (fun p => p.add (k * 3))) (n - k) (c - k)) (es.drop k) := by
  obtain ⟨ls, h1, h2, h3⟩ := h
  refine ⟨ls.drop k, h1.drop k hk, by simp [h2], fun j x e hx he => ?_⟩
  rw [List.getElem?_drop] at hx he
  exact h3 (k + j) x e hx he
/-- An entry's cells. -/
theorem EIn.at {w : World} {a : Option Addr} {n c k : Nat} {es : List Er} (h : EIn w (.slice a n c) es) {e : Er} (he : es[k]? = some e) :
    ∃ g off p c', a = some ⟨g, off, none⟩ ∧ w.cell? ⟨g, off + k * 3, none⟩ = some (.int .i64 e.i) ∧ w.cell? ⟨g, off + k * 3 + 1, none⟩ = some (.int .i64 e.t) ∧ w.cell? ⟨g, off + k * 3 + 2, none⟩ = some (.slice p e.d.length c') ∧ Byt w [] (.slice p e.d.length c') e.d := by
  obtain ⟨ls, h1, h2, h3⟩ := h
  have hk : k < ls.length := by rw [h2]; exact (List.getElem?_eq_some_iff.1 he).1
  have hx : ls[k]? = some ls[k] := List.getElem?_eq_getElem hk
  obtain ⟨e1, e2, e3⟩ := h3 k _ e hx he
  generalize ls[k] = x at *
  obtain ⟨xi, xt, p, n', c'⟩ := x
  obtain ⟨g, off, ha, d0, d1, d2⟩ := en_at h1 hx
  have hn : n' = e.d.length := by
    obtain ⟨a', c2, hv, _⟩ := e3.slice
    simp only [Sl.v, Value.slice.injEq] at hv
    exact hv.2.1
  subst hn
  simp only at e1 e2
  subst e1 e2
  exact ⟨g, off, p, c', ha, d0, d1, d2, e3⟩
theorem match_goR : ∀ {ls : List En} {es : List Er} {i t : Int}, ls.length = es.length → (∀ (k : Nat) (x : En) (e : Er), ls[k]? = some x → es[k]? = some e → x.i = e.i ∧ x.t = e.t ∧ x.s.2.1 = e.d.length) → goB i t ls = goR i t es
  | [], [], _, _, _, _ => rfl
  | x :: ls, e :: es, i, t, hl, h => by
    obtain ⟨h1, h2, h3⟩ := h 0 x e rfl rfl
    show (okE i t x && goB x.i x.t ls) = (okR i t e && goR e.i e.t es)
    rw [match_goR (i := x.i) (t := x.t) (by simpa using hl) (fun k y f hy hf => h (k + 1) y f (by rw [List.getElem?_cons_succ]; exact hy) (by rw [List.getElem?_cons_succ]; exact hf))]
    unfold okE okR
    rw [h1, h2, h3]
  | [], _ :: _, _, _, hl, _ => by simp at hl
  | _ :: _, [], _, _, hl, _ => by simp at hl
theorem inM_same (n : Int) : inM n = inM' n := rfl
/-- rows.goOn, with the entries told. -/
def goOnR (i t : Int) (es : List Er) : Bool := (decide (es.length = 0) || inM' i) && goR i t es
theorem goOn_ein {w : World} {v : Value} {es : List Er} (h : EIn w v es) (i t : Int) : Calls Try.prog 49 #[.int .i64 i, .int .i64 t, v] w (BoolP (goOnR i t es) w) := by
  obtain ⟨ls, h1, h2, h3⟩ := h
  have := goOn_any h1 i t
  have e : goOnB i t ls = goOnR i t es := by
    unfold goOnB goOnR
    rw [h2, match_goR h2 (fun k x e hx he => ?_)]
    · rfl
    · obtain ⟨e1, e2, e3⟩ := h3 k x e hx he
      refine ⟨e1, e2, ?_⟩
      obtain ⟨a', c2, hv, _⟩ := e3.slice
      obtain ⟨xi, xt, p, n', c'⟩ := x
      simp only [Sl.v, Value.slice.injEq] at hv
      exact hv.2.1
  rw [e] at this
  exact this
theorem goOnR_log {i t : Int} {es : List Er} (h : inM' i = true) : goOnR i t es = goR i t es := by unfold goOnR; rw [h]; simp
end Go.Proofs.Ytcmfnokpbgfioaa
