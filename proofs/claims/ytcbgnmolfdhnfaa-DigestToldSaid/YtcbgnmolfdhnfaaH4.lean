/-
  A part that is being built, in memory.
-/
import Derived.Test.YtcbgnmolfdhnfaaH3
namespace Go.Proofs.Ytcbgnmolfdhnfaa
set_option linter.unusedVariables false
set_option linter.unusedSimpArgs false
open Go.RowKit

def ptrL : Lay (Option Addr) := ⟨fun q => [.pointer q], 1, fun _ => rfl, by intro q u hu; simp at hu; rw [hu]; rfl⟩
theorem Try.infoPart : (Try.prog.info? 79).map (fun i => (i.zero, i.size, i.bytes)) = some (some (.pointer none), 1, 8) := by kernel_rfl
theorem krow_at {w : World} {B g n c m : Nat} {ks : List (Option Addr)} (h : w.ownsRow B 79 1 (.slice (some ⟨g, 0, none⟩) n c) m (ptrL.all ks)) {i : Nat} {r : Option Addr} (hr : ks[i]? = some r) : w.cell? ⟨g, i, none⟩ = some (.pointer r) := by
  have := h.cells (g := g) rfl i (.pointer r) (by
    have := Lay.all_at ptrL ks i 0 (by decide)
    rw [hr] at this
    have e : ptrL.sz = 1 := rfl
    rw [e, Nat.mul_one, Nat.add_zero] at this
    rw [this]; rfl)
  rw [lay_add, Nat.zero_add] at this
  exact this
theorem row_kind {w : World} {B size n : Nat} {E : TypeId} {v : Value} {xs : List Value} (h : w.ownsRow B E size v n xs) {k : Nat} (hk : v.ownBlock = some k) : ∃ cur, w.heap[k]? = some (.cells cur E (0, 0)) := by
  rcases h.2 with ⟨rfl, _⟩ | ⟨g, cap, cur, rfl, _, hg, _⟩
  · cases hk
  · cases hk; exact ⟨cur, hg⟩
theorem row_below {w w' : World} {B size n : Nat} {E : TypeId} {v : Value} {xs : List Value} (h : w.ownsRow B E size v n xs) (hb : Below w.heap.size w w') : w'.ownsRow B E size v n xs :=
  h.kept (row := none) ⟨hb.os, hb.tape, hb.output, hb.size, fun k hk _ => hb.block k hk⟩ (by cases v.ownBlock <;> simp)
/-- Where the blocks of what is built lie. -/
def Away (N g : Nat) (kv u : Value) (k : Nat) : Prop := (k = g ∨ N + 4 ≤ k) ∧ kv.ownBlock ≠ some k ∧ u.ownBlock ≠ some k
structure Bd (s : Sd) (w wr : World) (N g n i ib : Nat) (S : List Pl) (av u kv : Value) (ks : List (Option Addr)) (off c : Nat) : Prop where
  bel : Below N w wr
  sz : N + 4 ≤ wr.heap.size
  k0 : wr.cell? ⟨N, 0, none⟩ = some (.int .u64 s.a)
  k1 : wr.cell? ⟨N, 1, none⟩ = some (.int .u64 s.b)
  ta : wr.cell? ⟨N + 1, 0, none⟩ = some (.slice (some ⟨g, off, none⟩) (rst n i S).length c)
  tz : ∀ j, wr.frozen? ⟨N + 1, j, none⟩ = false
  cc : (rst n i S).length ≤ c ∧ c ≤ 9223372036854775807
  pr : PairsAt wr g off (rst n i S)
  td : wr.cell? ⟨N + 2, 0, none⟩ = some (.int .i64 (3 - (n : Int)))
  p0 : wr.cell? ⟨N + 3, 0, none⟩ = some (.int .u64 0)
  p1 : wr.cell? ⟨N + 3, 1, none⟩ = some av
  p2 : wr.cell? ⟨N + 3, 2, none⟩ = some kv
  pz : ∀ j, wr.frozen? ⟨N + 3, j, none⟩ = false
  kr : wr.ownsRow (N + 4) 79 1 kv i (ptrL.all ks)
  kl : ks.length = i
  kd : ∀ j r, ks[j]? = some r → PtIn s wr (Away N g kv u) n r (sub n j S)
  br : wr.ownsRow (N + 4) 5 1 u (s.kidB n ib S).length (u8v (s.kidB n ib S))
  wN : w.heap.size = N
  gl : g < N
variable {s : Sd} {w wr : World} {N g n i ib : Nat} {S : List Pl} {av u kv : Value} {ks : List (Option Addr)} {off c : Nat}
theorem Bd.below {w' : World} (h : Bd s w wr N g n i ib S av u kv ks off c) (hb : Below wr.heap.size wr w') : Bd s w w' N g n i ib S av u kv ks off c where
  bel := h.bel.trans (hb.mono (by have := h.sz; omega))
  sz := Nat.le_trans h.sz hb.size
  k0 := cell_later hb h.k0
  k1 := cell_later hb h.k1
  ta := cell_later hb h.ta
  tz := fun j => (hb.frozen (p := ⟨N + 1, j, none⟩) (by have := h.sz; show N + 1 < _; omega)).trans (h.tz j)
  cc := h.cc
  pr := h.pr.later hb
  td := cell_later hb h.td
  p0 := cell_later hb h.p0
  p1 := cell_later hb h.p1
  p2 := cell_later hb h.p2
  pz := fun j => (hb.frozen (p := ⟨N + 3, j, none⟩) (by have := h.sz; show N + 3 < _; omega)).trans (h.pz j)
  kr := row_below h.kr hb
  kl := h.kl
  kd := fun j r hr => (h.kd j r hr).later hb
  br := row_below h.br hb
  wN := h.wN
  gl := h.gl
theorem Bd.apart (h : Bd s w wr N g n i ib S av u kv ks off c) : ∀ k, kv.ownBlock = some k → u.ownBlock ≠ some k := fun k hk e => by
  obtain ⟨c1, h1⟩ := row_kind h.kr hk
  obtain ⟨c2, h2⟩ := row_kind h.br e
  rw [h1] at h2
  simp at h2
/-- The new part's blocks are away from what is written. -/
theorem Bd.away {r : Option Addr} {T : List Pl} {w' : World} (h : Bd s w wr N g n i ib S av u kv ks off c) (hp : PtIn s w' (fun k => k = g ∨ wr.heap.size ≤ k) n r T) : PtIn s w' (Away N g kv u) n r T :=
  hp.keep fun k hk hl => ⟨⟨hk.imp id (fun e => Nat.le_trans h.sz e), fun e => by
    have h1 := h.kr.lt k e
    have := h.gl
    rcases hk with rfl | hk <;> omega, fun e => by
    have h1 := h.br.lt k e
    have := h.gl
    rcases hk with rfl | hk <;> omega⟩, rfl⟩
/-- Two cells written, in either order. -/
structure T2 (w4 W : World) (N : Nat) (a k : Value) : Prop where
  os : W.os = w4.os
  tape : W.tape = w4.tape
  output : W.output = w4.output
  size : W.heap.size = w4.heap.size
  block : ∀ j, j ≠ N + 1 → j ≠ N + 3 → W.heap[j]? = w4.heap[j]?
  a : W.cell? ⟨N + 1, 0, none⟩ = some a
  k : W.cell? ⟨N + 3, 2, none⟩ = some k
  p : ∀ j, j ≠ 2 → W.cell? ⟨N + 3, j, none⟩ = w4.cell? ⟨N + 3, j, none⟩
  z : ∀ q, W.frozen? q = w4.frozen? q
theorem t2_ak {w4 : World} {N : Nat} {a k a0 k0 : Value} (ha : w4.cell? ⟨N + 1, 0, none⟩ = some a0) (hk : w4.cell? ⟨N + 3, 2, none⟩ = some k0) : T2 w4 ((w4.setCell ⟨N + 1, 0, none⟩ a).setCell ⟨N + 3, 2, none⟩ k) N a k :=
  ⟨rfl, rfl, rfl, by simp [World.setCell], fun j h1 h2 => by rw [heap_setCell_other _ _ _ _ h2, heap_setCell_other _ _ _ _ h1],
   (World.cell?_setCell_other _ _ _ _ (by simp)).trans (World.cell?_setCell_same _ _ _ ha), World.cell?_setCell_same _ _ _ ((World.cell?_setCell_other _ _ _ _ (by simp)).trans hk),
   fun j hj => (World.cell?_setCell_other _ _ _ _ (by simp [Ne.symm hj])).trans (World.cell?_setCell_other _ _ _ _ (by simp)), fun q => (World.frozen?_setCell _ _ _ _).trans (World.frozen?_setCell _ _ _ _)⟩
theorem t2_ka {w4 : World} {N : Nat} {a k a0 k0 : Value} (ha : w4.cell? ⟨N + 1, 0, none⟩ = some a0) (hk : w4.cell? ⟨N + 3, 2, none⟩ = some k0) : T2 w4 ((w4.setCell ⟨N + 3, 2, none⟩ k).setCell ⟨N + 1, 0, none⟩ a) N a k :=
  ⟨rfl, rfl, rfl, by simp [World.setCell], fun j h1 h2 => by rw [heap_setCell_other _ _ _ _ h1, heap_setCell_other _ _ _ _ h2],
   World.cell?_setCell_same _ _ _ ((World.cell?_setCell_other _ _ _ _ (by simp)).trans ha), (World.cell?_setCell_other _ _ _ _ (by simp)).trans (World.cell?_setCell_same _ _ _ hk),
   fun j hj => (World.cell?_setCell_other _ _ _ _ (by simp)).trans (World.cell?_setCell_other _ _ _ _ (by simp [Ne.symm hj])), fun q => (World.frozen?_setCell _ _ _ _).trans (World.frozen?_setCell _ _ _ _)⟩
/-- One kid more. -/
theorem Bd.push {w4 W : World} {r : Option Addr} {g4 c4 off' c' : Nat} (h : Bd s w wr N g n i ib S av u kv ks off c) (hr : PtIn s wr (Away N g kv u) n r (sub n i S))
    (hown : w4.ownsRow (N + 4) 79 1 (.slice (some ⟨g4, 0, none⟩) (i + 1) c4) (i + 1) (ptrL.all ks ++ [.pointer r])) (hgr : wr.grownBy w4 kv.ownBlock) (hat : kv.ownBlock = some g4 ∨ wr.heap.size ≤ g4)
    (ht : T2 w4 W N (.slice (some ⟨g, off', none⟩) (rst n (i + 1) S).length c') (.slice (some ⟨g4, 0, none⟩) (i + 1) c4)) (hc : (rst n (i + 1) S).length ≤ c' ∧ c' ≤ 9223372036854775807) (hp : PairsAt wr g off' (rst n (i + 1) S)) :
    Bd s w W N g n (i + 1) ib S av u (.slice (some ⟨g4, 0, none⟩) (i + 1) c4) (ks ++ [r]) off' c' := by
  have hgl := h.gl
  have hwN := h.wN
  have hsz := h.sz
  have hkv : ∀ k, k < N + 4 → some k ≠ kv.ownBlock := fun k hk e => by have := (h.kr.lt k e.symm).1; omega
  have hsame : ∀ k, k < N + 4 → w4.heap[k]? = wr.heap[k]? := fun k hk => hgr.block k (by omega) (hkv k hk)
  have hcell : ∀ k j, k < N + 4 → w4.cell? ⟨k, j, none⟩ = wr.cell? ⟨k, j, none⟩ := fun k j hk => World.cell?_of_block (a := ⟨k, j, none⟩) (hsame k hk)
  have hfz : ∀ k j, k < N + 4 → w4.frozen? ⟨k, j, none⟩ = wr.frozen? ⟨k, j, none⟩ := fun k j hk => World.frozen?_of_block (a := ⟨k, j, none⟩) (hsame k hk)
  have hWc : ∀ k j, k < N + 4 → k ≠ N + 1 → k ≠ N + 3 → W.cell? ⟨k, j, none⟩ = wr.cell? ⟨k, j, none⟩ := fun k j hk h1 h3 => (World.cell?_of_block (a := ⟨k, j, none⟩) (ht.block k h1 h3)).trans (hcell k j hk)
  have hg4 : N + 4 ≤ g4 := by
    rcases hat with e | e
    · exact (h.kr.lt g4 e).1
    · omega
  have hne4 : ∀ k, k < wr.heap.size → kv.ownBlock ≠ some k → k ≠ g4 := fun k hl h2 e => by
    subst e
    rcases hat with e | e
    · exact h2 e
    · omega
  have hkeep : ∀ k, Away N g kv u k → k < wr.heap.size → Away N g (.slice (some ⟨g4, 0, none⟩) (i + 1) c4) u k ∧ W.heap[k]? = wr.heap[k]? := fun k hk hl => by
    obtain ⟨h1, h2, h3⟩ := hk
    have hne := hne4 k hl h2
    refine ⟨⟨h1, fun e => hne (Option.some.inj e).symm, h3⟩, ?_⟩
    rw [ht.block k (by rcases h1 with rfl | h1 <;> omega) (by rcases h1 with rfl | h1 <;> omega)]
    exact hgr.block k hl (fun e => h2 e.symm)
  have hgW : ∀ k, k < N + 4 → k ≠ N + 1 → k ≠ N + 3 → W.heap[k]? = wr.heap[k]? := fun k hk h1 h3 => (ht.block k h1 h3).trans (hsame k hk)
  exact {
    bel := h.bel.trans ⟨ht.os.trans hgr.os, ht.tape.trans hgr.tape, ht.output.trans hgr.output, by rw [ht.size]; exact hgr.size, fun k hk => hgW k (by omega) (by omega) (by omega)⟩
    sz := by rw [ht.size]; exact Nat.le_trans hsz hgr.size
    k0 := (hWc N 0 (by omega) (by omega) (by omega)).trans h.k0
    k1 := (hWc N 1 (by omega) (by omega) (by omega)).trans h.k1
    ta := ht.a
    tz := fun j => (ht.z _).trans ((hfz _ _ (by omega)).trans (h.tz j))
    cc := hc
    pr := hp.block (hgW g (by omega) (by omega) (by omega))
    td := (hWc (N + 2) 0 (by omega) (by omega) (by omega)).trans h.td
    p0 := (ht.p 0 (by decide)).trans ((hcell _ _ (by omega)).trans h.p0)
    p1 := (ht.p 1 (by decide)).trans ((hcell _ _ (by omega)).trans h.p1)
    p2 := ht.k
    pz := fun j => (ht.z _).trans ((hfz _ _ (by omega)).trans (h.pz j))
    kr := by
      rw [Lay.all_app, Lay.all_one]
      rcases hown.2 with ⟨h0, _⟩ | ⟨gg, cap, cur, hv, hb, hh, rest⟩
      · cases h0
      · refine ⟨hown.1, .inr ⟨gg, cap, cur, hv, hb, ?_, rest⟩⟩
        rw [ht.block gg (by omega) (by omega)]; exact hh
    kl := by rw [List.length_append, h.kl]; rfl
    kd := fun j q hq => by
      rw [List.getElem?_append] at hq
      split at hq
      · exact (h.kd j q hq).keep hkeep
      · rename_i hj
        have hlt := (List.getElem?_eq_some_iff.1 hq).1
        have hkl := h.kl
        simp only [List.length_cons, List.length_nil] at hlt
        have hjl : j = i := by omega
        subst hjl
        rw [hkl, Nat.sub_self] at hq
        cases hq
        exact hr.keep hkeep
    br := by
      rcases h.br.2 with ⟨h0, h1⟩ | ⟨gg, cap, cur, hv, hb, hh, rest⟩
      · exact ⟨h.br.1, .inl ⟨h0, h1⟩⟩
      · refine ⟨h.br.1, .inr ⟨gg, cap, cur, hv, hb, ?_, rest⟩⟩
        have hgu : u.ownBlock = some gg := by rw [hv]; rfl
        have hlu := (h.br.lt gg hgu).2
        rw [ht.block gg (by omega) (by omega), hgr.block gg hlu (fun e => h.apart gg e.symm hgu)]
        exact hh
    wN := hwN
    gl := hgl }
/-- Its digest put behind the bytes. -/
theorem Bd.add {w' : World} {g5 c5 : Nat} (h : Bd s w wr N g n i ib S av u kv ks off c)
    (hown : w'.ownsRow (N + 4) 5 1 (.slice (some ⟨g5, 0, none⟩) (s.kidB n (ib + 1) S).length c5) (s.kidB n (ib + 1) S).length (u8v (s.kidB n (ib + 1) S))) (hgr : wr.grownBy w' u.ownBlock) (hat : u.ownBlock = some g5 ∨ wr.heap.size ≤ g5) :
    Bd s w w' N g n i (ib + 1) S av (.slice (some ⟨g5, 0, none⟩) (s.kidB n (ib + 1) S).length c5) kv ks off c := by
  have hsz := h.sz
  have hgl := h.gl
  have hu : ∀ k, k < N + 4 → some k ≠ u.ownBlock := fun k hk e => by have := (h.br.lt k e.symm).1; omega
  have hsame : ∀ k, k < N + 4 → w'.heap[k]? = wr.heap[k]? := fun k hk => hgr.block k (by omega) (hu k hk)
  have hcell : ∀ k j, k < N + 4 → w'.cell? ⟨k, j, none⟩ = wr.cell? ⟨k, j, none⟩ := fun k j hk => World.cell?_of_block (a := ⟨k, j, none⟩) (hsame k hk)
  have hfz : ∀ k j, k < N + 4 → w'.frozen? ⟨k, j, none⟩ = wr.frozen? ⟨k, j, none⟩ := fun k j hk => World.frozen?_of_block (a := ⟨k, j, none⟩) (hsame k hk)
  have hkeep : ∀ k, Away N g kv u k → k < wr.heap.size → Away N g kv (.slice (some ⟨g5, 0, none⟩) (s.kidB n (ib + 1) S).length c5) k ∧ w'.heap[k]? = wr.heap[k]? := fun k hk hl => by
    obtain ⟨h1, h2, h3⟩ := hk
    refine ⟨⟨h1, h2, fun e => ?_⟩, hgr.block k hl (fun e => h3 e.symm)⟩
    have e := Option.some.inj e
    subst e
    rcases hat with e | e
    · exact h3 e
    · exact absurd hl (Nat.not_lt.2 e)
  exact {
    bel := h.bel.trans ⟨hgr.os, hgr.tape, hgr.output, hgr.size, fun k hk => hsame k (by omega)⟩
    sz := Nat.le_trans hsz hgr.size
    k0 := (hcell N 0 (by omega)).trans h.k0
    k1 := (hcell N 1 (by omega)).trans h.k1
    ta := (hcell _ _ (by omega)).trans h.ta
    tz := fun j => (hfz _ _ (by omega)).trans (h.tz j)
    cc := h.cc
    pr := h.pr.block (hsame g (by omega))
    td := (hcell _ _ (by omega)).trans h.td
    p0 := (hcell _ _ (by omega)).trans h.p0
    p1 := (hcell _ _ (by omega)).trans h.p1
    p2 := (hcell _ _ (by omega)).trans h.p2
    pz := fun j => (hfz _ _ (by omega)).trans (h.pz j)
    kr := h.kr.kept hgr (by
      cases hk : kv.ownBlock with
      | none => exact .inl rfl
      | some k => exact .inr (fun e => h.apart k hk e.symm))
    kl := h.kl
    kd := fun j q hq => (h.kd j q hq).keep hkeep
    br := hown
    wN := h.wN
    gl := hgl }
end Go.Proofs.Ytcbgnmolfdhnfaa
