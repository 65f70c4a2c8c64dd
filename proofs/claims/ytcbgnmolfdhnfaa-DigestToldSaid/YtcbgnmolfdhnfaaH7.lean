/-
  A tree of digests, made.
-/
import Derived.Test.YtcbgnmolfdhnfaaH5
namespace Go.Proofs.Ytcbgnmolfdhnfaa
set_option linter.unusedVariables false
set_option linter.unusedSimpArgs false
open Go.RowKit

theorem lasts_sublist (S : List Pl) : ∀ i, (lasts S i).Sublist (S.take i)
  | 0 => by simp [lasts]
  | i + 1 => by
    have ih := lasts_sublist S i
    rw [lasts, List.take_add_one]
    refine ih.append ?_
    cases h : S[i]? with
    | none => simp
    | some p => simp only [Option.toList_some]; split
                · exact List.Sublist.refl _
                · exact List.nil_sublist _
theorem isort_mem {xs : List Pl} {p : Pl} (h : p ∈ isort xs) : p ∈ xs := by
  have h1 := mem_kf h
  rw [isort_kf] at h1
  exact mem_of_kf h1
theorem Sd.place_mem {s : Sd} {l : List Pr} {p : Pl} (h : p ∈ s.place l) : ∃ q ∈ l, p = s.mk' q := by
  have h1 := (lasts_sublist _ _).subset h
  have h2 := isort_mem (List.mem_of_mem_take h1)
  obtain ⟨q, hq, rfl⟩ := List.mem_map.1 h2
  exact ⟨q, hq, rfl⟩
theorem Sd.place_low {s : Sd} (hs : s.Ok) (l : List Pr) : Low (s.place l) := fun p hp => by
  obtain ⟨q, _, rfl⟩ := Sd.place_mem hp
  have := Sd.at_lt hs q.1
  show s.at q.1 / 281474976710656 < 65536
  omega
theorem Sd.place_slim {s : Sd} {l : List Pr} (h : Slim l) : SlimP (s.place l) := fun p hp => by
  obtain ⟨q, hq, rfl⟩ := Sd.place_mem hp
  exact h q hq
theorem Sd.place_mon {s : Sd} (hs : s.Ok) (l : List Pr) : Mon 4 (s.place l) := by
  have h := (isort_sortedW (l.map s.mk')).sublist ((lasts_sublist _ l.length).trans (List.take_sublist _ _))
  have hl := s.place_low hs l
  unfold Mon
  refine List.Pairwise.imp_of_mem ?_ h
  intro p q hp hq hpq
  have h1 := hl p hp
  have h2 := hl q hq
  have e : (16 : Nat) ^ 4 = 65536 := by decide
  rw [e, Nat.mod_eq_of_lt h1, Nat.mod_eq_of_lt h2]
  by_cases hlt : q.1.1 < p.1.1
  · simp [plt, hlt] at hpq
  · omega
theorem Sd.place_len (s : Sd) (l : List Pr) : (s.place l).length ≤ l.length := lasts_len _ _
/-- A tree in memory. -/
structure TrIn (s : Sd) (w : World) (tb : Nat) (S : List Pl) : Prop where
  a : w.cell? ⟨tb, 0, none⟩ = some (.int .u64 s.a)
  b : w.cell? ⟨tb, 1, none⟩ = some (.int .u64 s.b)
  q : ∃ q, w.cell? ⟨tb, 2, none⟩ = some (.pointer q) ∧ PtIn s w (fun _ => True) 4 q S
  m : w.cell? ⟨tb, 3, none⟩ = some (.bool true)
/-- The same, of which it is known that it lies at B and above. -/
structure TrAt (s : Sd) (w : World) (B tb : Nat) (S : List Pl) : Prop where
  a : w.cell? ⟨tb, 0, none⟩ = some (.int .u64 s.a)
  b : w.cell? ⟨tb, 1, none⟩ = some (.int .u64 s.b)
  q : ∃ q, w.cell? ⟨tb, 2, none⟩ = some (.pointer q) ∧ PtIn s w (fun k => B ≤ k) 4 q S
  m : w.cell? ⟨tb, 3, none⟩ = some (.bool true)
  lo : B ≤ tb
theorem TrAt.tr {s : Sd} {w : World} {B tb : Nat} {S : List Pl} (h : TrAt s w B tb S) : TrIn s w tb S := by
  obtain ⟨q, hq, hp⟩ := h.q
  exact ⟨h.a, h.b, ⟨q, hq, hp.keep fun _ _ _ => ⟨trivial, rfl⟩⟩, h.m⟩
/-- What is done below B leaves it. -/
theorem TrAt.keep {s : Sd} {w w' : World} {B tb : Nat} {S : List Pl} (h : TrAt s w B tb S) (hb : ∀ k, B ≤ k → k < w.heap.size → w'.heap[k]? = w.heap[k]?) : TrAt s w' B tb S := by
  obtain ⟨q, hq, hp⟩ := h.q
  have hl := World.block_lt_of_cell? w _ hq
  have e := hb tb h.lo hl
  exact ⟨(World.cell?_of_block (a := ⟨tb, 0, none⟩) e).trans h.a, (World.cell?_of_block (a := ⟨tb, 1, none⟩) e).trans h.b, ⟨q, (World.cell?_of_block (a := ⟨tb, 2, none⟩) e).trans hq, hp.keep fun k hk hk2 => ⟨hk, hb k hk hk2⟩⟩, (World.cell?_of_block (a := ⟨tb, 3, none⟩) e).trans h.m, h.lo⟩
theorem TrAt.later {s : Sd} {w w' : World} {B tb : Nat} {S : List Pl} (h : TrAt s w B tb S) (hb : Below w.heap.size w w') : TrAt s w' B tb S := h.keep fun k _ hk => hb.block k hk
theorem TrAt.set {s : Sd} {w : World} {B tb g o : Nat} {v : Value} {S : List Pl} (h : TrAt s w B tb S) (hg : g < B) : TrAt s (w.setCell ⟨g, o, none⟩ v) B tb S := h.keep fun k hk _ => heap_setCell_other _ _ _ _ (by show k ≠ g; omega)
theorem TrIn.later {s : Sd} {w w' : World} {tb : Nat} {S : List Pl} (h : TrIn s w tb S) (hb : Below w.heap.size w w') : TrIn s w' tb S := by
  obtain ⟨q, hq, hp⟩ := h.q
  exact ⟨cell_later hb h.a, cell_later hb h.b, ⟨q, cell_later hb hq, hp.later hb⟩, cell_later hb h.m⟩
def MadeT (s : Sd) (S : List Pl) (w : World) (e : Ending) (w' : World) : Prop := ∃ tb, e = .returned (.pointer (some ⟨tb, 0, none⟩)) ∧ TrIn s w' tb S ∧ Below w.heap.size w w'
def MadeA (s : Sd) (S : List Pl) (w : World) (e : Ending) (w' : World) : Prop := ∃ tb, e = .returned (.pointer (some ⟨tb, 0, none⟩)) ∧ TrAt s w' w.heap.size tb S ∧ Below w.heap.size w w'
theorem PtIn.any {s : Sd} {w : World} {A : Nat → Prop} {n : Nat} {q : Option Addr} {S : List Pl} (h : PtIn s w A n q S) : PtIn s w (fun _ => True) n q S := h.keep fun _ _ _ => ⟨trivial, rfl⟩

theorem build_placed {s : Sd} (hs : s.Ok) (HBk : BuildOk s 4) {w : World} {B : Nat} {v : Value} {l : List Pr} (h : plL.In w v (s.place l)) (hv : LowV B v) (hB : B ≤ w.heap.size) (hl : l.length ≤ 100000) (hsl : Slim l) :
    Calls Try.prog 48 #[.agg #[.int .u64 s.a, .int .u64 s.b], v, .int .i64 0] w fun e w' => ∃ q, e = .returned (.pointer q) ∧ PtIn s w' (fun k => B ≤ k) 4 q (s.place l) ∧ Below w.heap.size w w' := by
  obtain ⟨a, c, rfl, h1, h2, h3⟩ := h
  have hln := s.place_len l
  by_cases hS : s.place l = []
  · rw [hS]
    exact (build_none (s := s) w 4 a c w.heap.size 0).mono fun e w' ⟨q, he, hp, hb⟩ => ⟨q, he, hp.keep fun k hk _ => ⟨by omega, rfl⟩, hb⟩
  · obtain ⟨g, off, rfl, hg, hat⟩ := h3.resolve_left hS
    have hp : PairsAt w g off (s.place l) := fun i p hp => ⟨hat i p hp 0 _ rfl, hat i p hp 1 _ rfl, hat i p hp 2 _ rfl⟩
    have hgB := hv g off _ c rfl
    exact (HBk w g off c (s.place l) 0 (by decide) hg hp h1 h2 (s.place_mon hs l) (s.place_low hs l) (Sd.place_slim hsl) (by omega)).mono fun e w' ⟨q, he, hp, hb⟩ => ⟨q, he, hp.keep fun k hk _ => ⟨by omega, rfl⟩, hb⟩

set_option maxRecDepth 100000 in
set_option maxHeartbeats 3200000 in
theorem Of_at {s : Sd} (hs : s.Ok) (HBk : BuildOk s 4) {w : World} {v : Value} {l : List Pr} (h : prL.In w v l) (hl : l.length ≤ 100000) (hsl : Slim l) :
    Calls Try.prog 21 #[.agg #[.int .u64 s.a, .int .u64 s.b], v] w (MadeA s (s.place l) w) := by
  have HIn := Lib.hid h
  obtain ⟨a, c, rfl, _⟩ := h
  have HS := Lib.hid hs
  have HB := Lib.hid (below_alloc w (.cells #[.int .u64 s.a, .int .u64 s.b] 24))
  have k0 : (w.alloc (.cells #[.int .u64 s.a, .int .u64 s.b] 24)).cell? ⟨w.heap.size, 0, none⟩ = some (.int .u64 s.a) := by go_simp
  have k1 : (w.alloc (.cells #[.int .u64 s.a, .int .u64 s.b] 24)).cell? ⟨w.heap.size, 1, none⟩ = some (.int .u64 s.b) := by go_simp
  go_enter Try.func21, Try.ntmps21
  go_upto_region 1 with fail
  generalize w.alloc (.cells #[.int .u64 s.a, .int .u64 s.b] 24) = V at *
  have HPl := Lib.hid (place_any hs (HIn.out.later (below_drew HB.out)) hl hsl)
  have HBd := Lib.hid (fun (W : World) (u : Value) (hu : plL.In W u (s.place l)) (hlo : LowV w.heap.size u) (hsz : w.heap.size ≤ W.heap.size) => build_placed hs HBk hu hlo hsz hl hsl)
  have Hbw := Lib.hid hs
  obtain ⟨N, hN⟩ : ∃ N, N = w.heap.size := ⟨_, rfl⟩
  rw [← hN] at k0 k1 ⊢
  have HNw := Lib.hid hN
  clear hN hs HBk
  go_region_held3 (fun W => W.cell? ⟨N, 0, none⟩ = some (.int .u64 s.a) ∧ W.cell? ⟨N, 1, none⟩ = some (.int .u64 s.b)) (go_keep)
    (first
      | (go_at_call 49; (with_reducible refine HPl.out.mono ?_); rintro e w2 ⟨u2, rfl, hin2, hb2, hlo2⟩; have hbd : Below V.heap.size V w2 := (below_drew1 V).trans hb2; obtain ⟨ua, uc, rfl, _, _⟩ := hin2.slice; have HC3 := Lib.hid (HBd.out w2 _ hin2 (fun g off n c hv => Nat.le_trans HB.out.size (hlo2 g off n c hv)) (Nat.le_trans HB.out.size hbd.size)); have z0 := cell_later hbd k0; have z1 := cell_later hbd k1; have HB2 := Lib.hid hbd; clear hbd hb2 hin2 hlo2)
      | (go_at_call 48; (with_reducible refine HC3.out.mono ?_); rintro e w3 ⟨q, rfl, hq, hb3⟩; have hbd3 : Below V.heap.size V w3 := HB2.out.trans (hb3.mono HB2.out.size); have y0 := cell_later hbd3 k0; have y1 := cell_later hbd3 k1; have HB3 := Lib.hid hbd3; have HQ := Lib.hid hq; clear hbd3 hb3 hq))
  all_goals
    have HT : Hid (TrAt s (w3.alloc (.cells #[.int .u64 s.a, .int .u64 s.b, .pointer q, .bool true] 81)) w.heap.size w3.heap.size (s.place l)) := by
      refine Lib.hid ⟨by go_simp, by go_simp, ⟨q, by go_simp, HQ.out.later (below_alloc _ _)⟩, by go_simp, Nat.le_trans HB.out.size HB3.out.size⟩
    have HBe : Hid (Below w.heap.size w (w3.alloc (.cells #[.int .u64 s.a, .int .u64 s.b, .pointer q, .bool true] 81))) := by
      have h1 := HB.out.trans (HB3.out.mono HB.out.size)
      exact Lib.hid (h1.alloc h1.size _)
    go_wp2_with fail
    go_ret
    exact ⟨_, rfl, HT.out, HBe.out⟩
theorem Of_any {s : Sd} (hs : s.Ok) (HBk : BuildOk s 4) {w : World} {v : Value} {l : List Pr} (h : prL.In w v l) (hl : l.length ≤ 100000) (hsl : Slim l) :
    Calls Try.prog 21 #[.agg #[.int .u64 s.a, .int .u64 s.b], v] w (MadeT s (s.place l) w) :=
  (Of_at hs HBk h hl hsl).mono fun e w' ⟨tb, he, ht, hb⟩ => ⟨tb, he, ht.tr, hb⟩
end Go.Proofs.Ytcbgnmolfdhnfaa
