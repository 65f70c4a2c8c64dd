/-
  The examples walked.
-/
import Derived.Test.YticcmjiekopnbaaW8
import Derived.Test.YticcmjiekopnbaaFlow
namespace Go.Proofs.Yticcmjiekopnbaa
set_option linter.unusedVariables false
set_option linter.unusedSimpArgs false
open Go.RowKit Go.Shelf

theorem block_in {α : Type} (I : Lay α) (w : World) (l : List α) (cs : Array Value) (E : TypeId) (n : Nat) (h : cs = (I.all l).toArray) (hn : n = l.length) (hl : n ≤ 1000000) : I.In (w.alloc (.cells cs E)) (.slice (some ⟨w.heap.size, 0, none⟩) n n) l := by
  subst hn
  refine Lay.in_own (B := 0) (E := E) (n := l.length) ?_ rfl
  have := World.ownsRow_lit (base := 0) (e := E) (size := I.sz) w cs l.length (Nat.zero_le _) (by unfold maxLen; omega) (by rw [h]; simp [Lay.all_len])
  rw [h] at this ⊢
  simpa using this

/-- A slice's address, length and room; two of them are a roster's cells. -/
abbrev Sl := Option Addr × Nat × Nat
def Sl.v (s : Sl) : Value := .slice s.1 s.2.1 s.2.2
def roL : Lay (Sl × Sl) := ⟨fun p => [p.1.v, p.2.v], 2, fun _ => rfl, by intro o u hu; simp [Sl.v] at hu; rcases hu with rfl | rfl <;> rfl⟩
/-- What an operation yields. -/
inductive Kn where
  | ints (l : List Int)
  | ro (vs ls : List Int)
  | val (v : Value)
  | ros (l : List (Sl × Sl))
  | two (x y : Value)
def SK : Kn → World → Value → Prop
  | .ints l, w, v => intL.In w v l
  | .ro vs ls, w, v => ∃ x y, v = .agg #[x, y] ∧ RoCs w x y vs ls
  | .val u, _, v => v = u
  | .ros l, w, v => roL.In w v l
  | .two x y, w, v => ∃ g, v = .slice (some ⟨g, 0, none⟩) 2 2 ∧ w.cell? ⟨g, 0, none⟩ = some x ∧ w.cell? ⟨g, 1, none⟩ = some y
def SL (ks : List Kn) (i : Nat) (w : World) (v : Value) : Prop := match ks[i]? with
  | some k => SK k w v
  | none => True
theorem SL_stable (ks : List Kn) (i : Nat) (w w' : World) (v : Value) (h : SL ks i w v) (hb : Below w.heap.size w w') : SL ks i w' v := by
  unfold SL at *
  cases hk : ks[i]? with
  | none => trivial
  | some k =>
    rw [hk] at h
    cases k with
    | ints l => exact Lay.In.later h hb
    | ro vs ls => obtain ⟨x, y, hv, hr⟩ := h; exact ⟨x, y, hv, hr.later hb⟩
    | val u => exact h
    | ros l => exact Lay.In.later h hb
    | two x y => obtain ⟨g, hv, h1, h2⟩ := h; exact ⟨g, hv, lay_later hb h1, lay_later hb h2⟩

theorem results_cell {fn : Func} {p : Tmp} {ty : TypeId} (h : fn.results = #[.cell p ty]) (tmps : Array Value) (P : Program) (w : World) :
    (results fn tmps).run P w = ((asAddr (tmps.getD p undef)).run P w).andThen fun a w₁ => (loadVar ty a).run P w₁ := by
  simp only [results, h]
  simp [Sem.run_bind, Result.andThen]
def RoP (vs ls : List Int) (w : World) (e : Ending) (w' : World) : Prop := ∃ x y, e = .returned (.agg #[x, y]) ∧ RoCs w' x y vs ls ∧ Below w.heap.size w w'
set_option maxHeartbeats 800000 in
theorem of_any {w : World} {u : Value} {l : List Int} (h : intL.In w u l) : Calls Try.prog 43 #[u] w (RoP l [] w) := by
  have H := Lib.hid h
  obtain ⟨a, c, rfl, _, _⟩ := h.slice
  clear h
  go_enter Try.func43, Try.ntmps43
  go_wp2_with fail
  have hb := lay_alloc w (.cells #[.slice a l.length c, .slice none 0 0] 24)
  have hk := Go.heap_alloc_new w (.cells #[.slice a l.length c, .slice none 0 0] 24)
  generalize w.alloc _ = w1 at *
  have d0 : w1.cell? ⟨w.heap.size, 0, none⟩ = some (.slice a l.length c) := by rw [cell_of_row w1 _ _ _ _ _ hk]; rfl
  have d1 : w1.cell? ⟨w.heap.size, 1, none⟩ = some (.slice none 0 0) := by rw [cell_of_row w1 _ _ _ _ _ hk]; rfl
  refine bodyPost_ret (v := .agg #[.slice a l.length c, .slice none 0 0]) ?_ rfl ?_
  · rw [results_cell rfl]
    go_simp
  · exact ⟨_, _, rfl, ⟨H.out.later hb, Lay.In.nil w1⟩, hb⟩


def fnF (n : Int) : Int := if n = 0 then 5 else if n = 1 then 9 else if n = 2 then 7 else 0
theorem fnF0 : fnF 0 = 5 := by decide
theorem fnF1 : fnF 1 = 9 := by decide
theorem fnF2 : fnF 2 = 7 := by decide
theorem fnF3 : fnF 3 = 0 := by decide
theorem fnF4 : fnF 4 = 0 := by decide
theorem agr_ex : agrE [0, 1, 2] fnF = 7 := by
  have h : ([0, 1, 2] : List Int).all inR = true := by decide
  unfold agrE
  rw [if_pos h]
  have hm : List.map fnF [0, 1, 2] = [5, 9, 7] := by decide
  rw [hm]
  have h1 := mid_max (L := [5, 9, 7]) (by decide) (x := 7) (by decide)
  have h2 := mid_mem (L := [5, 9, 7]) (by decide)
  have h3 := mid_qual (L := [5, 9, 7]) (by decide)
  have h4 : mid [5, 9, 7] ≠ 9 := fun e => by rw [e] at h3; revert h3; decide
  simp at h2
  omega
def awKs : List Kn := [Kn.ints [0, 1, 2], Kn.ro [0, 1, 2] [], Kn.ints [0, 2], Kn.val (.bool true), Kn.val (.bool true), Kn.ints [0, 1, 2], Kn.ro [0, 1, 2] [], Kn.ints [2], Kn.val (.bool false), Kn.val (.bool true), Kn.val (.bool true), Kn.val (.bool true), Kn.ints [0, 1], Kn.ro [0, 1] [], Kn.ro [0, 1] [2], Kn.val (.int .i64 0), Kn.val (.bool true), Kn.val (.bool true), Kn.val (.bool true), Kn.ro [0, 1] [2], Kn.ints [0, 1, 2], Kn.ro [0, 1, 2] [], Kn.val (.int .i64 0), Kn.val (.bool true), Kn.val (.bool true), Kn.val (.bool true), Kn.ints [0, 1], Kn.ro [0, 1] [], Kn.ints [0, 1, 2], Kn.ro [0, 1, 2] [], Kn.val (.int .i64 111), Kn.val (.bool true), Kn.val (.bool true), Kn.val (.bool true), Kn.ints [0, 1, 2], Kn.ro [0, 1, 2] [], Kn.val (.agg #[.int .i64 5, .int .i64 9, .int .i64 7, .int .i64 0, .int .i64 0]), Kn.val (.int .i64 7), Kn.val (.bool true), Kn.val (.bool true), Kn.val (.bool true), Kn.ro [] [], Kn.val (.int .i64 110), Kn.val (.bool true), Kn.val (.bool true), Kn.val (.bool true)]

set_option maxRecDepth 100000 in
set_option maxHeartbeats 6400000 in
theorem awake_any (w : World) : Calls Try.prog 16 #[] w (BoolP true w) := by
  go_enter Try.func16, Try.ntmps16
  go_wp2_with fail
  have r1 : RoCs (((w.alloc (.cells #[.int .i64 0, .int .i64 1] 3)).alloc (.cells #[.int .i64 2] 3)).alloc (.cells #[.slice (some ⟨w.heap.size, 0, none⟩) 2 2, .slice (some ⟨w.heap.size + 1, 0, none⟩) 1 1] 24)) (.slice (some ⟨w.heap.size, 0, none⟩) 2 2) (.slice (some ⟨w.heap.size + 1, 0, none⟩) 1 1) [0, 1] [2] := by
    have h1 := block_in intL w [0, 1] #[.int .i64 0, .int .i64 1] 3 2 rfl rfl (by decide)
    have hz : (w.alloc (.cells #[.int .i64 0, .int .i64 1] 3)).heap.size = w.heap.size + 1 := by simp
    generalize w.alloc _ = w1 at *
    have h2 := block_in intL w1 [2] #[.int .i64 2] 3 1 rfl rfl (by decide)
    rw [hz] at h2
    have hb := lay_alloc w1 (.cells #[.int .i64 2] 3)
    generalize w1.alloc _ = w2 at *
    exact ⟨(h1.later hb).later (lay_alloc w2 _), h2.later (lay_alloc w2 _)⟩
  have hb0 : Below w.heap.size w (((w.alloc (.cells #[.int .i64 0, .int .i64 1] 3)).alloc (.cells #[.int .i64 2] 3)).alloc (.cells #[.slice (some ⟨w.heap.size, 0, none⟩) 2 2, .slice (some ⟨w.heap.size + 1, 0, none⟩) 1 1] 24)) :=
    (((Below.refl _ w).alloc (Nat.le_refl _) _).alloc (by simp) _).alloc (by simp; omega) _
  have hk : (((w.alloc (.cells #[.int .i64 0, .int .i64 1] 3)).alloc (.cells #[.int .i64 2] 3)).alloc (.cells #[.slice (some ⟨w.heap.size, 0, none⟩) 2 2, .slice (some ⟨w.heap.size + 1, 0, none⟩) 1 1] 24)).heap[w.heap.size + 1 + 1]? = some (.cells #[.slice (some ⟨w.heap.size, 0, none⟩) 2 2, .slice (some ⟨w.heap.size + 1, 0, none⟩) 1 1] 24 (0, 0)) := by
    have := Go.heap_alloc_new ((w.alloc (.cells #[.int .i64 0, .int .i64 1] 3)).alloc (.cells #[.int .i64 2] 3)) (.cells #[.slice (some ⟨w.heap.size, 0, none⟩) 2 2, .slice (some ⟨w.heap.size + 1, 0, none⟩) 1 1] 24)
    have hz : ((w.alloc (.cells #[.int .i64 0, .int .i64 1] 3)).alloc (.cells #[.int .i64 2] 3)).heap.size = w.heap.size + 1 + 1 := by simp
    rw [hz] at this
    exact this
  generalize World.alloc _ _ = W0 at *
  have c0 : W0.cell? ⟨w.heap.size + 1 + 1, 0, none⟩ = some (.slice (some ⟨w.heap.size, 0, none⟩) 2 2) := by rw [cell_of_row W0 _ _ _ _ _ hk]; rfl
  have c1 : W0.cell? ⟨w.heap.size + 1 + 1, 1, none⟩ = some (.slice (some ⟨w.heap.size + 1, 0, none⟩) 1 1) := by rw [cell_of_row W0 _ _ _ _ _ hk]; rfl
  have HB := Lib.hid hb0
  clear hk hb0
  refine wp_region_flow (S := SL awKs) (by kernel_rfl) (SL_stable _) (by kernel_rfl) (by kernel_rfl) ?_ ?_
  · intro i hi
    match i, hi with
    | 0, _ =>
      refine fs_plain _ _ rfl rfl rfl ?_
      intro a w1 hb hrest hneed
      clear hneed hrest
      go_simp
      exact ⟨_, rfl, block_in intL w1 [0, 1, 2] _ _ 3 rfl rfl (by decide), lay_alloc _ _⟩

    | 1, _ =>
      refine fs_plain _ _ rfl rfl rfl ?_
      intro a w1 hb hrest hneed
      have r5 : SK (.ints [0, 1, 2]) w1 (a.tmps.getD 5 undef) := hneed 0 5 rfl rfl
      obtain ⟨u5, e5⟩ : ∃ u, a.tmps.getD 5 undef = u := ⟨_, rfl⟩
      rw [e5] at r5
      clear hneed hrest
      go_simp
      refine (of_any r5).mono ?_
      rintro e w2 ⟨x, y, rfl, h, hb2⟩
      exact ⟨_, rfl, ⟨x, y, rfl, h⟩, hb2⟩

    | 2, _ =>
      refine fs_plain _ _ rfl rfl rfl ?_
      intro a w1 hb hrest hneed
      clear hneed hrest
      go_simp
      exact ⟨_, rfl, block_in intL w1 [0, 2] _ _ 2 rfl rfl (by decide), lay_alloc _ _⟩

    | 3, _ =>
      refine fs_plain _ _ rfl rfl rfl ?_
      intro a w1 hb hrest hneed
      obtain ⟨x6, y6, e6, r6⟩ : SK (.ro [0, 1, 2] []) w1 (a.tmps.getD 6 undef) := hneed 1 6 rfl rfl
      have r7 : SK (.ints [0, 2]) w1 (a.tmps.getD 7 undef) := hneed 2 7 rfl rfl
      obtain ⟨u7, e7⟩ : ∃ u, a.tmps.getD 7 undef = u := ⟨_, rfl⟩
      rw [e7] at r7
      clear hneed hrest
      have hm : majB [0, 1, 2] [0, 2] = true := by decide
      have H := Majority_any r6 r7 (by decide) (by decide)
      rw [hm] at H
      clear hm
      go_simp
      refine H.mono ?_
      rintro e w2 ⟨rfl, hb2⟩
      exact ⟨_, rfl, rfl, hb2⟩

    | 4, _ =>
      refine fs_plain _ _ rfl rfl rfl ?_
      intro a w1 hb hrest hneed
      have e8 : a.tmps.getD 8 undef = .bool true := hneed 3 8 rfl rfl
      clear hneed hrest
      go_simp
      exact ⟨_, rfl, rfl, Below.refl _ _⟩

    | 5, _ =>
      refine fs_guard _ _ 4 9 true rfl rfl rfl rfl rfl (fun w v h => h) ?_
      intro a w1 hb hrest hneed
      clear hneed hrest
      go_simp
      exact ⟨_, rfl, block_in intL w1 [0, 1, 2] _ _ 3 rfl rfl (by decide), lay_alloc _ _⟩

    | 6, _ =>
      refine fs_guard _ _ 4 9 true rfl rfl rfl rfl rfl (fun w v h => h) ?_
      intro a w1 hb hrest hneed
      have r10 : SK (.ints [0, 1, 2]) w1 (a.tmps.getD 10 undef) := hneed 5 10 rfl rfl
      obtain ⟨u10, e10⟩ : ∃ u, a.tmps.getD 10 undef = u := ⟨_, rfl⟩
      rw [e10] at r10
      clear hneed hrest
      go_simp
      refine (of_any r10).mono ?_
      rintro e w2 ⟨x, y, rfl, h, hb2⟩
      exact ⟨_, rfl, ⟨x, y, rfl, h⟩, hb2⟩

    | 7, _ =>
      refine fs_guard _ _ 4 9 true rfl rfl rfl rfl rfl (fun w v h => h) ?_
      intro a w1 hb hrest hneed
      clear hneed hrest
      go_simp
      exact ⟨_, rfl, block_in intL w1 [2] _ _ 1 rfl rfl (by decide), lay_alloc _ _⟩

    | 8, _ =>
      refine fs_guard _ _ 4 9 true rfl rfl rfl rfl rfl (fun w v h => h) ?_
      intro a w1 hb hrest hneed
      obtain ⟨x11, y11, e11, r11⟩ : SK (.ro [0, 1, 2] []) w1 (a.tmps.getD 11 undef) := hneed 6 11 rfl rfl
      have r12 : SK (.ints [2]) w1 (a.tmps.getD 12 undef) := hneed 7 12 rfl rfl
      obtain ⟨u12, e12⟩ : ∃ u, a.tmps.getD 12 undef = u := ⟨_, rfl⟩
      rw [e12] at r12
      clear hneed hrest
      have hm : majB [0, 1, 2] [2] = false := by decide
      have H := Majority_any r11 r12 (by decide) (by decide)
      rw [hm] at H
      clear hm
      go_simp
      refine H.mono ?_
      rintro e w2 ⟨rfl, hb2⟩
      exact ⟨_, rfl, rfl, hb2⟩

    | 9, _ =>
      refine fs_guard _ _ 4 9 true rfl rfl rfl rfl rfl (fun w v h => h) ?_
      intro a w1 hb hrest hneed
      have e13 : a.tmps.getD 13 undef = .bool false := hneed 8 13 rfl rfl
      clear hneed hrest
      go_simp
      exact ⟨_, rfl, rfl, Below.refl _ _⟩

    | 10, _ =>
      refine fs_plain _ _ rfl rfl rfl ?_
      intro a w1 hb hrest hneed
      have e9 : a.tmps.getD 9 undef = .bool true := hneed 4 9 rfl rfl
      have e14 : a.tmps.getD 14 undef = .bool true := hneed 9 14 rfl rfl
      clear hneed hrest
      go_simp
      exact ⟨_, rfl, rfl, Below.refl _ _⟩

    | 11, _ =>
      refine fs_plain _ _ rfl rfl rfl ?_
      intro a w1 hb hrest hneed
      have e15 : a.tmps.getD 15 undef = .bool true := hneed 10 15 rfl rfl
      clear hneed hrest
      go_simp
      exact ⟨_, rfl, rfl, Below.refl _ _⟩

    | 12, _ =>
      refine fs_guard _ _ 11 16 true rfl rfl rfl rfl rfl (fun w v h => h) ?_
      intro a w1 hb hrest hneed
      clear hneed hrest
      go_simp
      exact ⟨_, rfl, block_in intL w1 [0, 1] _ _ 2 rfl rfl (by decide), lay_alloc _ _⟩

    | 13, _ =>
      refine fs_guard _ _ 11 16 true rfl rfl rfl rfl rfl (fun w v h => h) ?_
      intro a w1 hb hrest hneed
      have r17 : SK (.ints [0, 1]) w1 (a.tmps.getD 17 undef) := hneed 12 17 rfl rfl
      obtain ⟨u17, e17⟩ : ∃ u, a.tmps.getD 17 undef = u := ⟨_, rfl⟩
      rw [e17] at r17
      clear hneed hrest
      go_simp
      refine (of_any r17).mono ?_
      rintro e w2 ⟨x, y, rfl, h, hb2⟩
      exact ⟨_, rfl, ⟨x, y, rfl, h⟩, hb2⟩

    | 14, _ =>
      refine fs_guard _ _ 11 16 true rfl rfl rfl rfl rfl (fun w v h => h) ?_
      intro a w1 hb hrest hneed
      have e1 : a.tmps.getD 1 undef = .pointer (some ⟨w.heap.size + 1 + 1, 0, none⟩) := (hrest 1 (by kernel_rfl)).trans rfl
      have d0 := lay_later hb c0
      have d1 := lay_later hb c1
      have hr := r1.later hb
      clear hneed hrest
      go_simp
      exact ⟨_, rfl, ⟨_, _, rfl, hr⟩, Below.refl _ _⟩

    | 15, _ =>
      refine fs_guard _ _ 11 16 true rfl rfl rfl rfl rfl (fun w v h => h) ?_
      intro a w1 hb hrest hneed
      obtain ⟨x18, y18, e18, r18⟩ : SK (.ro [0, 1] []) w1 (a.tmps.getD 18 undef) := hneed 13 18 rfl rfl
      obtain ⟨x19, y19, e19, r19⟩ : SK (.ro [0, 1] [2]) w1 (a.tmps.getD 19 undef) := hneed 14 19 rfl rfl
      clear hneed hrest
      have hm : mayE [0, 1] [] [0, 1] [2] = 0 := by decide
      have H := May_any r18 r19
      rw [hm] at H
      clear hm
      go_simp
      refine H.mono ?_
      rintro e w2 ⟨rfl, hb2⟩
      exact ⟨_, rfl, rfl, hb2⟩

    | 16, _ =>
      refine fs_guard _ _ 11 16 true rfl rfl rfl rfl rfl (fun w v h => h) ?_
      intro a w1 hb hrest hneed
      have e20 : a.tmps.getD 20 undef = .int .i64 0 := hneed 15 20 rfl rfl
      clear hneed hrest
      go_simp
      exact ⟨_, rfl, rfl, Below.refl _ _⟩

    | 17, _ =>
      refine fs_plain _ _ rfl rfl rfl ?_
      intro a w1 hb hrest hneed
      have e16 : a.tmps.getD 16 undef = .bool true := hneed 11 16 rfl rfl
      have e21 : a.tmps.getD 21 undef = .bool true := hneed 16 21 rfl rfl
      clear hneed hrest
      go_simp
      exact ⟨_, rfl, rfl, Below.refl _ _⟩

    | 18, _ =>
      refine fs_plain _ _ rfl rfl rfl ?_
      intro a w1 hb hrest hneed
      have e22 : a.tmps.getD 22 undef = .bool true := hneed 17 22 rfl rfl
      clear hneed hrest
      go_simp
      exact ⟨_, rfl, rfl, Below.refl _ _⟩

    | 19, _ =>
      refine fs_guard _ _ 18 23 true rfl rfl rfl rfl rfl (fun w v h => h) ?_
      intro a w1 hb hrest hneed
      have e1 : a.tmps.getD 1 undef = .pointer (some ⟨w.heap.size + 1 + 1, 0, none⟩) := (hrest 1 (by kernel_rfl)).trans rfl
      have d0 := lay_later hb c0
      have d1 := lay_later hb c1
      have hr := r1.later hb
      clear hneed hrest
      go_simp
      exact ⟨_, rfl, ⟨_, _, rfl, hr⟩, Below.refl _ _⟩

    | 20, _ =>
      refine fs_guard _ _ 18 23 true rfl rfl rfl rfl rfl (fun w v h => h) ?_
      intro a w1 hb hrest hneed
      clear hneed hrest
      go_simp
      exact ⟨_, rfl, block_in intL w1 [0, 1, 2] _ _ 3 rfl rfl (by decide), lay_alloc _ _⟩

    | 21, _ =>
      refine fs_guard _ _ 18 23 true rfl rfl rfl rfl rfl (fun w v h => h) ?_
      intro a w1 hb hrest hneed
      have r25 : SK (.ints [0, 1, 2]) w1 (a.tmps.getD 25 undef) := hneed 20 25 rfl rfl
      obtain ⟨u25, e25⟩ : ∃ u, a.tmps.getD 25 undef = u := ⟨_, rfl⟩
      rw [e25] at r25
      clear hneed hrest
      go_simp
      refine (of_any r25).mono ?_
      rintro e w2 ⟨x, y, rfl, h, hb2⟩
      exact ⟨_, rfl, ⟨x, y, rfl, h⟩, hb2⟩

    | 22, _ =>
      refine fs_guard _ _ 18 23 true rfl rfl rfl rfl rfl (fun w v h => h) ?_
      intro a w1 hb hrest hneed
      obtain ⟨x24, y24, e24, r24⟩ : SK (.ro [0, 1] [2]) w1 (a.tmps.getD 24 undef) := hneed 19 24 rfl rfl
      obtain ⟨x26, y26, e26, r26⟩ : SK (.ro [0, 1, 2] []) w1 (a.tmps.getD 26 undef) := hneed 21 26 rfl rfl
      clear hneed hrest
      have hm : mayE [0, 1] [2] [0, 1, 2] [] = 0 := by decide
      have H := May_any r24 r26
      rw [hm] at H
      clear hm
      go_simp
      refine H.mono ?_
      rintro e w2 ⟨rfl, hb2⟩
      exact ⟨_, rfl, rfl, hb2⟩

    | 23, _ =>
      refine fs_guard _ _ 18 23 true rfl rfl rfl rfl rfl (fun w v h => h) ?_
      intro a w1 hb hrest hneed
      have e27 : a.tmps.getD 27 undef = .int .i64 0 := hneed 22 27 rfl rfl
      clear hneed hrest
      go_simp
      exact ⟨_, rfl, rfl, Below.refl _ _⟩

    | 24, _ =>
      refine fs_plain _ _ rfl rfl rfl ?_
      intro a w1 hb hrest hneed
      have e23 : a.tmps.getD 23 undef = .bool true := hneed 18 23 rfl rfl
      have e28 : a.tmps.getD 28 undef = .bool true := hneed 23 28 rfl rfl
      clear hneed hrest
      go_simp
      exact ⟨_, rfl, rfl, Below.refl _ _⟩

    | 25, _ =>
      refine fs_plain _ _ rfl rfl rfl ?_
      intro a w1 hb hrest hneed
      have e29 : a.tmps.getD 29 undef = .bool true := hneed 24 29 rfl rfl
      clear hneed hrest
      go_simp
      exact ⟨_, rfl, rfl, Below.refl _ _⟩

    | 26, _ =>
      refine fs_guard _ _ 25 30 true rfl rfl rfl rfl rfl (fun w v h => h) ?_
      intro a w1 hb hrest hneed
      clear hneed hrest
      go_simp
      exact ⟨_, rfl, block_in intL w1 [0, 1] _ _ 2 rfl rfl (by decide), lay_alloc _ _⟩

    | 27, _ =>
      refine fs_guard _ _ 25 30 true rfl rfl rfl rfl rfl (fun w v h => h) ?_
      intro a w1 hb hrest hneed
      have r31 : SK (.ints [0, 1]) w1 (a.tmps.getD 31 undef) := hneed 26 31 rfl rfl
      obtain ⟨u31, e31⟩ : ∃ u, a.tmps.getD 31 undef = u := ⟨_, rfl⟩
      rw [e31] at r31
      clear hneed hrest
      go_simp
      refine (of_any r31).mono ?_
      rintro e w2 ⟨x, y, rfl, h, hb2⟩
      exact ⟨_, rfl, ⟨x, y, rfl, h⟩, hb2⟩

    | 28, _ =>
      refine fs_guard _ _ 25 30 true rfl rfl rfl rfl rfl (fun w v h => h) ?_
      intro a w1 hb hrest hneed
      clear hneed hrest
      go_simp
      exact ⟨_, rfl, block_in intL w1 [0, 1, 2] _ _ 3 rfl rfl (by decide), lay_alloc _ _⟩

    | 29, _ =>
      refine fs_guard _ _ 25 30 true rfl rfl rfl rfl rfl (fun w v h => h) ?_
      intro a w1 hb hrest hneed
      have r33 : SK (.ints [0, 1, 2]) w1 (a.tmps.getD 33 undef) := hneed 28 33 rfl rfl
      obtain ⟨u33, e33⟩ : ∃ u, a.tmps.getD 33 undef = u := ⟨_, rfl⟩
      rw [e33] at r33
      clear hneed hrest
      go_simp
      refine (of_any r33).mono ?_
      rintro e w2 ⟨x, y, rfl, h, hb2⟩
      exact ⟨_, rfl, ⟨x, y, rfl, h⟩, hb2⟩

    | 30, _ =>
      refine fs_guard _ _ 25 30 true rfl rfl rfl rfl rfl (fun w v h => h) ?_
      intro a w1 hb hrest hneed
      obtain ⟨x32, y32, e32, r32⟩ : SK (.ro [0, 1] []) w1 (a.tmps.getD 32 undef) := hneed 27 32 rfl rfl
      obtain ⟨x34, y34, e34, r34⟩ : SK (.ro [0, 1, 2] []) w1 (a.tmps.getD 34 undef) := hneed 29 34 rfl rfl
      clear hneed hrest
      have hm : mayE [0, 1] [] [0, 1, 2] [] = 111 := by decide
      have H := May_any r32 r34
      rw [hm] at H
      clear hm
      go_simp
      refine H.mono ?_
      rintro e w2 ⟨rfl, hb2⟩
      exact ⟨_, rfl, rfl, hb2⟩

    | 31, _ =>
      refine fs_guard _ _ 25 30 true rfl rfl rfl rfl rfl (fun w v h => h) ?_
      intro a w1 hb hrest hneed
      have e35 : a.tmps.getD 35 undef = .int .i64 111 := hneed 30 35 rfl rfl
      clear hneed hrest
      go_simp
      exact ⟨_, rfl, rfl, Below.refl _ _⟩

    | 32, _ =>
      refine fs_plain _ _ rfl rfl rfl ?_
      intro a w1 hb hrest hneed
      have e30 : a.tmps.getD 30 undef = .bool true := hneed 25 30 rfl rfl
      have e36 : a.tmps.getD 36 undef = .bool true := hneed 31 36 rfl rfl
      clear hneed hrest
      go_simp
      exact ⟨_, rfl, rfl, Below.refl _ _⟩

    | 33, _ =>
      refine fs_plain _ _ rfl rfl rfl ?_
      intro a w1 hb hrest hneed
      have e37 : a.tmps.getD 37 undef = .bool true := hneed 32 37 rfl rfl
      clear hneed hrest
      go_simp
      exact ⟨_, rfl, rfl, Below.refl _ _⟩

    | 34, _ =>
      refine fs_guard _ _ 33 38 true rfl rfl rfl rfl rfl (fun w v h => h) ?_
      intro a w1 hb hrest hneed
      clear hneed hrest
      go_simp
      exact ⟨_, rfl, block_in intL w1 [0, 1, 2] _ _ 3 rfl rfl (by decide), lay_alloc _ _⟩

    | 35, _ =>
      refine fs_guard _ _ 33 38 true rfl rfl rfl rfl rfl (fun w v h => h) ?_
      intro a w1 hb hrest hneed
      have r39 : SK (.ints [0, 1, 2]) w1 (a.tmps.getD 39 undef) := hneed 34 39 rfl rfl
      obtain ⟨u39, e39⟩ : ∃ u, a.tmps.getD 39 undef = u := ⟨_, rfl⟩
      rw [e39] at r39
      clear hneed hrest
      go_simp
      refine (of_any r39).mono ?_
      rintro e w2 ⟨x, y, rfl, h, hb2⟩
      exact ⟨_, rfl, ⟨x, y, rfl, h⟩, hb2⟩

    | 36, _ =>
      refine fs_guard _ _ 33 38 true rfl rfl rfl rfl rfl (fun w v h => h) ?_
      intro a w1 hb hrest hneed
      clear hneed hrest
      go_simp
      exact ⟨_, rfl, rfl, Below.refl _ _⟩

    | 37, _ =>
      refine fs_guard _ _ 33 38 true rfl rfl rfl rfl rfl (fun w v h => h) ?_
      intro a w1 hb hrest hneed
      obtain ⟨x40, y40, e40, r40⟩ : SK (.ro [0, 1, 2] []) w1 (a.tmps.getD 40 undef) := hneed 35 40 rfl rfl
      have e41 : a.tmps.getD 41 undef = .agg #[.int .i64 5, .int .i64 9, .int .i64 7, .int .i64 0, .int .i64 0] := hneed 36 41 rfl rfl
      clear hneed hrest
      have H := Agreed_any r40 fnF (by decide)
      rw [agr_ex] at H
      simp only [fnF0, fnF1, fnF2, fnF3, fnF4] at H
      go_simp
      refine H.mono ?_
      rintro e w2 ⟨rfl, hb2⟩
      exact ⟨_, rfl, rfl, hb2⟩

    | 38, _ =>
      refine fs_guard _ _ 33 38 true rfl rfl rfl rfl rfl (fun w v h => h) ?_
      intro a w1 hb hrest hneed
      have e42 : a.tmps.getD 42 undef = .int .i64 7 := hneed 37 42 rfl rfl
      clear hneed hrest
      go_simp
      exact ⟨_, rfl, rfl, Below.refl _ _⟩

    | 39, _ =>
      refine fs_plain _ _ rfl rfl rfl ?_
      intro a w1 hb hrest hneed
      have e38 : a.tmps.getD 38 undef = .bool true := hneed 33 38 rfl rfl
      have e43 : a.tmps.getD 43 undef = .bool true := hneed 38 43 rfl rfl
      clear hneed hrest
      go_simp
      exact ⟨_, rfl, rfl, Below.refl _ _⟩

    | 40, _ =>
      refine fs_plain _ _ rfl rfl rfl ?_
      intro a w1 hb hrest hneed
      have e44 : a.tmps.getD 44 undef = .bool true := hneed 39 44 rfl rfl
      clear hneed hrest
      go_simp
      exact ⟨_, rfl, rfl, Below.refl _ _⟩

    | 41, _ =>
      refine fs_guard _ _ 40 45 true rfl rfl rfl rfl rfl (fun w v h => h) ?_
      intro a w1 hb hrest hneed
      clear hneed hrest
      go_simp
      refine (of_any (Lay.In.nil w1)).mono ?_
      rintro e w2 ⟨x, y, rfl, h, hb2⟩
      exact ⟨_, rfl, ⟨x, y, rfl, h⟩, hb2⟩

    | 42, _ =>
      refine fs_guard _ _ 40 45 true rfl rfl rfl rfl rfl (fun w v h => h) ?_
      intro a w1 hb hrest hneed
      obtain ⟨x46, y46, e46, r46⟩ : SK (.ro [] []) w1 (a.tmps.getD 46 undef) := hneed 41 46 rfl rfl
      clear hneed hrest
      have hm : ckE [] [] = 110 := by decide
      have H := Check_any r46
      rw [hm] at H
      clear hm
      go_simp
      refine H.mono ?_
      rintro e w2 ⟨rfl, hb2⟩
      exact ⟨_, rfl, rfl, hb2⟩

    | 43, _ =>
      refine fs_guard _ _ 40 45 true rfl rfl rfl rfl rfl (fun w v h => h) ?_
      intro a w1 hb hrest hneed
      have e47 : a.tmps.getD 47 undef = .int .i64 110 := hneed 42 47 rfl rfl
      clear hneed hrest
      go_simp
      exact ⟨_, rfl, rfl, Below.refl _ _⟩

    | 44, _ =>
      refine fs_plain _ _ rfl rfl rfl ?_
      intro a w1 hb hrest hneed
      have e45 : a.tmps.getD 45 undef = .bool true := hneed 40 45 rfl rfl
      have e48 : a.tmps.getD 48 undef = .bool true := hneed 43 48 rfl rfl
      clear hneed hrest
      go_simp
      exact ⟨_, rfl, rfl, Below.refl _ _⟩

    | 45, _ =>
      refine fs_plain _ _ rfl rfl rfl ?_
      intro a w1 hb hrest hneed
      have e49 : a.tmps.getD 49 undef = .bool true := hneed 44 49 rfl rfl
      clear hneed hrest
      go_simp
      exact ⟨_, rfl, rfl, Below.refl _ _⟩

    | n + 46, h => exact absurd h (by simp)
  · intro a w' hb hd hs hr hg
    have e0 : a.tmps.getD 0 undef = .bool true := hg 45 (by decide) 0 rfl
    have hd : a.defers = [] := hd
    clear hs hr hg
    have HBB := Lib.hid (HB.out.trans (hb.mono HB.out.size))
    clear hb
    go_wp2_with fail
    refine bodyPost_ret (results_tmp rfl _ _ _) hd ?_
    exact ⟨congrArg Ending.returned e0, HBB.out⟩
end Go.Proofs.Yticcmjiekopnbaa
