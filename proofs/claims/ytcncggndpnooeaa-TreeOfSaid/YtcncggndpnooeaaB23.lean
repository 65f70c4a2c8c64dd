/-
  The walk of the statements' own examples (awake).
-/
import Derived.Test.YtcncggndpnooeaaB22
namespace Go.Proofs.Ytcncggndpnooeaa
set_option linter.unusedVariables false
set_option linter.unusedSimpArgs false
open Go.RowKit

/-- True, and nothing that was there has turned. -/
def Yes (w : World) (e : Ending) (w' : World) : Prop := e = .returned (.bool true) ∧ Below w.heap.size w w'

set_option maxHeartbeats 800000 in
theorem pair_any (w : World) (k v : ByteArray) : Calls Try.prog 20 #[.string k, .string v] w fun e w' => e = .returned (.agg #[.string k, .string v]) ∧ Below w.heap.size w w' := by
  have hx := box_alloc w { data := #[] } { data := #[] } 34
  have hx2 := box_alloc w k v 34
  have h0 := hx.c0
  have h1 := hx.c1
  have h2 := hx2.c0
  have h3 := hx2.c1
  go_enter Try.func20, Try.ntmps20
  go_wp2_with fail
  (try simp only [Exit.inBlock, Exit.then])
  refine bodyPost_ret (v := .agg #[.string k, .string v]) (by simp [results, Try.results20, go_sem, h2, h3]) rfl ?_
  exact ⟨rfl, below_alloc w _⟩

theorem pairs_eql (W : World) (a b c d : ByteArray) : (binOp .eql 34 (.agg #[.string a, .string b]) (.agg #[.string c, .string d])).run Try.prog W = .ok (.bool (decide (a = c) && decide (b = d))) W := by
  have h := pairs_neq W a b c d
  rw [run_neq_struct] at h
  rw [run_eql_struct]
  cases hr : (Op.equalIn 10000 34 (.agg #[.string a, .string b]) (.agg #[.string c, .string d])).run Try.prog W with
  | ok r w' =>
    rw [hr] at h
    simp only [Result.andThen_ok, Result.ok.injEq, Value.bool.injEq] at h
    simp only [Result.andThen_ok, Result.ok.injEq, Value.bool.injEq]
    obtain ⟨h1, h2⟩ := h
    exact ⟨by have := congrArg Bool.not h1; rwa [Bool.not_not, Bool.not_not] at this, h2⟩
  | _ => rw [hr] at h; simp [Result.andThen] at h
theorem pairs_block (w : World) (ps : List Pr) (cs : Array Value) (t : TypeId) (h : cs = (prs ps).toArray) : PairsAt (w.alloc (.cells cs t)) w.heap.size 0 ps := by
  subst h
  intro i p hp
  rw [World.cell?_alloc_at _ _ _ _ rfl, World.cell?_alloc_at _ _ _ _ rfl]
  simp only [Nat.zero_add, List.getElem?_toArray, Nat.mul_comm i 2]
  rw [(prs_at ps i).1, (prs_at ps i).2, hp]
  exact ⟨rfl, rfl⟩
theorem evs_at : ∀ (xs : List Ev) (i j : Nat), j < 6 → (evs xs)[i * 6 + j]? = (xs[i]?).bind (fun e => (evc e)[j]?)
  | [], i, j, _ => by simp [evs]
  | e :: l, 0, j, hj => by
    simp only [evs, Nat.zero_mul, Nat.zero_add, List.getElem?_cons_zero, Option.bind_some]
    rw [List.getElem?_append_left (by simpa [evc] using hj)]
  | e :: l, i + 1, j, hj => by
    simp only [evs, List.getElem?_cons_succ]
    rw [List.getElem?_append_right (by simp [evc]; omega)]
    rw [← evs_at l i j hj]
    congr 1
    simp [evc]; omega
theorem events_block (w : World) (es : List Ev) (cs : Array Value) (t : TypeId) (h : cs = (evs es).toArray) : EvsAt (w.alloc (.cells cs t)) w.heap.size 0 es := by
  subst h
  intro i e he
  have hc : ∀ j, j < 6 → (w.alloc (.cells (evs es).toArray t)).cell? ⟨w.heap.size, i * 6 + j, none⟩ = (evc e)[j]? := fun j hj => by
    rw [World.cell?_alloc_at _ _ _ _ rfl, List.getElem?_toArray, evs_at es i j hj, he]; rfl
  simp only [Nat.zero_add]
  exact ⟨hc 0 (by omega), hc 1 (by omega), hc 2 (by omega), hc 3 (by omega), hc 4 (by omega), hc 5 (by omega)⟩
theorem events_row {w : World} {B n : Nat} {v : Value} {es : List Ev} (h : w.ownsRow B 72 6 v n (evs es)) (hn : n = es.length) : EvsIn w v es := by
  subst hn
  rcases h.2 with ⟨rfl, h0⟩ | ⟨g, cap, cur, rfl, _⟩
  · exact ⟨none, 0, by rw [h0], .inl (List.eq_nil_of_length_eq_zero h0)⟩
  · refine ⟨_, cap, rfl, .inr ⟨g, 0, rfl, fun i e he => ?_⟩⟩
    have hc : ∀ j, j < 6 → ∀ u, (evc e)[j]? = some u → w.cell? ⟨g, 0 + i * 6 + j, none⟩ = some u := fun j hj u hu => by
      have := h.cells (g := g) rfl (i * 6 + j) u (by rw [evs_at es i j hj, he]; exact hu)
      rwa [add_zero_lit, show i * 6 + j = 0 + i * 6 + j from by omega] at this
    exact ⟨hc 0 (by omega) _ rfl, hc 1 (by omega) _ rfl, hc 2 (by omega) _ rfl, hc 3 (by omega) _ rfl, hc 4 (by omega) _ rfl, hc 5 (by omega) _ rfl⟩
theorem pairs_row {w : World} {B n : Nat} {v : Value} {ps : List Pr} (h : w.ownsRow B 34 2 v n (prs ps)) (hn : n = ps.length) : PairsIn w v ps := by
  subst hn
  rcases h.2 with ⟨rfl, h0⟩ | ⟨g, cap, cur, rfl, _⟩
  · exact ⟨none, 0, by rw [h0], .inl (List.eq_nil_of_length_eq_zero h0)⟩
  · exact ⟨_, cap, rfl, .inr ⟨g, 0, rfl, (pairs_of_row h).pairs⟩⟩
theorem PairsIn.later {w w' : World} {v : Value} {ks : List Pr} (h : PairsIn w v ks) (hb : Below w.heap.size w w') : PairsIn w' v ks := by
  obtain ⟨a, c, hv, h⟩ := h
  refine ⟨a, c, hv, h.imp id ?_⟩
  rintro ⟨g, off, ha, h⟩
  exact ⟨g, off, ha, h.later hb⟩
theorem EvsIn.later {w w' : World} {v : Value} {ks : List Ev} (h : EvsIn w v ks) (hb : Below w.heap.size w w') : EvsIn w' v ks := by
  obtain ⟨a, c, hv, h⟩ := h
  refine ⟨a, c, hv, h.imp id ?_⟩
  rintro ⟨g, off, ha, h⟩
  exact ⟨g, off, ha, fun i k hk => ⟨cell_later hb (h i k hk).1, cell_later hb (h i k hk).2.1, cell_later hb (h i k hk).2.2.1, cell_later hb (h i k hk).2.2.2.1, cell_later hb (h i k hk).2.2.2.2.1, cell_later hb (h i k hk).2.2.2.2.2⟩⟩
theorem grown_below {w w' : World} (h : w.grownBy w' none) : Below w.heap.size w w' := ⟨h.os, h.tape, h.output, h.size, fun k hk => h.block k hk (by simp)⟩

theorem ex5 : Sorted [(⟨#[97]⟩, ⟨#[50]⟩), (⟨#[98]⟩, ⟨#[51]⟩)] := ⟨fun q hq => by simp only [List.mem_singleton] at hq; subst hq; decide +kernel, (fun (q : Pr) (hq : q ∈ ([] : List Pr)) => absurd hq (by simp)), trivial⟩
theorem ex6 : ∀ k, look [(⟨#[97]⟩, ⟨#[50]⟩), (⟨#[98]⟩, ⟨#[52]⟩)] k = T.fU (look [(⟨#[97]⟩, ⟨#[50]⟩), (⟨#[98]⟩, ⟨#[51]⟩)] k) (look [(⟨#[98]⟩, ⟨#[52]⟩)] k) := fun k => by
  simp only [look, T.fU]
  by_cases h1 : (⟨#[97]⟩ : ByteArray) = k
  · subst h1; decide +kernel
  · by_cases h2 : (⟨#[98]⟩ : ByteArray) = k
    · subst h2; decide +kernel
    · simp [h1, h2]
theorem ex7 : Sorted [(⟨#[97]⟩, ⟨#[50]⟩), (⟨#[98]⟩, ⟨#[52]⟩)] := ⟨fun q hq => by simp only [List.mem_singleton] at hq; subst hq; decide +kernel, (fun (q : Pr) (hq : q ∈ ([] : List Pr)) => absurd hq (by simp)), trivial⟩
theorem ex8 : ([(⟨#[97]⟩, ⟨#[50]⟩), (⟨#[98]⟩, ⟨#[52]⟩)] : List Pr).filterMap (fun p => ev p.1 (look [(⟨#[97]⟩, ⟨#[50]⟩), (⟨#[98]⟩, ⟨#[51]⟩)] p.1) (look [(⟨#[98]⟩, ⟨#[52]⟩)] p.1)) = [⟨⟨#[97]⟩, true, ⟨#[50]⟩, false, ⟨#[]⟩⟩, ⟨⟨#[98]⟩, true, ⟨#[51]⟩, true, ⟨#[52]⟩⟩] := by decide +kernel
theorem ex1 : dd (isort [(⟨#[98]⟩, ⟨#[49]⟩), (⟨#[97]⟩, ⟨#[50]⟩), (⟨#[98]⟩, ⟨#[51]⟩)]) = [(⟨#[97]⟩, ⟨#[50]⟩), (⟨#[98]⟩, ⟨#[51]⟩)] := by decide +kernel
theorem ex2 : dd (isort [(⟨#[98]⟩, ⟨#[52]⟩)]) = [(⟨#[98]⟩, ⟨#[52]⟩)] := by decide +kernel
theorem ex3 : cnt [(⟨#[97]⟩, ⟨#[50]⟩), (⟨#[98]⟩, ⟨#[51]⟩)] ⟨#[98]⟩ = 1 := by decide +kernel
theorem ex4 : flo [(⟨#[97]⟩, ⟨#[50]⟩), (⟨#[98]⟩, ⟨#[51]⟩)] ⟨#[97, 97]⟩ = some (⟨#[97]⟩, ⟨#[50]⟩) := by decide +kernel

theorem EqualP_true {w : World} {u v : Value} {xs : List Pr} (hu : PairsIn w u xs) (hv : PairsIn w v xs) (hb : xs.length ≤ 1073741824) :
    Calls Try.prog 57 #[u, v] w fun e w' => e = .returned (.bool true) ∧ Below w.heap.size w w' :=
  (EqualP_any hu hv hb).mono fun e w' ⟨h, hb⟩ => ⟨h.elim (fun h => h.1) (fun h => absurd rfl h.2), hb⟩
theorem EqualE_true {w : World} {u v : Value} {xs : List Ev} (hu : EvsIn w u xs) (hv : EvsIn w v xs) (hb : xs.length ≤ 1073741824) :
    Calls Try.prog 52 #[u, v] w fun e w' => e = .returned (.bool true) ∧ Below w.heap.size w w' :=
  (EqualE_any hu hv hb).mono fun e w' ⟨h, hb⟩ => ⟨h.elim (fun h => h.1) (fun h => absurd rfl h.2), hb⟩

/-- What the examples hold on to. -/
structure Exs (w0 w : World) (g : Nat) (t : T) (v : Option Addr) (d : Value) (es : List Ev) (k x : ByteArray) : Prop where
  box : Box w g k x
  tree : Tr w w.heap.size t v
  evs : EvsIn w d es
  below : Below w0.heap.size w0 w
theorem Exs.later {w0 w w' : World} {g : Nat} {t : T} {v : Option Addr} {d : Value} {es : List Ev} {k x : ByteArray} (h : Exs w0 w g t v d es k x) (hb : Below w.heap.size w w') : Exs w0 w' g t v d es k x :=
  ⟨h.box.later hb, h.tree.all hb, h.evs.later hb, h.below.trans (hb.mono h.below.size)⟩

set_option maxRecDepth 100000 in
set_option maxHeartbeats 3200000 in
theorem awake_any (w : World) : Calls Try.prog 16 #[] w (Yes w) := by
  have HP := Lib.hid pair_any
  go_enter Try.func16, Try.ntmps16
  go_wp2_with fail
  go_fit (HP.out _ _ _)
  rintro e w1 ⟨rfl, hb1⟩
  go_wp2_with fail
  go_fit (HP.out _ _ _)
  rintro e w2 ⟨rfl, hb2⟩
  go_wp2_with fail
  go_fit (HP.out _ _ _)
  rintro e w3 ⟨rfl, hb3⟩
  have HB3 := Lib.hid ((hb1.trans (hb2.mono hb1.size)).trans (hb3.mono (Nat.le_trans hb1.size hb2.size)))
  clear hb1 hb2 hb3
  go_wp2_with fail
  have hA := below_alloc w3 (Obj.cells #[Value.string { data := #[98] }, Value.string { data := #[49] }, Value.string { data := #[97] }, Value.string { data := #[50] }, Value.string { data := #[98] }, Value.string { data := #[51] }] 34)
  have HOf := Lib.hid (Of_some (c := 3) (n := 3) (pairs_block w3 [(⟨#[98]⟩, ⟨#[49]⟩), (⟨#[97]⟩, ⟨#[50]⟩), (⟨#[98]⟩, ⟨#[51]⟩)] _ 34 rfl) rfl (by decide) (by decide))
  rw [ex1] at HOf
  go_fit HOf.out
  rintro e w4 ⟨v4, t4, rfl, hq4, ht4, hb4⟩
  have HB4 := Lib.hid (HB3.out.trans ((hA.trans (hb4.mono hA.size)).mono HB3.out.size))
  have G4 : Hid (Good t4 500000000) := ⟨hq4.2.1, by rw [hq4.1]; exact ex5, by rw [← T.size_list, hq4.1]; decide⟩
  have HL4 := Lib.hid hq4.1
  have HT4 := Lib.hid ht4
  clear hA HOf hq4 ht4 hb4
  go_wp2_with fail
  have HF := Lib.hid (Floor_any ⟨#[97, 97]⟩ HT4.out G4.out)
  rw [HL4.out, ex4] at HF
  have HF' : Hid (Calls Try.prog 32 #[.pointer v4, .string ⟨#[97, 97]⟩] w4 fun e w' => e = .returned (.tuple #[.agg #[.string ⟨#[97]⟩, .string ⟨#[50]⟩], .bool true]) ∧ Below w4.heap.size w4 w') := HF.out
  go_fit HF'.out
  rintro e w5 ⟨rfl, hb5⟩
  have HB5 := Lib.hid (HB4.out.trans (hb5.mono HB4.out.size))
  have HT5 := Lib.hid (HT4.out.all hb5)
  clear hb5 HF HF' HT4
  go_wp2_with fail
  have hA5 := below_alloc w5 (Obj.cells #[Value.string { data := #[97] }, Value.string { data := #[50] }] 34)
  have HX := Lib.hid (box_alloc w5 ⟨#[97]⟩ ⟨#[50]⟩ 34)
  go_fit (HP.out _ _ _)
  rintro e w6 ⟨rfl, hb6⟩
  have h56 := hA5.trans (hb6.mono hA5.size)
  have hA6 := below_alloc w6 (Obj.cells #[Value.string { data := #[98] }, Value.string { data := #[52] }] 34)
  have HOf := Lib.hid (Of_some (c := 1) (n := 1) (pairs_block w6 [(⟨#[98]⟩, ⟨#[52]⟩)] _ 34 rfl) rfl (by decide) (by decide))
  rw [ex2] at HOf
  have HX6 := Lib.hid (HX.out.later hb6)
  have H56 := Lib.hid h56
  clear hA5 hb6 HX h56
  go_wp2_with fail
  go_fit HOf.out
  rintro e w7 ⟨v7, t7, rfl, hq7, ht7, hb7⟩
  have h67 := hA6.trans (hb7.mono hA6.size)
  have G7 : Hid (Good t7 500000000) := ⟨hq7.2.1, by rw [hq7.1]; exact ⟨(fun (q : Pr) (hq : q ∈ ([] : List Pr)) => absurd hq (by simp)), trivial⟩, by rw [← T.size_list, hq7.1]; decide⟩
  have HL7 := Lib.hid hq7.1
  have h57 := H56.out.trans (h67.mono H56.out.size)
  have HX7 := Lib.hid (HX6.out.later h67)
  have HT7 := Lib.hid (HT5.out.all h57)
  have HU7 := Lib.hid ht7
  have HB7 := Lib.hid (HB5.out.trans (h57.mono HB5.out.size))
  clear hA6 HOf hq7 ht7 hb7 h67 h57 HX6 H56 HT5 HB5
  go_wp2_with fail
  go_fit (Diff_any HT7.out HU7.out G4.out G7.out)
  rintro e w8 ⟨v8, ds, rfl, hd, _, hown, hg8, _⟩
  have h78 : Below w7.heap.size w7 w8 := grown_below hg8
  have hds : ds = [⟨⟨#[97]⟩, true, ⟨#[50]⟩, false, ⟨#[]⟩⟩, ⟨⟨#[98]⟩, true, ⟨#[51]⟩, true, ⟨#[52]⟩⟩] := by
    have := hd [(⟨#[97]⟩, ⟨#[50]⟩), (⟨#[98]⟩, ⟨#[52]⟩)] ex7 (by rw [HL4.out, HL7.out]; exact ex6)
    rw [HL4.out, HL7.out, ex8] at this
    exact this
  rw [List.nil_append] at hown
  have HE8 := Lib.hid (events_row hown rfl)
  rw [hds] at HE8
  have HX8 := Lib.hid (HX7.out.later h78)
  have HT8 := Lib.hid (HT7.out.all h78)
  have HB8 := Lib.hid (HB7.out.trans (h78.mono HB7.out.size))
  obtain ⟨a8, c8, rfl, _⟩ := row_slice hown
  clear hd hown hg8 h78 hds HX7 HT7 HU7 HB7 HL7 G7
  go_wp2_with fail
  have HS : Hid (Exs w w8.drew w5.heap.size t4 v4 (.slice a8 ds.length c8) [⟨⟨#[97]⟩, true, ⟨#[50]⟩, false, ⟨#[]⟩⟩, ⟨⟨#[98]⟩, true, ⟨#[51]⟩, true, ⟨#[52]⟩⟩] ⟨#[97]⟩ ⟨#[50]⟩) :=
    Exs.later ⟨HX8.out, HT8.out, HE8.out, HB8.out⟩ (below_drew1 w8)
  have HEq := fun W => pairs_eql W ⟨#[97]⟩ ⟨#[50]⟩ ⟨#[97]⟩ ⟨#[50]⟩
  have hE : (decide ((⟨#[97]⟩ : ByteArray) = ⟨#[97]⟩) && decide ((⟨#[50]⟩ : ByteArray) = ⟨#[50]⟩)) = true := by simp
  simp only [hE] at HEq
  have x0 := HX8.out.c0
  have x1 := HX8.out.c1
  clear HX8 HT8 HE8 HB8 HB4 hE HB3
  go_region_held3 (fun V => V.cell? ⟨w5.heap.size, 0, none⟩ = some (.string ⟨#[97]⟩) ∧ V.cell? ⟨w5.heap.size, 1, none⟩ = some (.string ⟨#[50]⟩)) (go_keep)
    (first
      | (go_at_call 26; refine (All_any HS.out.tree G4.out).mono ?_; rintro e w9 ⟨va, rfl, hown9, hg9, _⟩; rw [HL4.out] at hown9; obtain ⟨aa, ca, rfl, _⟩ := row_slice hown9; have hb9 := grown_below hg9; have HPa := Lib.hid (pairs_row hown9 rfl); have HS := Lib.hid (HS.out.later hb9); have x0 := HS.out.box.c0; have x1 := HS.out.box.c1; clear hown9 hg9 hb9)
      | (go_at_call 20; refine (HP.out _ _ _).mono ?_; rintro e wp ⟨rfl, hbp⟩; have HPa := Lib.hid (HPa.out.later hbp); have HS := Lib.hid (HS.out.later hbp); have x0 := HS.out.box.c0; have x1 := HS.out.box.c1; clear hbp)
      | (go_at_call 57; refine (EqualP_true (HPa.out.later (below_alloc _ _)) ⟨_, 2, rfl, .inr ⟨_, 0, rfl, pairs_block _ [(⟨#[97]⟩, ⟨#[50]⟩), (⟨#[98]⟩, ⟨#[51]⟩)] _ _ rfl⟩⟩ (by decide)).mono ?_; rintro e wq ⟨rfl, hbq⟩; have HPa := Lib.hid ((HPa.out.later (below_alloc _ _)).later hbq); have HS := Lib.hid ((HS.out.later (below_alloc _ _)).later hbq); have x0 := HS.out.box.c0; have x1 := HS.out.box.c1; clear hbq)
      | (go_at_call 36; refine (Rank_any ⟨#[98]⟩ HS.out.tree G4.out).mono ?_; rintro e wr ⟨rfl, hbr⟩; rw [HL4.out, ex3]; have HPa := Lib.hid (HPa.out.later hbr); have HS := Lib.hid (HS.out.later hbr); have x0 := HS.out.box.c0; have x1 := HS.out.box.c1; clear hbr)
      | (go_at_call 52; refine (EqualE_true (HS.out.evs.later (below_alloc _ _)) ⟨_, 2, rfl, .inr ⟨_, 0, rfl, events_block _ [⟨⟨#[97]⟩, true, ⟨#[50]⟩, false, ⟨#[]⟩⟩, ⟨⟨#[98]⟩, true, ⟨#[51]⟩, true, ⟨#[52]⟩⟩] _ _ rfl⟩⟩ (by decide)).mono ?_; rintro e wz ⟨rfl, hbz⟩; have HS := Lib.hid ((HS.out.later (below_alloc _ _)).later hbz); have x0 := HS.out.box.c0; have x1 := HS.out.box.c1; clear hbz))
  go_wp2_with fail
  go_ret
  exact ⟨rfl, HS.out.below⟩
end Go.Proofs.Ytcncggndpnooeaa
