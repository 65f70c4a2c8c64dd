/-
  The document's Parts, Pairs; lists that are the same.
-/
import Derived.Test.YtcbgnmolfdhnfaaGreatT3
import Derived.Test.YtcbgnmolfdhnfaaGreatRH
import Derived.Laws.StructEq
namespace Go.Proofs.YtcbgnmolfdhnfaaGreat
set_option linter.unusedVariables false
set_option linter.unusedSimpArgs false
open Go.RowKit Go.Joins

theorem Tryz.pairFields : (Tryz.prog.fieldsOf 44).toList.map (fun f => (f.name, f.type, f.offset)) = [("Key", 9, 0), ("Value", 9, 1)] := by kernel_rfl
theorem part_string (W : World) (cs : Array Value) (o : Nat) (s : ByteArray) (h : cs[o]? = some (.string s)) : (part 9 cs o).run Tryz.prog W = .ok (.string s) W := by
  simp [part, isAgg, run_underlying Tryz.underlying9, h]
theorem pairs_neq (W : World) (a b c d : ByteArray) : (binOp .neq 44 (.agg #[.string a, .string b]) (.agg #[.string c, .string d])).run Tryz.prog W = .ok (.bool (!(decide (a = c) && decide (b = d)))) W := by
  have h : ∀ k : Nat, (Op.equalIn (k + 1 + 1) 44 (.agg #[.string a, .string b]) (.agg #[.string c, .string d])).run Tryz.prog W = .ok (decide (a = c) && decide (b = d)) W := fun k => by
    rw [run_equalIn_struct _ _ _ _ _ (by kernel_rfl) (by kernel_rfl)]
    obtain ⟨f1, l1, hl1, e1, hm1⟩ := List.map_eq_cons_iff.1 Tryz.pairFields
    obtain ⟨f2, l2, rfl, e2, hm2⟩ := List.map_eq_cons_iff.1 hm1
    obtain rfl := List.map_eq_nil_iff.1 hm2
    rw [hl1]
    simp only [Prod.mk.injEq] at e1 e2
    obtain ⟨n1, t1, o1⟩ := e1
    obtain ⟨n2, t2, o2⟩ := e2
    simp only [Op.eqFields, n1, n2, t1, t2, o1, o2]
    simp [part_string _ _ _ a, part_string, ba_eq, run_equalIn_string W k _ _ _ Tryz.underlying9]
    by_cases h1 : a = c <;> by_cases h2 : b = d <;> simp [h1, h2]
  rw [run_neq_struct, h 9998]
  rfl
theorem pairs_neq_same (W : World) (a b : ByteArray) : (binOp .neq 44 (.agg #[.string a, .string b]) (.agg #[.string a, .string b])).run Tryz.prog W = .ok (.bool false) W := by
  rw [pairs_neq]; simp
def SameE (w : World) (e : Ending) (w' : World) : Prop := e = .returned (.bool true) ∧ Below w.heap.size w w'
set_option maxRecDepth 100000 in
set_option maxHeartbeats 1600000 in
theorem Same_any {w : World} {u v : Value} {l : List Pr} (h : prL.In w u l) (h2 : prL.In w v l) (hl : l.length ≤ 1000000) : Calls Tryz.prog 13 #[u, v] w (SameE w) := by
  obtain ⟨a, c, rfl, _, _⟩ := h.slice
  obtain ⟨a2, c2, rfl, _, _⟩ := h2.slice
  have HX := Lib.hid h
  have HY := Lib.hid h2
  obtain ⟨n, hn⟩ : ∃ n, n = l.length := ⟨_, rfl⟩
  rw [← hn] at hl HX HY ⊢
  have HN := Lib.hid hn
  clear h h2 hn
  go_enter Tryz.func13, Tryz.ntmps13
  go_wp2_with fail
  go_loopw [13] (fun i wr => ∃ j : Nat, i = .int .i64 j ∧ j ≤ n ∧ Hid (Below w.heap.size w wr)) (fun i _ => n - (intOf i).toNat)
  case atStart => exact ⟨0, rfl, Nat.zero_le _, Lib.hid (Below.refl _ _)⟩
  case round =>
    obtain ⟨j, rfl, hj, HB⟩ := hrel
    have ek : IntKind.i64.wrap ((j : Int) + 1) = (j : Int) + 1 := IntWalk.i64_in _ (by omega)
    by_cases hlt : j < n
    · obtain ⟨⟨k, x⟩, hg⟩ : ∃ d, l[j]? = some d := ⟨l[j]'(by rw [← HN.out]; exact hlt), List.getElem?_eq_getElem _⟩
      obtain ⟨g, off, rfl, hcl, hat⟩ := (HX.out.later HB.out).cells hg
      obtain ⟨g2, off2, rfl, hcl2, hat2⟩ := (HY.out.later HB.out).cells hg
      clear hcl hcl2
      have q0 : wr.cell? ⟨g, off + j * 2, none⟩ = some (.string k) := hat 0 _ rfl
      have q1 : wr.cell? ⟨g, off + j * 2 + 1, none⟩ = some (.string x) := hat 1 _ rfl
      have p0 : wr.cell? ⟨g2, off2 + j * 2, none⟩ = some (.string k) := hat2 0 _ rfl
      have p1 : wr.cell? ⟨g2, off2 + j * 2 + 1, none⟩ = some (.string x) := hat2 1 _ rfl
      have hq := fun V => pairs_neq_same V k x
      have hI1 : (j : Int) < (n : Int) := by omega
      have hI2 : (0 : Int) ≤ (j : Int) := by omega
      clear hat hat2 hg
      go_wp2_with fail
      go_quiet (fail)
      clear q0 q1 p0 p1 hq
      have HBq := Lib.hid (below_drewN HB.out nq)
      generalize wr.drewN nq = V at *
      go_wp2_with fail
      exact ⟨⟨j + 1, by push_cast; rfl, by omega, HBq⟩, by simp [intOf]; omega⟩
    · obtain rfl : j = n := by omega
      go_wp2_with fail
      go_ret
      exact ⟨rfl, HB.out⟩
set_option maxRecDepth 100000 in
set_option maxHeartbeats 1600000 in
theorem EqU_any {w : World} {u v : Value} {l : List Nat} (h : u64L.In w u l) (h2 : u64L.In w v l) (hl : l.length ≤ 1000000) : Calls Tryz.prog 12 #[u, v] w (SameE w) := by
  obtain ⟨a, c, rfl, _, _⟩ := h.slice
  obtain ⟨a2, c2, rfl, _, _⟩ := h2.slice
  have HX := Lib.hid h
  have HY := Lib.hid h2
  obtain ⟨n, hn⟩ : ∃ n, n = l.length := ⟨_, rfl⟩
  rw [← hn] at hl HX HY ⊢
  have HN := Lib.hid hn
  clear h h2 hn
  go_enter Tryz.func12, Tryz.ntmps12
  go_wp2_with fail
  go_loopw [13] (fun i wr => ∃ j : Nat, i = .int .i64 j ∧ j ≤ n ∧ Hid (Below w.heap.size w wr)) (fun i _ => n - (intOf i).toNat)
  case atStart => exact ⟨0, rfl, Nat.zero_le _, Lib.hid (Below.refl _ _)⟩
  case round =>
    obtain ⟨j, rfl, hj, HB⟩ := hrel
    have ek : IntKind.i64.wrap ((j : Int) + 1) = (j : Int) + 1 := IntWalk.i64_in _ (by omega)
    by_cases hlt : j < n
    · obtain ⟨k, hg⟩ : ∃ d, l[j]? = some d := ⟨l[j]'(by rw [← HN.out]; exact hlt), List.getElem?_eq_getElem _⟩
      obtain ⟨g, off, rfl, hcl, hat⟩ := (HX.out.later HB.out).cells hg
      obtain ⟨g2, off2, rfl, hcl2, hat2⟩ := (HY.out.later HB.out).cells hg
      clear hcl hcl2
      have q0 : wr.cell? ⟨g, off + j, none⟩ = some (.int .u64 k) := by have h := hat 0 _ rfl; simpa [u64L] using h
      have p0 : wr.cell? ⟨g2, off2 + j, none⟩ = some (.int .u64 k) := by have h := hat2 0 _ rfl; simpa [u64L] using h
      have hI1 : (j : Int) < (n : Int) := by omega
      have hI2 : (0 : Int) ≤ (j : Int) := by omega
      clear hat hat2 hg
      go_wp2_with fail
      go_quiet (fail)
      clear q0 p0
      have HBq := Lib.hid (below_drewN HB.out nq)
      generalize wr.drewN nq = V at *
      go_wp2_with fail
      exact ⟨⟨j + 1, by push_cast; rfl, by omega, HBq⟩, by simp [intOf]; omega⟩
    · obtain rfl : j = n := by omega
      go_wp2_with fail
      go_ret
      exact ⟨rfl, HB.out⟩
set_option maxRecDepth 100000 in
set_option maxHeartbeats 3200000 in
theorem right_any {w : World} {v : Value} {p : List Int} {m : Nat} (h : intL.In w v p) (hl : p.length ≤ 1000000) (hm : m ≤ 4) : Calls Tryz.prog 27 #[v, .int .i64 m] w (BoolD (rightP p m) w) := by
  obtain ⟨a, c, rfl, _, _⟩ := h.slice
  have HI := Lib.hid h
  clear h
  obtain ⟨n, hn⟩ : ∃ n, n = p.length := ⟨_, rfl⟩
  rw [← hn] at hl HI ⊢
  have HN := Lib.hid hn
  clear hn
  obtain ⟨b0, hb0⟩ : ∃ b, b = decide (n ≤ m) := ⟨_, rfl⟩
  have HB0 := Lib.hid hb0
  have hbi : decide ((n : Int) ≤ (m : Int)) = b0 := by rw [hb0]; exact decide_eq_decide.2 (by omega)
  clear hb0
  go_enter Tryz.func27, Tryz.ntmps27
  go_wp2_with fail
  (try rw [hbi])
  clear hbi
  go_loopw [5, 14] (fun u i wr => ∃ (j : Nat) (b : Bool), i = .int .i64 j ∧ j ≤ n ∧ u = .bool b ∧ Hid (b = (b0 && !nods (p.take j))) ∧ w = wr) (fun _ i _ => n - (intOf i).toNat)
  case atStart => exact ⟨0, b0, rfl, Nat.zero_le _, by rw [HB0.out], Lib.hid (by simp [nods]), rfl⟩
  case round =>
    obtain ⟨j, b, rfl, hj, rfl, HL, rfl⟩ := hrel
    have ek : IntKind.i64.wrap ((j : Int) + 1) = (j : Int) + 1 := IntWalk.i64_in _ (by omega)
    by_cases hlt : j < n
    · obtain ⟨d, hg⟩ : ∃ d, p[j]? = some d := ⟨p[j]'(by rw [← HN.out]; exact hlt), List.getElem?_eq_getElem _⟩
      obtain ⟨g, off, rfl, hcl, hat⟩ := HI.out.cells hg
      clear hcl
      have q0 : w.cell? ⟨g, off + j, none⟩ = some (.int .i64 d) := by
        have h := hat 0 _ rfl
        simpa [intL] using h
      have HSt : Hid ((b0 && !nods (p.take (j + 1))) = (b && !nod d)) := by
        have h := HL.out
        refine Lib.hid ?_
        unfold nods at h ⊢
        rw [List.take_add_one, hg, Option.toList_some, List.any_append, h]
        cases b0 <;> cases (List.any (List.take j p) nod) <;> simp
      have hI1 : (j : Int) < (n : Int) := by omega
      have hI2 : (0 : Int) ≤ (j : Int) := by omega
      clear hat hg
      cases b with
      | false =>
        have HN2 : Hid (false = (b0 && !nods (p.take (j + 1)))) := Lib.hid (by rw [HSt.out]; rfl)
        go_wp2_with fail
        exact ⟨⟨j + 1, false, by push_cast; rfl, by omega, rfl, HN2, trivial⟩, by simp [intOf]; omega⟩
      | true =>
        by_cases h0 : d < 0
        · have HN2 : Hid (false = (b0 && !nods (p.take (j + 1)))) := Lib.hid (by rw [HSt.out]; simp [nod, h0])
          have h0' : ¬ (0 : Int) ≤ d := by omega
          go_wp2_with fail
          exact ⟨⟨j + 1, false, by push_cast; rfl, by omega, rfl, HN2, trivial⟩, by simp [intOf]; omega⟩
        · have h0' : (0 : Int) ≤ d := by omega
          by_cases h1 : (16 : Int) ≤ d
          · have HN2 : Hid (false = (b0 && !nods (p.take (j + 1)))) := Lib.hid (by rw [HSt.out]; simp [nod, h1])
            have h1' : ¬ d < (16 : Int) := by omega
            go_wp2_with fail
            exact ⟨⟨j + 1, false, by push_cast; rfl, by omega, rfl, HN2, trivial⟩, by simp [intOf]; omega⟩
          · have HN2 : Hid (true = (b0 && !nods (p.take (j + 1)))) := Lib.hid (by rw [HSt.out]; simp [nod, h0, h1])
            have h1' : d < (16 : Int) := by omega
            go_wp2_with fail
            exact ⟨⟨j + 1, true, by push_cast; rfl, by omega, rfl, HN2, trivial⟩, by simp [intOf]; omega⟩
    · obtain rfl : j = n := by omega
      have hL := HL.out
      rw [List.take_of_length_le (by rw [← HN.out]; exact Nat.le_refl _), HB0.out] at hL
      have HLL : Hid (b = rightP p m) := Lib.hid (by rw [hL]; unfold rightP; rw [← HN.out])
      clear hL
      go_wp2_with fail
      go_ret
      exact ⟨by rw [← HLL.out]; first | done | rfl, rfl⟩
/-- The error of a path. -/
def er (p : List Int) (m : Nat) : Int := if rightP p m = true then 0 else 1
noncomputable def pl (s : Sd) (p : List Int) (S : List Pl) : List Nat := if rightP p 3 = true then s.ts (3 - p.length) S 16 else []
theorem PartsU {s : Sd} {w : World} {tb : Nat} {S : List Pl} {v : Value} {p : List Int} (ht : TrIn s w tb S) (hp : intL.In w v p) (hl : p.length ≤ 1000000) :
    Calls Tryz.prog 8 #[.pointer (some ⟨tb, 0, none⟩), v] w fun e w' => ∃ u, e = .returned (.tuple #[u, .int .i64 (er p 3)]) ∧ u64L.In w' u (pl s p (subI 4 p S)) ∧ Below w.heap.size w w' :=
  (Parts_any ht hp hl).mono fun e w' h => by
    rcases h with ⟨hr, he, hb⟩ | ⟨hr, u, he, hrw⟩
    · refine ⟨_, by rw [he, er, if_neg (by rw [hr]; decide)], ?_, hb⟩
      rw [pl, if_neg (by rw [hr]; decide)]
      exact Lay.In.nil _
    · refine ⟨u, by rw [he, er, if_pos hr], ?_, hrw.grown⟩
      rw [pl, if_pos hr]
      exact hrw.told
def prs (s : Sd) (p : List Int) (R : List Pr) : List Pr := if rightP p 4 = true then R else []
theorem PairsU {s : Sd} {w : World} {tb : Nat} {l : List Pr} {v : Value} {p : List Int} (ht : TrIn s w tb (s.place l)) (hS : (s.place l).length ≤ 100000) (hp : intL.In w v p) (hl : p.length ≤ 1000000) :
    Calls Tryz.prog 10 #[.pointer (some ⟨tb, 0, none⟩), v] w fun e w' => ∃ u, e = .returned (.tuple #[u, .int .i64 (er p 4)]) ∧ Rw prL 44 w w' u (prs s p (s.inR p (un [] l))) :=
  (Pairs_any ht hS hp hl).mono fun e w' h => by
    rcases h with ⟨hr, he, hb⟩ | ⟨hr, u, r, he, hsr, hrw⟩
    · refine ⟨_, by rw [he, er, if_neg (by rw [hr]; decide)], ?_⟩
      rw [prs, if_neg (by rw [hr]; decide)]
      exact ⟨World.ownsRow_nil _ _ _ _, hb⟩
    · refine ⟨u, by rw [he, er, if_pos hr], ?_⟩
      rw [prs, if_pos hr]
      have hr' := hr
      unfold rightP at hr'
      rw [Bool.and_eq_true, Bool.not_eq_true', decide_eq_true_eq] at hr'
      rw [← part_sorted (nods_dig hr'.2) hr'.1 hsr]
      exact hrw
set_option maxRecDepth 100000 in
set_option maxHeartbeats 3200000 in
theorem RPairsU {s : Sd} {w : World} {tb : Nat} {R : List Pr} {v : Value} {p : List Int} (hs : s.Ok) (ht : RTr s w tb R) (hR : R.length ≤ 100000) (hsl : Slim R) (hp : intL.In w v p) (hl : p.length ≤ 10) :
    Calls Tryz.prog 11 #[.pointer (some ⟨tb, 0, none⟩), v] w fun e w' => ∃ u, e = .returned (.tuple #[u, .int .i64 (er p 4)]) ∧ prL.In w' u (prs s p (s.inR p R)) ∧ Below w.heap.size w w' := by
  have HR := Lib.hid (right_any (m := 4) hp (by omega) (by decide))
  have HI := Lib.hid (In_any hs ht (by omega) hsl hp hl)
  obtain ⟨a, c, rfl, _, _⟩ := hp.slice
  clear hp ht hsl hs
  cases hr : rightP p 4 with
  | false =>
    rw [hr] at HR
    have HE : Hid (er p 4 = 1 ∧ prs s p (s.inR p R) = []) := Lib.hid ⟨by rw [er, if_neg (by rw [hr]; decide)], by rw [prs, if_neg (by rw [hr]; decide)]⟩
    clear hr HI
    go_enter Tryz.func11, Tryz.ntmps11
    go_wp2_with fail
    go_fit HR.out
    rintro e w' ⟨rfl, rfl⟩
    go_wp2_with fail
    refine bodyPost_ret (v := .tuple #[.slice none 0 0, .int .i64 1]) (by simp [results, Tryz.results11, go_sem]) rfl ?_
    exact ⟨_, by rw [HE.out.1], by rw [HE.out.2]; exact Lay.In.nil _, Below.refl _ _⟩
  | true =>
    rw [hr] at HR
    have HE : Hid (er p 4 = 0 ∧ prs s p (s.inR p R) = s.inR p R) := Lib.hid ⟨by rw [er, if_pos hr], by rw [prs, if_pos hr]⟩
    clear hr
    go_enter Tryz.func11, Tryz.ntmps11
    go_wp2_with fail
    go_fit HR.out
    rintro e w' ⟨rfl, rfl⟩
    go_wp2_with fail
    go_fit HI.out
    rintro e w2 ⟨u, rfl, hr2⟩
    obtain ⟨ua, uc, rfl, _, _⟩ := hr2.slice
    have H2 := Lib.hid hr2
    obtain ⟨k, hk⟩ : ∃ k, k = (s.inR p R).length := ⟨_, rfl⟩
    rw [← hk] at H2 ⊢
    clear hr2 hk HI
    go_wp2_with fail
    refine bodyPost_ret (v := .tuple #[.slice ua k uc, .int .i64 0]) (by simp [results, Tryz.results11, go_sem]) rfl ?_
    exact ⟨_, by rw [HE.out.1], by rw [HE.out.2]; exact H2.out.told, H2.out.grown⟩
set_option maxRecDepth 100000 in
set_option maxHeartbeats 6400000 in
theorem RPartsU {s : Sd} {w : World} {tb : Nat} {R : List Pr} {v : Value} {p : List Int} (hs : s.Ok) (ht : RTr s w tb R) (hR : R.length ≤ 100000) (hsl : Slim R) (hp : intL.In w v p) (hl : p.length ≤ 10) :
    Calls Tryz.prog 9 #[.pointer (some ⟨tb, 0, none⟩), v] w fun e w' => ∃ u, e = .returned (.tuple #[u, .int .i64 (er p 3)]) ∧ u64L.In w' u (pl s p (s.mp p R)) ∧ Below w.heap.size w w' := by
  have HR := Lib.hid (right_any (m := 3) hp (by omega) (by decide))
  have HT := Lib.hid ht
  have HP := Lib.hid hp
  have HS := Lib.hid hs
  have HSl := Lib.hid (show R.length ≤ 100000 ∧ Slim R from ⟨hR, hsl⟩)
  obtain ⟨a, c, rfl, _, _⟩ := hp.slice
  obtain ⟨m, hm⟩ : ∃ m, m = p.length := ⟨_, rfl⟩
  rw [← hm] at HP HR hl ⊢
  have HMm := Lib.hid hm
  clear hp ht hsl hs hm hR
  cases hr : rightP p 3 with
  | false =>
    rw [hr] at HR
    have HE : Hid (er p 3 = 1 ∧ pl s p (s.mp p R) = []) := Lib.hid ⟨by rw [er, if_neg (by rw [hr]; decide)], by rw [pl, if_neg (by rw [hr]; decide)]⟩
    clear hr
    go_enter Tryz.func9, Tryz.ntmps9
    go_wp2_with fail
    go_fit HR.out
    rintro e w' ⟨rfl, rfl⟩
    go_wp2_with fail
    refine bodyPost_ret (v := .tuple #[.slice none 0 0, .int .i64 1]) (by simp [results, Tryz.results9, go_sem]) rfl ?_
    exact ⟨_, by rw [HE.out.1], by rw [HE.out.2]; exact Lay.In.nil _, Below.refl _ _⟩
  | true =>
    rw [hr] at HR
    have HE : Hid (er p 3 = 0 ∧ pl s p (s.mp p R) = s.ts (3 - p.length) (s.mp p R) 16) := Lib.hid ⟨by rw [er, if_pos hr], by rw [pl, if_pos hr]⟩
    have hp3 : p.length ≤ 3 := by unfold rightP at hr; rw [Bool.and_eq_true, decide_eq_true_eq] at hr; exact hr.1
    obtain ⟨q, hq⟩ : ∃ q, q = 3 - p.length := ⟨_, rfl⟩
    have hpq : p.length + (q + 1) = 4 := by omega
    have hm3 : m ≤ 3 := by rw [HMm.out]; exact hp3
    rw [← hq] at HE
    have HPq := Lib.hid hpq
    have HDg : Hid (∀ (V : World) (v : Value) (k : Nat), Below w.heap.size w V → intL.In V v (p ++ [(k : Int)]) → Calls Tryz.prog 15 #[.pointer (some ⟨tb, 0, none⟩), v] V fun e w' => e = .returned (.int .u64 (s.tr q (sub q k (s.mp p R)) : Nat)) ∧ Below V.heap.size V w') := Lib.hid fun V v k hV hv => by
      have h := dig_any HS.out q (by omega) V tb R v (p ++ [(k : Int)]) (HT.out.later hV) HSl.out.1 HSl.out.2 hv (by rw [List.length_append]; simp; omega)
      rw [mp_app s p R HPq.out] at h
      exact h
    obtain ⟨T, hT⟩ : ∃ T, T = s.mp p R := ⟨_, rfl⟩
    rw [← hT] at HE HDg
    have HTe := Lib.hid hT
    clear hr hq hpq hT hp3
    go_enter Tryz.func9, Tryz.ntmps9
    go_wp2_with fail
    go_fit HR.out
    rintro e w1 ⟨rfl, rfl⟩
    go_wp2_with fail
    have HR0 : Hid (Rw u64L 22 w w (.slice none 0 0) (s.ts q T 0)) := Lib.hid (Rw.nil w)
    go_loopw [6, 11] (fun u i wr => ∃ k : Nat, i = .int .i64 k ∧ k ≤ 16 ∧ Hid (Rw u64L 22 w wr u (s.ts q T k))) (fun _ i _ => 16 - (intOf i).toNat)
    case atStart => exact ⟨0, rfl, Nat.zero_le _, HR0⟩
    case round =>
      obtain ⟨k, rfl, hk, hrw⟩ := hrel
      clear HR0
      have ek : IntKind.i64.wrap ((k : Int) + 1) = (k : Int) + 1 := IntWalk.i64_in _ (by omega)
      obtain ⟨ad, cc, hu, _, _⟩ := hrw.out.slice
      subst hu
      have hlen := s.ts_len q T k
      by_cases hlt : k < 16
      · have hltI : (k : Int) < 16 := by omega
        have HLn := Lib.hid hlen
        rw [hlen]
        have HRw := Lib.hid (show Rw u64L 22 w wr (.slice ad k cc) (s.ts q T k) from by have h := hrw.out; rw [hlen] at h; exact h)
        have hba := below_alloc wr (.cells #[] 3)
        have HBr := Lib.hid hrw.out.grown
        have HBa := Lib.hid (HBr.out.trans (hba.mono HBr.out.size))
        have HIp := Lib.hid (HP.out.later HBa.out)
        have HOwn : Hid ((wr.alloc (.cells #[] 3)).ownsRow wr.heap.size 3 intL.sz (.slice (some ⟨wr.heap.size, 0, none⟩) 0 0) ([] : List Int).length (intL.all [])) := World.ownsRow_made wr #[] 0 (Nat.le_refl _) (by decide) rfl
        have HL1 : Hid (([] : List Int).length + p.length ≤ 1073741825) := by show 0 + p.length ≤ _; have := HMm.out; omega
        have HL2 : Hid (m + 1 ≤ 1073741825) := by show _ ≤ _; omega
        have HSz := Lib.hid hba.size
        have HBb := Lib.hid hba
        clear hba hrw hlen
        go_wp2_with (first
          | (at_builtin; (refine wpList_catI (I := intL) rfl (.tmp 16) (.tmp 17) 26 3 rfl Tryz.underlying26 Tryz.infoInt rfl (by decide) (by decide) HOwn.out HIp.out HL1.out HSz.out rfl rfl ?_; intro v4 w4 hown4 hg4; have HO4 : Hid (w4.ownsRow wr.heap.size 3 1 v4 m (intL.all p)) := (by have h := hown4; rw [List.nil_append, ← HMm.out] at h; exact Lib.hid h); have HG4 := Lib.hid hg4; have HZ4 : Hid (wr.heap.size ≤ w4.heap.size) := Lib.hid (Nat.le_trans HSz.out hg4.size); clear hown4 hg4))
          | (at_builtin; (refine wpList_pushI rfl (.tmp 18) (.tmp 20) 26 3 _ 1 8 rfl Tryz.underlying26 Tryz.infoInt rfl (by decide) wr.heap.size m v4 (intL.all p) rfl HO4.out #[.int .i64 k] rfl (by simp [Value.oneCell']) rfl HL2.out (by decide) HZ4.out ?_; intro g5 c5 w5 hown5 hg5 hat5 hlt5; have HO5 := Lib.hid hown5; have HG5 := Lib.hid hg5; clear hown5 hg5 hat5 hlt5)))
        have HB5 : Hid (Below wr.heap.size wr w5) := by
          have h2 : Below wr.heap.size (wr.alloc (.cells #[] 3)) w4 := ⟨HG4.out.os, HG4.out.tape, HG4.out.output, HG4.out.size, fun k hk => HG4.out.block k (Nat.lt_of_lt_of_le hk HSz.out) (fun e => by simp [Value.ownBlock] at e; omega)⟩
          have h3 : Below wr.heap.size w4 w5 := ⟨HG5.out.os, HG5.out.tape, HG5.out.output, HG5.out.size, fun k hk => HG5.out.block k (Nat.lt_of_lt_of_le hk HZ4.out) (fun e => by have := (HO4.out.lt _ e.symm).1; omega)⟩
          exact Lib.hid (HBb.out.trans (h2.trans h3))
        have HI5 : Hid (intL.In w5 (.slice (some ⟨g5, 0, none⟩) (m + 1) c5) (p ++ [(k : Int)])) := Lib.hid (Lay.in_own (I := intL) (by have h := HO5.out; rw [Lay.all_app, Lay.all_one]; exact h) (by rw [List.length_append, HMm.out]; rfl))
        have HCl := Lib.hid (HDg.out w5 _ k (HBr.out.trans (HB5.out.mono HBr.out.size)) HI5.out)
        have HSt := Lib.hid (s.ts_step q T k)
        have HR5 := Lib.hid (HRw.out.below HB5.out)
        obtain ⟨X, hX⟩ : ∃ X, X = s.tr q (sub q k T) := ⟨_, rfl⟩
        rw [← hX] at HCl HSt
        clear hX HO4 HG4 HZ4 HO5 HG5 HB5 HI5 HIp HOwn HBb HRw HBr HBa
        go_fit HCl.out
        rintro e w6 ⟨rfl, hb6⟩
        have HR6 := Lib.hid (HR5.out.below hb6)
        have HO6 := Lib.hid (show w6.ownsRow w.heap.size 22 1 (.slice ad k cc) k (u64L.all (s.ts q T k)) from by have h := HR6.out.own; rw [HLn.out] at h; exact h)
        have HZ6 := Lib.hid HR6.out.grown.size
        have Hl6 : Hid (k + 1 ≤ 1073741825) := Lib.hid (by omega)
        clear hb6 HCl HR5
        go_wp2_with (at_builtin; (refine wpList_pushI rfl _ _ 33 22 _ 1 8 rfl Tryz.underlying33 Tryz.infoU64 rfl (by decide) w.heap.size k _ _ rfl HO6.out #[.int .u64 X] rfl (by simp [Value.oneCell']) rfl Hl6.out (by decide) HZ6.out ?_; intro g7 c7 w7 hown7 hg7 hat7 hlt7; have HO7 := Lib.hid hown7; have HG7 := Lib.hid hg7; clear hown7 hg7 hat7 hlt7))
        have HN2 : Hid (Rw u64L 22 w w7 (.slice (some ⟨g7, 0, none⟩) (k + 1) c7) (s.ts q T (k + 1))) := by
          have h := HR6.out.push X (g := g7) (c2 := c7) (w2 := w7) (by rw [HLn.out]; exact HO7.out) HG7.out
          rw [HLn.out, ← HSt.out] at h
          exact Lib.hid h
        exact ⟨⟨k + 1, by push_cast; rfl, by omega, HN2⟩, by simp [intOf]; omega⟩
      · obtain rfl : k = 16 := by omega
        rw [hlen] at hrw ⊢
        clear hlen
        go_wp2_with fail
        refine bodyPost_ret (v := .tuple #[.slice ad 16 cc, .int .i64 0]) (by simp [results, Tryz.results9, go_sem]) rfl ?_
        exact ⟨_, by rw [HE.out.1], by rw [← HTe.out, HE.out.2]; exact hrw.out.told, hrw.out.grown⟩
end Go.Proofs.YtcbgnmolfdhnfaaGreat
