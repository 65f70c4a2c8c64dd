/-
  A part that is parted, built.
-/
import Derived.Test.YtcbgnmolfdhnfaaH5
namespace Go.Proofs.Ytcbgnmolfdhnfaa
set_option linter.unusedVariables false
set_option linter.unusedSimpArgs false
open Go.RowKit

theorem PairsAt.left {w : World} {g off : Nat} {xs ys : List Pl} (h : PairsAt w g off (xs ++ ys)) : PairsAt w g off xs := fun i p hp => h i p (by rw [List.getElem?_append_left (List.getElem?_eq_some_iff.1 hp).1]; exact hp)
theorem PairsAt.right {w : World} {g off : Nat} {xs ys : List Pl} (h : PairsAt w g off (xs ++ ys)) : PairsAt w g (off + xs.length * 3) ys := fun i p hp => by
  have := h (xs.length + i) p (by rw [List.getElem?_append_right (Nat.le_add_right _ _), Nat.add_sub_cancel_left]; exact hp)
  rw [Nat.add_mul] at this
  simpa [Nat.add_assoc, Nat.add_left_comm, Nat.add_comm] using this
theorem Low.filter {S : List Pl} (h : Low S) (f : Pl → Bool) : Low (S.filter f) := fun p hp => h p (List.mem_filter.1 hp).1
theorem SlimP.filter {S : List Pl} (h : SlimP S) (f : Pl → Bool) : SlimP (S.filter f) := fun p hp => h p (List.mem_filter.1 hp).1
theorem mon_rst {n i : Nat} {S : List Pl} (h : Mon (n + 1) S) : (rst n i S).Pairwise fun p q => dgt n p ≤ dgt n q := h.dgt.sublist List.filter_sublist
theorem cut_is {n i m : Nat} {S : List Pl} (h : Mon (n + 1) S) (hm : m ≤ (rst n i S).length) (h1 : ∀ k p, k < m → (rst n i S)[k]? = some p → dgt n p ≤ i) (h2 : ∀ k p, m ≤ k → (rst n i S)[k]? = some p → i < dgt n p) : m = (sub n i S).length := by
  rw [rst_step h.dgt] at hm h1 h2
  refine cut_at (n := n) (i := i) (A := sub n i S) (B := rst n (i + 1) S) (fun p hp => by simpa using (List.mem_filter.1 hp).2) (fun p hp => by have := (List.mem_filter.1 hp).2; simp at this; omega) hm h1 h2
theorem row_slice {w : World} {B size n : Nat} {E : TypeId} {v : Value} {xs : List Value} (h : w.ownsRow B E size v n xs) : ∃ a c, v = .slice a n c ∧ n ≤ c := by
  rcases h.2 with ⟨h0, h1⟩ | ⟨g', cap, cur, hv, _, _, hn, hm, _⟩
  · exact ⟨none, 0, by rw [h0, h1], by omega⟩
  · exact ⟨_, cap, hv, hn⟩
theorem Bd.grown_cells {s : Sd} {w wr w4 : World} {N g n i ib : Nat} {S : List Pl} {av u kv : Value} {ks : List (Option Addr)} {off c : Nat} (h : Bd s w wr N g n i ib S av u kv ks off c) (hgr : wr.grownBy w4 kv.ownBlock) :
    w4.cell? ⟨N + 1, 0, none⟩ = some (.slice (some ⟨g, off, none⟩) (rst n i S).length c) ∧ w4.cell? ⟨N + 1 + 1 + 1, 2, none⟩ = some kv ∧ w4.frozen? ⟨N + 1, 0, none⟩ = false ∧ w4.frozen? ⟨N + 1 + 1 + 1, 2, none⟩ = false := by
  have hsz := h.sz
  have hkv : ∀ k, k < N + 4 → some k ≠ kv.ownBlock := fun k hk e => by have := (h.kr.lt k e.symm).1; omega
  have hsame : ∀ k, k < N + 4 → w4.heap[k]? = wr.heap[k]? := fun k hk => hgr.block k (by omega) (hkv k hk)
  exact ⟨(World.cell?_of_block (a := ⟨N + 1, 0, none⟩) (hsame _ (by show N + 1 < _; omega))).trans h.ta, (World.cell?_of_block (a := ⟨N + 1 + 1 + 1, 2, none⟩) (hsame _ (by show N + 1 + 1 + 1 < _; omega))).trans h.p2, (World.frozen?_of_block (a := ⟨N + 1, 0, none⟩) (hsame _ (by show N + 1 < _; omega))).trans (h.tz 0), (World.frozen?_of_block (a := ⟨N + 1 + 1 + 1, 2, none⟩) (hsame _ (by show N + 1 + 1 + 1 < _; omega))).trans (h.pz 2)⟩

theorem after13 {s : Sd} {w w3 w4 : World} {N g n i off c off1 c1 off2 c2 g4 cap4 L : Nat} {S : List Pl} {av u kv : Value} {ks : List (Option Addr)} {q : Option Addr}
    (h : Hid (Bd s w w3 N g n i i S av u kv ks off1 c1)) (hq : Hid (PtIn s w3 (Away N g kv u) n q (sub n i S)))
    (ho : Hid (w4.ownsRow (N + 4) 79 1 (.slice (some ⟨g4, 0, none⟩) (i + 1) cap4) (i + 1) (ptrL.all ks ++ [.pointer q]))) (hg : Hid (w3.grownBy w4 kv.ownBlock)) (ht : Hid (kv.ownBlock = some g4 ∨ w3.heap.size ≤ g4))
    (hl : Hid (L = (rst n (i + 1) S).length)) (hc : Hid (L ≤ c2 ∧ c2 ≤ 9223372036854775807)) (hp : Hid (PairsAt w3 g off2 (rst n (i + 1) S))) :
    ∃ (kv' : Value) (off3 c3 : Nat), Hid (Bd s w ((w4.setCell ⟨N + 1 + 1 + 1, 2, none⟩ (.slice (some ⟨g4, 0, none⟩) (i + 1) cap4)).setCell ⟨N + 1, 0, none⟩ (.slice (some ⟨g, off2, none⟩) L c2)) N g n (i + 1) i S av u kv' (ks ++ [q]) off3 c3) ∧
      Hid (PtIn s ((w4.setCell ⟨N + 1 + 1 + 1, 2, none⟩ (.slice (some ⟨g4, 0, none⟩) (i + 1) cap4)).setCell ⟨N + 1, 0, none⟩ (.slice (some ⟨g, off2, none⟩) L c2)) (Away N g kv' u) n q (sub n i S)) := by
  obtain ⟨ka4, kp4, _, _⟩ := h.out.grown_cells hg.out
  have HT := t2_ka (a := .slice (some ⟨g, off2, none⟩) L c2) (k := .slice (some ⟨g4, 0, none⟩) (i + 1) cap4) ka4 kp4
  have hL := hl.out
  subst hL
  have hb := h.out.push hq.out ho.out hg.out ht.out HT hc.out hp.out
  exact ⟨_, _, _, Lib.hid hb, Lib.hid (hb.kd i q (by rw [List.getElem?_append_right (by rw [h.out.kl]; exact Nat.le_refl _), h.out.kl, Nat.sub_self]; rfl))⟩

theorem part_done {s : Sd} {w wr w5 : World} {N g n off c off' c' l : Nat} {S : List Pl} {u kv : Value} {ks : List (Option Addr)} (h : Bd s w wr N g n 16 16 S (.slice (some ⟨g, off, none⟩) l c) u kv ks off' c') (hb : Below wr.heap.size wr w5) (hS : S ≠ []) (hl : l = S.length) (hc1 : l ≤ c) (hc2 : c ≤ 9223372036854775807) (hp : PairsAt w g off S) :
    PtIn s (w5.setCell ⟨N + 1 + 1 + 1, 0, none⟩ (.int .u64 (sumN s.a s.b (s.kidB n 16 S) : Nat))) (fun k => k = g ∨ N ≤ k) (n + 1) (some ⟨N + 1 + 1 + 1, 0, none⟩) S ∧ Below N w (w5.setCell ⟨N + 1 + 1 + 1, 0, none⟩ (.int .u64 (sumN s.a s.b (s.kidB n 16 S) : Nat))) := by
  have h5 := h.below hb
  have hwN := h.wN
  have hgl := h.gl
  have hoth : ∀ k, k ≠ N + 1 + 1 + 1 → (w5.setCell ⟨N + 1 + 1 + 1, 0, none⟩ (.int .u64 (sumN s.a s.b (s.kidB n 16 S) : Nat))).heap[k]? = w5.heap[k]? := fun k hk => heap_setCell_other _ _ _ _ hk
  refine ⟨.inr ⟨hS, N + 1 + 1 + 1, ?_⟩, h5.bel.setCell (by show N ≤ N + 1 + 1 + 1; omega) _⟩
  rcases h5.kr.2 with ⟨_, h0⟩ | ⟨kg, kc, cur, rfl, hkg, hh, hkc, hkm, _⟩
  · cases h0
  · refine ⟨_, kg, kc, rfl, .inr (by omega), ?_, (World.cell?_setCell_other _ _ _ _ (by simp)).trans h5.p1, (World.cell?_setCell_other _ _ _ _ (by simp)).trans h5.p2, hkc, .inr (by omega), ⟨g, off, c, by rw [hl], by rw [← hl]; exact hc1, hc2, .inl rfl, ?_⟩, fun i hi => ?_⟩
    · rw [s.tr_node hS]
      exact World.cell?_setCell_same _ _ _ h5.p0
    · exact hp.block ((hoth g (by omega)).trans (h5.bel.block g hgl))
    · have hik : i < ks.length := by rw [h5.kl]; exact hi
      have hr : ks[i]? = some ks[i] := List.getElem?_eq_getElem hik
      refine ⟨ks[i], (World.cell?_of_block (a := ⟨kg, i, none⟩) (hoth kg (by omega))).trans (krow_at h5.kr hr), (h5.kd i _ hr).keep fun k hk hkl => ?_⟩
      obtain ⟨h1, _, _⟩ := hk
      exact ⟨h1.imp id (fun e => by omega), hoth k (by rcases h1 with rfl | h1 <;> omega)⟩

set_option maxRecDepth 100000 in
set_option maxHeartbeats 12800000 in
theorem build_step {s : Sd} (hs : s.Ok) {n : Nat} (hn4 : n < 4) (IH : BuildOk s n) : BuildOk s (n + 1) := by
  intro w g off c S D hD hg hp hc1 hc2 hM hL hSl hl
  by_cases hS : S = []
  · subst hS
    exact build_none w (n + 1) _ c g D
  have hD3 : D = 3 - (n : Int) := by omega
  have hpos := List.length_pos_iff.2 hS
  have HP := Lib.hid hp
  have HSs := Lib.hid hS
  have HS := Lib.hid hs
  have HSl := Lib.hid hSl
  have HE := Lib.hid (s.tr_node (n := n) hS)
  have Hg := Lib.hid hg
  have HM := Lib.hid hM
  have HLw := Lib.hid hL
  have HIH := Lib.hid IH
  have HD3 := Lib.hid hD3
  have hD0 : 0 ≤ D := by omega
  have hDne : ¬ D = 4 := by omega
  have hDle : D ≤ 3 := by omega
  obtain ⟨l, hl'⟩ : ∃ l, l = S.length := ⟨_, rfl⟩
  rw [← hl'] at hpos hc1 hl ⊢
  have HN := Lib.hid hl'
  have hl0 : ¬ l = 0 := by omega
  have hDb : (D == 4) = false := by simpa using hDne
  have hlb : ((l : Int) == 0) = false := by simpa using hl0
  clear hS hs hSl hl' hp hM hL hD hg IH hD3
  have HB : Hid (Below w.heap.size w ((((w.alloc (.cells #[.int .u64 s.a, .int .u64 s.b] 24)).alloc (.cells #[.slice (some ⟨g, off, none⟩) l c] 95)).alloc (.cells #[.int .i64 D] 3)).alloc (.cells #[.int .u64 0, .slice (some ⟨g, off, none⟩) l c, .slice none 0 0] 127))) := Lib.hid (((((Below.refl _ _).alloc (Nat.le_refl _) _).alloc (by simp) _).alloc (by simp; omega) _).alloc (by simp; omega) _)
  have HX : Hid (Bx4 ((((w.alloc (.cells #[.int .u64 s.a, .int .u64 s.b] 24)).alloc (.cells #[.slice (some ⟨g, off, none⟩) l c] 95)).alloc (.cells #[.int .i64 D] 3)).alloc (.cells #[.int .u64 0, .slice (some ⟨g, off, none⟩) l c, .slice none 0 0] 127)) w.heap.size s (.slice (some ⟨g, off, none⟩) l c) D) := by
    refine Lib.hid ⟨?_, ?_, ?_, ?_, ?_, ?_, ?_, ?_, ?_, ?_⟩
    all_goals first | (go_simp; done) | (intro j; go_simp; done) | simp
  go_enter Try.func48, Try.ntmps48
  go_upto_region 4 with fail
  generalize ((((w.alloc (.cells #[.int .u64 s.a, .int .u64 s.b] 24)).alloc (.cells #[.slice (some ⟨g, off, none⟩) l c] 95)).alloc (.cells #[.int .i64 D] 3)).alloc (.cells #[.int .u64 0, .slice (some ⟨g, off, none⟩) l c, .slice none 0 0] 127)) = V at *
  obtain ⟨N, hN⟩ : ∃ N, N = w.heap.size := ⟨_, rfl⟩
  rw [← hN] at HX HB Hg ⊢
  have HNw := Lib.hid hN
  clear hN
  have kd : V.cell? ⟨N + 1 + 1, 0, none⟩ = some (.int .i64 D) := HX.out.td
  have H0 : Hid (Bd s w V N g n 0 0 S (.slice (some ⟨g, off, none⟩) l c) (.slice none 0 0) (.slice none 0 0) [] off c) := by
    have h := HX.out
    refine Lib.hid ⟨HB.out, by rw [h.sz]; omega, h.k0, h.k1, by rw [rst_zero, ← HN.out]; exact h.ta, h.tz, by rw [rst_zero, ← HN.out]; exact ⟨hc1, hc2⟩, by rw [rst_zero]; exact HP.out.later (by rw [HNw.out] at HB; exact HB.out), by rw [← HD3.out]; exact h.td, h.p0, h.p1, h.p2, h.pz, World.ownsRow_nil _ _ _ _, rfl, fun j r hr => by simp at hr, World.ownsRow_nil _ _ _ _, HNw.out.symm, Hg.out⟩
  clear HX HB
  go_wp2_with fail
  clear kd
  go_loopw [8, 29] (fun u v wr => ∃ (i off' c' : Nat) (kv : Value) (ks : List (Option Addr)), v = .int .i64 i ∧ i ≤ 16 ∧ Hid (Bd s w wr N g n i i S (.slice (some ⟨g, off, none⟩) l c) u kv ks off' c')) (fun _ v _ => 16 - (intOf v).toNat)
  case atStart => exact ⟨0, _, _, _, _, rfl, by omega, H0⟩
  case round =>
    obtain ⟨i, off', c', kv, ks, rfl, hi, hbd⟩ := hrel
    clear H0
    have ei : IntKind.i64.wrap ((i : Int) + 1) = (i : Int) + 1 := IntWalk.i64_in _ (by omega)
    by_cases hlt : i < 16
    · have h := hbd.out
      obtain ⟨kva, kvc, rfl, _⟩ := row_slice h.kr
      have hRl : (rst n i S).length ≤ 100000 := by
        have h1 : (rst n i S).length ≤ S.length := List.length_filter_le _ _
        have := HN.out
        omega
      have hcc := h.cc
      have HC1 : Hid (Cap (wr.alloc (.cells #[.int .i64 i] 3)) (N + 1) (N + 1 + 1) wr.heap.size g off' c' n i (rst n i S)) := by
        have hb := below_alloc wr (.cells #[.int .i64 i] 3)
        exact Lib.hid ⟨cell_later hb h.ta, cell_later hb h.td, by go_simp, h.pr.later hb⟩
      have HSr := Lib.hid (Search_any HC1.out hn4 hRl hcc.1 (HLw.out.filter _) (mon_rst HM.out))
      have H1 := Lib.hid (h.below (below_alloc wr (.cells #[.int .i64 i] 3)))
      have HCut := Lib.hid (fun m => cut_is (m := m) (i := i) HM.out)
      have HRst := Lib.hid (rst_step HM.out.dgt i)
      have Hcc := Lib.hid hcc
      clear hbd h hcc
      go_upto_region 11 with fail
      generalize wr.alloc (.cells #[.int .i64 i] 3) = V1 at *
      have ka := H1.out.ta
      generalize hR : (rst n i S).length = R at *
      have HRl := Lib.hid hR
      clear hR
      go_wp2_with fail
      go_fit HSr.out
      rintro e w2 ⟨m, rfl, hm, hlo, hhi, hb2⟩
      have hmE := HCut.out m (by rw [← HRl.out]; exact hm) hlo hhi
      have hmR : m ≤ R := by rw [← HRl.out]; exact hm
      have HmE := Lib.hid hmE
      have H2 := Lib.hid (H1.out.below hb2)
      have H2d := Lib.hid (H2.out.below (below_drew1 w2))
      clear hm hlo hhi hb2 hmE HCut HSr HC1 ka H1
      have k0 := H2d.out.k0
      have k1 := H2d.out.k1
      have ka := H2d.out.ta
      have kd : w2.drew.cell? ⟨N + 1 + 1, 0, none⟩ = some (.int .i64 D) := by rw [HD3.out]; exact H2d.out.td
      rw [HRl.out] at ka
      have hmI0 : (0 : Int) ≤ (m : Int) := by omega
      have hmI : (m : Int) ≤ (c' : Int) := by have := Hcc.out.1; omega
      have eD : IntKind.i64.wrap (D + 1) = D + 1 := IntWalk.i64_in _ (by omega)
      go_upto_region 12 with fail
      refine wp_region_still_tail 6 (by kernel_rfl) (by kernel_rfl) ?_
      simp only [List.take_succ_cons, List.take_zero, List.drop_succ_cons, List.drop_zero]
      change wpStill _ _ w2.drew _ _ _
      repeat still_step
      refine wpStill_nil ?_
      change wpList _ _ _ _ _ w2.drew
      have hRS := HRst.out
      have hsl : (sub n i S).length ≤ 100000 := by have := sub_len n i S; have := HN.out; omega
      have HB12 : Hid (Calls Try.prog 48 #[.agg #[.int .u64 s.a, .int .u64 s.b], .slice (some ⟨g, off', none⟩) m c', .int .i64 (D + 1)] w2.drew (BuiltP s n g (sub n i S) w2.drew)) := by
        have hp := H2d.out.pr
        rw [hRS] at hp
        refine Lib.hid ?_
        rw [HmE.out]
        exact HIH.out w2.drew g off' c' (sub n i S) (D + 1) (by have := HD3.out; omega) (by have := H2d.out.gl; have := H2d.out.sz; omega) hp.left (by rw [← HmE.out]; omega) Hcc.out.2 HM.out.sub (HLw.out.filter _) (HSl.out.filter _) hsl
      clear hRS hsl
      go_wp2_with fail
      go_fit HB12.out
      rintro e w3 ⟨q, rfl, hq, hb3⟩
      have H3 := Lib.hid (H2d.out.below hb3)
      have HQ := Lib.hid ((H2d.out.away hq))
      clear hq hb3 k0 k1 ka kd HB12 H2 H2d
      go_upto_region 13 with fail
      have HTr := Lib.hid (Sd.tr_lt HS.out n (sub n i S) (by have := sub_len n i S; have := HN.out; omega))
      have HLk : Hid ((s.kidB n i S).length ≤ 1000000000) := Lib.hid (by rw [Sd.kidB_len]; omega)
      have HKs := Lib.hid (s.kidB_step n i S)
      have H3d := Lib.hid (H3.out.below (below_drew1 w3))
      have HQd := Lib.hid (HQ.out.later (below_drew1 w3))
      have HR13 := Lib.hid (H3d.out.kr)
      have HS13 := Lib.hid (H3d.out.sz)
      have ka := H3d.out.ta
      rw [HRl.out] at ka
      have kp : w3.drew.cell? ⟨N + 1 + 1 + 1, 2, none⟩ = some (.slice kva i kvc) := H3d.out.p2
      have za := H3d.out.tz 0
      have zp : w3.drew.frozen? ⟨N + 1 + 1 + 1, 2, none⟩ = false := H3d.out.pz 2
      have ka5 : (w3.alloc (.cells #[.pointer q] 79)).cell? ⟨N + 1, 0, none⟩ = some (.slice (some ⟨g, off', none⟩) R c') := cell_later (below_alloc w3 _) ka
      have kp5 : (w3.alloc (.cells #[.pointer q] 79)).cell? ⟨N + 1 + 1 + 1, 2, none⟩ = some (.slice kva i kvc) := cell_later (below_alloc w3 _) kp
      by_cases hcm : c' = m
      · subst hcm
        have hRm : R = c' := by have := Hcc.out.1; omega
        have HRm := Lib.hid hRm
        have HLr : Hid (0 = (rst n (i + 1) S).length) := by
          have h1 := HRl.out; rw [HRst.out, List.length_append, ← HmE.out] at h1; exact Lib.hid (by omega)
        have HCr : Hid (0 ≤ 0 ∧ 0 ≤ 9223372036854775807) := Lib.hid ⟨by omega, by omega⟩
        have HPr : Hid (PairsAt w3.drew g off' (rst n (i + 1) S)) := by
          have h1 : rst n (i + 1) S = [] := List.eq_nil_of_length_eq_zero HLr.out.symm
          refine Lib.hid ?_
          rw [h1]; exact fun k p hp => by simp at hp
        have hmRI : (c' : Int) ≤ (R : Int) := by omega
        subst hRm
        go_region_law
          (first
            | (refine step_pushI (w0 := w3.drew) (by rfl) _ _ 125 79 _ 1 8 (by rfl) Try.underlying125 Try.infoPart (by rfl) (by decide) (N + 4) i _ (ptrL.all ks) (by rfl) HR13.out #[.pointer q] (by rfl) (by simp [Value.oneCell']) (by rfl) (by omega) (by decide) HS13.out ?_; intro g4 cap4 w4 hown4 hg4 hat4 hlt4; have HO4 := Lib.hid hown4; have HG4 : Hid (w3.drew.grownBy w4 (Value.slice kva i kvc).ownBlock) := Lib.hid hg4; have HT4 : Hid ((Value.slice kva i kvc).ownBlock = some g4 ∨ w3.drew.heap.size ≤ g4) := Lib.hid hat4; obtain ⟨ka4, kp4, za4, zp4⟩ := H3d.out.grown_cells HG4.out; rw [HRl.out] at ka4; clear hown4 hg4 hat4 hlt4))
        all_goals
          obtain ⟨kv', off3, c3, HBd, HPt⟩ := after13 (off := 0) (c := 0) H3d HQd HO4 HG4 HT4 HLr HCr HPr
          generalize (w4.setCell ⟨N + 1 + 1 + 1, 2, none⟩ (.slice (some ⟨g4, 0, none⟩) (i + 1) cap4)).setCell ⟨N + 1, 0, none⟩ (.slice (some ⟨g, off', none⟩) 0 0) = w5 at HBd HPt ⊢
          clear H3 H3d HQ HQd HR13 HS13 ka kp za zp ka5 kp5 HLr HCr HPr HO4 HG4 HT4 ka4 kp4 za4 zp4
          have HTo := Lib.hid (told_any HPt.out)
          have HAd := Lib.hid (addDigest_own HBd.out.br HBd.out.sz HTr.out HLk.out)
          obtain ⟨L6, hL6⟩ : ∃ L, L = (s.kidB n i S ++ Wi.be (s.tr n (sub n i S)) 8).length := ⟨_, rfl⟩
          have HL6 := Lib.hid hL6
          clear hL6
          go_wp2_with fail
          go_fit HTo.out
          rintro e w' ⟨rfl, rfl⟩
          go_wp2_with fail
          go_fit HAd.out
          rintro e w6 ⟨g6, c6, he, ho6, hg6, ht6⟩
          rw [← HL6.out] at he
          subst he
          have HBd6 : Hid (Bd s w w6 N g n (i + 1) (i + 1) S (.slice (some ⟨g, off, none⟩) l c) (.slice (some ⟨g6, 0, none⟩) L6 c6) kv' (ks ++ [q]) off3 c3) := by
            rw [HL6.out]
            rw [← HKs.out] at ho6 ⊢
            exact Lib.hid (HBd.out.add ho6 hg6 ht6)
          clear ho6 hg6 ht6 HBd HPt HTo HAd
          go_wp2_with fail
          exact ⟨⟨i + 1, off3, c3, kv', ks ++ [q], by push_cast; rfl, by omega, HBd6⟩, by simp [intOf]; omega⟩
      · have hcmI : ¬ (c' : Int) = (m : Int) := by omega
        have hmRI : (m : Int) ≤ (R : Int) := by omega
        have HLr : Hid (R - m = (rst n (i + 1) S).length) := by
          have h1 := HRl.out; rw [HRst.out, List.length_append, ← HmE.out] at h1; exact Lib.hid (by omega)
        have HCr : Hid (R - m ≤ c' - m ∧ c' - m ≤ 9223372036854775807) := by have h1 := Hcc.out; exact Lib.hid ⟨by omega, by omega⟩
        have HPr : Hid (PairsAt w3.drew g (off' + m * 3) (rst n (i + 1) S)) := by
          have h1 := H3d.out.pr
          rw [HRst.out] at h1
          have h2 := h1.right
          rw [← HmE.out] at h2
          exact Lib.hid h2
        go_region_law
          (first
            | (refine step_pushI (w0 := w3.drew) (by rfl) _ _ 125 79 _ 1 8 (by rfl) Try.underlying125 Try.infoPart (by rfl) (by decide) (N + 4) i _ (ptrL.all ks) (by rfl) HR13.out #[.pointer q] (by rfl) (by simp [Value.oneCell']) (by rfl) (by omega) (by decide) HS13.out ?_; intro g4 cap4 w4 hown4 hg4 hat4 hlt4; have HO4 := Lib.hid hown4; have HG4 : Hid (w3.drew.grownBy w4 (Value.slice kva i kvc).ownBlock) := Lib.hid hg4; have HT4 : Hid ((Value.slice kva i kvc).ownBlock = some g4 ∨ w3.drew.heap.size ≤ g4) := Lib.hid hat4; obtain ⟨ka4, kp4, za4, zp4⟩ := H3d.out.grown_cells HG4.out; rw [HRl.out] at ka4; clear hown4 hg4 hat4 hlt4))
        all_goals
          obtain ⟨kv', off3, c3, HBd, HPt⟩ := after13 (off := 0) (c := 0) H3d HQd HO4 HG4 HT4 HLr HCr HPr
          generalize (w4.setCell ⟨N + 1 + 1 + 1, 2, none⟩ (.slice (some ⟨g4, 0, none⟩) (i + 1) cap4)).setCell ⟨N + 1, 0, none⟩ (.slice (some ⟨g, off' + m * 3, none⟩) (R - m) (c' - m)) = w5 at HBd HPt ⊢
          clear H3 H3d HQ HQd HR13 HS13 ka kp za zp ka5 kp5 HLr HCr HPr HO4 HG4 HT4 ka4 kp4 za4 zp4
          have HTo := Lib.hid (told_any HPt.out)
          have HAd := Lib.hid (addDigest_own HBd.out.br HBd.out.sz HTr.out HLk.out)
          obtain ⟨L6, hL6⟩ : ∃ L, L = (s.kidB n i S ++ Wi.be (s.tr n (sub n i S)) 8).length := ⟨_, rfl⟩
          have HL6 := Lib.hid hL6
          clear hL6
          go_wp2_with fail
          go_fit HTo.out
          rintro e w' ⟨rfl, rfl⟩
          go_wp2_with fail
          go_fit HAd.out
          rintro e w6 ⟨g6, c6, he, ho6, hg6, ht6⟩
          rw [← HL6.out] at he
          subst he
          have HBd6 : Hid (Bd s w w6 N g n (i + 1) (i + 1) S (.slice (some ⟨g, off, none⟩) l c) (.slice (some ⟨g6, 0, none⟩) L6 c6) kv' (ks ++ [q]) off3 c3) := by
            rw [HL6.out]
            rw [← HKs.out] at ho6 ⊢
            exact Lib.hid (HBd.out.add ho6 hg6 ht6)
          clear ho6 hg6 ht6 HBd HPt HTo HAd
          go_wp2_with fail
          exact ⟨⟨i + 1, off3, c3, kv', ks ++ [q], by push_cast; rfl, by omega, HBd6⟩, by simp [intOf]; omega⟩
    · obtain rfl : i = 16 := by omega
      have h := hbd.out
      obtain ⟨ua, uc, rfl, huc⟩ := row_slice h.br
      have HIn := Lib.hid (show Lib.BytesIn wr ua (s.kidB n 16 S).length (s.kidB n 16 S) from by
        rcases h.br.2 with ⟨_, h0⟩ | ⟨g', cap, cur, hv, _⟩
        · intro hp; omega
        · simp only [Value.slice.injEq] at hv
          obtain ⟨rfl, _, rfl⟩ := hv
          exact Wi.owns_in h.br)
      have HSu := Lib.hid (Sum_any HS.out.1 HS.out.2 HIn.out rfl (s.oct_kid n 16 S) huc (by rw [Sd.kidB_len]; omega))
      have k0 := h.k0
      have k1 := h.k1
      have HDone := Lib.hid (fun w5 (hb : Below wr.heap.size wr w5) => part_done (l := l) h hb HSs.out HN.out hc1 hc2 (HP.out))
      generalize hL : (s.kidB n 16 S).length = L at *
      clear hL
      go_wp2_with fail
      go_fit HSu.out
      rintro e w5 ⟨rfl, hb5⟩
      have HD5 := Lib.hid (HDone.out w5 hb5)
      have h5 := hbd.out.below hb5
      have p0 : w5.cell? ⟨N + 1 + 1 + 1, 0, none⟩ = some (.int .u64 0) := h5.p0
      have pz : w5.frozen? ⟨N + 1 + 1 + 1, 0, none⟩ = false := h5.pz 0
      clear h h5 hb5 k0 k1 HDone HSu HIn hbd
      go_wp2_with fail
      go_ret
      refine ⟨_, rfl, ?_, ?_⟩
      · rw [← HNw.out]; exact HD5.out.1
      · rw [← HNw.out]; exact HD5.out.2
end Go.Proofs.Ytcbgnmolfdhnfaa
