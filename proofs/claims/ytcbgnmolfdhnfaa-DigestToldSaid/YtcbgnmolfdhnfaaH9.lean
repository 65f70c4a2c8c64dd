/-
  A side without pairs compared with another one.
-/
import Derived.Test.YtcbgnmolfdhnfaaH8
import Derived.Test.YtcbgnmolfdhnfaaH6
namespace Go.Proofs.Ytcbgnmolfdhnfaa
set_option linter.unusedVariables false
set_option linter.unusedSimpArgs false
open Go.RowKit

theorem build_any {s : Sd} (hs : s.Ok) : ∀ n, n ≤ 4 → BuildOk s n
  | 0, _ => build_leaf hs
  | n + 1, h => build_step hs (by omega) (build_any hs n (by omega))

set_option maxRecDepth 100000 in
set_option maxHeartbeats 6400000 in
theorem comparePairs_none {w : World} {M sb dg pr g off c : Nat} {kv : Value} {ks : List ByteArray} {S : List Pl} (h : Sz w M sb dg pr kv ks) (hM : M ≤ w.heap.size) (hg : g < M) (hp : PairsAt w g off S) (hc : S.length ≤ c) (hS0 : 0 < S.length) (hS : S.length ≤ 100000) (hk : ks.length ≤ 100000000) (hpr : pr ≤ 100000000) :
    Calls Try.prog 85 #[.pointer (some ⟨sb, 0, none⟩), .slice (some ⟨g, off, none⟩) S.length c, .slice none 0 0] w fun e w' => ∃ kv', e = .returned (.tuple #[]) ∧ Sz w' M sb dg (pr + S.length) kv' (ks ++ S.map (·.1.2)) ∧ Below M w w' := by
  have H := Lib.hid h
  have HP := Lib.hid hp
  obtain ⟨n, hn⟩ : ∃ n, n = S.length := ⟨_, rfl⟩
  rw [← hn] at hc hS hS0 ⊢
  have HN := Lib.hid hn
  have p0 := h.p
  have z0 := h.z 1
  have HMl := Lib.hid hM
  clear h hp hn
  go_enter Try.func85, Try.ntmps85
  go_upto_region 1 with fail
  have H1 : Hid (Sz (w.setCell ⟨sb, 1, none⟩ (.int .i64 ((pr : Int) + (n : Int)))) M sb dg (pr + n) kv ks) := Lib.hid (H.out.setp (pr + n))
  have HB1 : Hid (Below M w (w.setCell ⟨sb, 1, none⟩ (.int .i64 ((pr : Int) + (n : Int))))) := Lib.hid ((Below.refl _ _).setCell H.out.m _)
  have HP1 : Hid (PairsAt (w.setCell ⟨sb, 1, none⟩ (.int .i64 ((pr : Int) + (n : Int)))) g off S) := Lib.hid (HP.out.block (HB1.out.block g hg))
  have HM1 : Hid (M ≤ (w.setCell ⟨sb, 1, none⟩ (.int .i64 ((pr : Int) + (n : Int)))).heap.size) := Lib.hid (Nat.le_trans HMl.out HB1.out.size)
  clear p0 z0 H HP
  generalize w.setCell ⟨sb, 1, none⟩ (.int .i64 ((pr : Int) + (n : Int))) = w1 at *
  refine wp_loop_rounds 1 ?_
  rw [rounds_succ]
  have hcI : (n : Int) ≤ (c : Int) := by omega
  have hn0 : (0 : Int) < (n : Int) := by omega
  go_wp2_with (at_builtin; refine wpList_cat0 rfl _ _ 95 118 rfl Try.underlying95 Try.infoPlaced ⟨g, off, none⟩ n n (Nat.le_refl _) rfl rfl ?_)
  have HR0 : Hid (Sz w1 M sb dg (pr + n) kv (ks ++ (S.take 0).map (·.1.2))) := by simpa using H1
  clear H1
  go_loopw [115] (fun v wr => ∃ (j : Nat) (kv' : Value), v = .int .i64 j ∧ j ≤ n ∧ Hid (Sz wr M sb dg (pr + n) kv' (ks ++ (S.take j).map (·.1.2))) ∧ Hid (Below M w wr) ∧ Hid (M ≤ wr.heap.size)) (fun v _ => n - (intOf v).toNat)
  case atStart => exact ⟨0, _, rfl, Nat.zero_le _, HR0, HB1, HM1⟩
  case round =>
    obtain ⟨j, kv', rfl, hjn, hsz, hbw, hmw⟩ := hrel
    clear HR0
    have ej : IntKind.i64.wrap ((j : Int) + 1) = (j : Int) + 1 := IntWalk.i64_in _ (by omega)
    by_cases hlt : j < n
    · obtain ⟨p, hp⟩ : ∃ p, S[j]? = some p := ⟨S[j]'(by rw [← HN.out]; exact hlt), List.getElem?_eq_getElem _⟩
      obtain ⟨⟨d, k⟩, x⟩ := p
      have hpw : PairsAt wr g off S := (HP1.out.block ((hbw.out.block g hg).trans (HB1.out.block g hg).symm))
      obtain ⟨c0, c1, c2⟩ := hpw j _ hp
      simp only at c0 c1 c2
      have HT : Hid ((S.take (j + 1)).map (·.1.2) = (S.take j).map (·.1.2) ++ [k]) := by
        refine Lib.hid ?_
        rw [List.take_add_one, hp, List.map_append]; rfl
      have hlen : (ks ++ (S.take j).map (·.1.2)).length = ks.length + j := by
        have := HN.out
        simp only [List.length_append, List.length_map, List.length_take]
        omega
      obtain ⟨m, hm⟩ : ∃ m, m = ks.length + j := ⟨_, rfl⟩
      rw [← hm] at hlen
      have HLn := Lib.hid hlen
      obtain ⟨kva, kvc, rfl, _⟩ := row_slice hsz.out.own
      rw [hlen] at hsz
      have hm2 : m ≤ 200000000 := by omega
      have H2 := Lib.hid (hsz.out.below ((below_alloc wr (.cells #[.string k, .string x, .int .u64 d] 118))))
      have H2d := Lib.hid (hsz.out.below (below_drew (below_alloc wr (.cells #[.string k, .string x, .int .u64 d] 118))))
      have HM2 : Hid (M ≤ (wr.alloc (.cells #[.string k, .string x, .int .u64 d] 118)).drew.heap.size) := Lib.hid (Nat.le_trans hmw.out (below_drew (below_alloc wr _)).size)
      have HBw2 : Hid (Below M w (wr.alloc (.cells #[.string k, .string x, .int .u64 d] 118)).drew) := Lib.hid (hbw.out.trans ((below_drew (below_alloc wr _)).mono hmw.out))
      have f0 : (wr.alloc (.cells #[.string k, .string x, .int .u64 d] 118)).cell? ⟨wr.heap.size, 0, none⟩ = some (.string k) := by go_simp
      clear hp hpw hsz hbw hlen hm
      go_upto_region 13 with fail
      clear c0 c1 c2
      generalize wr.alloc (.cells #[.string k, .string x, .int .u64 d] 118) = V at *
      have f1 : V.drew.cell? ⟨wr.heap.size, 0, none⟩ = some (.string k) := f0
      have f2 : (V.alloc (.cells #[.string k] 9)).cell? ⟨wr.heap.size, 0, none⟩ = some (.string k) := cell_later (below_alloc V _) f0
      have k1 : V.drew.cell? ⟨sb, 2, none⟩ = some (.slice kva m kvc) := H2d.out.k
      have k2 : (V.alloc (.cells #[.string k] 9)).cell? ⟨sb, 2, none⟩ = some (.slice kva m kvc) := cell_later (below_alloc V _) H2.out.k
      go_region_law
        (first
          | (refine step_pushI (w0 := V.drew) (by rfl) _ _ 49 9 _ 1 16 (by rfl) Try.underlying49 Try.infoString (by rfl) (by decide) M m _ (strL.all (ks ++ (S.take j).map (·.1.2))) (by rfl) (by have h := H2d.out.own; rw [HLn.out] at h; exact h) #[.string k] (by rfl) (by simp [Value.oneCell']) (by rfl) (by omega) (by decide) HM2.out ?_; intro g4 cap4 w4 hown4 hg4 hat4 hlt4; have HO4 := Lib.hid hown4; have HG4 : Hid (V.drew.grownBy w4 (Value.slice kva m kvc).ownBlock) := Lib.hid hg4; have HT4 : Hid ((Value.slice kva m kvc).ownBlock = some g4 ∨ V.drew.heap.size ≤ g4) := Lib.hid hat4; have hsame : w4.heap[sb]? = V.drew.heap[sb]? := hg4.block sb H2d.out.lt (fun e => H2d.out.ne e.symm); have s4 : w4.cell? ⟨sb, 2, none⟩ = some (.slice kva m kvc) := (World.cell?_of_block (a := ⟨sb, 2, none⟩) hsame).trans H2d.out.k; have z4 : w4.frozen? ⟨sb, 2, none⟩ = false := (World.frozen?_of_block (a := ⟨sb, 2, none⟩) hsame).trans (H2d.out.z 2); clear hown4 hg4 hat4 hlt4 hsame))
      all_goals
        have H5 := Lib.hid (H2d.out.push (n := m + 1) (by rw [HLn.out]) HO4.out HG4.out HT4.out)
        have HB5 := Lib.hid (HBw2.out.trans (H2d.out.push_below (n := m + 1) (c4 := cap4) (g4 := g4) HM2.out HG4.out))
        rw [List.append_assoc, ← HT.out] at H5
        clear H2 H2d f0 f1 f2 k1 k2 s4 z4 HO4 HG4 HT4
        generalize w4.setCell ⟨sb, 2, none⟩ (.slice (some ⟨g4, 0, none⟩) (m + 1) cap4) = w5 at H5 HB5 ⊢
        have HM5 : Hid (M ≤ w5.heap.size) := Lib.hid (Nat.le_trans HMl.out HB5.out.size)
        go_wp2_with fail
        exact ⟨⟨j + 1, _, by push_cast; rfl, by omega, H5, HB5, HM5⟩, by simp [intOf]; omega⟩
    · obtain rfl : j = n := by omega
      have hS' : S.take j = S := List.take_of_length_le (by have := HN.out; omega)
      rw [hS'] at hsz
      go_wp2_with fail
      go_end0
      exact ⟨kv', rfl, hsz.out, hbw.out⟩
end Go.Proofs.Ytcbgnmolfdhnfaa
