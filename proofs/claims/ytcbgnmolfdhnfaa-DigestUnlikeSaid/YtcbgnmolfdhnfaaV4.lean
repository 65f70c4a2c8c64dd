/-
  The document's Unlike. (Written by genv4.py.)
-/
import Derived.Test.YtcbgnmolfdhnfaaV3

namespace Go.Proofs.Ytcbgnmolfdhnfaa
set_option linter.unusedVariables false
set_option linter.unusedSimpArgs false
open Go.RowKit

theorem ul_any {s : Sd} (hs : s.Ok) : ∀ n, n ≤ 4 → UlOk s n
  | 0, _ => ul_leaf hs
  | n + 1, h => ul_step hs (by omega) (ul_any hs n (by omega))
/-- Two boxes, at N what is told, at b what was counted. -/
structure Bx (w wr : World) (N b d p : Nat) : Prop where
  r0 : wr.cell? ⟨N, 0, none⟩ = some (.int .i64 0)
  r1 : wr.cell? ⟨N, 1, none⟩ = some (.int .i64 0)
  t0 : wr.cell? ⟨b, 0, none⟩ = some (.int .i64 d)
  t1 : wr.cell? ⟨b, 1, none⟩ = some (.int .i64 p)
  zr : ∀ j, wr.frozen? ⟨N, j, none⟩ = false
  hb : Below w.heap.size w wr
  hN : w.heap.size ≤ N
  hl : N < wr.heap.size
theorem Bx.later {w wr w' : World} {N b d p : Nat} (h : Bx w wr N b d p) (hb : Below wr.heap.size wr w') : Bx w w' N b d p :=
  ⟨cell_later hb h.r0, cell_later hb h.r1, cell_later hb h.t0, cell_later hb h.t1, fun j => (hb.frozen (p := ⟨N, j, none⟩) h.hl).trans (h.zr j), h.hb.trans (hb.mono h.hb.size), h.hN, Nat.lt_of_lt_of_le h.hl hb.size⟩
theorem bx_made {w w6 : World} {N d p : Nat} (h0 : w6.cell? ⟨N, 0, none⟩ = some (.int .i64 0)) (h1 : w6.cell? ⟨N, 1, none⟩ = some (.int .i64 0)) (hz : ∀ j, w6.frozen? ⟨N, j, none⟩ = false) (hb : Below w.heap.size w w6) (hN : w.heap.size ≤ N) (z : Value) (hz1 : z = .int .i64 ((1 + d : Nat) : Int)) : Bx w (w6.alloc (.cells #[z, .int .i64 p] 51)) N w6.heap.size (1 + d) p := by
  subst hz1
  have hlt : N < w6.heap.size := World.block_lt_of_cell? w6 ⟨N, 0, none⟩ h0
  have hs := below_alloc w6 (.cells #[.int .i64 ((1 + d : Nat) : Int), .int .i64 p] 51)
  refine ⟨cell_later hs h0, cell_later hs h1, ?_, ?_, fun j => (hs.frozen (p := ⟨N, j, none⟩) hlt).trans (hz j), hb.trans (hs.mono hb.size), hN, Nat.lt_of_lt_of_le hlt hs.size⟩ <;> go_simp
theorem kl_len (l : List ByteArray) : (kl l).length ≤ l.length := by
  have := un_len (l.map fun k => (k, e0)) []
  simpa [kl] using this
theorem kl_step {l : List ByteArray} {i : Nat} {k : ByteArray} (h : l[i]? = some k) : kl (l.take (i + 1)) = wi (kl (l.take i)) (k, e0) := by
  unfold kl
  have h2 : (l.map fun k => (k, e0))[i]? = some (k, e0) := by simp [h]
  have := un_step [] h2
  rw [List.map_take, List.map_take]
  exact this
/-- What the document's Unlike tells. -/
def RUnP (s : Sd) (A B : List Pr) (w : World) (e : Ending) (w' : World) : Prop := ∃ v, e = .returned (.tuple #[v, .agg #[.int .i64 ((1 + s.vd 4 (s.mp [] A) (s.mp [] B) : Nat) : Int), .int .i64 ((s.vp 4 (s.mp [] A) (s.mp [] B) : Nat) : Int)], .int .i64 0]) ∧ strL.In w' v ((kl (s.vk 4 (s.mp [] A) (s.mp [] B))).map (·.1)) ∧ Below w.heap.size w w'
set_option maxRecDepth 100000 in
set_option maxHeartbeats 6400000 in
theorem RUnlike_any {s : Sd} (hs : s.Ok) {w : World} {ta tb : Nat} {A B : List Pr} (ha : RTr s w ta A) (hb : RTr s w tb B) (hl : A.length + B.length ≤ 1000) (hsa : Slim A) (hsb : Slim B) (hA : Sorted A) (hB : Sorted B) :
    Calls Try.prog 27 #[.pointer (some ⟨ta, 0, none⟩), .pointer (some ⟨tb, 0, none⟩)] w (RUnP s A B w) := by
  have hbx := below_alloc w (.cells #[.int .i64 0, .int .i64 0] 51)
  have HT := Lib.hid (show _ ∧ _ from ⟨ha.later hbx, hb.later hbx⟩)
  have HBx := Lib.hid hbx
  have r0 : (w.alloc (.cells #[.int .i64 0, .int .i64 0] 51)).cell? ⟨w.heap.size, 0, none⟩ = some (.int .i64 0) := by go_simp
  have r1 : (w.alloc (.cells #[.int .i64 0, .int .i64 0] 51)).cell? ⟨w.heap.size, 1, none⟩ = some (.int .i64 0) := by go_simp
  have rz : ∀ j, (w.alloc (.cells #[.int .i64 0, .int .i64 0] 51)).frozen? ⟨w.heap.size, j, none⟩ = false := by intro j; go_simp
  have HR := Lib.hid (show _ ∧ _ ∧ _ from ⟨r0, r1, rz⟩)
  have HUl := Lib.hid (fun (V : World) (h1 : RTr s V ta A) (h2 : RTr s V tb B) => ul_any hs 4 (Nat.le_refl _) V ta tb A B (.slice none 0 0) [] h1 h2 hl hsa hsb hA hB (Lay.In.nil V) rfl)
  have HKl : Hid ((s.vk 4 (s.mp [] A) (s.mp [] B)).length ≤ 1000000000 ∧ s.vd 4 (s.mp [] A) (s.mp [] B) ≤ 1000000 ) := by
    have h0 := mp_len s [] A
    have h00 := mp_len s [] B
    have h1 := s.vk_le 1000 4 (s.mp [] A) (s.mp [] B) (by omega)
    have h2 := s.vd_le 4 (s.mp [] A) (s.mp [] B)
    have e : 16 ^ 4 * 1000 = 65536000 := by decide
    have e2 : 2 * 16 ^ 4 = 131072 := by decide
    exact Lib.hid ⟨by omega, by omega⟩
  clear ha hb r0 r1 rz hbx hs hl hsa hsb hA hB
  go_enter Try.func27, Try.ntmps27
  go_upto_region 1 with fail
  generalize w.alloc (.cells #[.int .i64 0, .int .i64 0] 51) = V at *
  obtain ⟨N, hN⟩ : ∃ N, N = w.heap.size := ⟨_, rfl⟩
  rw [← hN] at HR ⊢
  have HN := Lib.hid hN
  clear hN
  have a0 := HT.out.1.a
  have a1 := HT.out.1.b
  have b0 := HT.out.2.a
  have b1 := HT.out.2.b
  go_quiet (fail)
  have hbX : Below V.heap.size V (V.drewN nq) := below_drewN (Below.refl _ _) _
  have HC := Lib.hid (HUl.out (V.drewN nq) (HT.out.1.later hbX) (HT.out.2.later hbX))
  have HB1 : Hid (Below w.heap.size w (V.drewN nq)) := Lib.hid (HBx.out.trans (hbX.mono HBx.out.size))
  have HR1 : Hid ((V.drewN nq).cell? ⟨N, 0, none⟩ = some (.int .i64 0) ∧ (V.drewN nq).cell? ⟨N, 1, none⟩ = some (.int .i64 0) ∧ ∀ j, (V.drewN nq).frozen? ⟨N, j, none⟩ = false) := Lib.hid HR.out
  clear a0 a1 b0 b1 HT HUl HBx HR hbX
  generalize V.drewN nq = X at *
  obtain ⟨K, hK⟩ : ∃ K, K = s.vk 4 (s.mp [] A) (s.mp [] B) := ⟨_, rfl⟩
  obtain ⟨d, hd⟩ : ∃ x, x = s.vd 4 (s.mp [] A) (s.mp [] B) := ⟨_, rfl⟩
  obtain ⟨p, hp⟩ : ∃ x, x = s.vp 4 (s.mp [] A) (s.mp [] B) := ⟨_, rfl⟩
  rw [← hK, ← hd, ← hp] at HC
  rw [← hK, ← hd] at HKl
  have HE := Lib.hid (show _ ∧ _ ∧ _ from ⟨hK, hd, hp⟩)
  clear hK hd hp
  go_wp2_with fail
  go_fit HC.out
  rintro e w6 ⟨u6, rfl, hr6⟩
  obtain ⟨a6, c6, rfl, _, _⟩ := hr6.slice
  obtain ⟨n, hn⟩ : ∃ n, n = K.length := ⟨_, rfl⟩
  have HB6 := Lib.hid (HB1.out.trans (hr6.grown.mono HB1.out.size))
  have hNX : N < X.heap.size := World.block_lt_of_cell? X ⟨N, 0, none⟩ HR1.out.1
  have HB7 := Lib.hid (bx_made (d := d) (p := p) (cell_later hr6.grown HR1.out.1) (cell_later hr6.grown HR1.out.2.1) (fun j => (hr6.grown.frozen (p := ⟨N, j, none⟩) hNX).trans (HR1.out.2.2 j)) HB6.out (by rw [HN.out]; exact Nat.le_refl _) (.int .i64 ((d : Int) + 1)) (by congr 1; push_cast; omega))
  have HI7 : Hid (strL.In (w6.alloc (.cells #[.int .i64 ((d : Int) + 1), .int .i64 p] 51)) (.slice a6 K.length c6) K) := Lib.hid (hr6.told.later (below_alloc w6 _))
  have hdb : d ≤ 1000000 := HKl.out.2
  have hnb : n ≤ 1000000000 := by rw [hn]; exact HKl.out.1
  rw [← hn] at HI7 ⊢
  have HNn := Lib.hid hn
  clear hr6 hn HB6 HB1 HR1 HC hNX HKl
  go_upto_region 5 with fail
  generalize w6.alloc (.cells #[.int .i64 ((d : Int) + 1), .int .i64 p] 51) = w7 at *
  generalize w6.heap.size = bx at *
  have H0 : Hid (prL.In w7 (.slice none 0 0) (kl (K.take 0))) := Lib.hid (Lay.In.nil w7)
  go_wp2_with fail
  go_loopw [9, 37] (fun u v wr => ∃ i : Nat, v = .int .i64 i ∧ i ≤ n ∧ Hid (prL.In wr u (kl (K.take i))) ∧ Hid (strL.In wr (.slice a6 n c6) K) ∧ Hid (Bx w wr N bx (1 + d) p)) (fun _ v _ => n - (intOf v).toNat)
  case atStart => exact ⟨0, rfl, Nat.zero_le _, H0, HI7, HB7⟩
  case round =>
    obtain ⟨i, rfl, hin, HL, HI, HB⟩ := hrel
    clear H0 HI7 HB7
    have ei : IntKind.i64.wrap ((i : Int) + 1) = (i : Int) + 1 := IntWalk.i64_in _ (by omega)
    have HLl : Hid ((kl (K.take i)).length ≤ i) := Lib.hid (by have := kl_len (K.take i); have := List.length_take_le i K; omega)
    obtain ⟨ua, uc, hu, _, _⟩ := HL.out.slice
    subst hu
    by_cases hlt : i < n
    · obtain ⟨k, hk⟩ : ∃ k, K[i]? = some k := ⟨K[i]'(by rw [← HNn.out]; exact hlt), List.getElem?_eq_getElem _⟩
      obtain ⟨g2, off2, rfl, hcl, hpa⟩ := HI.out.cells hk
      clear hcl
      have k0 : wr.cell? ⟨g2, off2 + i, none⟩ = some (.string k) := by have h := hpa 0 _ rfl; rw [show strL.sz = 1 from rfl, Nat.mul_one] at h; exact h
      have hI1 : (i : Int) < (n : Int) := by omega
      have hI2 : (0 : Int) ≤ (i : Int) := by omega
      have HSt := Lib.hid (kl_step hk)
      have HC := Lib.hid (With_row (k, e0) HL.out (un_sorted _ trivial) (by have := HLl.out; omega))
      clear hpa hk
      go_wp2_with fail
      go_fit HC.out
      rintro e w2 ⟨u2, rfl, hr2⟩
      have HL2 : Hid (prL.In w2 u2 (kl (K.take (i + 1)))) := Lib.hid (by rw [HSt.out]; exact hr2.told)
      have HI2 := Lib.hid (HI.out.later hr2.grown)
      have HB2 := Lib.hid (HB.out.later hr2.grown)
      clear hr2 HC
      go_wp2_with fail
      exact ⟨⟨i + 1, by push_cast; rfl, by omega, HL2, HI2, HB2⟩, by simp [intOf]; omega⟩
    · obtain rfl : i = n := by omega
      have hfull : K.take i = K := List.take_of_length_le (by rw [HNn.out]; exact Nat.le_refl _)
      rw [hfull] at HL HLl ⊢
      obtain ⟨M, hM⟩ : ∃ M, M = kl K := ⟨_, rfl⟩
      rw [← hM] at HL HLl ⊢
      have HMk := Lib.hid hM
      obtain ⟨m, hm⟩ : ∃ m, m = M.length := ⟨_, rfl⟩
      rw [← hm] at HL HLl ⊢
      have HMm := Lib.hid hm
      have hmb : m ≤ 1000000000 := by have := HLl.out; omega
      clear hM hm hfull HLl HI
      generalize wr = w8 at *
      have H0 : Hid (Rw strL 9 w8 w8 (.slice none 0 0) ((M.take 0).map (·.1))) := Lib.hid (Rw.nil w8)
      go_wp2_with fail
      go_loopw [12, 48] (fun u v wq => ∃ i : Nat, v = .int .i64 i ∧ i ≤ m ∧ Hid (Rw strL 9 w8 wq u ((M.take i).map (·.1)))) (fun _ v _ => m - (intOf v).toNat)
      case atStart => exact ⟨0, rfl, Nat.zero_le _, H0⟩
      case round =>
        obtain ⟨j, rfl, hjn, HQ⟩ := hrel
        clear H0
        have ej : IntKind.i64.wrap ((j : Int) + 1) = (j : Int) + 1 := IntWalk.i64_in _ (by omega)
        obtain ⟨qa, qc, rfl, _⟩ := row_slice HQ.out.own
        by_cases hlt : j < m
        · obtain ⟨⟨k, x⟩, hk⟩ : ∃ k, M[j]? = some k := ⟨M[j]'(by rw [← HMm.out]; exact hlt), List.getElem?_eq_getElem _⟩
          obtain ⟨g2, off2, rfl, hcl, hpa⟩ := (HL.out.later HQ.out.grown).cells hk
          clear hcl
          have k0 : wr.cell? ⟨g2, off2 + j * 2, none⟩ = some (.string k) := hpa 0 _ rfl
          have k1 : wr.cell? ⟨g2, off2 + j * 2 + 1, none⟩ = some (.string x) := hpa 1 _ rfl
          have hJ1 : (j : Int) < (m : Int) := by omega
          have hJ2 : (0 : Int) ≤ (j : Int) := by omega
          have HSt : Hid ((M.take (j + 1)).map (·.1) = (M.take j).map (·.1) ++ [k]) := Lib.hid (by rw [List.take_add_one, hk, List.map_append]; rfl)
          have hlen : ((M.take j).map (·.1)).length = j := by rw [List.length_map, List.length_take, ← HMm.out]; omega
          have HQa := Lib.hid (HQ.out.alloc (.cells #[.string k, .string x] 27))
          have HOa := Lib.hid (show (wr.alloc (.cells #[.string k, .string x] 27)).ownsRow w8.heap.size 9 1 (.slice qa j qc) j (strL.all ((M.take j).map (·.1))) from by have h := HQa.out.own; rw [hlen] at h; exact h)
          have HSz : Hid ((wr.alloc (.cells #[.string k, .string x] 27)).heap.size = wr.heap.size + 1) := Lib.hid (by simp)
          have Hl2 : Hid (j + 1 ≤ 1073741825) := Lib.hid (by omega)
          have HZ := Lib.hid HQa.out.grown.size
          rw [hlen] at HQ HQa ⊢
          have HLj := Lib.hid hlen
          clear hpa hk hlen
          go_wp2_with (at_builtin; go_loud (refine wpList_pushI rfl _ _ 49 9 _ 1 16 rfl Try.underlying49 Try.infoString rfl (by decide) w8.heap.size j _ _ rfl HOa.out #[.string k] rfl (by simp [Value.oneCell']) (by rw [HSz.out]; rfl) Hl2.out (by decide) HZ.out ?_; intro g7 c7 w7 hown7 hg7 hat7 hlt7; have HQ7 := Lib.hid (Rw.push (I := strL) k HQa.out (by rw [HLj.out]; exact hown7) hg7); clear hown7 hg7 hat7 hlt7))
          rw [HLj.out, ← HSt.out] at HQ7
          exact ⟨⟨j + 1, by push_cast; rfl, by omega, HQ7⟩, by simp [intOf]; omega⟩
        · obtain rfl : j = m := by omega
          have hfull : M.take j = M := List.take_of_length_le (by rw [HMm.out]; exact Nat.le_refl _)
          rw [hfull] at HQ ⊢
          have HBj := Lib.hid (HB.out.later HQ.out.grown)
          obtain ⟨D, hD⟩ : ∃ D, D = 1 + d := ⟨_, rfl⟩
          rw [← hD] at HBj
          have n0 := HBj.out.r0
          have n1 := HBj.out.r1
          have t0 := HBj.out.t0
          have t1 := HBj.out.t1
          have z0 := HBj.out.zr 0
          have z1 := HBj.out.zr 1
          have HD := Lib.hid hD
          obtain ⟨L, hL⟩ : ∃ L, L = M.map (·.1) := ⟨_, rfl⟩
          rw [← hL] at HQ ⊢
          have HLe := Lib.hid hL
          obtain ⟨l, hl⟩ : ∃ l, l = L.length := ⟨_, rfl⟩
          have HNo : Hid ((Value.slice qa L.length qc).ownBlock ≠ some N) := Lib.hid fun e => by have := (HQ.out.lt _ e).1; have := HB.out.hl; omega
          have HO := Lib.hid HQ.out.own
          rw [← hl] at HNo HO ⊢
          have HlL := Lib.hid hl
          clear hD hL hl hfull HB HL HQ
          go_upto_region 17 with fail
          go_region
          all_goals
            have HBe : Hid (Below w.heap.size w (((wr.setCell ⟨N, 0, none⟩ (.int .i64 D)).setCell ⟨N, 1, none⟩ (.int .i64 p)).drew)) := Lib.hid (below_drew ((HBj.out.hb.setCell HBj.out.hN _).setCell HBj.out.hN _))
            have e0 : (((wr.setCell ⟨N, 0, none⟩ (.int .i64 D)).setCell ⟨N, 1, none⟩ (.int .i64 p)).drew).cell? ⟨N, 0, none⟩ = some (.int .i64 D) := (World.cell?_setCell_other _ _ _ _ (by simp)).trans (World.cell?_setCell_same _ _ _ n0)
            have e1 : (((wr.setCell ⟨N, 0, none⟩ (.int .i64 D)).setCell ⟨N, 1, none⟩ (.int .i64 p)).drew).cell? ⟨N, 1, none⟩ = some (.int .i64 p) := World.cell?_setCell_same _ _ _ ((World.cell?_setCell_other _ _ _ _ (by simp)).trans n1)
            have HOe : Hid ((((wr.setCell ⟨N, 0, none⟩ (.int .i64 D)).setCell ⟨N, 1, none⟩ (.int .i64 p)).drew).ownsRow w8.heap.size 9 1 (.slice qa l qc) l (strL.all L)) := Lib.hid (row_set (row_set HO.out HNo.out) HNo.out)
            have HIe := Lib.hid (Lay.in_own (I := strL) HOe.out HlL.out)
            clear t0 t1 n0 n1 z0 z1
            generalize ((wr.setCell ⟨N, 0, none⟩ (.int .i64 D)).setCell ⟨N, 1, none⟩ (.int .i64 p)).drew = w9 at *
            go_wp2_with fail
            refine bodyPost_ret (v := .tuple #[.slice qa l qc, .agg #[.int .i64 D, .int .i64 p], .int .i64 0]) (by simp [results, Try.results27, go_sem, e0, e1]) rfl ?_
            refine ⟨.slice qa l qc, by rw [← HE.out.2.1, ← HE.out.2.2, ← HD.out], ?_, HBe.out⟩
            rw [← HE.out.1, ← HMk.out, ← HLe.out]
            exact HIe.out
end Go.Proofs.Ytcbgnmolfdhnfaa
