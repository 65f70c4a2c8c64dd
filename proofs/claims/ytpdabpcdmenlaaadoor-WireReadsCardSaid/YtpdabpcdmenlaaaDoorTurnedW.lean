/-
  The walk of WireTurned.
-/
import Derived.Test.YtpdabpcdmenlaaaDoorCutW
import Derived.Test.YtpdabpcdmenlaaaDoorM6
namespace Go.Proofs.YtpdabpcdmenlaaaDoor
open Go.RowKit

/-- Next of bytes: none, or a frame of another size. -/
def NotOf (n : Nat) (w : World) (e : Ending) (w' : World) : Prop := (∃ err, err ≠ 0 ∧ NoneE err w e w') ∨ (∃ (size : Nat) (xs : List Int), size ≠ n ∧ MadeN w.heap.size w xs size e w')

theorem numAt_err (xs : List Int) : (numAt xs).2.1 ≤ 9 ∨ (numAt xs).2.2 = 0 := by
  unfold numAt
  by_cases h : xs.length = 0
  · rw [if_pos h]; exact .inl (by simp)
  rw [if_neg h]
  simp only []
  split
  · exact .inl (by simp)
  split
  · exact .inl (by simp)
  split
  · exact .inl (by simp)
  split
  · exact .inl (by simp)
  · exact .inr rfl

theorem Next_turned (g n c : Nat) (f : List Int) (w : World) (hf : f.length = n) (h5 : 5 ≤ n) (hn : n ≤ 32775) (hc : ∀ i, i < n → w.cell? ⟨g, 0 + i, none⟩ = some (.int .u8 (f.getD i 0))) (hr : ∀ x ∈ f, 0 ≤ x ∧ x < 256) (hnc : n ≤ c) (hT : TabIn w) (hnot : ¬ okAt n f) :
    Calls Tryd.prog 46 #[.slice (some ⟨g, 0, none⟩) n c] w (NotOf n w) := by
  have hin : Lib.BytesIn w (some ⟨g, 0, none⟩) n f := Lib.BytesIn.of_cells fun i hi => by rw [addLit]; exact hc i hi
  have hcn := number_any (some ⟨g, 0, none⟩) n c f w hf hin hnc (by omega) hr
  have hok := numAt_ok f hr
  have herr := numAt_err f
  obtain ⟨N, H, E, ht⟩ : ∃ N H E, numAt f = (N, H, E) := ⟨_, _, _, rfl⟩
  rw [ht] at hok herr
  simp only at hok herr
  by_cases hE : E = 0
  · subst hE
    obtain ⟨h1, h9, hl⟩ := hok rfl
    by_cases hN : 32768 < N
    · exact (Next_early _ n c N H 0 4 f w hcn ht (by omega) h9 (.inr (.inl ⟨rfl, hN, rfl⟩))).mono fun e w' h => .inl ⟨4, by omega, h⟩
    by_cases hs : n < H + N + 4
    · exact (Next_early _ n c N H 0 2 f w hcn ht (by omega) h9 (.inr (.inr ⟨rfl, by omega, hs, rfl⟩))).mono fun e w' h => .inl ⟨2, by omega, h⟩
    refine (Next_late g 0 n c N H f w hcn ht (by omega) h1 h9 (by omega) (by omega) hf hc hT hr hnc _ rfl).mono fun e w' h => ?_
    unfold NextPost at h
    by_cases hb : sumOf (f.take (H + N)) ≠ le4 (f.drop (H + N))
    · rw [decide_eq_true hb, if_pos rfl] at h
      exact .inl ⟨10, by omega, h⟩
    · rw [decide_eq_false hb, if_neg (by simp)] at h
      refine .inr ⟨_, _, fun hsz => hnot ?_, h⟩
      unfold okAt
      rw [show n - 4 = H + N from by omega]
      exact Decidable.not_not.1 hb
  · have h9 : H ≤ 9 := by rcases herr with h | h; exact h; exact absurd h hE
    exact (Next_early _ n c N H E E f w hcn ht (by omega) h9 (.inl ⟨hE, rfl⟩)).mono fun e w' h => .inl ⟨E, hE, h⟩

set_option maxHeartbeats 800000 in
theorem Turned_long (p : Option Addr) (n c : Nat) (k x : Int) (w : World) (hT : TabIn w) (hn : 32768 < n) :
    Calls Tryd.prog 11 #[.slice p n c, .int .i64 k, .int .i64 x] w (Yes w) := by
  have HT := Lib.hid hT
  clear hT
  go_enter Tryd.func11, Tryd.ntmps11
  go_wp2_with fail
  go_fit (Frame_long p n c w hn)
  rintro e w' ⟨rfl, rfl⟩
  go_wp2_with fail
  go_fit (awake_any w HT.out)
  rintro e w1 ⟨rfl, hb1⟩
  go_wp2_with fail
  go_ret
  exact ⟨rfl, hb1⟩

set_option maxRecDepth 100000 in
set_option maxHeartbeats 1600000 in
theorem Turned_short (p : Option Addr) (n c : Nat) (k x : Int) (xs : List Int) (w : World) (hT : TabIn w) (hx : xs.length = n) (hb : Lib.BytesIn w p n xs) (hp : p = none → n = 0 ∧ c = 0) (hr : ∀ x ∈ xs, 0 ≤ x ∧ x < 256) (hn : n ≤ 32768) :
    Calls Tryd.prog 11 #[.slice p n c, .int .i64 k, .int .i64 x] w (Yes w) := by
  have HT := Lib.hid hT
  have Hf := Lib.hid (Frame_any p n c xs w hx hb hp hT hr hn)
  have hfl := frame_length xs
  have hxl : xs.length ≤ 32768 := by omega
  have hwl := wide_len xs.length (by omega)
  have Hby := Lib.hid (frame_bytes xs (by omega) hr)
  have Hok := Lib.hid (ok_frame xs)
  have Hx := Lib.hid hx
  generalize frame xs = f at *
  clear hT hr hx hb
  go_enter Tryd.func11, Tryd.ntmps11
  go_wp2_with fail
  go_fit Hf.out
  rintro e w1 ⟨g1, n1, c1, rfl, hown1, hb1⟩
  have hn1 := owns_len hown1
  have h5 : 5 ≤ n1 := by omega
  have h32 : n1 ≤ 32775 := by omega
  have hc1 : n1 ≤ c1 := by
    rcases hown1.2 with ⟨h, _⟩ | ⟨_, cap, _, h, _, _, h2, _⟩
    · cases h
    · simp only [Value.slice.injEq] at h; omega
  have hat := owns_at hown1
  have hU := wrap_u64 k
  have hJ : u64 k % n1 < n1 := Nat.mod_lt _ (by omega)
  have hJ1 := tmod_nat (u64 k) n1
  have hJ2 : (u64 k : Int) % (n1 : Int) = ((u64 k % n1 : Nat) : Int) := by simp
  generalize u64 k % n1 = J at *
  generalize u64 k = U at *
  have hX := wrap_u64 x
  have hV : u64 x % 255 < 255 := Nat.mod_lt _ (by omega)
  have hV1 := tmod_nat (u64 x) 255
  have hV2 : (u64 x : Int) % 255 = ((u64 x % 255 : Nat) : Int) := by simp
  generalize u64 x % 255 = V at *
  generalize u64 x = Y at *
  have hfJ := Hby.out (f.getD J 0) (by rw [List.getD_eq_getElem?_getD, List.getElem?_eq_getElem (by omega)]; simp)
  have hcellJ : w1.cell? ⟨g1, J, none⟩ = some (.int .u8 (f.getD J 0)) := by
    have := hown1.cellAt J (by omega)
    rw [this, List.getElem?_map, List.getElem?_eq_getElem (by omega), List.getD_eq_getElem?_getD, List.getElem?_eq_getElem (by omega)]; rfl
  have hfroz := hown1.frozenAt J
  have hfJ2 : f.getD J 0 = ((f.getD J 0).toNat : Int) := by omega
  obtain ⟨e1, e2, e3⟩ := xor_ne_u8 (f.getD J 0).toNat (1 + V) (by omega) (by omega)
  rw [← hfJ2] at e1
  have Hst := Lib.hid (hown1.stored J (.int .u8 (((f.getD J 0).toNat ^^^ (1 + V) : Nat) : Int)))
  have Hnot : Hid (¬ okAt n1 (f.set J (((f.getD J 0).toNat ^^^ (1 + V) : Nat) : Int))) := by
    refine turned_not_ok f n1 J _ hn1 (by omega) Hby.out hJ (by omega) (fun h => e3 (by omega) ?_) (hn1 ▸ Hok.out)
    omega
  have Hne : Hid ((((f.getD J 0).toNat ^^^ (1 + V) : Nat) : Int) < 256) := by show _ < (256 : Int); omega
  generalize (f.getD J 0).toNat ^^^ (1 + V) = Z at *
  generalize f.getD J 0 = z at *
  clear hfJ2 e3 hfJ
  rw [show ((1 + V : Nat) : Int) = 1 + (V : Int) from by omega] at e1
  have hf2 : (f.set J (Z : Int)).length = n1 := by simp; exact hn1
  have hbel2 : Below w.heap.size w (w1.setCell ⟨g1, J, none⟩ (.int .u8 (Z : Int))) := made_grown hb1 Hst.out.2 hb1.size hat.1
  have hown2 := Hst.out.1
  rw [← List.map_set] at hown2
  have hby2 : ∀ x ∈ f.set J (Z : Int), 0 ≤ x ∧ x < 256 := fun x hx => by
    rcases List.mem_or_eq_of_mem_set hx with h | h
    · exact Hby.out x h
    · rw [h]; omega
  have hcells : ∀ i, i < n1 → (w1.setCell ⟨g1, J, none⟩ (.int .u8 (Z : Int))).cell? ⟨g1, 0 + i, none⟩ = some (.int .u8 ((f.set J (Z : Int)).getD i 0)) := by
    obtain ⟨b', o', h, hc⟩ := (owns_in hown2).at (by omega)
    simp only [Option.some.injEq, Addr.mk.injEq] at h
    obtain ⟨rfl, rfl, _⟩ := h
    exact hc
  have Hnext := Lib.hid (Next_turned g1 n1 c1 (f.set J (Z : Int)) _ hf2 h5 h32 hcells hby2 hc1 (HT.out.later hbel2) Hnot.out)
  have Hbel2 := Lib.hid hbel2
  clear hcells hby2 hown2 hf2 hbel2 hown1 hn1 hfl
  go_wp2_with fail
  go_fit Hnext.out
  generalize w1.setCell ⟨g1, J, none⟩ (.int .u8 (Z : Int)) = w2 at *
  clear Hst hcellJ hfroz e1 hb1
  rintro e w3 (⟨err, herr, rfl, q, rfl⟩ | ⟨size, ys, hsz, g3, n3, c3, rfl, hown3, hb3⟩)
  · have t1 : (err == 0) = false := by simpa using herr
    have t2 : (err != 0) = true := by simpa using herr
    have hbq : Hid (Below w.heap.size w (w2.drewN q)) := ⟨Hbel2.out.os, Hbel2.out.tape, Hbel2.out.output, Hbel2.out.size, Hbel2.out.block⟩
    go_wp2_with fail
    go_fit (awake_any (w2.drewN q) (HT.out.later hbq.out))
    rintro e w3 ⟨rfl, hb3⟩
    go_wp2_with fail
    go_ret
    exact ⟨rfl, hbq.out.trans (hb3.mono hbq.out.size)⟩
  · have hs' : ¬ (size : Int) = (n1 : Int) := by omega
    have t1 : ((size : Int) == (n1 : Int)) = false := by simpa using hs'
    have t2 : ((size : Int) != (n1 : Int)) = true := by simpa using hs'
    have hbq : Hid (Below w.heap.size w w3) := Hbel2.out.trans (hb3.mono Hbel2.out.size)
    clear hown3 hb3 hsz
    go_wp2_with fail
    go_fit (awake_any w3 (HT.out.later hbq.out))
    rintro e w4 ⟨rfl, hb4⟩
    go_wp2_with fail
    go_ret
    exact ⟨rfl, hbq.out.trans (hb4.mono hbq.out.size)⟩

end Go.Proofs.YtpdabpcdmenlaaaDoor
