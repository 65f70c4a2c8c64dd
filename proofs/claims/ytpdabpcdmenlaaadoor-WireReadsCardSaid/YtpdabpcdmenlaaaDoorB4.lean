/-
  Walks of package wire's frames: addSum, getSum, Frame.
-/
import Derived.Test.YtpdabpcdmenlaaaDoorB3
import Derived.Deep.QuietTactic
import Derived.BigQuiet
namespace Go.Proofs.YtpdabpcdmenlaaaDoor
set_option linter.unusedVariables false
set_option linter.unusedSimpArgs false
open Go.RowKit

/-- A sum's four bytes, the lowest one first. -/
def sum4 (c : Nat) : List Int := [(c : Int) % 256, (c : Int) / 256 % 256, (c : Int) / 65536 % 256, (c : Int) / 16777216]
def sumOf (xs : List Int) : Nat := 4294967295 - crc xs
def frame (p : List Int) : List Int := num p.length ++ p ++ sum4 (sumOf (num p.length ++ p))

theorem in_four (w : World) (x0 x1 x2 x3 : Int) : Lib.BytesIn (w.alloc (.cells #[.int .u8 x0, .int .u8 x1, .int .u8 x2, .int .u8 x3] 5)) (some ⟨w.heap.size, 0, none⟩) 4 [x0, x1, x2, x3] := by
  refine Lib.BytesIn.of_cells fun i hi => ?_
  rw [addLit, World.cell?_alloc_at _ _ _ _ rfl]
  match i, hi with
  | 0, _ => rfl
  | 1, _ => rfl
  | 2, _ => rfl
  | 3, _ => rfl

theorem below_push' {B g : Nat} {w wr w1 : World} {o : Obj} (h : Below B w wr) (hg : (wr.alloc o).grownBy w1 (some g)) (hB : B ≤ wr.heap.size) (hgB : B ≤ g) : Below B w w1 :=
  made_grown (h.alloc hB _) hg (by simp; omega) hgB

set_option maxHeartbeats 400000 in
theorem addSum_any (B g n cap : Nat) (xs : List Int) (c : Nat) (w : World) (hown : w.ownsRow B 5 1 (.slice (some ⟨g, 0, none⟩) n cap) n (xs.map (Value.int .u8)))
    (hc : c < 4294967296) (h1 : n + 4 ≤ 140737488355328) (hB : B ≤ w.heap.size) :
    Calls Tryd.prog 55 #[.slice (some ⟨g, 0, none⟩) n cap, .int .u32 c] w (Made B w (xs ++ sum4 c)) := by
  have hat := owns_at hown
  go_enter Tryd.func55, Tryd.ntmps55
  go_wp2_with (at_builtin; go_loud (refine wpList_push rfl _ _ rfl B g n cap xs rfl (hown.alloc _) (some ⟨w.heap.size, 0, none⟩) 4 4 (sum4 c) rfl (in_four _ _ _ _ _) rfl (by intro h; cases h) (by omega) (by simp; omega) ?_; intro g1 c1 w1 hown1 hgrow1))
  go_ret
  exact ⟨g1, _, c1, rfl, hown1, below_push' (Below.refl _ _) hgrow1 hB hat.1⟩

set_option maxHeartbeats 400000 in
theorem getSum_any (b o n c : Nat) (x0 x1 x2 x3 : Nat) (w : World) (hn : 4 ≤ n) (hn2 : n ≤ 140737488355328) (h0 : w.cell? ⟨b, o, none⟩ = some (.int .u8 x0)) (h1 : w.cell? ⟨b, o + 1, none⟩ = some (.int .u8 x1)) (h2 : w.cell? ⟨b, o + 2, none⟩ = some (.int .u8 x2)) (h3 : w.cell? ⟨b, o + 3, none⟩ = some (.int .u8 x3))
   (b0 : x0 < 256) (b1 : x1 < 256) (b2 : x2 < 256) (b3 : x3 < 256) :
    Calls Tryd.prog 61 #[.slice (some ⟨b, o, none⟩) n c] w fun e w' => e = .returned (.int .u32 ((x0 + x1 * 256 + x2 * 65536 + x3 * 16777216 : Nat) : Int)) ∧ ∃ q, w' = w.drewN q := by
  have e1 := or_u32_8 x0 x1 b0 b1
  have e2 := or_u32_16 (x0 + x1 * 256) x2 (by omega) b2
  have e3 := or_u32_24 (x0 + x1 * 256 + x2 * 65536) x3 (by omega) b3
  generalize hA : x0 + x1 * 256 = A at *
  generalize hB : A + x2 * 65536 = B at *
  generalize hC : B + x3 * 16777216 = C at *
  clear hA hB hC
  go_enter Tryd.func61, Tryd.ntmps61
  go_wp2_with fail
  go_quiet (fail)
  go_wp2_with fail
  go_ret
  exact ⟨rfl, _, rfl⟩

set_option maxHeartbeats 400000 in
theorem Frame_long (p : Option Addr) (n c : Nat) (w : World) (hn : 32768 < n) :
    Calls Tryd.prog 26 #[.slice p n c] w fun e w' => e = .returned (.tuple #[.slice none 0 0, .int .i64 4]) ∧ w = w' := by
  go_enter Tryd.func26, Tryd.ntmps26
  go_wp2_with fail
  go_ret2
  exact ⟨rfl, rfl⟩

/-- Two results, of which the first one is a new slice of bytes. -/
def MadeE (B : Nat) (w : World) (xs : List Int) (err : Int) (e : Ending) (w' : World) : Prop :=
  ∃ g n cap, e = .returned (.tuple #[.slice (some ⟨g, 0, none⟩) n cap, .int .i64 err]) ∧ w'.ownsRow B 5 1 (.slice (some ⟨g, 0, none⟩) n cap) n (xs.map (Value.int .u8)) ∧ Below B w w'

theorem TabIn.later {w w' : World} (h : TabIn w) (hb : Below w.heap.size w w') : TabIn w' := fun i hi => (hb.cell (World.block_lt_of_cell? w _ (h i hi))).trans (h i hi)

theorem num_byte (u : Nat) (hu : u ≤ 9223372036854775807) : ∀ x ∈ num u, 0 ≤ x ∧ x < 256 := by
  intro x hx
  have hb := Lib.bitLen_le u 64 (by omega) (by omega)
  rcases List.mem_cons.1 hx with rfl | hx
  · unfold wide; omega
  · exact be_byte _ _ x hx

theorem sumOf_lt (xs : List Int) : sumOf xs < 4294967296 := by unfold sumOf; omega

set_option maxHeartbeats 800000 in
theorem Frame_any (p : Option Addr) (n c : Nat) (xs : List Int) (w : World) (hx : xs.length = n) (hb : Lib.BytesIn w p n xs) (hp : p = none → n = 0 ∧ c = 0) (hT : TabIn w) (hr : ∀ x ∈ xs, 0 ≤ x ∧ x < 256) (hn : n ≤ 32768) :
    Calls Tryd.prog 26 #[.slice p n c] w (MadeE w.heap.size w (frame xs) 0) := by
  obtain ⟨i0, hi, hz0, hz1, hz2⟩ := info_parts Tryd.infoU8
  have Hx : Hid (xs.length = n) := hx
  have hnl := num_le n (by omega)
  have hfr : Hid (frame xs = num n ++ xs ++ sum4 (sumOf (num n ++ xs))) := by unfold frame; rw [hx]; rfl
  have Hby : Hid (∀ x ∈ num n ++ xs, 0 ≤ x ∧ x < 256) := by
    intro x h; rcases List.mem_append.1 h with h | h
    · exact num_byte n (by omega) x h
    · exact hr x h
  have HT := Lib.hid hT
  clear hx hr hT
  go_enter Tryd.func26, Tryd.ntmps26
  go_wp2_with (first
    | (at_make; refine wpList_make_own _ rfl _ _ 22 rfl w.heap.size 5 i0 (.int .u8 0) 1 Tryd.underlying22 hi hz0 hz1 .i64 .i64 _ (9 + n + 4) rfl rfl (by first | omega | (simp; done) | (push_cast; omega)) (by rw [hz2]; omega) (by unfold maxLen; omega) (Nat.le_refl _) ?_; intro w1 hown1 hgrow1)
    | fail)
  go_fit (add_any w.heap.size w.heap.size 0 (9 + n + 4) [] n w1 hown1 (by omega) (by omega) hgrow1.size)
  rintro e w2 ⟨g2, n2, c2, rfl, hown2, hb2⟩
  have hw2 : w.heap.size ≤ w2.heap.size := Nat.le_trans hgrow1.size hb2.size
  have hbel2 := (below_none hgrow1).trans hb2
  have hn2 : n2 ≤ 9 := by rw [← owns_len hown2]; simpa using hnl
  have hat2 := owns_at hown2
  have hin2 := later hb hbel2
  simp only [List.nil_append] at hown2
  go_wp2_with (at_builtin; go_loud (refine wpList_push rfl _ _ rfl w.heap.size g2 n2 c2 (num n) rfl hown2 p n c xs rfl hin2 Hx.out hp (by omega) hw2 ?_; intro g3 c3 w3 hown3 hgrow3))
  have hbel3 := made_grown hbel2 hgrow3 hw2 hat2.1
  have hw3 : w.heap.size ≤ w3.heap.size := Nat.le_trans hw2 hgrow3.size
  go_fit (Sum_any _ _ _ _ w3 (owns_len hown3) (owns_in hown3) (HT.out.later hbel3) (by omega) Hby.out)
  rintro e w' ⟨rfl, rfl⟩
  go_wp2_with fail
  go_fit (addSum_any w.heap.size g3 (n2 + n) c3 _ (sumOf (num n ++ xs)) w3 hown3 (sumOf_lt _) (by omega) hw3)
  rintro e w4 ⟨g4, n4, c4, rfl, hown4, hb4⟩
  go_wp2_with fail
  go_ret2
  rw [hfr.out]
  exact ⟨g4, n4, c4, rfl, hown4, hbel3.trans hb4⟩

end Go.Proofs.YtpdabpcdmenlaaaDoor
