/-
  The examples.
-/
import Derived.Test.YtlfknldgfeicmaaG12
import Derived.Laws.BytesArg
import Derived.Lib.SlBytesConst
import Derived.Lib.SmallJoins
namespace Go.Proofs.Ytlfknldgfeicmaa
set_option linter.unusedVariables false
set_option linter.unusedSimpArgs false
open Go.RowKit Go.Joins
variable {w : World} {B b : Nat} {L : List Nat} {d : Ds}

def kss : List Kd := [⟨0, 0, 0, 0, [97, 98]⟩, ⟨5, 0, 0, 0, []⟩, ⟨0, 0, 0, 0, [99, 100]⟩, ⟨6, 0, 0, 1, []⟩, ⟨7, 0, 0, 0, []⟩]
def Yes (w : World) (e : Ending) (w' : World) : Prop := e = .returned (.bool true) ∧ Below w.heap.size w w'
deriving instance DecidableEq for Fc, Ac, Ds
theorem owns_conv {B g n cap : Nat} {xs : List Int} (h : w.ownsRow B 5 1 (.slice (some ⟨g, 0, none⟩) n cap) n (u8s xs)) (hn : n = xs.length) :
    (convert 32 9 (.slice (some ⟨g, 0, none⟩) n cap)).run Try.prog w = .ok (.string (strOfNums xs)) w :=
  run_convert_bytes_arg w 32 5 Try.underlying32 Try.underlying5 g 0 n cap xs hn.symm (fun i hi => by
    have := h.cells (g := g) rfl i (.int .u8 (xs.getD i 0)) (by simp [u8s, List.getD_eq_getElem?_getD, List.getElem?_eq_getElem (show i < xs.length by omega)])
    simpa [Addr.add_lit] using this) _ Try.underlying9

def dA : Ds := ⟨100, true, ⟨[], [], [97, 98, 99]⟩, ⟨[], [], [97, 98, 99]⟩, [], 0, 0, 0⟩
theorem dA_tape : dA.tape = ([97, 98, 99], 0) := by decide +kernel
theorem dA_slot : dA.slot 2 [] = (31, dA) := by decide +kernel
theorem dos_awake : dos (Ds.new 100) kss = dA := by decide +kernel
def C1 : Obj := .cells #[.int .u8 97, .int .u8 98] 5 (2, 3)
def C2 : Obj := .cells #[.int .u8 99, .int .u8 100] 5 (2, 3)
def C3 (g : Nat) : Array Value := #[.int .i64 0, .int .i64 0, .int .i64 0, .int .i64 0, .slice (some ⟨g, 0, none⟩) 2 2, .int .i64 5, .int .i64 0, .int .i64 0, .int .i64 0, .slice none 0 0, .int .i64 0, .int .i64 0, .int .i64 0, .int .i64 0, .slice (some ⟨g + 1, 0, none⟩) 2 2, .int .i64 6, .int .i64 0, .int .i64 0, .int .i64 1, .slice none 0 0, .int .i64 7, .int .i64 0, .int .i64 0, .int .i64 0, .slice none 0 0]
theorem byt_two (W W' : World) (x y : Int) (t : TypeId) (f : Nat × Nat) (g : Nat) (hg : g = W.heap.size) (hb : Below (W.alloc (.cells #[.int .u8 x, .int .u8 y] t f)).heap.size (W.alloc (.cells #[.int .u8 x, .int .u8 y] t f)) W') : Byt W' [] (.slice (some ⟨g, 0, none⟩) 2 2) [x, y] := by
  subst hg
  refine Byt.below ⟨_, 2, rfl, by simp, by decide, .inr ⟨⟨W.heap.size, 0, none⟩, rfl, by simp, by simp, ?_⟩⟩ hb
  intro j u hj
  have c : ∀ i, (W.alloc (.cells #[.int .u8 x, .int .u8 y] t f)).cell? ⟨W.heap.size, i, none⟩ = #[Value.int .u8 x, .int .u8 y][i]? := fun i => cell_alloc_mark_at W _ t f _ i rfl
  rw [Addr.add_lit, Nat.zero_add, c]
  match j, hj with
  | 0, hj => simpa [u8s] using hj
  | 1, hj => simpa [u8s] using hj
  | j + 2, hj => simp [u8s] at hj
theorem kss_in (w : World) : KdsIn (((w.alloc C1).alloc C2).alloc (.cells (C3 w.heap.size) 34)) (.slice (some ⟨w.heap.size + 1 + 1, 0, none⟩) 5 5) kss := by
  have b2 : Below ((w.alloc C1).alloc C2).heap.size ((w.alloc C1).alloc C2) (((w.alloc C1).alloc C2).alloc (.cells (C3 w.heap.size) 34)) := (Below.refl _ _).alloc (Nat.le_refl _) _
  have b1 : Below (w.alloc C1).heap.size (w.alloc C1) (((w.alloc C1).alloc C2).alloc (.cells (C3 w.heap.size) 34)) := ((Below.refl _ _).alloc (Nat.le_refl _) _).trans (b2.mono (by simp))
  have h1 := byt_two w _ 97 98 _ _ w.heap.size rfl b1
  have h2 := byt_two (w.alloc C1) _ 99 100 _ _ (w.heap.size + 1) (by simp) b2
  have c : ∀ i, (((w.alloc C1).alloc C2).alloc (.cells (C3 w.heap.size) 34)).cell? ⟨w.heap.size + 1 + 1, i, none⟩ = (C3 w.heap.size)[i]? := fun i => cell_alloc_mark_at _ _ _ _ _ i (by simp)
  refine ⟨_, 5, rfl, .inr ⟨_, 0, rfl, ?_⟩⟩
  intro j k hk
  match j, hk with
  | 0, hk => obtain rfl := Option.some.inj hk; exact ⟨by rw [c]; rfl, by rw [c]; rfl, by rw [c]; rfl, by rw [c]; rfl, _, by rw [c]; rfl, h1⟩
  | 1, hk => obtain rfl := Option.some.inj hk; exact ⟨by rw [c]; rfl, by rw [c]; rfl, by rw [c]; rfl, by rw [c]; rfl, _, by rw [c]; rfl, Byt.nil _ _⟩
  | 2, hk => obtain rfl := Option.some.inj hk; exact ⟨by rw [c]; rfl, by rw [c]; rfl, by rw [c]; rfl, by rw [c]; rfl, _, by rw [c]; rfl, h2⟩
  | 3, hk => obtain rfl := Option.some.inj hk; exact ⟨by rw [c]; rfl, by rw [c]; rfl, by rw [c]; rfl, by rw [c]; rfl, _, by rw [c]; rfl, Byt.nil _ _⟩
  | 4, hk => obtain rfl := Option.some.inj hk; exact ⟨by rw [c]; rfl, by rw [c]; rfl, by rw [c]; rfl, by rw [c]; rfl, _, by rw [c]; rfl, Byt.nil _ _⟩
  | j + 5, hk => simp [kss] at hk

set_option maxRecDepth 100000 in
set_option maxHeartbeats 3200000 in
theorem awake_any (w : World) : Calls Try.prog 15 #[] w (Yes w) := by
  have hc1 := run_convert_bytes_const_at (P := Try.prog) w 32 5 #[.int .u8 97, .int .u8 98] 2 2 w.heap.size rfl Try.underlying32 Try.underlying5
  have hc2 := run_convert_bytes_const_at (P := Try.prog) (w.alloc (.cells #[.int .u8 97, .int .u8 98] 5 (2, 3))) 32 5 #[.int .u8 99, .int .u8 100] 2 2 (w.heap.size + 1) (by simp) Try.underlying32 Try.underlying5
  have HM : Hid (Calls Try.prog 32 #[.int .i64 100, .slice (some ⟨w.heap.size + 1 + 1, 0, none⟩) 5 5] (((w.alloc C1).alloc C2).alloc (.cells (C3 w.heap.size) 34)) (Madek (((w.alloc C1).alloc C2).alloc (.cells (C3 w.heap.size) 34)) 100 kss)) :=
    made_any 100 (by omega) (kss_in w) (by decide) (fun k hk => by simp [kss] at hk; rcases hk with rfl | rfl | rfl | rfl | rfl <;> exact ⟨by decide, by decide⟩)
  have HB : Hid (Below w.heap.size w (((w.alloc C1).alloc C2).alloc (.cells (C3 w.heap.size) 34))) := three w _ _ _
  simp only [C1, C2, C3] at HM HB
  go_enter Try.func15, Try.ntmps15
  go_wp2_with fail
  go_fit HM.out
  rintro e w1 ⟨b, L, rfl, hs⟩
  rw [dos_awake] at hs
  have HB1 := Lib.hid (HB.out.trans (hs.below.mono HB.out.size))
  have HD := Lib.hid hs.disk
  have HFw := Lib.hid hs.few
  replace HB := Lib.hid HB.out.size
  clear hs HM hc1 hc2
  go_wp2_with fail
  have HT := Lib.hid (Tape_any HD.out)
  rw [dA_tape] at HT
  go_fit HT.out
  rintro e w2 ⟨v, rfl, hown, hb2⟩
  obtain ⟨g, cap, rfl⟩ := ownsRow_form hown (by decide)
  have hcv : (convert 32 9 (.slice (some ⟨g, 0, none⟩) 3 cap)).run Try.prog w2 = .ok (.string (strOfNums [97, 98, 99])) w2 := owns_conv hown rfl
  rw [show strOfNums [97, 98, 99] = { data := #[97, 98, 99] } from by decide +kernel] at hcv
  have HD2 := Lib.hid (HD.out.below hb2)
  have HB2 := Lib.hid (HB1.out.trans (hb2.mono HB1.out.size))
  have HSl := Lib.hid (Slot_any 2 HD2.out (Byt.nil w2 []) (by decide) (by decide) (by decide))
  rw [dA_slot] at HSl
  clear hown hb2 HT
  go_wp2_with fail
  go_fit HSl.out
  rintro e w3 ⟨L3, rfl, hd3, he3⟩
  have HD3 := Lib.hid hd3
  have HB3 := Lib.hid (HB2.out.trans (he3.below HB2.out.size (fun k hk => Nat.le_trans HB.out (HD2.out.low k hk))))
  clear hd3 he3 HSl
  go_wp2_with fail
  have HU : Hid (Calls Try.prog 30 #[.pointer (some ⟨b, 0, none⟩)] w3 fun e w' => e = .returned (.int .i64 3) ∧ Below w3.heap.size w3 w') := Used_any HD3.out
  go_fit HU.out
  rintro e w4 ⟨rfl, hb4⟩
  have HB4 := Lib.hid (HB3.out.trans (hb4.mono HB3.out.size))
  clear hb4
  go_wp2_with fail
  go_ret
  exact ⟨rfl, HB4.out⟩
end Go.Proofs.Ytlfknldgfeicmaa
