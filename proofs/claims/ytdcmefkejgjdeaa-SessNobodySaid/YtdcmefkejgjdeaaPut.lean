/-
  Walks: a table's bytes.
-/
import Derived.Test.YtdcmefkejgjdeaaB8
import Derived.Test.YtdcmefkejgjdeaaWb2
namespace Go.Proofs.Ytdcmefkejgjdeaa
set_option linter.unusedVariables false
set_option linter.unusedSimpArgs false
open Go.RowKit
variable {w : World} {B b : Nat} {L : List Nat} {t : Tb}

def sput (s : Se) : List Int := nums [s.id, s.seq, s.err, s.n]
def tputs (l : List Se) : List Int := (l.map sput).flatten
def tput (t : Tb) : List Int := nums [t.begun, (t.seats.length : Int)] ++ tputs t.seats
theorem tputs_step {l : List Se} {i : Nat} {s : Se} (h : l[i]? = some s) : tputs (l.take (i + 1)) = tputs (l.take i) ++ sput s := by
  unfold tputs
  rw [List.take_add_one, h]; simp
/-- All that a table's bytes tell is no greater than a number can be. -/
structure Tb.Fit (t : Tb) : Prop where
  begun : t.begun ≤ 9223372036854775807
  all : ∀ s ∈ t.seats, s.id ≤ 9223372036854775807 ∧ s.seq ≤ 9223372036854775807 ∧ s.err ≤ 9223372036854775807 ∧ s.n ≤ 9223372036854775807
theorem sput_le {s : Se} (h : s.id ≤ 9223372036854775807 ∧ s.seq ≤ 9223372036854775807 ∧ s.err ≤ 9223372036854775807 ∧ s.n ≤ 9223372036854775807) : (sput s).length ≤ 36 :=
  nums_le [s.id, s.seq, s.err, s.n] (fun z hz => by simp at hz; rcases hz with rfl | rfl | rfl | rfl <;> omega)
theorem tputs_le : ∀ (l : List Se), (∀ s ∈ l, s.id ≤ 9223372036854775807 ∧ s.seq ≤ 9223372036854775807 ∧ s.err ≤ 9223372036854775807 ∧ s.n ≤ 9223372036854775807) → (tputs l).length ≤ 36 * l.length
  | [], _ => by simp [tputs]
  | s :: l, h => by
    have h1 := sput_le (h s (by simp))
    have h2 := tputs_le l (fun x hx => h x (by simp [hx]))
    have e : tputs (s :: l) = sput s ++ tputs l := by simp [tputs]
    rw [e, List.length_append, List.length_cons]; omega
theorem ints_two {W : World} {g : Nat} {x y : Int} (h : DC W g [.int .i64 x, .int .i64 y]) : IntsIn W (some ⟨g, 0, none⟩) 2 [x, y] := fun _ => ⟨g, 0, rfl, fun i hi => by
  match i, hi with
  | 0, _ => exact h.cells 0 _ rfl
  | 1, _ => exact h.cells 1 _ rfl⟩
theorem ints_four {W : World} {g : Nat} {x y z u : Int} (h : DC W g [.int .i64 x, .int .i64 y, .int .i64 z, .int .i64 u]) : IntsIn W (some ⟨g, 0, none⟩) 4 [x, y, z, u] := fun _ => ⟨g, 0, rfl, fun i hi => by
  match i, hi with
  | 0, _ => exact h.cells 0 _ rfl
  | 1, _ => exact h.cells 1 _ rfl
  | 2, _ => exact h.cells 2 _ rfl
  | 3, _ => exact h.cells 3 _ rfl⟩

theorem own_base {w : World} {B B' n size : Nat} {e : TypeId} {v : Value} {cs : List Value} (h : w.ownsRow B e size v n cs) (hb : B' ≤ B) : w.ownsRow B' e size v n cs := by
  refine ⟨h.1, ?_⟩
  rcases h.2 with h0 | ⟨g, cap, cur, hv, hg, rest⟩
  · exact .inl h0
  · exact .inr ⟨g, cap, cur, hv, Nat.le_trans hb hg, rest⟩

set_option maxRecDepth 100000 in
set_option maxHeartbeats 6400000 in
theorem Put_any {p : Option Addr} {n c : Nat} {xs : List Int} (h : Tk w B b L t) (fit : t.Fit) (hl : t.seats.length ≤ 8) (hx : xs.length = n) (hb : Lib.BytesIn w p n xs) (hp : p = none → n = 0 ∧ c = 0) (hn : n ≤ 65536) :
    Calls Try.prog 28 #[.pointer (some ⟨b, 0, none⟩), .slice p n c] w (Made w.heap.size w (xs ++ tput t)) := by
  obtain ⟨v, h⟩ := h
  have c0 := h.cells.cells 0 _ rfl
  have c1 := h.cells.cells 1 _ rfl
  have c2 := h.cells.cells 2 _ rfl
  obtain ⟨a, c', hv, h1, h2⟩ := h.seb.slice
  subst hv
  have HS := Lib.hid (h.seb.sub (L' := []) (fun k hk => by cases hk))
  have hblt := h.cells.lt
  have HX := Lib.hid hx
  have HFit := Lib.hid fit
  have hba := below_alloc w (.cells #[.int .i64 t.begun, .int .i64 t.seats.length] 3)
  have HB0 : Hid (Below w.heap.size w (w.alloc (.cells #[.int .i64 t.begun, .int .i64 t.seats.length] 3)).drew) := ⟨hba.os, hba.tape, hba.output, hba.size, hba.block⟩
  have hdi := DC.alloc w [.int .i64 t.begun, .int .i64 t.seats.length] 3
  have hnum := Numbers_any p (some ⟨w.heap.size, 0, none⟩) n c 2 2 xs [t.begun, (t.seats.length : Int)] (w.alloc (.cells #[.int .i64 t.begun, .int .i64 t.seats.length] 3)).drew hx (later hb HB0.out) hp rfl (ints_two ⟨hdi.cells, hdi.fz, hdi.lt⟩) (fun z hz => by simp at hz; rcases hz with rfl | rfl; exact fit.begun; omega) (by omega)
  have HNUM := Lib.hid hnum
  have HC1 := Lib.hid c1
  clear h hx hb hp fit hba hdi hnum h1 h2
  go_enter Try.func28, Try.ntmps28
  go_wp2_with fail
  go_fit (ready_any c2)
  rintro e w1 ⟨rfl, rfl⟩
  go_wp2_with fail
  go_region_with (go_at_call 41; refine HNUM.out.mono ?_; rintro e w2 ⟨g, n', cc, rfl, hown, hb2⟩; have HO := Lib.hid (own_base hown HB0.out.size); have HB2 := Lib.hid (HB0.out.trans (hb2.mono HB0.out.size)); clear hown hb2)
  all_goals
    have y1 := cell_later HB2.out HC1.out
    clear c0 c1 c2
    have HY1 := Lib.hid y1
    clear y1 HNUM
    have HY := HY1.out
    go_wp2_with fail
    clear HY
    go_loopw [5, 30] (fun u v wr => ∃ (i g n' cc : Nat), v = .int .i64 i ∧ i ≤ t.seats.length ∧ u = .slice (some ⟨g, 0, none⟩) n' cc ∧ Hid (wr.ownsRow w.heap.size 5 1 (.slice (some ⟨g, 0, none⟩) n' cc) n' ((xs ++ (nums [t.begun, (t.seats.length : Int)] ++ tputs (t.seats.take i))).map (Value.int .u8))) ∧ Hid (Below w.heap.size w wr))
      (fun _ v _ => t.seats.length - (intOf v).toNat)
    case atStart => exact ⟨0, g, n', cc, rfl, Nat.zero_le _, rfl, by show World.ownsRow _ _ _ _ _ _ _; simpa [tputs] using HO.out, HB2⟩
    case round =>
      clear HO HB2 HY1
      obtain ⟨i, g, n', cc, rfl, hin, rfl, how, hbw⟩ := hrel
      by_cases hlt : i < t.seats.length
      · have ei : IntKind.i64.wrap ((i : Int) + 1) = (i : Int) + 1 := IntWalk.i64_in _ (by omega)
        obtain ⟨s, hs⟩ : ∃ s, t.seats[i]? = some s := ⟨t.seats[i], List.getElem?_eq_getElem hlt⟩
        obtain ⟨_, _, hv, _, _, hx⟩ := HS.out
        obtain ⟨sg, off, hpa, _, _, hat⟩ := hx.resolve_left (fun e => by rw [e] at hs; simp at hs)
        simp only [Value.slice.injEq] at hv
        obtain ⟨rfl, _, rfl⟩ := hv
        subst hpa
        obtain ⟨k0, k1, k2, k3⟩ := hat i s hs
        have k0 := cell_later hbw.out k0
        have k1 := cell_later hbw.out k1
        have k2 := cell_later hbw.out k2
        have k3 := cell_later hbw.out k3
        have hI1 : (i : Int) < ((t.seats.length : Nat) : Int) := by omega
        have hI2 : (0 : Int) ≤ (i : Int) := by omega
        have hfs := HFit.out.all s (List.mem_of_getElem? hs)
        have hlen : n' ≤ 65536 + 18 + 36 * 8 := by
          have h0 := owns_len how.out
          have h1 := nums_le [t.begun, (t.seats.length : Int)] (fun z hz => by simp at hz; rcases hz with rfl | rfl; exact HFit.out.begun; omega)
          have h2 := tputs_le (t.seats.take i) (fun x hx => HFit.out.all x (List.mem_of_mem_take hx))
          have h3 := List.length_take_le i t.seats
          have h4 := HX.out
          simp only [List.length_append, List.length_cons, List.length_nil] at h0 h1
          omega
        have hlen2 := sput_le hfs
        have hstep := tputs_step hs
        have hba := below_alloc wr (.cells #[.int .i64 s.id, .int .i64 s.seq, .int .i64 s.err, .int .i64 s.n] 44)
        have hbb := below_alloc (wr.alloc (.cells #[.int .i64 s.id, .int .i64 s.seq, .int .i64 s.err, .int .i64 s.n] 44)) (.cells #[.int .i64 s.id, .int .i64 s.seq, .int .i64 s.err, .int .i64 s.n] 3)
        have hb2 := hba.trans (hbb.mono hba.size)
        have HBW := Lib.hid (hbw.out.trans (hb2.mono hbw.out.size))
        have HOW : Hid (World.ownsRow _ w.heap.size 5 1 (.slice (some ⟨g, 0, none⟩) n' cc) n' ((xs ++ (nums [t.begun, (t.seats.length : Int)] ++ tputs (t.seats.take i))).map (Value.int .u8))) := (how.out.alloc (.cells #[.int .i64 s.id, .int .i64 s.seq, .int .i64 s.err, .int .i64 s.n] 44)).alloc (.cells #[.int .i64 s.id, .int .i64 s.seq, .int .i64 s.err, .int .i64 s.n] 3)
        have hsc := DC.alloc wr [.int .i64 s.id, .int .i64 s.seq, .int .i64 s.err, .int .i64 s.n] 44
        have s0 := hsc.cells 0 _ rfl
        have s1 := hsc.cells 1 _ rfl
        have s2 := hsc.cells 2 _ rfl
        have s3 := hsc.cells 3 _ rfl
        have hic := DC.alloc (wr.alloc (.cells #[.int .i64 s.id, .int .i64 s.seq, .int .i64 s.err, .int .i64 s.n] 44)) [.int .i64 s.id, .int .i64 s.seq, .int .i64 s.err, .int .i64 s.n] 3
        have hnm := Numbers_any none (some ⟨(wr.alloc (.cells #[.int .i64 s.id, .int .i64 s.seq, .int .i64 s.err, .int .i64 s.n] 44)).heap.size, 0, none⟩) 0 0 4 4 [] [s.id, s.seq, s.err, s.n] ((wr.alloc (.cells #[.int .i64 s.id, .int .i64 s.seq, .int .i64 s.err, .int .i64 s.n] 44)).alloc (.cells #[.int .i64 s.id, .int .i64 s.seq, .int .i64 s.err, .int .i64 s.n] 3)) rfl (Lib.BytesIn.nil _ _ _) (fun _ => ⟨rfl, rfl⟩) rfl (ints_four hic) (fun z hz => by simp at hz; rcases hz with rfl | rfl | rfl | rfl <;> omega) (by omega)
        rw [show (wr.alloc (.cells #[.int .i64 s.id, .int .i64 s.seq, .int .i64 s.err, .int .i64 s.n] 44)).heap.size = wr.heap.size + 1 from by simp, List.nil_append] at hnm
        have HNM := Lib.hid hnm
        have HST := Lib.hid hstep
        clear hat hs hx how hbw hfs hsc hic hnm hba hbb hb2 hstep
        go_wp2_with fail
        go_fit HNM.out
        rintro e w3 ⟨g3, n3, c3, rfl, hown3, hb3⟩
        have hl3 : (sput s).length = n3 := owns_len hown3
        have HN3 := Lib.hid (owns_in hown3)
        have HW3 : Hid (w3.ownsRow w.heap.size 5 1 (.slice (some ⟨g, 0, none⟩) n' cc) n' ((xs ++ (nums [t.begun, (t.seats.length : Int)] ++ tputs (t.seats.take i))).map (Value.int .u8))) := HOW.out.kept (row := none) ⟨hb3.os, hb3.tape, hb3.output, hb3.size, fun k hk _ => hb3.block k hk⟩ (by simp [Value.ownBlock])
        have HBB := Lib.hid (HBW.out.trans (hb3.mono HBW.out.size))
        have HSZ : Hid (n' + n3 ≤ 140737488355328) := by show _ ≤ _; omega
        have HL3 := Lib.hid hl3
        clear hown3 hb3 k0 k1 k2 k3 s0 s1 s2 s3 HNM HOW hl3
        go_wp2_with (at_builtin; refine wpList_push rfl _ _ rfl w.heap.size g n' cc _ rfl HW3.out (some ⟨g3, 0, none⟩) n3 c3 (sput s) rfl HN3.out HL3.out (fun e => by cases e) HSZ.out HBB.out.size ?_; intro g4 c4 w4 hown4 hg4; have HO4 := Lib.hid hown4; have HB4 := Lib.hid (made_grown HBB.out hg4 HBB.out.size (HW3.out.lt g rfl).1); clear hown4 hg4)
        refine ⟨⟨i + 1, g4, _, c4, by simp, hlt, rfl, ?_, HB4⟩, by show t.seats.length - ((i : Int) + 1).toNat < t.seats.length - ((i : Int)).toNat; omega⟩
        show World.ownsRow _ _ _ _ _ _ _
        rw [HST.out, ← List.append_assoc, ← List.append_assoc]
        have := HO4.out
        simpa only [List.append_assoc] using this
      · obtain rfl : i = t.seats.length := by omega
        rw [List.take_length] at how
        go_wp2_with fail
        go_ret
        exact ⟨g, n', cc, rfl, how.out, hbw.out⟩
end Go.Proofs.Ytdcmefkejgjdeaa
