/-
  Walks: two sides without a pair between.
-/
import Derived.Test.YtdfjnpnkfjcpcaaTB4
namespace Go.Proofs.Ytdfjnpnkfjcpcaa
set_option linter.unusedVariables false
set_option linter.unusedSimpArgs false
open Go.RowKit

theorem cutLast_any : ∀ {t : T}, t ≠ .nil → t.Bal → t.size ≤ 1073741822 → ∀ (w : World) (x : Option Addr), Knot w w.heap.size t x → Calls Try.prog 106 #[.pointer x] w (CutOff t w)
  | .nil, h, _, _ => absurd rfl h
  | .node l p .nil, _, hb, _ => fun w x h => cutLast_end h hb
  | .node l p (.node a q b), _, hb, hs => fun w x h => cutLast_more h (by simp) hb hs (cutLast_any (t := .node a q b) (by simp) hb.2.1 (by simp only [T.size] at hs ⊢; omega))

/-- What is met: all of both sides. -/
def Met (l r t : T) : Prop := t.list = l.list ++ r.list ∧ t.Bal

set_option maxRecDepth 100000 in
set_option maxHeartbeats 3200000 in
theorem meet_any {w : World} {l r : T} {x y : Option Addr} (hl : Knot w w.heap.size l x) (hr : Knot w w.heap.size r y) (bl : l.Bal) (br : r.Bal) (hs : l.size + r.size ≤ 1073741822) :
    Calls Try.prog 90 #[.pointer x, .pointer y] w (Makes w (Met l r)) := by
  cases l with
  | nil =>
    obtain rfl : x = none := hl
    go_enter Try.func90, Try.ntmps90
    go_wp2_with fail
    go_ret
    exact ⟨y, r, rfl, ⟨rfl, br⟩, hr, Below.refl _ _⟩
  | node a q b =>
    obtain ⟨bx, hbx⟩ : ∃ bx, x = some bx := by obtain ⟨b, _, _, rfl, _⟩ := hl; exact ⟨_, rfl⟩
    subst hbx
    have HC := Lib.hid (cutLast_any (t := .node a q b) (by simp) bl (by omega) w _ hl)
    have Hr := Lib.hid hr
    have BR := Lib.hid br
    have Hs := Lib.hid hs
    clear hl hr bl br hs
    go_enter Try.func90, Try.ntmps90
    go_wp2_with fail
    go_fit HC.out
    rintro e w1 ⟨v1, u, p, rfl, bu, hl, hk1, hb1⟩
    have hz : u.size + r.size ≤ 1073741822 := by
      have h1 := congrArg List.length hl
      rw [List.length_append, T.size_list, T.size_list] at h1
      have h2 := Hs.out
      simp only [T.size, List.length_cons, List.length_nil] at h1 h2
      omega
    have hA1 := below_alloc w1 (Obj.cells #[Value.string p.fst, Value.string p.snd] 87)
    have y := box_alloc w1 p.1 p.2 87
    have y0 := y.c0
    have y1 := y.c1
    have hbb := hb1.trans (hA1.mono hb1.size)
    have HT := Lib.hid (join_any p (hk1.all hA1) (Hr.out.all hbb) bu BR.out hz)
    have HT' := Lib.hid (join_any p ((hk1.all hA1).all (below_drew1 _)) ((Hr.out.all hbb).all (below_drew1 _)) bu BR.out hz)
    have HL := Lib.hid hl
    have HBB := Lib.hid hbb
    clear hb1 hk1 hl hbb hA1 hz bu y HC Hr
    go_wp2_with fail
    generalize w1.alloc (Obj.cells #[Value.string p.fst, Value.string p.snd] 87) = W2 at *
    first
      | (go_fit HT.out; rintro e w2 ⟨v2, t2, rfl, hj, hk2, hb2⟩; have HB3 := Lib.hid (HBB.out.trans (hb2.mono HBB.out.size)); have HJ := Lib.hid hj; have HK2 := Lib.hid hk2; clear hb2 hj hk2)
      | (go_region_with (go_at_call 105; (with_reducible refine HT'.out.mono ?_); rintro e w2 ⟨v2, t2, rfl, hj, hk2, hb2⟩; have HB3 := Lib.hid (HBB.out.trans (((below_drew1 W2).trans hb2).mono HBB.out.size)); have HJ := Lib.hid hj; have HK2 := Lib.hid hk2; clear hb2 hj hk2))
    go_wp2_with fail
    go_ret
    exact ⟨v2, t2, rfl, ⟨by rw [HJ.out.list, HL.out]; simp, HJ.out.bal⟩, HK2.out, HB3.out⟩
end Go.Proofs.Ytdfjnpnkfjcpcaa
