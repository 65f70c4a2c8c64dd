/-
  Walks: a tree that is split; two trees joined. (Written by gentree18.py.)
-/
import Derived.Test.YtcncggndpnooeaaB17
namespace Go.Proofs.Ytcncggndpnooeaa
set_option linter.unusedVariables false
set_option linter.unusedSimpArgs false
open Go.RowKit

/-- What is told of a tree that was split, as trees. -/
def SplitsT (t : T) (k : ByteArray) (w : World) (e : Ending) (w' : World) : Prop :=
  ∃ va vb a h b, e = .returned (.tuple #[.pointer va, .pointer vb, .string ((h.map (·.2)).getD ByteArray.empty), .bool h.isSome]) ∧ T.Parted t k a h b ∧ Tr w' w'.heap.size a va ∧ Tr w' w'.heap.size b vb ∧ Below w.heap.size w w'

/-- Whether all keys of one list are less than those of another one. -/
def joinable (a b : List Pr) : Bool :=
  match a.getLast?, b.head? with
  | some p, some q => klt p.1 q.1
  | _, _ => true
/-- What is told of two trees that are joined. -/
def JoinsT (a b : T) (w : World) (e : Ending) (w' : World) : Prop :=
  Below w.heap.size w w' ∧ if joinable a.list b.list = true then ∃ v t, e = .returned (.tuple #[.pointer v, .bool true]) ∧ v ≠ none ∧ Met a b t ∧ Tr w' w'.heap.size t v else e = .returned (.tuple #[.pointer none, .bool false])

theorem tree_two {w : World} {a b : T} {x y : Option Addr} (ha : Knot w w.heap.size a x) (hb : Knot w w.heap.size b y) :
    Tr ((w.alloc (.cells #[.pointer x] 79)).alloc (.cells #[.pointer y] 79)) ((w.alloc (.cells #[.pointer x] 79)).alloc (.cells #[.pointer y] 79)).heap.size a (some ⟨w.heap.size, 0, none⟩) ∧
    Tr ((w.alloc (.cells #[.pointer x] 79)).alloc (.cells #[.pointer y] 79)) ((w.alloc (.cells #[.pointer x] 79)).alloc (.cells #[.pointer y] 79)).heap.size b (some ⟨(w.alloc (.cells #[.pointer x] 79)).heap.size, 0, none⟩) :=
  ⟨(tree_made ha).all (below_alloc _ _), tree_made (hb.all (below_alloc _ _))⟩

set_option maxRecDepth 100000 in
set_option maxHeartbeats 1600000 in
theorem Split_any {w : World} {t : T} {v : Option Addr} (k : ByteArray) (h : Tr w w.heap.size t v) (g : Good t 500000000) : Calls Try.prog 40 #[.pointer v, .string k] w (SplitsT t k w) := by
  have H := Lib.hid h
  have G := Lib.hid g
  clear h g
  go_enter Try.func40, Try.ntmps40
  go_wp2_with fail
  go_fit (top_any H.out)
  rintro e w' ⟨⟨z, rfl, hk⟩, rfl⟩
  have K := Lib.hid hk
  clear hk
  go_wp2_with fail
  go_fit (split_any k G.out.bal G.out.sorted (by have := G.out.size; omega) w z K.out)
  rintro e w1 ⟨vl, vh, vm, l, hh, m, rfl, P, kl1, hh1, km1, hb1⟩
  have HP := Lib.hid P
  have HB1 := Lib.hid hb1
  have KL := Lib.hid kl1
  have KM := Lib.hid km1
  clear kl1 km1 hb1 P H K
  rcases hh1 with ⟨rfl, rfl⟩ | ⟨ph, a', c', rfl, hkh⟩
  · go_wp2_with fail
    have hsz : (w1.alloc (Obj.cells #[Value.pointer vl] 79)).heap.size = w1.heap.size + 1 := by simp
    have h2 := tree_two KL.out KM.out
    rw [hsz] at h2
    (try simp only [Exit.inBlock, Exit.then])
    refine bodyPost_ret (v := .tuple #[.pointer (some ⟨w1.heap.size, 0, none⟩), .pointer (some ⟨w1.heap.size + 1, 0, none⟩), .string { data := #[] }, .bool false]) (by simp [results, Try.results40, go_sem]) rfl ?_
    exact ⟨_, _, l, none, m, rfl, HP.out, h2.1, h2.2, HB1.out.trans (((below_alloc w1 _).trans ((below_alloc _ _).mono (by rw [hsz]; omega))).mono HB1.out.size)⟩
  · obtain ⟨bh, _, _, rfl, _, f0, f1, f2, f3, f4, f5, _, _⟩ := hkh
    clear f0 f2 f3 f4 f5
    go_wp2_with fail
    have hsz : (w1.alloc (Obj.cells #[Value.pointer vl] 79)).heap.size = w1.heap.size + 1 := by simp
    have h2 := tree_two KL.out KM.out
    rw [hsz] at h2
    (try simp only [Exit.inBlock, Exit.then])
    refine bodyPost_ret (v := .tuple #[.pointer (some ⟨w1.heap.size, 0, none⟩), .pointer (some ⟨w1.heap.size + 1, 0, none⟩), .string ph.2, .bool true]) (by simp [results, Try.results40, go_sem]) rfl ?_
    exact ⟨_, _, l, some ph, m, rfl, HP.out, h2.1, h2.2, HB1.out.trans (((below_alloc w1 _).trans ((below_alloc _ _).mono (by rw [hsz]; omega))).mono HB1.out.size)⟩

theorem atI_last (a : T) : atI a (((a.size : Nat) : Int) - 1) = a.list.getLast? := by
  unfold atI
  split
  · have h : a.list = [] := by
      have := T.size_list a
      cases hl : a.list with
      | nil => rfl
      | cons p l => rw [hl] at this; simp at this; omega
    rw [h]; rfl
  · rw [List.getLast?_eq_getElem?, T.size_list]
    congr 1
    omega
theorem atI_first (b : T) : atI b 0 = b.list.head? := by
  unfold atI
  rw [if_neg (by omega), List.head?_eq_getElem?]
  rfl
theorem Tr.top {w : World} {B : Nat} {t : T} {v : Option Addr} (h : Tr w B t v) : True := trivial

set_option maxRecDepth 100000 in
set_option maxHeartbeats 3200000 in
theorem Join_of {w : World} {a b : T} {u v : Option Addr} (h1 : Tr w w.heap.size a u) (h2 : Tr w w.heap.size b v) (g1 : Good a 500000000) (g2 : Good b 500000000) (a0 a1 b0 b1 : ByteArray) (sa sb : Bool)
    (hA : toldV (atI a (((a.size : Nat) : Int) - 1)) = .tuple #[.agg #[.string a0, .string a1], .bool sa]) (hB : toldV (atI b 0) = .tuple #[.agg #[.string b0, .string b1], .bool sb]) (hJ : joinable a.list b.list = !(sa && sb && !klt a0 b0)) :
    Calls Try.prog 42 #[.pointer u, .pointer v] w (JoinsT a b w) := by
  have H1 := Lib.hid h1
  have H2 := Lib.hid h2
  have G1 := Lib.hid g1
  have G2 := Lib.hid g2
  have HJ := Lib.hid hJ
  have hz := g1.size
  have e1 : IntKind.i64.wrap (((a.size : Nat) : Int) - 1) = ((a.size : Nat) : Int) - 1 := IntWalk.i64_in _ (by omega)
  have HAt := Lib.hid (At_any (((a.size : Nat) : Int) - 1) h1 g1 (by omega))
  rw [hA] at HAt
  clear h1 h2 g1 g2 hz hA hJ
  go_enter Try.func42, Try.ntmps42
  go_wp2_with fail
  go_fit (Len_any H1.out)
  rintro e w' ⟨rfl, rfl⟩
  go_wp2_with fail
  go_fit HAt.out
  rintro e w1 ⟨rfl, hb1⟩
  have hA1 := below_alloc w1 (Obj.cells #[Value.string a0, Value.string a1] 34)
  have hx1 := box_alloc w1 a0 a1 34
  have HB1 := Lib.hid (hb1.trans (hA1.mono hb1.size))
  have HX1 := Lib.hid hx1
  have H1' := Lib.hid (H1.out.all HB1.out)
  have H2' := Lib.hid (H2.out.all HB1.out)
  clear hb1 hA1 hx1 HAt
  go_wp2_with fail
  generalize w1.alloc (Obj.cells #[Value.string a0, Value.string a1] 34) = W1 at *
  have HBt := Lib.hid (At_any 0 H2'.out G2.out (by omega))
  rw [hB] at HBt
  go_fit HBt.out
  rintro e w2 ⟨rfl, hb2⟩
  have hA2 := below_alloc w2 (Obj.cells #[Value.string b0, Value.string b1] 34)
  have hx2 := box_alloc w2 b0 b1 34
  have hbb := hb2.trans (hA2.mono hb2.size)
  have HB2 := Lib.hid (HB1.out.trans (hbb.mono HB1.out.size))
  have hx1 := HX1.out.later hbb
  have x0 := hx1.c0
  have y0 := hx2.c0
  have K1 := Lib.hid (H1'.out.all hbb)
  have K2 := Lib.hid (H2'.out.all hbb)
  clear hb2 hA2 hx2 hbb hx1 HX1 HBt H1' H2' e1 hB
  have hk : klt a0 b0 = true ∨ klt a0 b0 = false := by cases klt a0 b0 <;> simp
  rcases hk with hk | hk
  all_goals
    cases sa <;> cases sb
  all_goals
    have HJ1 := HJ.out
    simp only [hk, Bool.and_true, Bool.and_false, Bool.true_and, Bool.false_and, Bool.not_true, Bool.not_false] at HJ1
    have HJ2 := Lib.hid HJ1
    have hk' : Go.Op.bytesLess a0.toList b0.toList = _ := hk
    clear hk HJ HJ1
    go_wp2_with fail
    generalize w2.alloc (Obj.cells #[Value.string b0, Value.string b1] 34) = W2 at *
    first
      | (go_ret2; exact ⟨HB2.out, by rw [if_neg (by rw [HJ2.out]; simp)]; rfl⟩)
      | (go_fit (top_any K1.out)
         rintro e w' ⟨⟨z1, rfl, hk1⟩, rfl⟩
         have HK1 := Lib.hid hk1
         clear hk1
         go_wp2_with fail
         go_fit (top_any K2.out)
         rintro e w' ⟨⟨z2, rfl, hk2⟩, rfl⟩
         have HM := Lib.hid (meet_any HK1.out hk2 G1.out.bal G2.out.bal (by have := G1.out.size; have := G2.out.size; omega))
         clear hk2
         go_wp2_with fail
         go_fit HM.out
         rintro e w3 ⟨v3, t3, rfl, hm, hk3, hb3⟩
         have HE : Hid (JoinsT a b w (.returned (.tuple #[.pointer (some ⟨w3.heap.size, 0, none⟩), .bool true])) (w3.alloc (.cells #[.pointer v3] 79))) := by
           refine ⟨HB2.out.trans ((hb3.trans ((below_alloc w3 _).mono hb3.size)).mono HB2.out.size), ?_⟩
           rw [if_pos HJ2.out]
           exact ⟨_, t3, rfl, by simp, hm, tree_made hk3⟩
         clear hk3 hm hb3
         go_wp2_with fail
         go_ret2
         exact HE.out)

theorem Join_any {w : World} {a b : T} {u v : Option Addr} (h1 : Tr w w.heap.size a u) (h2 : Tr w w.heap.size b v) (g1 : Good a 500000000) (g2 : Good b 500000000) : Calls Try.prog 42 #[.pointer u, .pointer v] w (JoinsT a b w) := by
  refine Join_of h1 h2 g1 g2 _ _ _ _ _ _ rfl rfl ?_
  rw [atI_last, atI_first]
  unfold joinable
  cases a.list.getLast? <;> cases b.list.head? <;> simp

end Go.Proofs.Ytcncggndpnooeaa
