/-
  TB18 TB19 TB20 TB21 in one text.
-/
import Derived.Test.YtdfjnpnkfjcpcaaTB17

/- TB18 -/
namespace Go.Proofs.Ytdfjnpnkfjcpcaa.Ts
open Go.Proofs.Ytdfjnpnkfjcpcaa
set_option linter.unusedVariables false
set_option linter.unusedSimpArgs false
open Go.RowKit

/-- What is told of a tree that was split, as trees. -/
def SplitsT (t : T) (k : ByteArray) (w : World) (e : Ending) (w' : World) : Prop :=
  ∃ va vb a h b, e = .returned (.tuple #[.pointer va, .pointer vb, .string ((h.map (·.2)).getD ByteArray.empty), .bool h.isSome]) ∧ T.Parted t k a h b ∧ Tr w' w'.heap.size a va ∧ Tr w' w'.heap.size b vb ∧ Below w.heap.size w w'

/-- Whether all keys of one list are less than those of another one. -/
def joinable (a b : List Pr) : Bool :=
  match a.getLast?, b.head? with
  | some p, some q => klt p.1 q.1
  | _, _ => true
/-- What is told of two trees that are joined. -/
def JoinsT (a b : T) (w : World) (e : Ending) (w' : World) : Prop :=
  Below w.heap.size w w' ∧ if joinable a.list b.list = true then ∃ v t, e = .returned (.tuple #[.pointer v, .bool true]) ∧ v ≠ none ∧ Met a b t ∧ Tr w' w'.heap.size t v else e = .returned (.tuple #[.pointer none, .bool false])

theorem tree_two {w : World} {a b : T} {x y : Option Addr} (ha : Knot w w.heap.size a x) (hb : Knot w w.heap.size b y) :
    Tr ((w.alloc (.cells #[.pointer x] 104)).alloc (.cells #[.pointer y] 104)) ((w.alloc (.cells #[.pointer x] 104)).alloc (.cells #[.pointer y] 104)).heap.size a (some ⟨w.heap.size, 0, none⟩) ∧
    Tr ((w.alloc (.cells #[.pointer x] 104)).alloc (.cells #[.pointer y] 104)) ((w.alloc (.cells #[.pointer x] 104)).alloc (.cells #[.pointer y] 104)).heap.size b (some ⟨(w.alloc (.cells #[.pointer x] 104)).heap.size, 0, none⟩) :=
  ⟨(tree_made ha).all (below_alloc _ _), tree_made (hb.all (below_alloc _ _))⟩

theorem atI_last (a : T) : atI a (((a.size : Nat) : Int) - 1) = a.list.getLast? := by
  unfold atI
  split
  · have h : a.list = [] := by
      have := T.size_list a
      cases hl : a.list with
      | nil => rfl
      | cons p l => rw [hl] at this; simp at this; omega
    rw [h]; rfl
  · rw [List.getLast?_eq_getElem?, T.size_list]
    congr 1
    omega
theorem atI_first (b : T) : atI b 0 = b.list.head? := by
  unfold atI
  rw [if_neg (by omega), List.head?_eq_getElem?]
  rfl
theorem Tr.top {w : World} {B : Nat} {t : T} {v : Option Addr} (h : Tr w B t v) : True := trivial

end Go.Proofs.Ytdfjnpnkfjcpcaa.Ts

/- TB19 -/
namespace Go.Proofs.Ytdfjnpnkfjcpcaa.Ts
open Go.Proofs.Ytdfjnpnkfjcpcaa
set_option linter.unusedVariables false
set_option linter.unusedSimpArgs false
open Go.RowKit

/-- Pairs lie in a block from a cell on. -/
def PairsAt (w : World) (g off : Nat) (xs : List Pr) : Prop := ∀ i p, xs[i]? = some p → w.cell? ⟨g, off + i * 2, none⟩ = some (.string p.1) ∧ w.cell? ⟨g, off + i * 2 + 1, none⟩ = some (.string p.2)
theorem PairsAt.later {w w' : World} {g off : Nat} {xs : List Pr} (h : PairsAt w g off xs) (hb : Below w.heap.size w w') : PairsAt w' g off xs := fun i p hp => ⟨cell_later hb (h i p hp).1, cell_later hb (h i p hp).2⟩
theorem PairsAt.left {w : World} {g off : Nat} {xs ys : List Pr} (h : PairsAt w g off (xs ++ ys)) : PairsAt w g off xs := fun i p hp => h i p (by
  rw [List.getElem?_append_left (by have := (List.getElem?_eq_some_iff.1 hp).1; exact this)]; exact hp)
theorem PairsAt.right {w : World} {g off : Nat} {xs ys : List Pr} (h : PairsAt w g off (xs ++ ys)) : PairsAt w g (off + xs.length * 2) ys := fun i p hp => by
  have := h (xs.length + i) p (by rw [List.getElem?_append_right (by omega)]; simpa using hp)
  rw [show off + xs.length * 2 + i * 2 = off + (xs.length + i) * 2 from by omega]
  exact this

/-- How deep so many pairs stand. -/
def bd (n : Nat) : Nat := if h : n = 0 then 0 else max (bd (n / 2)) (bd (n - 1 - n / 2)) + 1
termination_by n
decreasing_by all_goals omega
theorem bd_zero : bd 0 = 0 := by rw [bd]; rfl
theorem bd_pos {n : Nat} (h : n ≠ 0) : bd n = max (bd (n / 2)) (bd (n - 1 - n / 2)) + 1 := by rw [bd, dif_neg h]
theorem bd_step : ∀ n, bd n ≤ bd (n + 1) ∧ bd (n + 1) ≤ bd n + 1 := by
  intro n
  induction n using Nat.strongRecOn with
  | ind n ih =>
    by_cases h0 : n = 0
    · subst h0
      rw [bd_pos (n := 0 + 1) (by omega)]
      simp [bd_zero]
    · rw [bd_pos h0, bd_pos (n := n + 1) (by omega)]
      rcases Nat.mod_two_eq_zero_or_one n with h | h
      · obtain ⟨m, rfl⟩ : ∃ m, n = 2 * m := ⟨n / 2, by omega⟩
        rw [show (2 * m) / 2 = m from by omega, show 2 * m - 1 - m = m - 1 from by omega, show (2 * m + 1) / 2 = m from by omega, show 2 * m + 1 - 1 - m = m from by omega]
        have := ih (m - 1) (by omega)
        rw [show m - 1 + 1 = m from by omega] at this
        omega
      · obtain ⟨m, rfl⟩ : ∃ m, n = 2 * m + 1 := ⟨n / 2, by omega⟩
        rw [show (2 * m + 1) / 2 = m from by omega, show 2 * m + 1 - 1 - m = m from by omega, show (2 * m + 1 + 1) / 2 = m + 1 from by omega, show 2 * m + 1 + 1 - 1 - (m + 1) = m from by omega]
        have := ih m (by omega)
        omega

/-- What is built of pairs. -/
def Built (xs : List Pr) (t : T) : Prop := t.list = xs ∧ t.Bal ∧ t.deep = bd xs.length

set_option maxRecDepth 100000 in
set_option maxHeartbeats 3200000 in
theorem build_none (a : Option Addr) (c : Nat) (w : World) : Calls Try.prog 85 #[.slice a 0 c] w (Makes w (Built [])) := by
  go_enter Try.func85, Try.ntmps85
  go_wp2_with fail
  go_ret
  exact ⟨none, .nil, rfl, ⟨rfl, trivial, bd_zero.symm⟩, rfl, Below.refl _ _⟩

set_option maxRecDepth 100000 in
set_option maxHeartbeats 3200000 in
theorem build_some {w : World} {g off c n m : Nat} {xs ys : List Pr} {p : Pr} (hn : n = m + 1 + ys.length) (hm : xs.length = m) (hmid : m = n / 2) (hc : n ≤ c) (hcb : n ≤ 1073741824) (hp : PairsAt w g off (xs ++ p :: ys))
    (IHl : ∀ (w : World), PairsAt w g off xs → Calls Try.prog 85 #[.slice (some ⟨g, off, none⟩) m c] w (Makes w (Built xs)))
    (IHr : ∀ (w : World) (a : Option Addr), (ys = [] ∨ a = some ⟨g, off + (m + 1) * 2, none⟩) → PairsAt w g (off + (m + 1) * 2) ys → Calls Try.prog 85 #[.slice a ys.length (c - (m + 1))] w (Makes w (Built ys))) :
    Calls Try.prog 85 #[.slice (some ⟨g, off, none⟩) n c] w (Makes w (Built (xs ++ p :: ys))) := by
  have c0 := (hp m p (by rw [← hm]; simp)).1
  have c1 := (hp m p (by rw [← hm]; simp)).2
  have HP := Lib.hid hp
  have IL := Lib.hid IHl
  have IR := Lib.hid IHr
  have hq : (n : Int).tdiv 2 = (m : Int) := by rw [hmid, Int.ofNat_tdiv]; rfl
  have hq2 : (n : Int) / 2 = (m : Int) := by omega
  have e1 : IntKind.i64.wrap ((m : Int) + 1) = (m : Int) + 1 := IntWalk.i64_in _ (by omega)
  have e2 : IntKind.i64.wrap (m : Int) = (m : Int) := IntWalk.i64_in _ (by omega)
  have Hn := Lib.hid hn
  have Hm := Lib.hid hm
  have Hmid := Lib.hid hmid
  have Hcb : Hid (n ≤ 1073741824) := hcb
  have hmn : m + 1 ≤ n := by omega
  have hmc : m + 1 ≤ c := by omega
  have hmn2 : m < n := by omega
  have hmc2 : m ≤ c := by omega
  have hn0 : n ≠ 0 := by omega
  have hn1 : (n : Int) ≠ 0 := by omega
  clear hp IHl IHr hn hm hmid hcb
  go_enter Try.func85, Try.ntmps85
  go_wp2_with fail
  have hyl : Hid (ys.length = n - (m + 1)) := by have := Hn.out; show _ = _; omega
  have HPd := HP.out.later (below_drew1 w)
  have HTl := Lib.hid (IL.out w.drew HPd.left)
  have hres : ∀ (w1 w2 w3 : World) (v1 v2 v3 : Option Addr) (t1 t2 : T), Below w.heap.size w w1 → Below w1.heap.size w1 w2 → Below w2.heap.size w2 w3 → Built xs t1 → Built ys t2 → Knot w3 w3.heap.size (.node t1 p t2) v3 → Makes w (Built (xs ++ p :: ys)) (.returned (.pointer v3)) w3 := by
    intro w1 w2 w3 v1 v2 v3 t1 t2 h1 h2 h3 b1 b2 hk
    have hd1 : t1.deep = bd m := by rw [b1.2.2, Hm.out]
    have hd2 : t2.deep = bd (n - 1 - n / 2) := by rw [b2.2.2, hyl.out, Hmid.out]; congr 1; omega
    have hb := bd_step (n - 1 - n / 2)
    have hnn := Hn.out
    have hmm := Hmid.out
    have hle : bd m ≤ bd (n - 1 - n / 2) + 1 ∧ bd (n - 1 - n / 2) ≤ bd m := by
      rcases Nat.mod_two_eq_zero_or_one n with h | h
      · rw [show m = n - 1 - n / 2 + 1 from by omega]; omega
      · rw [show m = n - 1 - n / 2 from by omega]; omega
    refine ⟨v3, .node t1 p t2, rfl, ⟨by simp only [T.list]; rw [b1.1, b2.1], (show t1.Bal ∧ t2.Bal ∧ t1.deep ≤ t2.deep + 1 ∧ t2.deep ≤ t1.deep + 1 from ⟨b1.2.1, b2.2.1, by omega, by omega⟩), ?_⟩, hk, (h1.trans (h2.mono h1.size)).trans (h3.mono (Nat.le_trans h1.size h2.size))⟩
    simp only [T.deep]
    rw [hd1, hd2, List.length_append, List.length_cons, Hm.out, show m + (ys.length + 1) = n from by omega, bd_pos (n := n) hn0, ← Hmid.out]
  have HRes := Lib.hid hres
  have HSz : Hid (xs.length + ys.length ≤ 1073741824) := by have := Hn.out; have := Hm.out; have := Hcb.out; show _ ≤ _; omega
  clear hres HPd hq hq2 hn0 hn1 IL
  have hI0 : (0 : Int) ≤ (m : Int) + 1 := by omega
  have hI1 : (m : Int) + 1 ≤ (n : Int) := by omega
  have hI2 : (n : Int) ≤ (c : Int) := by omega
  have hI3 : (m : Int) + 1 ≤ (c : Int) := by omega
  have hI4 : ((m : Int) + 1).toNat = m + 1 := by omega
  by_cases hcap : m + 1 = c
  · have hys : ys = [] := List.eq_nil_of_length_eq_zero (by have := Hn.out; omega)
    have HIR : Hid (∀ W, Below w.heap.size w W → Calls Try.prog 85 #[.slice (some ⟨g, off, none⟩) 0 0] W (Makes W (Built ys))) := fun W hW => by
      rw [hys]; exact build_none _ _ W
    clear IR hys
    go_region_held3 (fun V => V.cell? ⟨g, off + m * 2, none⟩ = some (.string p.1) ∧ V.cell? ⟨g, off + m * 2 + 1, none⟩ = some (.string p.2)) (go_keep)
      (first
        | (go_at_call 85; (with_reducible refine HTl.out.mono ?_); rintro e w1 ⟨v1, t1, rfl, hQ1, hk1, hb1⟩; have HB1 : Hid (Below w.heap.size w w1) := (below_drew1 w).trans hb1; have d0 := cell_later HB1.out c0; have d1 := cell_later HB1.out c1; have HQ1 := Lib.hid hQ1; have HK1 := Lib.hid hk1; have HT2 := Lib.hid (HIR.out w1 HB1.out); clear hb1 hQ1 hk1 HTl HIR)
        | (go_at_call 85; (with_reducible refine HT2.out.mono ?_); rintro e w2 ⟨v2, t2, rfl, hQ2, hk2, hb2⟩; have j0 := cell_later hb2 d0; have j1 := cell_later hb2 d1; have HB2 := Lib.hid hb2; have HQ2 := Lib.hid hQ2; have HT3 := Lib.hid (tie_any p (HK1.out.all hb2) hk2 (by rw [← T.size_list, ← T.size_list, HQ1.out.1, hQ2.1]; exact HSz.out)); clear hb2 hQ2 hk2 HT2)
        | (go_at_call 103; (with_reducible refine HT3.out.mono ?_); rintro e w3 ⟨v3, t3, rfl, rfl, hk3, hb3⟩; have i0 := cell_later hb3 j0; have i1 := cell_later hb3 j1; have HB3 := Lib.hid hb3; have HK3 := Lib.hid hk3; clear hb3 hk3 HT3))
    go_wp2_with fail
    go_ret
    exact HRes.out w1 w2 w3 none none _ _ _ HB1.out HB2.out HB3.out HQ1.out HQ2.out HK3.out
  · have HIR : Hid (∀ W, Below w.heap.size w W → Calls Try.prog 85 #[.slice (some ⟨g, off + (m + 1) * 2, none⟩) (n - (m + 1)) (c - (m + 1))] W (Makes W (Built ys))) := fun W hW => by
      rw [← hyl.out]
      refine IR.out W _ (.inr rfl) ?_
      have h1 : PairsAt w g off ((xs ++ [p]) ++ ys) := by simpa using HP.out
      have h2 := h1.right
      rw [List.length_append, Hm.out] at h2
      exact h2.later hW
    clear IR
    go_region_held3 (fun V => V.cell? ⟨g, off + m * 2, none⟩ = some (.string p.1) ∧ V.cell? ⟨g, off + m * 2 + 1, none⟩ = some (.string p.2)) (go_keep)
      (first
        | (go_at_call 85; (with_reducible refine HTl.out.mono ?_); rintro e w1 ⟨v1, t1, rfl, hQ1, hk1, hb1⟩; have HB1 : Hid (Below w.heap.size w w1) := (below_drew1 w).trans hb1; have d0 := cell_later HB1.out c0; have d1 := cell_later HB1.out c1; have HQ1 := Lib.hid hQ1; have HK1 := Lib.hid hk1; have HT2 := Lib.hid (HIR.out w1 HB1.out); clear hb1 hQ1 hk1 HTl HIR)
        | (go_at_call 85; (with_reducible refine HT2.out.mono ?_); rintro e w2 ⟨v2, t2, rfl, hQ2, hk2, hb2⟩; have j0 := cell_later hb2 d0; have j1 := cell_later hb2 d1; have HB2 := Lib.hid hb2; have HQ2 := Lib.hid hQ2; have HT3 := Lib.hid (tie_any p (HK1.out.all hb2) hk2 (by rw [← T.size_list, ← T.size_list, HQ1.out.1, hQ2.1]; exact HSz.out)); clear hb2 hQ2 hk2 HT2)
        | (go_at_call 103; (with_reducible refine HT3.out.mono ?_); rintro e w3 ⟨v3, t3, rfl, rfl, hk3, hb3⟩; have i0 := cell_later hb3 j0; have i1 := cell_later hb3 j1; have HB3 := Lib.hid hb3; have HK3 := Lib.hid hk3; clear hb3 hk3 HT3))
    go_wp2_with fail
    go_ret
    exact HRes.out w1 w2 w3 none none _ _ _ HB1.out HB2.out HB3.out HQ1.out HQ2.out HK3.out

theorem build_any : ∀ (k : Nat) {xs : List Pr}, xs.length ≤ k → ∀ (w : World) (g off c : Nat), xs.length ≤ c → xs.length ≤ 1073741824 → PairsAt w g off xs → Calls Try.prog 85 #[.slice (some ⟨g, off, none⟩) xs.length c] w (Makes w (Built xs))
  | 0, xs, hk, w, g, off, c, hc, hcb, hp => by
    obtain rfl : xs = [] := List.eq_nil_of_length_eq_zero (by omega)
    exact build_none _ _ _
  | k + 1, xs, hk, w, g, off, c, hc, hcb, hp => by
    by_cases h0 : xs.length = 0
    · obtain rfl : xs = [] := List.eq_nil_of_length_eq_zero h0
      exact build_none _ _ _
    · obtain ⟨us, p, bs, rfl, hl⟩ : ∃ us p bs, xs = us ++ p :: bs ∧ us.length = xs.length / 2 := by
        have hlt : xs.length / 2 < xs.length := by omega
        refine ⟨xs.take (xs.length / 2), xs[xs.length / 2], xs.drop (xs.length / 2 + 1), ?_, by simp; omega⟩
        rw [← List.drop_eq_getElem_cons hlt, List.take_append_drop]
      have hL : (us ++ p :: bs).length = us.length + 1 + bs.length := by simp; omega
      rw [hL] at hl hc hcb ⊢
      refine build_some (m := us.length) rfl rfl hl hc hcb hp (fun W hW => build_any k (by omega) W g off c (by omega) (by omega) hW) (fun W a ha hW => ?_)
      rcases ha with rfl | rfl
      · exact build_none _ _ _
      · exact build_any k (by omega) W g _ _ (by omega) (by omega) hW
end Go.Proofs.Ytdfjnpnkfjcpcaa.Ts

/- TB20 -/
namespace Go.Proofs.Ytdfjnpnkfjcpcaa.Ts
open Go.Proofs.Ytdfjnpnkfjcpcaa
set_option linter.unusedVariables false
set_option linter.unusedSimpArgs false
open Go.RowKit

theorem compare_klt (a b : ByteArray) : (Lib.compareBytes a.data.toList b.data.toList < 0) ↔ klt a b = true := by
  unfold klt
  rw [ba_list, ba_list]
  generalize a.data.toList = x
  generalize b.data.toList = y
  induction x generalizing y with
  | nil => cases y <;> simp [Lib.compareBytes, Go.Op.bytesLess]
  | cons c x ih =>
    cases y with
    | nil => simp [Lib.compareBytes, Go.Op.bytesLess]
    | cons d y =>
      simp only [Lib.compareBytes, Go.Op.bytesLess]
      by_cases h : c < d
      · simp [h]
      · by_cases h' : d < c
        · have hne : c ≠ d := fun e => by rw [e] at h'; exact absurd h' (UInt8.lt_irrefl _)
          simp [h, h', hne]
        · have he : c = d := by
            have h1 : ¬ c.toNat < d.toNat := fun e => h (UInt8.lt_iff_toNat_lt.2 e)
            have h2 : ¬ d.toNat < c.toNat := fun e => h' (UInt8.lt_iff_toNat_lt.2 e)
            exact UInt8.toNat_inj.1 (by omega)
          subst he
          simp [h, ih]

set_option maxRecDepth 100000 in
set_option maxHeartbeats 1600000 in
theorem cmp_any (w : World) (p q : Pr) : Calls Try.prog 83 #[.agg #[.string p.1, .string p.2], .agg #[.string q.1, .string q.2]] w fun e w' => e = .returned (.int .i64 (Lib.compareBytes p.1.data.toList q.1.data.toList)) ∧ Below w.heap.size w w' := by
  have hs := Try.strings_Compare
  have HB := Lib.hid ((below_alloc w (Obj.cells #[Value.string p.fst, Value.string p.snd] 87)).trans ((below_alloc _ (Obj.cells #[Value.string q.fst, Value.string q.snd] 87)).mono (by simp)))
  go_enter Try.func83, Try.ntmps83
  go_wp2_with fail
  go_fit (hs p.1 q.1 _)
  rintro e w' ⟨rfl, rfl⟩
  go_wp2_with fail
  go_ret
  exact ⟨rfl, HB.out⟩

/-- Pairs in a block that may be written. -/
structure PRow (w : World) (g : Nat) (xs : List Pr) : Prop where
  pairs : PairsAt w g 0 xs
  fz : ∀ i, w.frozen? ⟨g, i, none⟩ = false
theorem PRow.later {w w' : World} {g : Nat} {xs : List Pr} (h : PRow w g xs) (hl : g < w.heap.size) (hb : Below w.heap.size w w') : PRow w' g xs :=
  ⟨h.pairs.later hb, fun i => (hb.frozen (p := ⟨g, i, none⟩) hl).trans (h.fz i)⟩
theorem PRow.drew {w : World} {g : Nat} {xs : List Pr} (h : PRow w g xs) : PRow w.drew g xs := ⟨h.pairs, h.fz⟩

theorem PRow.drewN {w : World} {g : Nat} {xs : List Pr} (h : PRow w g xs) (q : Nat) : PRow (w.drewN q) g xs := ⟨h.pairs, h.fz⟩

/-- A pair is laid at a place. -/
def putPair (w : World) (g i : Nat) (p : Pr) : World := (w.setCell ⟨g, i * 2, none⟩ (.string p.1)).setCell ⟨g, i * 2 + 1, none⟩ (.string p.2)
theorem putPair_size (w : World) (g i : Nat) (p : Pr) : (putPair w g i p).heap.size = w.heap.size := by simp [putPair, World.setCell]
theorem grown_put (w : World) (g i : Nat) (p : Pr) : w.grownBy (putPair w g i p) (some g) :=
  ⟨rfl, rfl, rfl, by rw [putPair_size]; exact Nat.le_refl _, fun k _ hk => by
    have h : g ≠ k := fun e => hk (by rw [e])
    unfold putPair
    rw [Below.heap_setCell _ _ _ _ (by simpa using Ne.symm h), Below.heap_setCell _ _ _ _ (by simpa using Ne.symm h)]⟩
theorem PRow.put {w : World} {g : Nat} {A B : List Pr} {q : Pr} (h : PRow w g (A ++ q :: B)) (p : Pr) : PRow (putPair w g A.length p) g (A ++ p :: B) := by
  have hq := h.pairs A.length q (by simp)
  simp only [Nat.zero_add] at hq
  refine ⟨fun i r hr => ?_, fun i => (World.frozen?_setCell _ _ _ _).trans ((World.frozen?_setCell _ _ _ _).trans (h.fz i))⟩
  simp only [Nat.zero_add]
  by_cases hi : i = A.length
  · subst hi
    have : r = p := by simpa using hr.symm
    subst this
    unfold putPair
    refine ⟨?_, ?_⟩
    · rw [World.cell?_setCell_other _ _ _ _ (by simp)]; exact World.cell?_setCell_same _ _ _ hq.1
    · exact World.cell?_setCell_same _ _ _ ((World.cell?_setCell_other _ _ _ _ (by simp)).trans hq.2)
  · have hr' : (A ++ q :: B)[i]? = some r := by
      rcases Nat.lt_or_ge i A.length with hlt | hge
      · rw [List.getElem?_append_left hlt] at hr ⊢; exact hr
      · rw [List.getElem?_append_right hge] at hr ⊢
        obtain ⟨k, hk⟩ : ∃ k, i - A.length = k + 1 := ⟨i - A.length - 1, by omega⟩
        rw [hk] at hr ⊢; simpa using hr
    have hc := h.pairs i r hr'
    simp only [Nat.zero_add] at hc
    unfold putPair
    refine ⟨?_, ?_⟩
    · rw [World.cell?_setCell_other _ _ _ _ (by simp <;> omega), World.cell?_setCell_other _ _ _ _ (by simp <;> omega)]; exact hc.1
    · rw [World.cell?_setCell_other _ _ _ _ (by simp <;> omega), World.cell?_setCell_other _ _ _ _ (by simp <;> omega)]; exact hc.2

/-- A pair that is put behind all that is not more. -/
def ins (S : List Pr) (p : Pr) : List Pr := (S.reverse.dropWhile (fun q => klt p.1 q.1)).reverse ++ p :: (S.reverse.takeWhile (fun q => klt p.1 q.1)).reverse
def isort (l : List Pr) : List Pr := l.foldl ins []
theorem ins_length (S : List Pr) (p : Pr) : (ins S p).length = S.length + 1 := by
  have h := congrArg List.length (List.takeWhile_append_dropWhile (p := fun q : Pr => klt p.1 q.1) (l := S.reverse))
  simp only [List.length_append, List.length_reverse] at h
  simp only [ins, List.length_append, List.length_reverse, List.length_cons]
  omega
theorem ins_of {A C : List Pr} {p : Pr} (hC : ∀ q ∈ C, klt p.1 q.1 = true) (hA : ∀ q, A.getLast? = some q → klt p.1 q.1 = false) : ins (A ++ C) p = A ++ p :: C := by
  have h1 : ∀ (C : List Pr) (A : List Pr), (∀ q ∈ C, klt p.1 q.1 = true) → (C ++ A).dropWhile (fun q => klt p.1 q.1) = A.dropWhile (fun q => klt p.1 q.1) ∧ (C ++ A).takeWhile (fun q => klt p.1 q.1) = C ++ A.takeWhile (fun q => klt p.1 q.1) := by
    intro C
    induction C with
    | nil => intro A _; exact ⟨rfl, rfl⟩
    | cons c C ih =>
      intro A h
      have hc := h c (by simp)
      have := ih A (fun q hq => h q (by simp [hq]))
      simp [hc, this]
  have h2 : (A.reverse.dropWhile fun q => klt p.1 q.1) = A.reverse ∧ (A.reverse.takeWhile fun q => klt p.1 q.1) = [] := by
    cases hr : A.reverse with
    | nil => exact ⟨rfl, rfl⟩
    | cons a B =>
      have : A.getLast? = some a := by rw [List.getLast?_eq_head?_reverse, hr]; rfl
      simp [hA a this]
  unfold ins
  rw [List.reverse_append]
  have h3 := h1 C.reverse A.reverse (fun q hq => hC q (by simpa using hq))
  rw [h3.1, h3.2, h2.1, h2.2]
  simp

/-- What stands behind an insertion. -/
def Sorts (g : Nat) (ys : List Pr) (w : World) (w' : World) : Prop := PRow w' g ys ∧ w.grownBy w' (some g)

theorem isort_step (xs : List Pr) {i : Nat} {p : Pr} (h : xs[i]? = some p) : isort (xs.take (i + 1)) = ins (isort (xs.take i)) p := by
  have hlt := (List.getElem?_eq_some_iff.1 h).1
  have he := (List.getElem?_eq_some_iff.1 h).2
  rw [List.take_add_one, h]
  simp [isort, List.foldl_append]
theorem isort_length (l : List Pr) : (isort l).length = l.length := by
  have h : ∀ (l a : List Pr), (l.foldl ins a).length = a.length + l.length := by
    intro l
    induction l with
    | nil => intro a; simp
    | cons p l ih => intro a; rw [List.foldl_cons, ih, ins_length]; simp; omega
  rw [isort, h]; simp

theorem grown_of_below {w w1 w2 : World} {row : Option Nat} (h1 : w.grownBy w1 row) (h2 : Below w1.heap.size w1 w2) : w.grownBy w2 row :=
  ⟨h2.os.trans h1.os, h2.tape.trans h1.tape, h2.output.trans h1.output, Nat.le_trans h1.size h2.size, fun k hk hne => (h2.block k (Nat.lt_of_lt_of_le hk h1.size)).trans (h1.block k hk hne)⟩

set_option maxRecDepth 100000 in
set_option maxHeartbeats 6400000 in
theorem insertion_any {w : World} {g c n : Nat} {xs : List Pr} (hr : PRow w g xs) (hgl : g < w.heap.size) (hn : xs.length = n) (hn1 : 1 ≤ n) (hc : n ≤ c) (hnb : n ≤ 1073741824) :
    Calls Try.prog 112 #[.slice (some ⟨g, 0, none⟩) n c, .int .i64 0, .int .i64 n, .func (.func 83) #[] #[]] w fun e w' => e = .returned (.tuple #[]) ∧ Sorts g (isort xs) w w' := by
  have HR := Lib.hid hr
  have Hgl := Lib.hid hgl
  have Hn := Lib.hid hn
  clear hr hgl hn
  go_enter Try.func112, Try.ntmps112
  go_wp2_with fail
  go_loopw [8] (fun v wr => ∃ (i : Nat), v = .int .i64 i ∧ 1 ≤ i ∧ i ≤ n ∧ Hid (PRow wr g (isort (xs.take i) ++ xs.drop i)) ∧ Hid (w.grownBy wr (some g)))
    (fun v _ => n - (intOf v).toNat)
  case atStart =>
    refine ⟨1, rfl, Nat.le_refl _, hn1, ?_, grown_refl _ _⟩
    have : isort (xs.take 1) ++ xs.drop 1 = xs := by
      cases hx : xs with
      | nil => have := Hn.out; rw [hx] at this; simp at this; omega
      | cons a l => rfl
    show PRow w g _
    rw [this]; exact HR.out
  case round =>
    obtain ⟨i, rfl, hi1, hin, hrow, hgr⟩ := hrel
    have ei : IntKind.i64.wrap ((i : Int) + 1) = (i : Int) + 1 := IntWalk.i64_in _ (by omega)
    by_cases hlt : i < n
    · obtain ⟨p, hp⟩ : ∃ p, xs[i]? = some p := ⟨xs[i]'(by rw [Hn.out]; exact hlt), List.getElem?_eq_getElem _⟩
      obtain ⟨S, hS⟩ : ∃ S, S = isort (xs.take i) := ⟨_, rfl⟩
      have hSl : S.length = i := by rw [hS, isort_length, List.length_take, Hn.out]; omega
      obtain ⟨D, hD⟩ : ∃ D, D = xs.drop (i + 1) := ⟨_, rfl⟩
      have hrow' : Hid (PRow wr g (S ++ p :: D)) := by
        have h1 : xs.drop i = p :: D := by rw [hD]; have := (List.getElem?_eq_some_iff.1 hp); rw [← this.2]; exact List.drop_eq_getElem_cons this.1
        have := hrow.out
        rw [h1, ← hS] at this; exact this
      have Hp := Lib.hid hp
      have HS := Lib.hid hS
      have HSl := Lib.hid hSl
      have HD := Lib.hid hD
      clear hp hS hSl hD hrow
      go_wp2_with fail
      go_loopw [9] (fun v wr2 => ∃ (j : Nat) (A C : List Pr), v = .int .i64 j ∧ j ≤ i ∧ Hid (S = A ++ C) ∧ Hid (A.length = j) ∧ Hid (∀ q ∈ C, klt p.1 q.1 = true) ∧ Hid (PRow wr2 g (A ++ p :: (C ++ D))) ∧ Hid (w.grownBy wr2 (some g)))
        (fun v _ => (intOf v).toNat)
      case atStart => exact ⟨i, S, [], rfl, Nat.le_refl _, (by show _ = _; simp), HSl, (fun (q : Pr) (hq : q ∈ ([] : List Pr)) => absurd hq (by simp)), hrow', hgr⟩
      case round =>
        obtain ⟨j, A, C, rfl, hji, hSA, hAl, hC, hrw, hg2⟩ := hrel
        clear hrow' hgr
        have ej : IntKind.i64.wrap ((j : Int) - 1) = (j : Int) - 1 := IntWalk.i64_in _ (by omega)
        have hfin : Hid ((∀ q, A.getLast? = some q → klt p.1 q.1 = false) → isort (xs.take (i + 1)) ++ xs.drop (i + 1) = A ++ p :: (C ++ D)) := fun hA => by
          rw [isort_step xs Hp.out, ← HS.out, hSA.out, ins_of hC.out hA, ← HD.out]; simp
        by_cases hj : j = 0
        · subst hj
          obtain rfl : A = [] := List.eq_nil_of_length_eq_zero hAl.out
          rw [show ((0 : Nat) : Int) = 0 from rfl]
          go_wp2_with fail
          go_quiet (fail)
          go_wp2_with fail
          · refine ⟨⟨i + 1, by simp, by omega, by omega, ?_, grown_of_below hg2.out (below_drewN (Below.refl _ _) _)⟩, by show n - ((i : Int) + 1).toNat < n - ((i : Int)).toNat; omega⟩
            show PRow _ g _
            rw [hfin.out (fun q hq => by simp at hq)]
            exact hrw.out.drewN _
        · obtain ⟨A', q, rfl⟩ : ∃ A' q, A = A' ++ [q] := ⟨A.dropLast, A.getLast (fun e => hj (by rw [← hAl.out, e]; rfl)), (List.dropLast_concat_getLast _).symm⟩
          obtain ⟨k, rfl⟩ : ∃ k, j = k + 1 := ⟨j - 1, by omega⟩
          have hAl' : A'.length = k := by have := hAl.out; simp at this; omega
          have hrw2 : PRow wr g (A' ++ q :: p :: (C ++ D)) := by simpa using hrw.out
          have hrw3 : PRow wr g ((A' ++ [q]) ++ p :: (C ++ D)) := hrw.out
          have q0 := hrw2.pairs A'.length q (by simp)
          have p0 := hrw3.pairs (A' ++ [q]).length p (by simp)
          rw [hAl'] at q0
          rw [hAl.out] at p0
          simp only [Nat.zero_add] at q0 p0
          obtain ⟨q0, q1⟩ := q0
          obtain ⟨p0, p1⟩ := p0
          have HA' := Lib.hid hAl'
          have Hrw := Lib.hid hrw2
          have Hj := Lib.hid hj
          have hkn : k < n := by omega
          have hkn1 : k + 1 < n := by omega
          have ek : IntKind.i64.wrap (k : Int) = (k : Int) := IntWalk.i64_in _ (by omega)
          have ek1 : ((k + 1 : Nat) : Int) - 1 = (k : Int) := by omega
          have hI1 : (0 : Int) ≤ (k : Int) + 1 := by omega
          have hI2 : (k : Int) + 1 < (n : Int) := by omega
          have hI3 : ((k : Int) + 1).toNat = k + 1 := by omega
          clear hrw hrw2 hrw3 hAl' hj ej
          go_wp2_with fail
          go_region_held3 (fun V => V.cell? ⟨g, k * 2, none⟩ = some (.string q.1) ∧ V.cell? ⟨g, k * 2 + 1, none⟩ = some (.string q.2) ∧ V.cell? ⟨g, (k + 1) * 2, none⟩ = some (.string p.1) ∧ V.cell? ⟨g, (k + 1) * 2 + 1, none⟩ = some (.string p.2)) (go_keep)
            (first
              | (go_at_call 83; (with_reducible refine (cmp_any wr.drew p q).mono ?_); rintro e w2 ⟨rfl, hb2⟩; have hbd : Below wr.heap.size wr w2 := (below_drew1 wr).trans hb2; have a0 := cell_later hbd q0; have a1 := cell_later hbd q1; have b0 := cell_later hbd p0; have b1 := cell_later hbd p1; have HB2 := Lib.hid hbd; clear hbd hb2))
          have Hrw2 := Lib.hid (Hrw.out.later (World.block_lt_of_cell? wr _ q0) HB2.out)
          have hg3 : Hid (w.grownBy w2 (some g)) := grown_of_below hg2.out HB2.out
          clear q0 q1 p0 p1 Hrw hg2 HB2
          cases hk : klt p.1 q.1 with
          | false =>
            have hcmp : ¬ Lib.compareBytes p.1.data.toList q.1.data.toList < 0 := fun e => by rw [compare_klt, hk] at e; cases e
            have hcmp2 : decide (Lib.compareBytes p.1.data.toList q.1.data.toList < 0) = false := by simpa using hcmp
            go_wp2_with fail
            refine ⟨⟨i + 1, by simp, by omega, by omega, ?_, hg3⟩, by show n - ((i : Int) + 1).toNat < n - ((i : Int)).toNat; omega⟩
            show PRow _ g _
            rw [hfin.out (fun r hr => by simp at hr; rw [← hr]; exact hk)]
            simpa using Hrw2.out
          | true =>
            have hcmp : Lib.compareBytes p.1.data.toList q.1.data.toList < 0 := (compare_klt _ _).2 hk
            have hcmp2 : decide (Lib.compareBytes p.1.data.toList q.1.data.toList < 0) = true := by simpa using hcmp
            have z0 := Hrw2.out.fz (k * 2)
            have z1 := Hrw2.out.fz (k * 2 + 1)
            have z2 := Hrw2.out.fz ((k + 1) * 2)
            have z3 := Hrw2.out.fz ((k + 1) * 2 + 1)
            go_wp2_with fail
            go_region_with (fail)
            all_goals
              go_wp2_with fail
              have hA1 : (A' ++ [q]).length = k + 1 := by rw [List.length_append, HA'.out]; rfl
              have h1 : PRow (putPair w2 g (k + 1) q) g ((A' ++ [q]) ++ q :: (C ++ D)) := by
                rw [← hA1]
                exact PRow.put (q := p) (by simpa using Hrw2.out) q
              have h2 : PRow (putPair (putPair w2 g (k + 1) q) g k p) g (A' ++ p :: (q :: (C ++ D))) := by
                rw [← HA'.out]
                rw [← HA'.out] at h1
                exact PRow.put (q := q) (by simpa using h1) p
              refine ⟨⟨k, A', q :: C, rfl, by omega, ?_, HA', ?_, h2.drew, grown_drew (grown_seq (grown_seq hg3.out (grown_put w2 g (k + 1) q) (.inl rfl)) (grown_put _ g k p) (.inl rfl))⟩, by show k < k + 1; omega⟩
              · show S = _
                rw [hSA.out]; simp
              · show ∀ r ∈ q :: C, _
                intro r hr
                rcases List.mem_cons.1 hr with rfl | hr
                · exact hk
                · exact hC.out r hr
    · obtain rfl : i = n := by omega
      have hr : Hid (PRow wr g (isort xs)) := by
        have := hrow.out
        rw [← Hn.out, List.take_length, List.drop_length, List.append_nil] at this
        exact this
      clear hrow
      go_wp2_with fail
      go_end0
      exact ⟨rfl, hr.out, hgr.out⟩

set_option maxRecDepth 100000 in
set_option maxHeartbeats 3200000 in
theorem stable_any {w : World} {g c n : Nat} {xs : List Pr} (hr : PRow w g xs) (hgl : g < w.heap.size) (hn : xs.length = n) (hn1 : 1 ≤ n) (hn2 : n ≤ 19) (hc : n ≤ c) (hnb : n ≤ 1073741824) :
    Calls Try.prog 101 #[.slice (some ⟨g, 0, none⟩) n c, .int .i64 n, .func (.func 83) #[] #[]] w fun e w' => e = .returned (.tuple #[]) ∧ Sorts g (isort xs) w w' := by
  have HI := Lib.hid (insertion_any hr hgl hn hn1 hc hnb)
  have h20 : (n : Int) < 20 := by omega
  clear hr hgl hn hc hnb
  go_enter Try.func101, Try.ntmps101
  go_wp2_with fail
  refine wp_loop_rounds 1 ?_
  rw [rounds_succ]
  go_wp2_with fail
  go_fit HI.out
  rintro e w1 ⟨rfl, hs⟩
  have HS := Lib.hid hs
  clear hs
  go_wp2_with fail
  refine wp_loop_rounds 1 ?_
  rw [rounds_succ]
  go_wp2_with fail
  go_end0
  exact ⟨rfl, HS.out⟩

set_option maxRecDepth 100000 in
set_option maxHeartbeats 3200000 in
theorem SortStable_any {w : World} {g c n : Nat} {xs : List Pr} (hr : PRow w g xs) (hgl : g < w.heap.size) (hn : xs.length = n) (hn1 : 1 ≤ n) (hn2 : n ≤ 19) (hc : n ≤ c) (hnb : n ≤ 1073741824) :
    Calls Try.prog 82 #[.slice (some ⟨g, 0, none⟩) n c, .func (.func 83) #[] #[]] w fun e w' => e = .returned (.tuple #[]) ∧ Sorts g (isort xs) w w' := by
  have HI := Lib.hid (stable_any hr hgl hn hn1 hn2 hc hnb)
  clear hr hgl hn hc hnb
  go_enter Try.func82, Try.ntmps82
  go_wp2_with fail
  go_fit HI.out
  rintro e w1 ⟨rfl, hs⟩
  have HS := Lib.hid hs
  clear hs
  go_wp2_with fail
  go_end0
  exact ⟨rfl, HS.out⟩
end Go.Proofs.Ytdfjnpnkfjcpcaa.Ts

/- TB21 -/
namespace Go.Proofs.Ytdfjnpnkfjcpcaa.Ts
open Go.Proofs.Ytdfjnpnkfjcpcaa
set_option linter.unusedVariables false
set_option linter.unusedSimpArgs false
open Go.RowKit

theorem prs_at : ∀ (xs : List Pr) (i : Nat), (prs xs)[2 * i]? = (xs[i]?).map (fun p => .string p.1) ∧ (prs xs)[2 * i + 1]? = (xs[i]?).map (fun p => .string p.2)
  | [], i => by simp [prs]
  | p :: l, 0 => by simp [prs]
  | p :: l, i + 1 => by
    have := prs_at l i
    have e : 2 * (i + 1) = 2 * i + 1 + 1 := by omega
    rw [e]
    simp only [prs, List.getElem?_cons_succ]
    exact this
theorem add_zero_lit (g j : Nat) : (⟨g, 0, none⟩ : Addr).add j = ⟨g, j, none⟩ := by rw [Addr.add_lit, Nat.zero_add]
theorem pairs_cells {w : World} {g : Nat} {xs : List Pr} (h : PairsAt w g 0 xs) : ∀ j u, (prs xs)[j]? = some u → w.cell? ((⟨g, 0, none⟩ : Addr).add j) = some u := by
  intro j u hj
  rw [add_zero_lit]
  rcases Nat.mod_two_eq_zero_or_one j with h0 | h0
  · obtain ⟨i, rfl⟩ : ∃ i, j = 2 * i := ⟨j / 2, by omega⟩
    rw [(prs_at xs i).1] at hj
    obtain ⟨p, hp, rfl⟩ := Option.map_eq_some_iff.1 hj
    have := (h i p hp).1
    rwa [Nat.zero_add, Nat.mul_comm] at this
  · obtain ⟨i, rfl⟩ : ∃ i, j = 2 * i + 1 := ⟨j / 2, by omega⟩
    rw [(prs_at xs i).2] at hj
    obtain ⟨p, hp, rfl⟩ := Option.map_eq_some_iff.1 hj
    have := (h i p hp).2
    rwa [Nat.zero_add, Nat.mul_comm] at this
theorem pairs_of_row {w : World} {B n g c : Nat} {xs : List Pr} (h : w.ownsRow B 87 2 (.slice (some ⟨g, 0, none⟩) n c) n (prs xs)) : PRow w g xs := by
  refine ⟨fun i p hp => ?_, fun i => ?_⟩
  · have h0 := h.cells (g := g) rfl (2 * i) (.string p.1) (by rw [(prs_at xs i).1, hp]; rfl)
    have h1 := h.cells (g := g) rfl (2 * i + 1) (.string p.2) (by rw [(prs_at xs i).2, hp]; rfl)
    rw [add_zero_lit] at h0 h1
    rw [Nat.zero_add, Nat.mul_comm]
    exact ⟨h0, h1⟩
  · rcases h.2 with ⟨h0, _⟩ | ⟨g', cap, cur, hv, _, hh, _⟩
    · cases h0
    · simp only [Value.slice.injEq, Option.some.injEq, Addr.mk.injEq, and_true, true_and] at hv
      obtain ⟨rfl, _⟩ := hv
      simp [World.frozen?, hh]
theorem prs_one (xs : List Pr) : ∀ u ∈ prs xs, u.oneCell' = true := by
  induction xs with
  | nil => intro u hu; cases hu
  | cons p l ih =>
    intro u hu
    simp only [prs, List.mem_cons] at hu
    rcases hu with rfl | rfl | hu
    · rfl
    · rfl
    · exact ih u hu

theorem row_base {w : World} {B B' n s : Nat} {E : TypeId} {v : Value} {xs : List Value} (h : B ≤ B') (hr : w.ownsRow B' E s v n xs) : w.ownsRow B E s v n xs := by
  refine ⟨hr.1, ?_⟩
  rcases hr.2 with h1 | ⟨g, cap, cur, hv, hb, rest⟩
  · exact .inl h1
  · exact .inr ⟨g, cap, cur, hv, Nat.le_trans h hb, rest⟩

set_option maxRecDepth 100000 in
set_option maxHeartbeats 3200000 in
theorem Clone_some {w : World} {g n c : Nat} {xs : List Pr} (hr : PairsAt w g 0 xs) (hn : xs.length = n) (hn1 : 1 ≤ n) (hcb : n ≤ 1073741824) :
    Calls Try.prog 81 #[.slice (some ⟨g, 0, none⟩) n c] w fun e w' => ∃ v, e = .returned v ∧ w'.ownsRow w.heap.size 87 2 v n (prs xs) ∧ Below w.heap.size w w' := by
  obtain ⟨i0, hi, hz0, hz1, hz2⟩ := info_parts Try.infoPair
  have hnil : (binOp .eql 85 (.slice (some ⟨g, 0, none⟩) n c) (.slice none 0 0)).run Try.prog w = .ok (.bool false) w := by
    simp only [binOp]
    have h : ∀ d : Nat, (Op.equalIn (d + 1) 85 (.slice (some ⟨g, 0, none⟩) n c) (.slice none 0 0)).run Try.prog w = .ok false w := fun d => by simp [Op.equalIn, run_underlying Try.underlying85]
    simp [Op.equal, Op.maxDepth, h 9999]
  have HR := Lib.hid hr
  have HB0 := Lib.hid (below_alloc w (Obj.cells #[] 87))
  clear hr
  go_enter Try.func81, Try.ntmps81
  go_wp2_with (at_builtin; go_loud (refine wpList_append_grows _ rfl _ _ 85 rfl 87 i0 _ 2 32 Try.underlying85 hi hz0 hz1 hz2 rfl (by decide) _ 0 0 [] rfl (fun h => by cases h) rfl (fun _ _ j u hj => by cases hj) ⟨g, 0, none⟩ n c (prs xs) rfl (by rw [prs_length, hn]) (pairs_cells (HR.out.later HB0.out)) (prs_one xs) (by omega) (by unfold maxLen; omega) (by omega) ?_; intro v1 w1 hown1 hg1; have Hown := Lib.hid hown1; have Hg := Lib.hid hg1; clear hown1 hg1))
  go_ret
  have h1 := Hown.out
  rw [Nat.zero_add, List.nil_append] at h1
  have hg := Hg.out
  refine ⟨v1, rfl, row_base (by simp) h1, HB0.out.grown hg HB0.out.size (fun k hk => by simp at hk)⟩

/-- A list of which, of pairs of one key one behind the other, the last one counts. -/
def dd1 (D : List Pr) (p : Pr) : List Pr :=
  match D.getLast? with
  | some q => if q.1 = p.1 then D.dropLast ++ [p] else D ++ [p]
  | none => [p]
def dd (l : List Pr) : List Pr := l.foldl dd1 []

theorem dd_step (ys : List Pr) {i : Nat} {p : Pr} (h : ys[i]? = some p) : dd (ys.take (i + 1)) = dd1 (dd (ys.take i)) p := by
  rw [List.take_add_one, h]
  simp [dd, List.foldl_append]
theorem PRow.at {w : World} {g : Nat} {A B : List Pr} {q : Pr} (h : PRow w g (A ++ q :: B)) : w.cell? ⟨g, A.length * 2, none⟩ = some (.string q.1) ∧ w.cell? ⟨g, A.length * 2 + 1, none⟩ = some (.string q.2) := by
  have := h.pairs A.length q (by simp)
  simpa using this

set_option maxRecDepth 100000 in
set_option maxHeartbeats 6400000 in
theorem Of_some {w : World} {g n c : Nat} {xs : List Pr} (hr : PairsAt w g 0 xs) (hn : xs.length = n) (hn1 : 1 ≤ n) (hn2 : n ≤ 19) :
    Calls Try.prog 55 #[.slice (some ⟨g, 0, none⟩) n c] w (Grows w (Built (dd (isort xs)))) := by
  have HC := Lib.hid (Clone_some (c := c) hr hn hn1 (by omega))
  clear hr
  go_enter Try.func55, Try.ntmps55
  go_wp2_with fail
  go_fit HC.out
  rintro e w1 ⟨v1, rfl, hown, hb1⟩
  obtain ⟨g1, c1, rfl⟩ : ∃ g1 c1, v1 = .slice (some ⟨g1, 0, none⟩) n c1 := by
    rcases hown.2 with ⟨_, h0⟩ | ⟨g1, cap, cur, rfl, _⟩
    · omega
    · exact ⟨g1, cap, rfl⟩
  have hrow := pairs_of_row hown
  obtain ⟨hg1, hg1'⟩ := hown.lt g1 rfl
  have hc1 : n ≤ c1 ∧ c1 ≤ maxLen := by
    obtain ⟨a, c', hv, h1, h2⟩ := row_slice hown
    simp only [Value.slice.injEq] at hv
    rw [hv.2.2]; exact ⟨h1, h2⟩
  have HS := Lib.hid (SortStable_any (c := c1) hrow hg1' hn hn1 hn2 hc1.1 (by omega))
  have HB1 := Lib.hid hb1
  have Hc1 := Lib.hid hc1.1
  have Hg1 := Lib.hid hg1
  have Hg1' := Lib.hid hg1'
  clear HC hown hrow hg1 hg1' hc1 hb1
  go_wp2_with fail
  go_fit HS.out
  rintro e w2 ⟨rfl, hs⟩
  have HS2 := Lib.hid hs.1
  have HG2 := Lib.hid hs.2
  have Hsl : Hid ((isort xs).length = n) := by show _ = _; rw [isort_length, hn]
  clear hs HS
  generalize isort xs = ys at *
  go_wp2_with fail
  have hg0 : g1 < w2.heap.size := Nat.lt_of_lt_of_le Hg1'.out HG2.out.size
  have Hg0 := Lib.hid hg0
  have hnb : n ≤ 1073741824 := by omega
  clear hg0 hn2
  go_loopw [4, 13] (fun u v wr => ∃ (i m : Nat) (D J : List Pr), v = .int .i64 i ∧ u = .int .i64 m ∧ i ≤ n ∧ Hid (D = dd (ys.take i)) ∧ D.length = m ∧ D.length + J.length = i ∧ Hid (PRow wr g1 (D ++ (J ++ ys.drop i))) ∧ Hid (w2.grownBy wr (some g1)))
    (fun _ v _ => n - (intOf v).toNat)
  case atStart => exact ⟨0, 0, [], [], rfl, rfl, Nat.zero_le _, rfl, rfl, rfl, HS2, grown_refl _ _⟩
  case round =>
    obtain ⟨i, m, D, J, rfl, rfl, hin, hD, hDl, hDJ, hrow, hgr⟩ := hrel
    have ei : IntKind.i64.wrap ((i : Int) + 1) = (i : Int) + 1 := IntWalk.i64_in _ (by omega)
    by_cases hlt : i < n
    · obtain ⟨p, hp⟩ : ∃ p, ys[i]? = some p := ⟨ys[i]'(by rw [Hsl.out]; exact hlt), List.getElem?_eq_getElem _⟩
      have hdr : ys.drop i = p :: ys.drop (i + 1) := by have := List.getElem?_eq_some_iff.1 hp; rw [← this.2]; exact List.drop_eq_getElem_cons this.1
      have hstep : Hid (dd (ys.take (i + 1)) = dd1 D p) := by show _ = _; rw [dd_step ys hp, ← hD.out]
      obtain ⟨R, hR⟩ : ∃ R, R = ys.drop (i + 1) := ⟨_, rfl⟩
      have HRR := Lib.hid hR
      rw [hdr, ← hR] at hrow
      have hr1 : PRow wr g1 ((D ++ J) ++ p :: R) := by simpa using hrow.out
      obtain ⟨p0, p1⟩ := hr1.at
      rw [List.length_append, hDJ] at p0 p1
      have hI1 : (i : Int) < (n : Int) := by omega
      have hI2 : (0 : Int) ≤ (i : Int) := by omega
      have Hrow := Lib.hid hrow.out
      have HDJ := Lib.hid hDJ
      have HDl := Lib.hid hDl
      have hg3 : Hid (g1 < wr.heap.size) := Nat.lt_of_lt_of_le Hg0.out hgr.out.size
      have hA := below_alloc wr (Obj.cells #[Value.string p.fst, Value.string p.snd] 87)
      have hx := box_alloc wr p.1 p.2 87
      clear hrow hr1 hdr hD hDl hDJ hR hp
      go_wp2_with fail
      have HX := Lib.hid hx
      have HRow := Lib.hid (Hrow.out.later hg3.out hA)
      have hgW : Hid (w2.grownBy (wr.alloc (Obj.cells #[Value.string p.fst, Value.string p.snd] 87)) (some g1)) := grown_of_below hgr.out hA
      have hbx : wr.heap.size ≠ g1 := by have := hg3.out; omega
      have x0 := hx.c0
      have x1 := hx.c1
      clear hx hA hgr Hrow p0 p1 hg3
      generalize wr.alloc (Obj.cells #[Value.string p.fst, Value.string p.snd] 87) = W at *
      have hend : Hid (∀ (q : Nat) (E Y : List Pr) (y : Pr), PRow W g1 (E ++ y :: (Y ++ R)) → dd1 D p = E ++ [p] → E.length + 1 + Y.length = i + 1 →
          ∃ (i' m' : Nat) (D J : List Pr), Value.int .i64 ((i : Int) + 1) = .int .i64 i' ∧ Value.int .i64 ((E.length : Int) + 1) = .int .i64 m' ∧ i' ≤ n ∧ Hid (D = dd (ys.take i')) ∧ D.length = m' ∧ D.length + J.length = i' ∧ Hid (PRow (putPair (W.drewN q) g1 E.length p) g1 (D ++ (J ++ ys.drop i'))) ∧ Hid (w2.grownBy (putPair (W.drewN q) g1 E.length p) (some g1))) := fun q E Y y h1 h2 h3 => by
        refine ⟨i + 1, E.length + 1, E ++ [p], Y, by simp, by simp, hlt, ?_, by simp, by simp; omega, ?_, grown_seq (grown_of_below hgW.out (below_drewN (Below.refl _ _) q)) (grown_put _ _ _ _) (.inl rfl)⟩
        · show _ = _; rw [hstep.out, h2]
        · show PRow _ g1 _
          have := (h1.drewN q).put p
          rw [← HRR.out]
          simpa using this
      by_cases hm0 : m = 0
      · subst hm0
        obtain rfl : D = [] := List.eq_nil_of_length_eq_zero HDl.out
        obtain ⟨y, Y, hy⟩ : ∃ y Y, J ++ [p] = y :: Y := by cases J with
          | nil => exact ⟨p, [], rfl⟩
          | cons a l => exact ⟨a, l ++ [p], rfl⟩
        have hyl := congrArg List.length hy
        simp at hyl
        have h1 : PRow W g1 ([] ++ y :: (Y ++ R)) := by
          have := HRow.out
          rw [List.nil_append] at this
          rw [List.nil_append, ← List.cons_append, ← hy]
          simpa using this
        have HE := Lib.hid (fun q => hend.out q [] Y y h1 rfl (by have := HDJ.out; simp at this; simp; omega))
        have c0 := h1.at.1
        have c1 := h1.at.2
        simp only [List.length_nil, Nat.zero_mul, Nat.zero_add] at c0 c1
        have z0 := h1.fz 0
        have z1 := h1.fz 1
        have hn0 : (0 : Int) < (n : Int) := by omega
        clear h1 hend HRow
        rw [show ((0 : Nat) : Int) = 0 from rfl]
        go_wp2_with fail
        go_quiet (fail)
        go_wp2_with fail
        exact ⟨HE.out _, by show n - ((i : Int) + 1).toNat < n - ((i : Int)).toNat; omega⟩
      · obtain ⟨k, rfl⟩ : ∃ k, m = k + 1 := ⟨m - 1, by omega⟩
        obtain ⟨D', q, rfl⟩ : ∃ D' q, D = D' ++ [q] := ⟨D.dropLast, D.getLast (fun e => hm0 (by rw [← HDl.out, e]; rfl)), (List.dropLast_concat_getLast _).symm⟩
        have hDl : D'.length = k := by have := HDl.out; simp at this; omega
        have hDJ := HDJ.out
        rw [HDl.out] at hDJ
        have ek : IntKind.i64.wrap (k : Int) = (k : Int) := IntWalk.i64_in _ (by omega)
        have ek1 : IntKind.i64.wrap ((k : Int) + 1) = (k : Int) + 1 := IntWalk.i64_in _ (by omega)
        have ek2 : IntKind.i64.wrap ((k : Int) + 1 + 1) = (k : Int) + 1 + 1 := IntWalk.i64_in _ (by omega)
        have hkn : k < n := by omega
        have hkI : (k : Int) < (n : Int) := by omega
        have hkI1 : (k : Int) + 1 < (n : Int) := by omega
        have hkI0 : (0 : Int) ≤ (k : Int) + 1 := by omega
        have hkT : ((k : Int) + 1).toNat = k + 1 := by omega
        have hrq : PRow W g1 (D' ++ q :: (J ++ p :: R)) := by simpa using HRow.out
        obtain ⟨q0, q1⟩ := hrq.at
        rw [hDl] at q0 q1
        have z0 := hrq.fz (k * 2)
        have z1 := hrq.fz (k * 2 + 1)
        have z2 := hrq.fz ((k + 1) * 2)
        have z3 := hrq.fz ((k + 1) * 2 + 1)
        have hgl : (D' ++ [q]).getLast? = some q := by simp
        by_cases hqp : q.1 = p.1
        · have h1 : PRow W g1 (D' ++ q :: ((J ++ [p]) ++ R)) := by simpa using hrq
          have HE := Lib.hid (fun r => hend.out r D' (J ++ [p]) q h1 (by simp [dd1, hqp]) (by simp; omega))
          rw [hDl] at HE
          have heq : (q.1.toList == p.1.toList) = true := by rw [ba_eq]; simp [hqp]
          clear h1 hend HRow hrq hDl hDJ HDJ HDl hm0 hgl
          go_wp2_with fail
          go_quiet (fail)
          go_wp2_with fail
          exact ⟨HE.out _, by show n - ((i : Int) + 1).toNat < n - ((i : Int)).toNat; omega⟩
        · obtain ⟨y, Y, hy⟩ : ∃ y Y, J ++ [p] = y :: Y := by cases J with
            | nil => exact ⟨p, [], rfl⟩
            | cons a l => exact ⟨a, l ++ [p], rfl⟩
          have hyl := congrArg List.length hy
          simp at hyl
          have h1 : PRow W g1 ((D' ++ [q]) ++ y :: (Y ++ R)) := by
            have := HRow.out
            rw [← List.cons_append, ← hy]
            simpa using this
          have HE := Lib.hid (fun r => hend.out r (D' ++ [q]) Y y h1 (by simp [dd1, hqp]) (by rw [HDl.out]; omega))
          rw [HDl.out] at HE
          obtain ⟨y0, y1⟩ := h1.at
          rw [HDl.out] at y0 y1
          have heq : (q.1.toList == p.1.toList) = false := by rw [ba_eq]; simp [hqp]
          clear h1 hend HRow hrq hDl hDJ HDJ HDl hm0 hgl hy hyl
          go_wp2_with fail
          go_quiet (fail)
          go_wp2_with fail
          exact ⟨HE.out _, by show n - ((i : Int) + 1).toNat < n - ((i : Int)).toNat; omega⟩
    · obtain rfl : i = n := by omega
      have hmc : m ≤ c1 := by have := Hc1.out; omega
      have hmb : m ≤ 1073741824 := by omega
      have HDD : Hid (D = dd ys) := by show _ = _; rw [hD.out, ← Hsl.out, List.take_length]
      subst hDl
      have HT := Lib.hid (build_any D.length (Nat.le_refl _) wr g1 0 c1 hmc hmb hrow.out.pairs.left)
      have hw : w.heap.size ≤ wr.heap.size ∧ Below w.heap.size w wr := by
        have g12 := grown_seq HG2.out hgr.out (.inl rfl)
        have hb := HB1.out.grown g12 HB1.out.size (fun k hk => by simp at hk; have := Hg1.out; omega)
        exact ⟨hb.size, hb⟩
      have HW := Lib.hid hw
      clear hrow hgr hmb hw hD hDJ hin hlt
      go_wp2_with fail
      go_fit HT.out
      rintro e w3 ⟨v3, t3, rfl, hq, hk3, hb3⟩
      have HE : Hid (Grows w (Built (dd ys)) (.returned (.pointer (some ⟨w3.heap.size, 0, none⟩))) (w3.alloc (.cells #[.pointer v3] 104))) := ⟨_, t3, rfl, by rw [← HDD.out]; exact hq, tree_made hk3, HW.out.2.trans ((hb3.trans ((below_alloc w3 _).mono hb3.size)).mono HW.out.1)⟩
      clear hq hk3 hb3
      go_wp2_with fail
      go_ret
      exact HE.out
end Go.Proofs.Ytdfjnpnkfjcpcaa.Ts
