/-
  Walks: the knots of pairs that stand by rising keys.
-/
import Derived.Test.YtcncggndpnooeaaB18
namespace Go.Proofs.Ytcncggndpnooeaa
set_option linter.unusedVariables false
set_option linter.unusedSimpArgs false
open Go.RowKit

/-- Pairs lie in a block from a cell on. -/
def PairsAt (w : World) (g off : Nat) (xs : List Pr) : Prop := ∀ i p, xs[i]? = some p → w.cell? ⟨g, off + i * 2, none⟩ = some (.string p.1) ∧ w.cell? ⟨g, off + i * 2 + 1, none⟩ = some (.string p.2)
theorem PairsAt.later {w w' : World} {g off : Nat} {xs : List Pr} (h : PairsAt w g off xs) (hb : Below w.heap.size w w') : PairsAt w' g off xs := fun i p hp => ⟨cell_later hb (h i p hp).1, cell_later hb (h i p hp).2⟩
theorem PairsAt.left {w : World} {g off : Nat} {xs ys : List Pr} (h : PairsAt w g off (xs ++ ys)) : PairsAt w g off xs := fun i p hp => h i p (by
  rw [List.getElem?_append_left (by have := (List.getElem?_eq_some_iff.1 hp).1; exact this)]; exact hp)
theorem PairsAt.right {w : World} {g off : Nat} {xs ys : List Pr} (h : PairsAt w g off (xs ++ ys)) : PairsAt w g (off + xs.length * 2) ys := fun i p hp => by
  have := h (xs.length + i) p (by rw [List.getElem?_append_right (by omega)]; simpa using hp)
  rw [show off + xs.length * 2 + i * 2 = off + (xs.length + i) * 2 from by omega]
  exact this

/-- How deep so many pairs stand. -/
def bd (n : Nat) : Nat := if h : n = 0 then 0 else max (bd (n / 2)) (bd (n - 1 - n / 2)) + 1
termination_by n
decreasing_by all_goals omega
theorem bd_zero : bd 0 = 0 := by rw [bd]; rfl
theorem bd_pos {n : Nat} (h : n ≠ 0) : bd n = max (bd (n / 2)) (bd (n - 1 - n / 2)) + 1 := by rw [bd, dif_neg h]
theorem bd_step : ∀ n, bd n ≤ bd (n + 1) ∧ bd (n + 1) ≤ bd n + 1 := by
  intro n
  induction n using Nat.strongRecOn with
  | ind n ih =>
    by_cases h0 : n = 0
    · subst h0
      rw [bd_pos (n := 0 + 1) (by omega)]
      simp [bd_zero]
    · rw [bd_pos h0, bd_pos (n := n + 1) (by omega)]
      rcases Nat.mod_two_eq_zero_or_one n with h | h
      · obtain ⟨m, rfl⟩ : ∃ m, n = 2 * m := ⟨n / 2, by omega⟩
        rw [show (2 * m) / 2 = m from by omega, show 2 * m - 1 - m = m - 1 from by omega, show (2 * m + 1) / 2 = m from by omega, show 2 * m + 1 - 1 - m = m from by omega]
        have := ih (m - 1) (by omega)
        rw [show m - 1 + 1 = m from by omega] at this
        omega
      · obtain ⟨m, rfl⟩ : ∃ m, n = 2 * m + 1 := ⟨n / 2, by omega⟩
        rw [show (2 * m + 1) / 2 = m from by omega, show 2 * m + 1 - 1 - m = m from by omega, show (2 * m + 1 + 1) / 2 = m + 1 from by omega, show 2 * m + 1 + 1 - 1 - (m + 1) = m from by omega]
        have := ih m (by omega)
        omega

/-- What is built of pairs. -/
def Built (xs : List Pr) (t : T) : Prop := t.list = xs ∧ t.Bal ∧ t.deep = bd xs.length

set_option maxRecDepth 100000 in
set_option maxHeartbeats 3200000 in
theorem build_none (a : Option Addr) (c : Nat) (w : World) : Calls Try.prog 65 #[.slice a 0 c] w (Makes w (Built [])) := by
  go_enter Try.func65, Try.ntmps65
  go_wp2_with fail
  go_ret
  exact ⟨none, .nil, rfl, ⟨rfl, trivial, bd_zero.symm⟩, rfl, Below.refl _ _⟩

set_option maxRecDepth 100000 in
set_option maxHeartbeats 3200000 in
theorem build_some {w : World} {g off c n m : Nat} {xs ys : List Pr} {p : Pr} (hn : n = m + 1 + ys.length) (hm : xs.length = m) (hmid : m = n / 2) (hc : n ≤ c) (hcb : n ≤ 1073741824) (hp : PairsAt w g off (xs ++ p :: ys))
    (IHl : ∀ (w : World), PairsAt w g off xs → Calls Try.prog 65 #[.slice (some ⟨g, off, none⟩) m c] w (Makes w (Built xs)))
    (IHr : ∀ (w : World) (a : Option Addr), (ys = [] ∨ a = some ⟨g, off + (m + 1) * 2, none⟩) → PairsAt w g (off + (m + 1) * 2) ys → Calls Try.prog 65 #[.slice a ys.length (c - (m + 1))] w (Makes w (Built ys))) :
    Calls Try.prog 65 #[.slice (some ⟨g, off, none⟩) n c] w (Makes w (Built (xs ++ p :: ys))) := by
  have c0 := (hp m p (by rw [← hm]; simp)).1
  have c1 := (hp m p (by rw [← hm]; simp)).2
  have HP := Lib.hid hp
  have IL := Lib.hid IHl
  have IR := Lib.hid IHr
  have hq : (n : Int).tdiv 2 = (m : Int) := by rw [hmid, Int.ofNat_tdiv]; rfl
  have hq2 : (n : Int) / 2 = (m : Int) := by omega
  have e1 : IntKind.i64.wrap ((m : Int) + 1) = (m : Int) + 1 := IntWalk.i64_in _ (by omega)
  have e2 : IntKind.i64.wrap (m : Int) = (m : Int) := IntWalk.i64_in _ (by omega)
  have Hn := Lib.hid hn
  have Hm := Lib.hid hm
  have Hmid := Lib.hid hmid
  have Hcb : Hid (n ≤ 1073741824) := hcb
  have hmn : m + 1 ≤ n := by omega
  have hmc : m + 1 ≤ c := by omega
  have hmn2 : m < n := by omega
  have hmc2 : m ≤ c := by omega
  have hn0 : n ≠ 0 := by omega
  have hn1 : (n : Int) ≠ 0 := by omega
  clear hp IHl IHr hn hm hmid hcb
  go_enter Try.func65, Try.ntmps65
  go_wp2_with fail
  have hyl : Hid (ys.length = n - (m + 1)) := by have := Hn.out; show _ = _; omega
  have HPd := HP.out.later (below_drew1 w)
  have HTl := Lib.hid (IL.out w.drew HPd.left)
  have hres : ∀ (w1 w2 w3 : World) (v1 v2 v3 : Option Addr) (t1 t2 : T), Below w.heap.size w w1 → Below w1.heap.size w1 w2 → Below w2.heap.size w2 w3 → Built xs t1 → Built ys t2 → Knot w3 w3.heap.size (.node t1 p t2) v3 → Makes w (Built (xs ++ p :: ys)) (.returned (.pointer v3)) w3 := by
    intro w1 w2 w3 v1 v2 v3 t1 t2 h1 h2 h3 b1 b2 hk
    have hd1 : t1.deep = bd m := by rw [b1.2.2, Hm.out]
    have hd2 : t2.deep = bd (n - 1 - n / 2) := by rw [b2.2.2, hyl.out, Hmid.out]; congr 1; omega
    have hb := bd_step (n - 1 - n / 2)
    have hnn := Hn.out
    have hmm := Hmid.out
    have hle : bd m ≤ bd (n - 1 - n / 2) + 1 ∧ bd (n - 1 - n / 2) ≤ bd m := by
      rcases Nat.mod_two_eq_zero_or_one n with h | h
      · rw [show m = n - 1 - n / 2 + 1 from by omega]; omega
      · rw [show m = n - 1 - n / 2 from by omega]; omega
    refine ⟨v3, .node t1 p t2, rfl, ⟨by simp only [T.list]; rw [b1.1, b2.1], (show t1.Bal ∧ t2.Bal ∧ t1.deep ≤ t2.deep + 1 ∧ t2.deep ≤ t1.deep + 1 from ⟨b1.2.1, b2.2.1, by omega, by omega⟩), ?_⟩, hk, (h1.trans (h2.mono h1.size)).trans (h3.mono (Nat.le_trans h1.size h2.size))⟩
    simp only [T.deep]
    rw [hd1, hd2, List.length_append, List.length_cons, Hm.out, show m + (ys.length + 1) = n from by omega, bd_pos (n := n) hn0, ← Hmid.out]
  have HRes := Lib.hid hres
  have HSz : Hid (xs.length + ys.length ≤ 1073741824) := by have := Hn.out; have := Hm.out; have := Hcb.out; show _ ≤ _; omega
  clear hres HPd hq hq2 hn0 hn1 IL
  have hI0 : (0 : Int) ≤ (m : Int) + 1 := by omega
  have hI1 : (m : Int) + 1 ≤ (n : Int) := by omega
  have hI2 : (n : Int) ≤ (c : Int) := by omega
  have hI3 : (m : Int) + 1 ≤ (c : Int) := by omega
  have hI4 : ((m : Int) + 1).toNat = m + 1 := by omega
  by_cases hcap : m + 1 = c
  · have hys : ys = [] := List.eq_nil_of_length_eq_zero (by have := Hn.out; omega)
    have HIR : Hid (∀ W, Below w.heap.size w W → Calls Try.prog 65 #[.slice (some ⟨g, off, none⟩) 0 0] W (Makes W (Built ys))) := fun W hW => by
      rw [hys]; exact build_none _ _ W
    clear IR hys
    go_region_held3 (fun V => V.cell? ⟨g, off + m * 2, none⟩ = some (.string p.1) ∧ V.cell? ⟨g, off + m * 2 + 1, none⟩ = some (.string p.2)) (go_keep)
      (first
        | (go_at_call 65; (with_reducible refine HTl.out.mono ?_); rintro e w1 ⟨v1, t1, rfl, hQ1, hk1, hb1⟩; have HB1 : Hid (Below w.heap.size w w1) := (below_drew1 w).trans hb1; have d0 := cell_later HB1.out c0; have d1 := cell_later HB1.out c1; have HQ1 := Lib.hid hQ1; have HK1 := Lib.hid hk1; have HT2 := Lib.hid (HIR.out w1 HB1.out); clear hb1 hQ1 hk1 HTl HIR)
        | (go_at_call 65; (with_reducible refine HT2.out.mono ?_); rintro e w2 ⟨v2, t2, rfl, hQ2, hk2, hb2⟩; have j0 := cell_later hb2 d0; have j1 := cell_later hb2 d1; have HB2 := Lib.hid hb2; have HQ2 := Lib.hid hQ2; have HT3 := Lib.hid (tie_any p (HK1.out.all hb2) hk2 (by rw [← T.size_list, ← T.size_list, HQ1.out.1, hQ2.1]; exact HSz.out)); clear hb2 hQ2 hk2 HT2)
        | (go_at_call 81; (with_reducible refine HT3.out.mono ?_); rintro e w3 ⟨v3, t3, rfl, rfl, hk3, hb3⟩; have i0 := cell_later hb3 j0; have i1 := cell_later hb3 j1; have HB3 := Lib.hid hb3; have HK3 := Lib.hid hk3; clear hb3 hk3 HT3))
    go_wp2_with fail
    go_ret
    exact HRes.out w1 w2 w3 none none _ _ _ HB1.out HB2.out HB3.out HQ1.out HQ2.out HK3.out
  · have HIR : Hid (∀ W, Below w.heap.size w W → Calls Try.prog 65 #[.slice (some ⟨g, off + (m + 1) * 2, none⟩) (n - (m + 1)) (c - (m + 1))] W (Makes W (Built ys))) := fun W hW => by
      rw [← hyl.out]
      refine IR.out W _ (.inr rfl) ?_
      have h1 : PairsAt w g off ((xs ++ [p]) ++ ys) := by simpa using HP.out
      have h2 := h1.right
      rw [List.length_append, Hm.out] at h2
      exact h2.later hW
    clear IR
    go_region_held3 (fun V => V.cell? ⟨g, off + m * 2, none⟩ = some (.string p.1) ∧ V.cell? ⟨g, off + m * 2 + 1, none⟩ = some (.string p.2)) (go_keep)
      (first
        | (go_at_call 65; (with_reducible refine HTl.out.mono ?_); rintro e w1 ⟨v1, t1, rfl, hQ1, hk1, hb1⟩; have HB1 : Hid (Below w.heap.size w w1) := (below_drew1 w).trans hb1; have d0 := cell_later HB1.out c0; have d1 := cell_later HB1.out c1; have HQ1 := Lib.hid hQ1; have HK1 := Lib.hid hk1; have HT2 := Lib.hid (HIR.out w1 HB1.out); clear hb1 hQ1 hk1 HTl HIR)
        | (go_at_call 65; (with_reducible refine HT2.out.mono ?_); rintro e w2 ⟨v2, t2, rfl, hQ2, hk2, hb2⟩; have j0 := cell_later hb2 d0; have j1 := cell_later hb2 d1; have HB2 := Lib.hid hb2; have HQ2 := Lib.hid hQ2; have HT3 := Lib.hid (tie_any p (HK1.out.all hb2) hk2 (by rw [← T.size_list, ← T.size_list, HQ1.out.1, hQ2.1]; exact HSz.out)); clear hb2 hQ2 hk2 HT2)
        | (go_at_call 81; (with_reducible refine HT3.out.mono ?_); rintro e w3 ⟨v3, t3, rfl, rfl, hk3, hb3⟩; have i0 := cell_later hb3 j0; have i1 := cell_later hb3 j1; have HB3 := Lib.hid hb3; have HK3 := Lib.hid hk3; clear hb3 hk3 HT3))
    go_wp2_with fail
    go_ret
    exact HRes.out w1 w2 w3 none none _ _ _ HB1.out HB2.out HB3.out HQ1.out HQ2.out HK3.out

theorem build_any : ∀ (k : Nat) {xs : List Pr}, xs.length ≤ k → ∀ (w : World) (g off c : Nat), xs.length ≤ c → xs.length ≤ 1073741824 → PairsAt w g off xs → Calls Try.prog 65 #[.slice (some ⟨g, off, none⟩) xs.length c] w (Makes w (Built xs))
  | 0, xs, hk, w, g, off, c, hc, hcb, hp => by
    obtain rfl : xs = [] := List.eq_nil_of_length_eq_zero (by omega)
    exact build_none _ _ _
  | k + 1, xs, hk, w, g, off, c, hc, hcb, hp => by
    by_cases h0 : xs.length = 0
    · obtain rfl : xs = [] := List.eq_nil_of_length_eq_zero h0
      exact build_none _ _ _
    · obtain ⟨us, p, bs, rfl, hl⟩ : ∃ us p bs, xs = us ++ p :: bs ∧ us.length = xs.length / 2 := by
        have hlt : xs.length / 2 < xs.length := by omega
        refine ⟨xs.take (xs.length / 2), xs[xs.length / 2], xs.drop (xs.length / 2 + 1), ?_, by simp; omega⟩
        rw [← List.drop_eq_getElem_cons hlt, List.take_append_drop]
      have hL : (us ++ p :: bs).length = us.length + 1 + bs.length := by simp; omega
      rw [hL] at hl hc hcb ⊢
      refine build_some (m := us.length) rfl rfl hl hc hcb hp (fun W hW => build_any k (by omega) W g off c (by omega) (by omega) hW) (fun W a ha hW => ?_)
      rcases ha with rfl | rfl
      · exact build_none _ _ _
      · exact build_any k (by omega) W g _ _ (by omega) (by omega) hW
end Go.Proofs.Ytcncggndpnooeaa
