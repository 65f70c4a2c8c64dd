/-
  Whose a part is; up to where it is done.
-/
import Derived.Test.YtdgnjalbpiciiaaG3
namespace Go.Proofs.Ytdgnjalbpiciiaa
set_option linter.unusedVariables false
set_option linter.unusedSimpArgs false
open Go.RowKit Go.Shelf

/-- Whether a part is a member's, in a term. -/
def ownG (g : Gr) (m t p : Int) : Int := if hasI g.members m = false then 221 else if t ≠ g.term then 222 else if p < 0 ∨ (g.owners.length : Int) ≤ p then 1 else if g.owners.getD p.toNat 0 ≠ m then 223 else 0
def ownE (l : List Gr) (k : ByteArray) (m t p : Int) : Int := match gp l k with | none => 220 | some g => ownG g m t p
theorem OwnI.cell {w : World} {s : Sl} {l : List Int} {g i : Nat} {x : Int} (h : Own intL 3 w s l) (ha : s.a = some ⟨g, 0, none⟩) (hx : l[i]? = some x) : w.cell? ⟨g, i, none⟩ = some (.int .i64 x) := by
  have := h.cell ha hx (j := 0) (u := .int .i64 x) rfl
  rw [show intL.sz = 1 from rfl, Nat.mul_one, Nat.add_zero] at this
  exact this
def OwnedP (ys : List Gi) (s : Sl) (k : ByteArray) (m t p : Int) (w : World) (e : Ending) (w' : World) : Prop := Below w.heap.size w w' ∧
  (if ownE (ys.map (·.1)) k m t p = 0 then ∃ i g, plc (ys.map (·.1)) k = some i ∧ s.a = some ⟨g, 0, none⟩ ∧ e = .returned (.tuple #[.pointer (some ⟨g, i * 7, none⟩), .int .i64 0])
   else e = .returned (.tuple #[.pointer none, .int .i64 (ownE (ys.map (·.1)) k m t p)]))
theorem OwnedP.no {ys : List Gi} {s : Sl} {k : ByteArray} {m t p n : Int} {w w' : World} {e : Ending} (h : ownE (ys.map (·.1)) k m t p = n) (hn : ¬ n = 0) (hb : Below w.heap.size w w') (he : e = .returned (.tuple #[.pointer none, .int .i64 n])) : OwnedP ys s k m t p w e w' := by
  refine ⟨hb, ?_⟩
  rw [h, if_neg hn]; exact he
set_option maxRecDepth 100000 in
set_option maxHeartbeats 3200000 in
theorem owned_any {w : World} {B b : Nat} {L : List Nat} {ys : List Gi} {s : Sl} (hg : Gs w B b L ys s) (ok : GOk (ys.map (·.1))) (k : ByteArray) (m t p : Int) : Calls Try.prog 54 #[.pointer (some ⟨b, 0, none⟩), .string k, .int .i64 m, .int .i64 t, .int .i64 p] w (OwnedP ys s k m t p w) := by
  have hlen : ys.length ≤ 3 := by have := ok.len; rwa [List.length_map] at this
  have HF := Lib.hid (find_any hg (by omega) k)
  have HG := Lib.hid hg
  have OK := Lib.hid ok
  clear hg ok
  go_enter Try.func54, Try.ntmps54
  go_wp2_with fail
  go_fit HF.out
  rintro e w1 ⟨hb, hm⟩
  have HB := Lib.hid hb
  cases hp : plc (ys.map (·.1)) k with
  | none =>
    rw [hp] at hm
    obtain rfl := hm
    have HE : Hid (ownE (ys.map (·.1)) k m t p = 220) := by show _ = _; unfold ownE; rw [gp_none hp]
    clear hb hp HF
    go_wp2_with fail
    go_ret2
    exact OwnedP.no HE.out (by decide) HB.out rfl
  | some i =>
    rw [hp] at hm
    obtain ⟨g, hga, rfl⟩ := hm
    obtain ⟨x, hx, hxn, hgp⟩ := plc_item hp
    have HE : Hid (ownE (ys.map (·.1)) k m t p = ownG x.1 m t p) := by show _ = _; unfold ownE; rw [hgp]
    have HY : Hid (plc (ys.map (·.1)) k = some i ∧ s.a = some ⟨g, 0, none⟩) := ⟨hp, hga⟩
    have hG := HG.out.below hb
    have hok : x.1.Ok := OK.out.all x.1 (List.mem_map.2 ⟨x, List.mem_of_getElem? hx, rfl⟩)
    have hr := hG.rows x (List.mem_of_getElem? hx)
    have k2 := hG.list.cell hga hx (j := 2) rfl
    have k4 := hG.list.cell hga hx (j := 4) rfl
    have k5 := hG.list.cell hga hx (j := 5) rfl
    obtain ⟨⟨nm, sb, tm, nx, mm, oo, dd⟩, ⟨sm, so, sa⟩⟩ := x
    change w1.cell? ⟨g, i * 7 + 2, none⟩ = some (.int .i64 tm) at k2
    change w1.cell? ⟨g, i * 7 + 4, none⟩ = some (.slice sm.a sm.n sm.c) at k4
    change w1.cell? ⟨g, i * 7 + 5, none⟩ = some (.slice so.a so.n so.c) at k5
    have HC := Lib.hid (Contains_any hr.1.told m)
    have HR := Lib.hid hr.2.1
    have hso := hr.2.1.1
    unfold Sl.v at HC
    simp only at hso
    have hpl : oo ≠ [] := fun e => by have := hok.parts; simp only [e, List.length_nil] at this; omega
    clear hb hp hgp hok hG hx hxn hga HF hr
    go_wp2_with fail
    go_fit HC.out
    rintro e w2 ⟨rfl, rfl⟩
    cases hh : hasI mm m with
    | false =>
      have HE2 : Hid (ownE (ys.map (·.1)) k m t p = 221) := by show _ = _; rw [HE.out]; unfold ownG; rw [if_pos hh]
      clear hh HE
      go_wp2_with fail
      go_ret2
      exact OwnedP.no HE2.out (by decide) HB.out rfl
    | true =>
      have hh2 : ¬ hasI mm m = false := by rw [hh]; decide
      by_cases ht : t = tm
      · subst ht
        by_cases hp0 : p < 0
        · have HE2 : Hid (ownE (ys.map (·.1)) k m t p = 1) := by show _ = _; rw [HE.out]; unfold ownG; rw [if_neg hh2, if_neg (by simp), if_pos (.inl hp0)]
          clear hh hh2 HE
          go_wp2_with fail
          go_ret2
          exact OwnedP.no HE2.out (by decide) HB.out rfl
        · obtain ⟨q, rfl⟩ : ∃ q : Nat, p = q := ⟨p.toNat, by omega⟩
          by_cases hpl2 : q < oo.length
          · have hI1 : (q : Int) < (so.n : Int) := by omega
            have hI2 : ¬ (so.n : Int) ≤ (q : Int) := by omega
            have hI3 : (0 : Int) ≤ (q : Int) := by omega
            obtain ⟨go, hgo⟩ := HR.out.some hpl
            obtain ⟨oa, on, oc⟩ := so
            simp only at hgo hso hI1 hI2 k5
            subst hgo
            have hq : oo[q]? = some (oo.getD q 0) := by rw [List.getElem?_eq_getElem hpl2]; simp [List.getD, hpl2]
            have hc := OwnI.cell HR.out rfl hq
            have HO : Hid (ownE (ys.map (·.1)) k m t q = if oo.getD q 0 ≠ m then 223 else 0) := by
              show _ = _; rw [HE.out]; unfold ownG; rw [if_neg hh2, if_neg (by simp), if_neg (by simp only [not_or]; omega)]; rfl
            generalize oo.getD q 0 = y at *
            clear hh hh2 HE hq HR
            by_cases hy : y = m
            · have HE2 : Hid (ownE (ys.map (·.1)) k m t q = 0) := by show _ = _; rw [HO.out, if_neg (by simpa using hy)]
              clear HO
              subst hy
              go_wp2_with fail
              go_ret2
              exact ⟨HB.out, by rw [HE2.out, if_pos rfl]; exact ⟨i, g, HY.out.1, HY.out.2, rfl⟩⟩
            · have HE2 : Hid (ownE (ys.map (·.1)) k m t q = 223) := by show _ = _; rw [HO.out, if_pos hy]
              have hyb : (y == m) = false := by rw [beq_eq_false_iff_ne]; exact hy
              clear HO
              go_wp2_with fail
              go_ret2
              exact OwnedP.no HE2.out (by decide) HB.out rfl
          · have HE2 : Hid (ownE (ys.map (·.1)) k m t q = 1) := by show _ = _; rw [HE.out]; unfold ownG; rw [if_neg hh2, if_neg (by simp), if_pos (.inr (by show (oo.length : Int) ≤ _; omega))]
            have hI1 : ¬ (q : Int) < (so.n : Int) := by omega
            have hI2 : (so.n : Int) ≤ (q : Int) := by omega
            clear hh hh2 HE
            go_wp2_with fail
            go_ret2
            exact OwnedP.no HE2.out (by decide) HB.out rfl
      · have HE2 : Hid (ownE (ys.map (·.1)) k m t p = 222) := by show _ = _; rw [HE.out]; unfold ownG; rw [if_neg hh2, if_pos ht]
        have htb : (t == tm) = false := by rw [beq_eq_false_iff_ne]; exact ht
        clear hh hh2 HE
        go_wp2_with fail
        go_ret2
        exact OwnedP.no HE2.out (by decide) HB.out rfl
set_option maxRecDepth 100000 in
set_option maxHeartbeats 1600000 in
theorem Owns_any {w : World} {B b : Nat} {L : List Nat} {l : List Gr} (h : Gk w B b L l) (ok : GOk l) (k : ByteArray) (m t p : Int) : Calls Try.prog 23 #[.pointer (some ⟨b, 0, none⟩), .string k, .int .i64 m, .int .i64 t, .int .i64 p] w fun e w' => e = .returned (.int .i64 (ownE l k m t p)) ∧ Below w.heap.size w w' := by
  obtain ⟨ys, s, hg, rfl⟩ := h
  have HO := Lib.hid (owned_any hg ok k m t p)
  clear hg ok
  go_enter Try.func23, Try.ntmps23
  go_wp2_with fail
  go_fit HO.out
  rintro e w1 ⟨hb, hm⟩
  have HB := Lib.hid hb
  clear hb
  by_cases h0 : ownE (ys.map (·.1)) k m t p = 0
  · rw [if_pos h0] at hm
    obtain ⟨i, g, _, _, rfl⟩ := hm
    have HZ := Lib.hid h0
    clear h0
    go_wp2_with fail
    go_ret
    exact ⟨by rw [HZ.out]; rfl, HB.out⟩
  · rw [if_neg h0] at hm
    obtain rfl := hm
    clear h0
    go_wp2_with fail
    go_ret
    exact ⟨rfl, HB.out⟩
end Go.Proofs.Ytdgnjalbpiciiaa
