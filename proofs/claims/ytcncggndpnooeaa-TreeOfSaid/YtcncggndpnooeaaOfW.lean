/-
  The walk of TreeOf. (Written by genof.py.)
-/
import Derived.Test.YtcncggndpnooeaaS10
namespace Go.Proofs.Ytcncggndpnooeaa
set_option linter.unusedVariables false
set_option linter.unusedSimpArgs false
open Go.RowKit

/-! no pairs at all -/
set_option maxHeartbeats 1600000 in
theorem insertion_none (w : World) : Calls Try.prog 85 #[.slice none 0 0, .int .i64 0, .int .i64 0, .func (.func 63) #[] #[]] w fun e w' => e = .returned (.tuple #[]) ∧ w = w' := by
  go_enter Try.func85, Try.ntmps85
  go_wp2_with fail
  refine wp_loop_rounds 1 ?_
  rw [rounds_succ]
  go_wp2_with fail
  go_end0
  exact ⟨rfl, rfl⟩
set_option maxHeartbeats 1600000 in
theorem stable_none (w : World) : Calls Try.prog 79 #[.slice none 0 0, .int .i64 0, .func (.func 63) #[] #[]] w fun e w' => e = .returned (.tuple #[]) ∧ w = w' := by
  go_enter Try.func79, Try.ntmps79
  go_wp2_with fail
  refine wp_loop_rounds 1 ?_
  rw [rounds_succ]
  go_wp2_with fail
  go_fit (insertion_none w)
  rintro e w1 ⟨rfl, rfl⟩
  go_wp2_with fail
  refine wp_loop_rounds 1 ?_
  rw [rounds_succ]
  go_wp2_with fail
  go_end0
  exact ⟨rfl, rfl⟩
set_option maxHeartbeats 1600000 in
theorem SortStable_none (w : World) : Calls Try.prog 62 #[.slice none 0 0, .func (.func 63) #[] #[]] w fun e w' => e = .returned (.tuple #[]) ∧ w = w' := by
  go_enter Try.func62, Try.ntmps62
  go_wp2_with fail
  go_fit (stable_none w)
  rintro e w1 ⟨rfl, rfl⟩
  go_wp2_with fail
  go_end0
  exact ⟨rfl, rfl⟩
set_option maxHeartbeats 1600000 in
theorem Clone_none (w : World) : Calls Try.prog 61 #[.slice none 0 0] w fun e w' => e = .returned (.slice none 0 0) ∧ w = w' := by
  have hnil : (binOp .eql 27 (.slice none 0 0) (.slice none 0 0)).run Try.prog w = .ok (.bool true) w := by
    simp only [binOp]
    have h : ∀ d : Nat, (Op.equalIn (d + 1) 27 (.slice none 0 0) (.slice none 0 0)).run Try.prog w = .ok true w := fun d => by simp [Op.equalIn, run_underlying Try.underlying27]
    simp [Op.equal, Op.maxDepth, h 9999]
  go_enter Try.func61, Try.ntmps61
  go_wp2_with fail
  go_ret
  exact ⟨rfl, rfl⟩
set_option maxRecDepth 100000 in
set_option maxHeartbeats 3200000 in
theorem Of_none (w : World) : Calls Try.prog 27 #[.slice none 0 0] w (Grows w (Built [])) := by
  go_enter Try.func27, Try.ntmps27
  go_wp2_with fail
  go_fit (Clone_none w)
  rintro e w1 ⟨rfl, rfl⟩
  go_wp2_with fail
  go_fit (SortStable_none w)
  rintro e w1 ⟨rfl, rfl⟩
  go_wp2_with fail
  refine wp_loop_rounds 1 ?_
  rw [rounds_succ]
  go_wp2_with fail
  go_fit (build_none none 0 w)
  rintro e w3 ⟨v3, t3, rfl, hq, hk3, hb3⟩
  have HE : Hid (Grows w (Built []) (.returned (.pointer (some ⟨w3.heap.size, 0, none⟩))) (w3.alloc (.cells #[.pointer v3] 79))) := ⟨_, t3, rfl, hq, tree_made hk3, hb3.trans ((below_alloc w3 _).mono hb3.size)⟩
  clear hq hk3 hb3
  go_wp2_with fail
  go_ret
  exact HE.out

def prL (ks : List Dk) : List Pr := ks.map fun k => (k.key, k.val)
theorem prL_step {ks : List Dk} {i : Nat} {k : Dk} (h : ks[i]? = some k) : prL (ks.take (i + 1)) = prL (ks.take i) ++ [(k.key, k.val)] := by
  unfold prL
  rw [List.take_add_one, h]; simp
theorem Of_row {w w0 : World} {v : Value} {xs : List Pr} (h : Row w0 w v xs) (hn : xs.length = 0 → v = .slice none 0 0) (hl : xs.length ≤ 1000000) : Calls Try.prog 27 #[v] w (Grows w (Built (un [] xs))) := by
  by_cases hx : xs.length = 0
  · rw [hn hx]
    obtain rfl := List.eq_nil_of_length_eq_zero hx
    exact Of_none w
  · rcases h.own.2 with ⟨_, h0⟩ | ⟨g, cap, cur, rfl, _⟩
    · omega
    · have := Of_big (c := cap) (pairs_of_row h.own).pairs rfl (by omega) hl
      rw [dd_un] at this
      exact this
/-- A tree stays where a row of pairs is written. -/
theorem Tr.written {w w' : World} {t : T} {v : Option Addr} {g n c : Nat} {B : Nat} {xs : List Value} {s : ByteArray} (h : Tr w w.heap.size t v) (hg : w.grownBy w' (some g)) (hr : w.ownsRow B 34 2 (.slice (some ⟨g, 0, none⟩) n c) n xs) (h0 : w.cell? ⟨g, 0, none⟩ = some (.string s)) : Tr w' w'.heap.size t v := by
  rcases h with h | ⟨b, x, hv, hB, hc, hk⟩
  · exact .inl h
  · have hn := row_noknot hr (by decide)
    refine .inr ⟨b, x, hv, Nat.lt_of_lt_of_le hB hg.size, ?_, ?_⟩
    · refine hg.cell hc (fun e => ?_)
      have e2 : b = g := by simpa using e
      subst e2
      rw [hc] at h0; simp at h0
    · exact (hk.drop hg hn).mono hg.size

/-- A row of pairs whose keys may be written over. -/
structure Kys (w1 w : World) (g n c : Nat) (vs : List Value) : Prop where
  own : w.ownsRow w1.heap.size 34 2 (.slice (some ⟨g, 0, none⟩) n c) n vs
  keys : ∀ i, i < n → ∃ s, vs[i * 2]? = some (.string s)
theorem Kys.later {w1 w w' : World} {g n c : Nat} {vs : List Value} (h : Kys w1 w g n c vs) (hb : Below w.heap.size w w') : Kys w1 w' g n c vs :=
  ⟨h.own.kept (row := none) (grown_none hb) (by simp [Value.ownBlock]), h.keys⟩
theorem Kys.set {w1 w : World} {g n c : Nat} {vs : List Value} (h : Kys w1 w g n c vs) (i : Nat) (s : ByteArray) : Kys w1 (w.setCell ⟨g, i * 2, none⟩ (.string s)) g n c (vs.set (i * 2) (.string s)) := by
  refine ⟨(h.own.stored (i * 2) (.string s)).1, fun j hj => ?_⟩
  obtain ⟨s', hs'⟩ := h.keys j hj
  by_cases e : i = j
  · subst e
    exact ⟨s, by rw [List.getElem?_set_self (List.getElem?_eq_some_iff.1 hs').1]⟩
  · exact ⟨s', by rw [List.getElem?_set_ne (by omega)]; exact hs'⟩
theorem Row.kys {w1 w : World} {g n c : Nat} {ys : List Pr} (h : Row w1 w (.slice (some ⟨g, 0, none⟩) n c) ys) (hn : ys.length = n) : Kys w1 w g n c (prs ys) := by
  refine ⟨by have := h.own; rw [hn] at this; exact this, fun i hi => ?_⟩
  have := (prs_at ys i).1
  rw [Nat.mul_comm, List.getElem?_eq_getElem (l := ys) (by omega)] at this
  exact ⟨_, this⟩
theorem below_at {w wr : World} {g o : Nat} {x : Value} (h : Below w.heap.size w wr) (hg : w.heap.size ≤ g) : Below w.heap.size w (wr.setCell ⟨g, o, none⟩ x) :=
  h.trans ⟨rfl, rfl, rfl, by simp [World.setCell], fun k hk => Below.heap_setCell _ _ _ _ (by simp only; omega)⟩
theorem Row.ne {w0 w1 w : World} {v : Value} {xs : List Pr} {g : Nat} (h : Row w0 w v xs) (hg : g < w0.heap.size) : some g ≠ v.ownBlock := h.ne_old hg
theorem Row.written {w0 w : World} {v : Value} {xs : List Pr} {g o : Nat} {s : Value} (h : Row w0 w v xs) (hg : g < w0.heap.size) : w.grownBy (w.setCell ⟨g, o, none⟩ s) (some g) → (w.setCell ⟨g, o, none⟩ s).ownsRow w0.heap.size 34 2 v xs.length (prs xs) := fun hgr =>
  h.own.kept hgr (by
    rcases hv : v.ownBlock with _ | k
    · exact .inl rfl
    · refine .inr (fun e => ?_)
      have := h.ne_old hg
      rw [hv] at this
      exact this e.symm)

set_option maxRecDepth 100000 in
set_option maxHeartbeats 3200000 in
theorem Of_law (vks : Value) (ks : List Dk) (w : World) (hks : DosIn w vks ks) : Calls Try.prog 4 #[vks] w (Yes w) := by
  obtain ⟨aks, cks, rfl, haks⟩ := hks
  have hDks : DosIn w (.slice aks ks.length cks) ks := ⟨aks, cks, rfl, haks⟩
  have hA := below_alloc w (Obj.cells #[.slice aks ks.length cks] 22)
  have hL : ListsIn (w.alloc (Obj.cells #[.slice aks ks.length cks] 22)) (.slice (some ⟨w.heap.size, 0, none⟩) 1 1) [ks] := by
    refine ⟨_, 0, 1, rfl, fun i l hl => ?_⟩
    match i, hl with
    | 0, hl =>
      obtain rfl : ks = l := by simpa using hl
      exact ⟨_, by rw [World.cell?_alloc_at _ _ _ _ rfl]; rfl, hDks.later hA⟩
  have HDks := Lib.hid hDks
  clear haks hDks
  go_enter Try.func4, Try.ntmps4
  go_wp2_with fail
  go_fit (short_any hL (by simp))
  rintro e w1 ⟨sb, rfl, hs, hb1⟩
  have HB1 := Lib.hid (hA.trans (hb1.mono hA.size))
  have Hs := Lib.hid hs
  clear hA hL hb1 hs
  cases sb with
  | false =>
    go_wp2_with fail
    go_fit (awake_any w1)
    rintro e w2 ⟨rfl, hb2⟩
    have HB2 := Lib.hid (HB1.out.trans (hb2.mono HB1.out.size))
    clear hb2
    go_wp2_with fail
    go_ret
    exact ⟨rfl, HB2.out⟩
  | true =>
    have hlenks : ks.length ≤ 300 := (Hs.out rfl).1 ks (by simp)
    have HEks := Lib.hid (HDks.out.later HB1.out)
    have HBB := HB1
    clear Hs HDks
    obtain ⟨aq, cq, hq, ha⟩ := HEks.out
    simp only [Value.slice.injEq] at hq
    obtain ⟨rfl, _, rfl⟩ := hq
    have HD := Lib.hid ha
    clear ha HEks
    have hks300 := Lib.hid hlenks
    go_wp2_with fail
    go_loopw [3, 16] (fun u v wr => ∃ (i : Nat), v = .int .i64 i ∧ i ≤ ks.length ∧ Hid (Row w1 wr u (prL (ks.take i))) ∧ Hid (i = 0 → u = .slice none 0 0))
      (fun _ v _ => ks.length - (intOf v).toNat)
    case atStart => exact ⟨0, rfl, Nat.zero_le _, Row.nil w1, fun _ => rfl⟩
    case round =>
      obtain ⟨i, rfl, hin, hR, hZ⟩ := hrel
      have ei : IntKind.i64.wrap ((i : Int) + 1) = (i : Int) + 1 := IntWalk.i64_in _ (by omega)
      by_cases hlt : i < ks.length
      · obtain ⟨k, hk1⟩ : ∃ k, ks[i]? = some k := ⟨ks[i], List.getElem?_eq_getElem hlt⟩
        obtain ⟨g2, off2, rfl, hat⟩ := HD.out.resolve_left (fun e => by rw [e] at hk1; simp at hk1)
        obtain ⟨k0, k1, k2⟩ := hat i k hk1
        have k0 := cell_later hR.out.below k0
        have k1 := cell_later hR.out.below k1
        have k2 := cell_later hR.out.below k2
        have hI1 : (i : Int) < ((ks.length : Nat) : Int) := by omega
        have hI2 : (0 : Int) ≤ (i : Int) := by omega
        have HRA := Lib.hid (hR.out.alloc (Obj.cells #[Value.int .i64 k.op, .string k.key, .string k.val] 30))
        have HKB := Lib.hid (kbox_cells wr k 30)
        have HSt := Lib.hid (prL_step hk1)
        have Hln : Hid ((prL (ks.take i)).length = i) := by show _ = _; unfold prL; rw [List.length_map, List.length_take]; omega
        obtain ⟨ua, uc, hu⟩ := hR.out.slice
        subst hu
        clear hat hk1 hR hZ
        go_wp2_with fail
        go_fit (pair_any _ k.key k.val)
        rintro e wp ⟨rfl, hbp⟩
        have HRB := Lib.hid (HRA.out.later hbp)
        have HRC := Lib.hid (HRB.out.alloc (Obj.cells #[Value.string k.key, .string k.val] 34))
        have Hle : Hid ((prL (ks.take i)).length + 1 ≤ 1073741825) := by show _ ≤ _; rw [Hln.out]; omega
        have HSZ : Hid ((wp.alloc (Obj.cells #[Value.string k.key, .string k.val] 34)).heap.size = wp.heap.size + 1) := by show _ = _; simp
        clear hbp HRA k0 k1 k2 HKB
        go_wp2_with (at_builtin; refine wpList_pushs rfl _ _ 27 34 _ 2 32 rfl Try.underlying27 Try.infoPair rfl (by decide) w1.heap.size _ _ _ rfl HRB.out.own #[.string k.key, .string k.val] rfl (by simp [Value.oneCell']) rfl Hle.out (by decide) HRB.out.grown.size ?_; intro g2 cap2 w2 hown2 hg2 hat2 hlt2; have HR2 := Lib.hid (Row.push (k.key, k.val) HRB.out hown2 hg2 hat2); clear hown2 hg2 hat2 hlt2)
        have HR3 : Hid (Row w1 w2 (.slice (some ⟨g2, 0, none⟩) ((prL (ks.take i)).length + 1) cap2) (prL (ks.take (i + 1)))) := by show Row _ _ _ _; rw [HSt.out]; exact HR2.out
        have HZ3 : Hid (i + 1 = 0 → Value.slice (some ⟨g2, 0, none⟩) ((prL (ks.take i)).length + 1) cap2 = .slice none 0 0) := fun h => by omega
        exact ⟨⟨i + 1, by simp, hlt, HR3, HZ3⟩, by show ks.length - ((i : Int) + 1).toNat < ks.length - ((i : Int)).toNat; omega⟩
      · obtain rfl : i = ks.length := by omega
        rw [List.take_length] at hR
        have hln : (prL ks).length = ks.length := by unfold prL; rw [List.length_map]
        obtain ⟨ua, uc, hu⟩ := hR.out.slice
        rw [hln] at hu
        subst hu
        have HLn : Hid ((prL ks).length = ks.length) := hln
        generalize prL ks = L at *
        have HOf := Lib.hid (Of_row hR.out (fun h => hZ.out (by rw [← hln]; exact h)) (by omega))
        have hsort := un_sorted L (a := []) trivial
        have hul := un_len L []
        obtain ⟨M, hM⟩ : ∃ M, M = un [] L := ⟨_, rfl⟩
        rw [← hM] at HOf hsort hul
        have HM := Lib.hid hM
        have hul2 : M.length ≤ 300 := by simp at hul; omega
        clear hln hM hul
        go_wp2_with fail
        go_fit HOf.out
        rintro e w2 ⟨vt, t, rfl, hq, ht, hb2⟩
        have HG : Hid (Good t 1000) := ⟨hq.2.1, by rw [hq.1]; exact hsort, by rw [← T.size_list, hq.1]; omega⟩
        have HTL : Hid (t.list = M) := hq.1
        have HT := Lib.hid ht
        have HR2 := Lib.hid (hR.out.later hb2)
        clear hq ht hb2 HOf hsort hR
        go_wp2_with fail
        go_fit (ROf_any HR2.out.pairs (by rw [HLn.out]; omega))
        rintro e w3 ⟨ux, rfl, hx⟩
        rw [← HM.out] at hx
        have HT3 := Lib.hid (HT.out.all hx.below)
        have HR3 := Lib.hid (HR2.out.later hx.below)
        have HX3 := Lib.hid hx.own
        have HXP := Lib.hid hx.pairs
        have HB3 := Lib.hid HR3.out.below
        have HW2 : Hid (∀ g, (Value.slice ua ks.length uc).ownBlock = some g → w1.heap.size ≤ g ∧ g < w2.heap.size) := HR2.out.own.lt
        obtain ⟨xa, xc, hu⟩ := hx.slice
        subst hu
        clear hx HT HR2
        by_cases hz : ks.length = 0
        · rw [hz]
          clear HR3 HW2
          go_wp2_with fail
          refine wp_loop_rounds 1 ?_
          rw [rounds_succ]
          have HTl : Hid (Tl w3 M 1000 vt t) := ⟨HG.out, HTL.out, HT3.out⟩
          go_wp2_with fail
          go_fit (All_tl HTl.out (by omega))
          rintro e w5 ⟨u5, rfl, hp5, hb5⟩
          have HP5 := Lib.hid hp5
          have HX5 := Lib.hid (HXP.out.later hb5)
          have HTl5 := Lib.hid (HTl.out.later hb5)
          have HB5 := Lib.hid (HB3.out.trans (hb5.mono HB3.out.size))
          clear hp5 hb5 HTl
          go_wp2_with fail
          go_fit (Same_true HP5.out HX5.out (by have := HTl5.out.length; omega))
          rintro e w6 ⟨rfl, hb6⟩
          have HTl6 := Lib.hid (HTl5.out.later hb6)
          have HB6 := Lib.hid (HB5.out.trans (hb6.mono HB5.out.size))
          clear hb6 HTl5 HP5 HX5
          go_wp2_with fail
          go_fit (Len_tl HTl6.out)
          rintro e w7 ⟨rfl, rfl⟩
          go_wp2_with fail
          go_fit (awake_any _)
          rintro e wz ⟨rfl, hbz⟩
          have HZ := Lib.hid (HBB.out.trans ((HB6.out.trans (hbz.mono HB6.out.size)).mono HBB.out.size))
          clear hbz
          go_wp2_with fail
          go_ret
          exact ⟨rfl, HZ.out⟩
        · obtain ⟨g, rfl⟩ : ∃ g, ua = some ⟨g, 0, none⟩ := by
            rcases HR3.out.own.2 with ⟨_, h0⟩ | ⟨g, cap, cur, hv, _⟩
            · rw [HLn.out] at h0; exact absurd h0 hz
            · simp only [Value.slice.injEq] at hv; exact ⟨g, hv.1⟩
          obtain ⟨hg1, hg2⟩ := HW2.out g rfl
          have Hg1 := Lib.hid hg1
          have Hg2 := Lib.hid hg2
          have HK := Lib.hid (HR3.out.kys HLn.out)
          have hn3 := hks300.out
          generalize ks.length = n at *
          generalize prs L = vs at HK
          clear hg1 hg2 HW2 HR3 hlt hin HLn HM
          go_wp2_with fail
          go_loopw [8, 35] (fun u8 v wr => ∃ (i : Nat) (vs : List Value), v = .int .i64 i ∧ i ≤ n ∧ Hid (Kys w1 wr g n uc vs) ∧ Hid (Tr wr wr.heap.size t vt) ∧ Hid (wr.ownsRow w2.heap.size 34 2 (.slice xa M.length xc) M.length (prs M)) ∧ Hid (Below w1.heap.size w1 wr))
            (fun _ v _ => n - (intOf v).toNat)
          case atStart => exact ⟨0, vs, rfl, Nat.zero_le _, HK, HT3, HX3, HB3⟩
          case round =>
            obtain ⟨i, vs, rfl, hin, hk, hT, hX, hB⟩ := hrel
            have ei : IntKind.i64.wrap ((i : Int) + 1) = (i : Int) + 1 := IntWalk.i64_in _ (by omega)
            by_cases hlt : i < n
            · obtain ⟨s, hs⟩ := hk.out.keys i hlt
              obtain ⟨s0, hs0⟩ := hk.out.keys 0 (by omega)
              have hx := (hk.out.own.cellAt (i * 2) (by omega)).trans hs
              have hx0 := (hk.out.own.cellAt 0 (by omega)).trans hs0
              have hf := hk.out.own.frozenAt (i * 2)
              have hx' : wr.cell? ⟨g, 0 + i * 2, none⟩ = some (.string s) := by rw [Nat.zero_add]; exact hx
              have hf' : wr.frozen? ⟨g, 0 + i * 2, none⟩ = false := by rw [Nat.zero_add]; exact hf
              have hgr := (hk.out.own.stored (i * 2) (.string ⟨#[63]⟩)).2
              have H1 := Lib.hid (hk.out.set i ⟨#[63]⟩)
              have H2 := Lib.hid (hT.out.written hgr hk.out.own hx0)
              have H3 : Hid ((wr.setCell ⟨g, i * 2, none⟩ (.string ⟨#[63]⟩)).ownsRow w2.heap.size 34 2 (.slice xa M.length xc) M.length (prs M)) := hX.out.kept hgr (by
                rcases hv : (Value.slice xa M.length xc).ownBlock with _ | k
                · exact .inl rfl
                · refine .inr (fun e => ?_)
                  have h1 := (hX.out.lt k hv).1
                  have h2 := Hg2.out
                  have : k = g := by simpa using e
                  omega)
              have H4 := Lib.hid (below_at (o := i * 2) (x := .string ⟨#[63]⟩) hB.out Hg1.out)
              have hI1 : (i : Int) < ((n : Nat) : Int) := by omega
              have hI2 : (0 : Int) ≤ (i : Int) := by omega
              clear hs hs0 hx0 hgr hk hT hX hB
              go_wp2_with fail
              exact ⟨⟨i + 1, _, by simp, hlt, H1, H2, H3, H4⟩, by show n - ((i : Int) + 1).toNat < n - ((i : Int)).toNat; omega⟩
            · obtain rfl : i = n := by omega
              have HT3 := hT
              have HXP : Hid (PairsIn wr (.slice xa M.length xc) M) := pairs_row hX.out rfl
              have HB3 := hB
              clear hk hX
              have HTl : Hid (Tl wr M 1000 vt t) := ⟨HG.out, HTL.out, HT3.out⟩
              go_wp2_with fail
              go_fit (All_tl HTl.out (by omega))
              rintro e w5 ⟨u5, rfl, hp5, hb5⟩
              have HP5 := Lib.hid hp5
              have HX5 := Lib.hid (HXP.out.later hb5)
              have HTl5 := Lib.hid (HTl.out.later hb5)
              have HB5 := Lib.hid (HB3.out.trans (hb5.mono HB3.out.size))
              clear hp5 hb5 HTl
              go_wp2_with fail
              go_fit (Same_true HP5.out HX5.out (by have := HTl5.out.length; omega))
              rintro e w6 ⟨rfl, hb6⟩
              have HTl6 := Lib.hid (HTl5.out.later hb6)
              have HB6 := Lib.hid (HB5.out.trans (hb6.mono HB5.out.size))
              clear hb6 HTl5 HP5 HX5
              go_wp2_with fail
              go_fit (Len_tl HTl6.out)
              rintro e w7 ⟨rfl, rfl⟩
              go_wp2_with fail
              go_fit (awake_any _)
              rintro e wz ⟨rfl, hbz⟩
              have HZ := Lib.hid (HBB.out.trans ((HB6.out.trans (hbz.mono HB6.out.size)).mono HBB.out.size))
              clear hbz
              go_wp2_with fail
              go_ret
              exact ⟨rfl, HZ.out⟩

end Go.Proofs.Ytcncggndpnooeaa
