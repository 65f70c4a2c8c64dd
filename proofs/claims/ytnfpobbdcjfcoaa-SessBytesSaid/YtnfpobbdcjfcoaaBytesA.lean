/-
  SessBytes: the walk. (Written by genbytes.py.)
-/
import Derived.Test.YtnfpobbdcjfcoaaRp
import Derived.Test.YtnfpobbdcjfcoaaEqS
import Derived.Test.YtnfpobbdcjfcoaaPlaysW
import Derived.Test.YtnfpobbdcjfcoaaGetsW
namespace Go.Proofs.Ytnfpobbdcjfcoaa
set_option linter.unusedVariables false
set_option linter.unusedSimpArgs false
open Go.RowKit
variable {w : World}

def Tb.InB (t : Tb) : Prop := ∀ s ∈ t.seats, (0 ≤ s.err ∧ s.err ≤ 1000) ∧ 0 ≤ s.n ∧ s.n ≤ 1099511627776
def Kd.In (k : Kd) : Prop := (0 ≤ k.err ∧ k.err ≤ 1000) ∧ 0 ≤ k.n ∧ k.n ≤ 1099511627776
theorem does_in {t : Tb} (h : t.InB) {c : Kd} (hc : c.In) : (t.does c).2.InB := by
  unfold Tb.does
  split
  · unfold Tb.opn
    split
    · exact h
    · split
      · exact h
      · intro s hs
        rcases List.mem_append.1 hs with hs | hs
        · exact h s hs
        · simp at hs; subst hs; simp
  · split
    · unfold Tb.close
      split
      · exact h
      · rename_i i hp
        have hs : (t.seats.eraseIdx i).Sublist t.seats := List.eraseIdx_sublist _ _
        exact fun s hm => h s (hs.subset hm)
    · split
      · exact h
      · unfold Tb.keep
        split
        · exact h
        · split
          · exact h
          · split
            · exact h
            · intro s hs
              rcases List.mem_or_eq_of_mem_set hs with hs | hs
              · exact h s hs
              · subst hs; exact hc
theorem ok_fit {t : Tb} {N : Nat} (h : t.Ok N) (hN : N ≤ 1000) (hi : t.InB) : t.Fit :=
  ⟨by have := h.begun; omega, fun s hs => by have h1 := h.begun; have h2 := h.seq s hs; have h3 := h.id s hs; have h4 := hi s hs; omega⟩
theorem ok_put {t : Tb} {N : Nat} (h : t.Ok N) (hN : N ≤ 1000) (hi : t.InB) : t.Put := by
  have ht : top40 = 1099511627776 := rfl
  exact ⟨h.len, by have := h.begun; omega, h.id, fun s hs => by have h2 := h.seq s hs; omega, fun s hs => (hi s hs).1, fun s hs => by have := (hi s hs).2; omega, h.up⟩
theorem num_byte {u : Nat} (hu : u ≤ 9223372036854775807) : ∀ x ∈ num u, 0 ≤ x ∧ x < 256 := by
  intro x hx
  rcases List.mem_cons.1 (show x ∈ (wide u : Int) :: be u (wide u) from hx) with rfl | hx
  · have := wide_le u hu; omega
  · exact be_byte u _ x hx
theorem nums_byte (l : List Int) (hl : ∀ z ∈ l, z ≤ 9223372036854775807) : ∀ x ∈ nums l, 0 ≤ x ∧ x < 256 := by
  intro x hx
  obtain ⟨q, hq, hxq⟩ := List.mem_flatten.1 (show x ∈ (l.map fun z => num z.toNat).flatten from hx)
  obtain ⟨z, hz, rfl⟩ := List.mem_map.1 hq
  have := hl z hz
  exact num_byte (by omega) x hxq
theorem tput_byte {t : Tb} (h : t.Fit) (hl : t.seats.length ≤ 8) : ∀ x ∈ tput t, 0 ≤ x ∧ x < 256 := by
  intro x hx
  rcases List.mem_append.1 (show x ∈ nums [t.begun, (t.seats.length : Int)] ++ tputs t.seats from hx) with hx | hx
  · exact nums_byte _ (fun z hz => by simp at hz; rcases hz with rfl | rfl; exact h.begun; omega) x hx
  · obtain ⟨q, hq, hxq⟩ := List.mem_flatten.1 (show x ∈ (t.seats.map sput).flatten from hx)
    obtain ⟨s, hs, rfl⟩ := List.mem_map.1 hq
    have := h.all s hs
    exact nums_byte [s.id, s.seq, s.err, s.n] (fun z hz => by simp at hz; rcases hz with rfl | rfl | rfl | rfl <;> omega) x hxq
theorem tput_len {t : Tb} (h : t.Fit) (hl : t.seats.length ≤ 8) : (tput t).length ≤ 306 := by
  have h1 := nums_le [t.begun, (t.seats.length : Int)] (fun z hz => by simp at hz; rcases hz with rfl | rfl; exact h.begun; omega)
  have h2 := tputs_le t.seats h.all
  simp only [tput, List.length_append, List.length_cons, List.length_nil] at h1 ⊢
  omega
theorem Tk.keepL {w w' : World} {B b : Nat} {L : List Nat} {t : Tb} (h : Tk w B b L t) (hs : w.heap.size ≤ w'.heap.size) (hk : ∀ k ∈ L, w'.heap[k]? = w.heap[k]?) : Tk w' B b L t := by
  obtain ⟨v, h⟩ := h
  refine ⟨v, h.cells.keep hs (hk b h.bL), ?_, h.at_, h.low⟩
  have ho := h.own
  refine ⟨ho.1, ?_⟩
  rcases ho.2 with h0 | ⟨g, cap, cur, hv, hg, hh, rest⟩
  · exact .inl h0
  · refine .inr ⟨g, cap, cur, hv, hg, ?_, rest⟩
    rw [hk g (h.ob g (by rw [hv]; rfl)).1]; exact hh
theorem Tk.away {w w' : World} {B b : Nat} {L L1 L2 : List Nat} {t : Tb} (h : Tk w B b L t) (hd : ∀ k ∈ L, k ∉ L1) (he : Ext w L1 w' L2) : Tk w' B b L t :=
  h.keepL he.size (fun k hk => he.block k (h.llt k hk) (hd k hk))
theorem T0_in : T0.InB := fun s hs => by cases hs

set_option maxRecDepth 100000 in
set_option maxHeartbeats 25600000 in
theorem Bytes_any {v v2 : Value} {ks ms : List Kd} (hks : KdsIn w v ks) (hkq : ∀ k ∈ ks, k.q ≤ 9223372036854775807) (hms : KdsIn w v2 ms) {p : Option Addr} {n cb : Nat} {xs : List Int} (hx : xs.length = n) (hb : Lib.BytesIn w p n xs) (hp : p = none → n = 0 ∧ cb = 0) (hr : ∀ x ∈ xs, 0 ≤ x ∧ x < 256) (hl : ks.length ≤ 500) (hm : ms.length ≤ 500) (hn : n ≤ 8192) :
    Calls Try.prog 8 #[v, v2, .slice p n cb] w (Yes w) := by
  have HK := Lib.hid hks
  have HM := Lib.hid hms
  have HQ := Lib.hid hkq
  have HXL := Lib.hid hx
  have HBI := Lib.hid hb
  have HPN := Lib.hid hp
  have HRG := Lib.hid hr
  clear hkq hx hb hp hr
  obtain ⟨a, c, rfl, _⟩ := hks
  obtain ⟨a2, c2, rfl, _⟩ := hms
  have g1 : ((ks.length : Nat) : Int) ≤ 500 := by omega
  have g2 : ((ms.length : Nat) : Int) ≤ 500 := by omega
  have g3 : ((n : Nat) : Int) ≤ 8192 := by omega
  go_enter Try.func8, Try.ntmps8
  go_wp2_with fail
  go_fit (New_any w)
  rintro e w2 ⟨rfl, hd, hb2⟩
  have hS : Sk w w2 w.heap.size [w.heap.size] (dos T0 (ks.take 0)) 0 := ⟨hd, T0_ok 0, hb2⟩
  have hA := below_alloc w2 (.cells #[.int .i64 0, .slice none 0 0] 29)
  have HS0 := Lib.hid (hS.later hA)
  have HR0 : Hid (Rf (w2.alloc (.cells #[.int .i64 0, .slice none 0 0] 29)) [w.heap.size] w2.heap.size (dos T0 (ks.take 0))) := ⟨.slice none 0 0, DC.alloc w2 [.int .i64 0, .slice none 0 0] _, SeB.nil _ _, fun hm => by have := hd.llt; simp at hm; have := this w.heap.size (by simp); omega⟩
  have HC2 : Hid (w.heap.size ≤ w2.heap.size) := hb2.size
  have HI0 : Hid ((dos T0 (ks.take 0)).InB) := T0_in
  clear hd hb2 hS hA
  go_wp2_with fail
  generalize w2.heap.size = b2 at *
  generalize w2.alloc (.cells #[.int .i64 0, .slice none 0 0] 29) = W0 at *
  go_loopw [36] (fun v wr => ∃ (i : Nat) (L : List Nat), v = .int .i64 i ∧ i ≤ ks.length ∧ Hid (Sk w wr w.heap.size L (dos T0 (ks.take i)) i) ∧ Hid (Rf wr L b2 (dos T0 (ks.take i))) ∧ Hid ((dos T0 (ks.take i)).InB))
    (fun v _ => ks.length - (intOf v).toNat)
  case atStart => exact ⟨0, _, rfl, Nat.zero_le _, HS0, HR0, HI0⟩
  case round =>
    clear HS0 HR0 HI0
    obtain ⟨i, L, rfl, hin, hst, hrf, hib⟩ := hrel
    by_cases hlt : i < ks.length
    · have ei : IntKind.i64.wrap ((i : Int) + 1) = (i : Int) + 1 := IntWalk.i64_in _ (by omega)
      obtain ⟨k, hk1⟩ : ∃ k, ks[i]? = some k := ⟨ks[i], List.getElem?_eq_getElem hlt⟩
      obtain ⟨_, _, hv, hx⟩ := HK.out
      obtain ⟨g2, off2, hpa, hat⟩ := hx.resolve_left (fun e => by rw [e] at hk1; simp at hk1)
      simp only [Value.slice.injEq] at hv
      obtain ⟨rfl, _, rfl⟩ := hv
      subst hpa
      obtain ⟨k0, k1, k2, k3, k4⟩ := hat i k hk1
      have k0 := cell_later hst.out.below k0
      have k1 := cell_later hst.out.below k1
      have k2 := cell_later hst.out.below k2
      have k3 := cell_later hst.out.below k3
      have k4 := cell_later hst.out.below k4
      have hI1 : (i : Int) < ((ks.length : Nat) : Int) := by omega
      have hI2 : (0 : Int) ≤ (i : Int) := by omega
      have hbd := below_alloc wr (.cells #[.int .i64 k.op, .int .i64 k.k, .int .i64 k.q, .int .i64 k.err, .int .i64 k.n] 34)
      have HS1 := Lib.hid (hst.out.later hbd)
      have HR1 := Lib.hid (hrf.out.below (L := L) hbd)
      have HX1 : Hid (Bx (wr.alloc (.cells #[.int .i64 k.op, .int .i64 k.k, .int .i64 k.q, .int .i64 k.err, .int .i64 k.n] 34)) (b2 :: L) wr.heap.size [.int .i64 k.op, .int .i64 k.k, .int .i64 k.q, .int .i64 k.err, .int .i64 k.n]) := ⟨DC.alloc wr [.int .i64 k.op, .int .i64 k.k, .int .i64 k.q, .int .i64 k.err, .int .i64 k.n] _, fun hm => by
        rcases List.mem_cons.1 hm with h | h
        · have := hrf.out.lt; omega
        · have := hst.out.tab.llt _ h; omega⟩
      have HKQ := Lib.hid (HQ.out k (List.mem_of_getElem? hk1))
      have HK1 := Lib.hid (dos_step hk1 T0)
      have d0 := HX1.out.1.cells 0 _ rfl
      have d1 := HX1.out.1.cells 1 _ rfl
      have d2 := HX1.out.1.cells 2 _ rfl
      have d3 := HX1.out.1.cells 3 _ rfl
      have d4 := HX1.out.1.cells 4 _ rfl
      clear hat hk1 hx hst hrf hbd
      generalize hT : dos T0 (ks.take i) = t at *
      clear hT
      by_cases e0 : k.err < 0
      · go_wp2_with fail
        go_fit (awake_any _)
        rintro e w4 ⟨rfl, hb⟩
        have HB := Lib.hid (HS1.out.below.trans (hb.mono HS1.out.below.size))
        clear hb
        go_wp2_with fail
        go_ret
        exact ⟨rfl, HB.out⟩
      · have e0n : True := trivial
        by_cases e1 : 1000 < k.err
        · go_wp2_with fail
          go_fit (awake_any _)
          rintro e w4 ⟨rfl, hb⟩
          have HB := Lib.hid (HS1.out.below.trans (hb.mono HS1.out.below.size))
          clear hb
          go_wp2_with fail
          go_ret
          exact ⟨rfl, HB.out⟩
        · have e1n : True := trivial
          by_cases e2 : k.n < 0
          · go_wp2_with fail
            go_fit (awake_any _)
            rintro e w4 ⟨rfl, hb⟩
            have HB := Lib.hid (HS1.out.below.trans (hb.mono HS1.out.below.size))
            clear hb
            go_wp2_with fail
            go_ret
            exact ⟨rfl, HB.out⟩
          · have e2n : True := trivial
            by_cases e3 : 1099511627776 < k.n
            · go_wp2_with fail
              go_fit (awake_any _)
              rintro e w4 ⟨rfl, hb⟩
              have HB := Lib.hid (HS1.out.below.trans (hb.mono HS1.out.below.size))
              clear hb
              go_wp2_with fail
              go_ret
              exact ⟨rfl, HB.out⟩
            · have e3n : True := trivial
              have HIN : Hid ((t.does k).2.InB) := does_in hib.out ⟨⟨by omega, by omega⟩, by omega, by omega⟩
              have HC := Lib.hid (does_any k HS1.out.tab HS1.out.ok (by omega))
              clear e0n e1n e2n e3n
              go_wp2_with fail
              clear k0 k1 k2 k3 k4
              generalize wr.alloc (.cells #[.int .i64 k.op, .int .i64 k.k, .int .i64 k.q, .int .i64 k.err, .int .i64 k.n] 34) = W1 at *
              generalize wr.heap.size = dk at *
              go_fit HC.out
              rintro e w5 ⟨L5, rfl, hd, he⟩
              have HS5 := Lib.hid (HS1.out.ext hd he (does_ok HS1.out.ok k))
              have HR5 := Lib.hid (HR1.out.ext he)
              have HX5 := Lib.hid (HX1.out.ext (he.cons b2))
              clear hd he HC d0 d1 d2 d3 d4
              have d0 := HX5.out.1.cells 0 _ rfl
              have d1 := HX5.out.1.cells 1 _ rfl
              have d2 := HX5.out.1.cells 2 _ rfl
              have d3 := HX5.out.1.cells 3 _ rfl
              have d4 := HX5.out.1.cells 4 _ rfl
              by_cases n1 : bits .and .i64 k.op 7 < 2
              · have hdo : (t.does k).2 = t.opn.2.2 := by unfold Tb.does; rw [if_pos (show opc k.op < 2 from n1)]
                have HDO := Lib.hid hdo
                have HCR := Lib.hid (ROpen_any HR5.out HS1.out.ok HS5.out.tab.llt)
                clear hdo
                go_wp2_with fail
                go_fit HCR.out
                rintro e' w6 ⟨rfl, hr, he⟩
                have HRn : Hid (Rf w6 L5 b2 (dos T0 (ks.take (i + 1)))) := by show Rf _ _ _ _; rw [HK1.out, HDO.out]; exact hr
                have HSn : Hid (Sk w w6 w.heap.size L5 (dos T0 (ks.take (i + 1))) (i + 1)) := by show Sk _ _ _ _ _ _; rw [HK1.out]; exact HS5.out.apart HR5.out.nL HC2.out he
                have HIn : Hid ((dos T0 (ks.take (i + 1))).InB) := by show Tb.InB _; rw [HK1.out]; exact HIN.out
                clear hr he HCR
                go_wp2_with fail
                exact ⟨⟨i + 1, L5, by simp, hlt, HSn, HRn, HIn⟩, by show ks.length - ((i : Int) + 1).toNat < ks.length - ((i : Int)).toNat; omega⟩
              · have m1 : 2 ≤ bits .and .i64 k.op 7 := by omega
                by_cases n2 : bits .and .i64 k.op 7 = 2
                · have hdo : t.does k = t.close k.k := by unfold Tb.does; rw [if_neg (show ¬ opc k.op < 2 from n1), if_pos (show opc k.op = 2 from n2)]
                  have HDO : Hid ((t.does k).2 = (t.close k.k).2) := by show _ = _; rw [hdo]
                  have HCR := Lib.hid (RClose_any k.k HR5.out (by have := HS1.out.ok.len; omega) HS5.out.tab.llt)
                  clear hdo
                  go_wp2_with fail
                  go_fit HCR.out
                  rintro e' w6 ⟨rfl, hr, he⟩
                  have HRn : Hid (Rf w6 L5 b2 (dos T0 (ks.take (i + 1)))) := by show Rf _ _ _ _; rw [HK1.out, HDO.out]; exact hr
                  have HSn : Hid (Sk w w6 w.heap.size L5 (dos T0 (ks.take (i + 1))) (i + 1)) := by show Sk _ _ _ _ _ _; rw [HK1.out]; exact HS5.out.apart HR5.out.nL HC2.out he
                  have HIn : Hid ((dos T0 (ks.take (i + 1))).InB) := by show Tb.InB _; rw [HK1.out]; exact HIN.out
                  clear hr he HCR
                  go_wp2_with fail
                  exact ⟨⟨i + 1, L5, by simp, hlt, HSn, HRn, HIn⟩, by show ks.length - ((i : Int) + 1).toNat < ks.length - ((i : Int)).toNat; omega⟩
                · by_cases n3 : bits .and .i64 k.op 7 = 3
                  · have hdo : (t.does k).2 = t := by unfold Tb.does; rw [if_neg (show ¬ opc k.op < 2 from n1), if_neg (show ¬ opc k.op = 2 from n2), if_pos (show opc k.op = 3 from n3)]
                    have HRn : Hid (Rf w5 L5 b2 (dos T0 (ks.take (i + 1)))) := by show Rf _ _ _ _; rw [HK1.out, hdo]; exact HR5.out
                    have HSn : Hid (Sk w w5 w.heap.size L5 (dos T0 (ks.take (i + 1))) (i + 1)) := by show Sk _ _ _ _ _ _; rw [HK1.out]; exact HS5.out
                    have HIn : Hid ((dos T0 (ks.take (i + 1))).InB) := by show Tb.InB _; rw [HK1.out]; exact HIN.out
                    clear hdo
                    go_wp2_with fail
                    exact ⟨⟨i + 1, L5, by simp, hlt, HSn, HRn, HIn⟩, by show ks.length - ((i : Int) + 1).toNat < ks.length - ((i : Int)).toNat; omega⟩
                  · have hdo : t.does k = t.keep k.k k.q k.err k.n := by unfold Tb.does; rw [if_neg (show ¬ opc k.op < 2 from n1), if_neg (show ¬ opc k.op = 2 from n2), if_neg (show ¬ opc k.op = 3 from n3)]
                    have HDO : Hid ((t.does k).2 = (t.keep k.k k.q k.err k.n).2) := by show _ = _; rw [hdo]
                    have HCR := Lib.hid (RKeep_any k.k k.q k.err k.n HKQ.out HR5.out HS1.out.ok (by omega) HS5.out.tab.llt)
                    have m3 : 3 < bits .and .i64 k.op 7 := by omega
                    clear hdo
                    go_wp2_with fail
                    go_fit HCR.out
                    rintro e' w6 ⟨rfl, hr, he⟩
                    have HRn : Hid (Rf w6 L5 b2 (dos T0 (ks.take (i + 1)))) := by show Rf _ _ _ _; rw [HK1.out, HDO.out]; exact hr
                    have HSn : Hid (Sk w w6 w.heap.size L5 (dos T0 (ks.take (i + 1))) (i + 1)) := by show Sk _ _ _ _ _ _; rw [HK1.out]; exact HS5.out.apart HR5.out.nL HC2.out he
                    have HIn : Hid ((dos T0 (ks.take (i + 1))).InB) := by show Tb.InB _; rw [HK1.out]; exact HIN.out
                    clear hr he HCR
                    go_wp2_with fail
                    exact ⟨⟨i + 1, L5, by simp, hlt, HSn, HRn, HIn⟩, by show ks.length - ((i : Int) + 1).toNat < ks.length - ((i : Int)).toNat; omega⟩
    · obtain rfl : i = ks.length := by omega
      rw [List.take_length] at hst hrf hib
      generalize dos T0 ks = t at *
      have hN5 : ks.length ≤ 1000 := by omega
      have HFIT := Lib.hid (ok_fit hst.out.ok hN5 hib.out)
      have HPUT := Lib.hid (ok_put hst.out.ok hN5 hib.out)
      have hlen := hst.out.ok.len
      have hdr : Below wr.heap.size wr wr.drew := ⟨rfl, rfl, rfl, Nat.le_refl _, fun _ _ => rfl⟩
      have HSd := Lib.hid (hst.out.later hdr)
      have HRd := Lib.hid (hrf.out.below (L := L) hdr)
      have HBd := Lib.hid (later HBI.out HSd.out.below)
      have HP1 := Lib.hid (Put_any HSd.out.tab HFIT.out hlen HXL.out HBd.out HPN.out (by omega))
      clear hst hrf hib hdr
      go_wp2_with fail
      go_region_with (first
        | (go_at_call 28; (with_reducible refine HP1.out.mono ?_); rintro e w5 ⟨pg, pn, pc, rfl, ho, hb⟩; have HS5 := Lib.hid (HSd.out.later hb); have HR5 := Lib.hid (HRd.out.below (L := L) hb); have cv1 := conv_own2 ho; have HO5 := Lib.hid ho; have HP2 := Lib.hid (RPut_any HR5.out HFIT.out hlen HXL.out (later HBd.out hb) HPN.out (by omega)); clear ho hb)
        | (go_at_call 29; (with_reducible refine HP2.out.mono ?_); rintro e w6 ⟨qg, qn, qc, rfl, ho, hb⟩; have HS6 := Lib.hid (HS5.out.later hb); have cv2 := conv_own2 ho; have ho1 := HO5.out.kept (row := none) ⟨hb.os, hb.tape, hb.output, hb.size, fun k hk _ => hb.block k hk⟩ (by simp [Value.ownBlock]); have cv3 := conv_own2 ho1; clear ho hb ho1))
      all_goals
        have HP3 := Lib.hid (Put_any (p := none) (n := 0) (c := 0) (xs := []) HS6.out.tab HFIT.out hlen rfl (Lib.BytesIn.nil _ _ _) (fun _ => ⟨rfl, rfl⟩) (by omega))
        clear cv1 cv2 cv3 HP1 HP2 HO5 HSd HRd HBd HS5 HR5
        go_wp2_with fail
        go_fit HP3.out
        rintro e w7 ⟨rg, rn, rc, rfl, ho, hb⟩
        have hrn := owns_len ho
        rw [List.nil_append] at hrn ho
        have htl := tput_len HFIT.out hlen
        have HB7 := Lib.hid (later HBI.out (HS6.out.later hb).below)
        have HO7 := Lib.hid ho
        have HBa := Lib.hid hb
        clear ho hb HP3
        go_wp2_with (at_builtin; refine wpList_push rfl _ _ rfl w6.heap.size rg rn rc _ rfl HO7.out p n cb xs rfl HB7.out HXL.out HPN.out (by omega) HBa.out.size ?_; intro g8 c8 w8 hown8 hg8; have HO8 := Lib.hid hown8; have HB8 := Lib.hid (made_grown HBa.out hg8 HBa.out.size (HO7.out.lt rg rfl).1); clear hown8 hg8)
        have HS8 := Lib.hid (HS6.out.later HB8.out)
        have hbyt : ∀ x ∈ tput t ++ xs, 0 ≤ x ∧ x < 256 := fun x hx => (List.mem_append.1 hx).elim (tput_byte HFIT.out hlen x) (HRG.out x)
        go_fit (Read_any2 (some ⟨g8, 0, none⟩) (rn + n) c8 (tput t ++ xs) (owns_len HO8.out) (owns_in HO8.out) (fun h => by cases h) hbyt (by omega))
        rintro e w9 ⟨rb, g, cap, rfl, hrs, hb9, hrb, hrl, hgl⟩
        have HS9 := Lib.hid (HS8.out.later hb9)
        have hrbL : rb ∉ L := fun hm => by have := HS8.out.tab.llt _ hm; omega
        have hwr : w.heap.size ≤ rb := Nat.le_trans HS8.out.below.size hrb
        clear HO7 HO8 HB7 HB8 HBa hb9 HS6 HS8 hbyt
        go_wp2_with fail
        go_fit (Get_any hrs hrl hgl)
        rintro e w10 ⟨hrs10, hex, hres⟩
        obtain ⟨hg1, hg2⟩ := gAll_put HPUT.out xs
        rw [hg1, hg2] at hres
        rw [hg2] at hrs10
        simp only at hres hrs10
        rcases hres with ⟨h, _⟩ | ⟨_, b3, L3, rfl, htk⟩
        · exact absurd rfl h
        have HT10 : Hid (Tk w10 w9.heap.size b3 L3 t) := htk
        have HS10 := Lib.hid (HS9.out.apart hrbL hwr hex)
        have HRR := Lib.hid hrs10
        have hdis : ∀ k ∈ L, k ∉ L3 := fun k hk hm => by have := HS9.out.tab.llt _ hk; have := htk.low _ hm; omega
        have HDIS := Lib.hid hdis
        have hB3 : w.heap.size ≤ w9.heap.size := HS9.out.below.size
        clear hrs10 hex htk hdis hrs HS9 hg1 hg2
        go_wp2_with fail
        have hlf := Left_rs HRR.out
        rw [show (rn + n) - (tput t).length = n by omega] at hlf
        go_fit hlf
        rintro e w11 ⟨rfl, q, hq⟩
        have hb11 : Below w10.heap.size w10 w11 := by subst hq; exact ⟨rfl, rfl, rfl, Nat.le_refl _, fun _ _ => rfl⟩
        have HS11 := Lib.hid (HS10.out.later hb11)
        have HT11 := Lib.hid (HT10.out.below hb11)
        clear hq hb11 hlf HS10 HT10 HRR
        go_wp2_with fail
        go_fit (List_any HS11.out.tab (by omega))
        rintro e w12 ⟨lv, rfl, ho, hb⟩
        have HS12 := Lib.hid (HS11.out.later hb)
        have HT12 := Lib.hid (HT11.out.below hb)
        have HA12 := Lib.hid (ho.seb (L := []) (fun k hk => by cases hk))
        clear ho hb HS11 HT11
        go_wp2_with fail
        go_fit (List_any HT12.out (show t.seats.length ≤ 100000 by omega))
        rintro e w13 ⟨lv2, rfl, ho, hb⟩
        have HS13 := Lib.hid (HS12.out.later hb)
        have HT13 := Lib.hid (HT12.out.below hb)
        have HA13 := Lib.hid (HA12.out.below hb)
        have HB13 := Lib.hid (ho.seb (L := []) (fun k hk => by cases hk))
        clear ho hb HS12 HT12 HA12
        go_wp2_with fail
        go_fit (equal_any HA13.out HB13.out)
        rintro e w14 ⟨rfl, hb⟩
        have HS14 := Lib.hid (HS13.out.later hb)
        have HT14 := Lib.hid (HT13.out.below hb)
        clear hb HS13 HT13 HA13 HB13
        go_wp2_with fail
        go_loopw [131] (fun v wr => ∃ (j : Nat) (L L3 : List Nat) (t : Tb), v = .int .i64 j ∧ j ≤ ms.length ∧ Hid (Sk w wr w.heap.size L t (ks.length + j)) ∧ Hid (Tk wr w9.heap.size b3 L3 t) ∧ Hid (∀ k ∈ L, k ∉ L3))
          (fun v _ => ms.length - (intOf v).toNat)
        case atStart => exact ⟨0, L, L3, t, rfl, Nat.zero_le _, HS14, HT14, HDIS⟩
        case round =>
          clear HS14 HT14 HDIS HFIT HPUT
          obtain ⟨j, L, L3, t, rfl, hjn, hst, hut, hds⟩ := hrel
          by_cases hlt : j < ms.length
          · have ej : IntKind.i64.wrap ((j : Int) + 1) = (j : Int) + 1 := IntWalk.i64_in _ (by omega)
            obtain ⟨k, hk1⟩ : ∃ k, ms[j]? = some k := ⟨ms[j], List.getElem?_eq_getElem hlt⟩
            obtain ⟨_, _, hv, hx⟩ := HM.out
            obtain ⟨g2, off2, hpa, hat⟩ := hx.resolve_left (fun e => by rw [e] at hk1; simp at hk1)
            simp only [Value.slice.injEq] at hv
            obtain ⟨rfl, _, rfl⟩ := hv
            subst hpa
            obtain ⟨k0, k1, k2, k3, k4⟩ := hat j k hk1
            have k0 := cell_later hst.out.below k0
            have k1 := cell_later hst.out.below k1
            have k2 := cell_later hst.out.below k2
            have k3 := cell_later hst.out.below k3
            have k4 := cell_later hst.out.below k4
            have hI1 : (j : Int) < ((ms.length : Nat) : Int) := by omega
            have hI2 : (0 : Int) ≤ (j : Int) := by omega
            have hba := below_alloc wr (.cells #[.int .i64 k.op, .int .i64 k.k, .int .i64 k.q, .int .i64 k.err, .int .i64 k.n] 34)
            have hbd : Below wr.heap.size wr (wr.alloc (.cells #[.int .i64 k.op, .int .i64 k.k, .int .i64 k.q, .int .i64 k.err, .int .i64 k.n] 34)).drew := ⟨hba.os, hba.tape, hba.output, hba.size, hba.block⟩
            have HSd := Lib.hid (hst.out.later hbd)
            have HTd := Lib.hid (hut.out.below hbd)
            have hxd : DC (wr.alloc (.cells #[.int .i64 k.op, .int .i64 k.k, .int .i64 k.q, .int .i64 k.err, .int .i64 k.n] 34)).drew wr.heap.size [.int .i64 k.op, .int .i64 k.k, .int .i64 k.q, .int .i64 k.err, .int .i64 k.n] := (DC.alloc wr [.int .i64 k.op, .int .i64 k.k, .int .i64 k.q, .int .i64 k.err, .int .i64 k.n] 34).below ⟨rfl, rfl, rfl, Nat.le_refl _, fun _ _ => rfl⟩
            have HXd : Hid (Bx (wr.alloc (.cells #[.int .i64 k.op, .int .i64 k.k, .int .i64 k.q, .int .i64 k.err, .int .i64 k.n] 34)).drew L wr.heap.size [.int .i64 k.op, .int .i64 k.k, .int .i64 k.q, .int .i64 k.err, .int .i64 k.n]) := ⟨hxd, fun hm => by have := hst.out.tab.llt _ hm; omega⟩
            have d0 := HXd.out.1.cells 0 _ rfl
            have d1 := HXd.out.1.cells 1 _ rfl
            have d2 := HXd.out.1.cells 2 _ rfl
            have d3 := HXd.out.1.cells 3 _ rfl
            have d4 := HXd.out.1.cells 4 _ rfl
            have hNj : ks.length + j ≤ 4611686018427387904 := by omega
            have HC1 := Lib.hid (does_any k HSd.out.tab HSd.out.ok hNj)
            have HD3 : Hid (∀ k ∈ L3, k ∉ L) := fun k hk hm => hds.out k hm hk
            clear hat hk1 hx hst hut hba hbd hxd
            go_wp2_with fail
            clear k0 k1 k2 k3 k4
            go_region_with (first
              | (go_at_call 24; (with_reducible refine HC1.out.mono ?_); rintro e w5 ⟨L5, rfl, hd, he⟩; have HS5 := Lib.hid (HSd.out.ext hd he (does_ok HSd.out.ok k)); have HX5 := Lib.hid (HXd.out.ext he); have HT5 := Lib.hid (HTd.out.away HD3.out he); have HDI5 : Hid (∀ k ∈ L5, k ∉ L3) := (fun k hk hm => (he.new k hk).elim (fun h => hds.out k h hm) (fun h => by have := HTd.out.llt k hm; omega)); have x0 := HX5.out.1.cells 0 _ rfl; have x1 := HX5.out.1.cells 1 _ rfl; have x2 := HX5.out.1.cells 2 _ rfl; have x3 := HX5.out.1.cells 3 _ rfl; have x4 := HX5.out.1.cells 4 _ rfl; have HC2 := Lib.hid (does_any k HT5.out HSd.out.ok hNj); clear hd he)
              | (go_at_call 24; (with_reducible refine HC2.out.mono ?_); rintro e w6 ⟨L6, rfl, hd, he⟩; have HS6 : Hid (Sk w w6 w.heap.size L5 (t.does k).2 (ks.length + j + 1)) := ⟨HS5.out.tab.away HDI5.out he, HS5.out.ok, HS5.out.below.trans (he.below HS5.out.below.size (fun k hk => Nat.le_trans hB3 (HT5.out.low k hk)))⟩; have HT6 := Lib.hid hd; have HDI6 : Hid (∀ k ∈ L5, k ∉ L6) := (fun k hk hm => (he.new k hm).elim (fun h => HDI5.out k hk h) (fun h => by have := HS5.out.tab.llt k hk; omega)); have hl6 : (t.does k).2.seats.length ≤ 100000 := (by have := HS5.out.ok.len; omega); have HLa := Lib.hid (List_any HS6.out.tab hl6); clear hd he)
              | (go_at_call 21; (with_reducible refine HLa.out.mono ?_); rintro e w7 ⟨lv, rfl, ho, hb⟩; have HS7 := Lib.hid (HS6.out.later hb); have HT7 := Lib.hid (HT6.out.below hb); have HA7 := Lib.hid (ho.seb (L := []) (fun k hk => by cases hk)); have HLb := Lib.hid (List_any HT7.out hl6); clear ho hb)
              | (go_at_call 21; (with_reducible refine HLb.out.mono ?_); rintro e w8 ⟨lv2, rfl, ho, hb⟩; have HS8 := Lib.hid (HS7.out.later hb); have HT8 := Lib.hid (HT7.out.below hb); have HA8 := Lib.hid (HA7.out.below hb); have HB8 := Lib.hid (ho.seb (L := []) (fun k hk => by cases hk)); have HEQ := Lib.hid (equal_any HA8.out HB8.out); clear ho hb)
              | (go_at_call 27; (with_reducible refine HEQ.out.mono ?_); rintro e w99 ⟨rfl, hb⟩; have HS9 := Lib.hid (HS8.out.later hb); have HT9 := Lib.hid (HT8.out.below hb); clear hb))
            all_goals
              clear HC1 HC2 HLa HLb HEQ d0 d1 d2 d3 d4 x0 x1 x2 x3 x4
              go_wp2_with fail
              exact ⟨⟨j + 1, L5, L6, (t.does k).2, by simp, hlt, HS9, HT9, HDI6⟩, by show ms.length - ((j : Int) + 1).toNat < ms.length - ((j : Int)).toNat; omega⟩
          · go_wp2_with fail
            go_fit (awake_any _)
            rintro e w4 ⟨rfl, hb⟩
            have HB := Lib.hid (hst.out.below.trans (hb.mono hst.out.below.size))
            clear hb
            go_wp2_with fail
            go_ret
            exact ⟨rfl, HB.out⟩
end Go.Proofs.Ytnfpobbdcjfcoaa
