/-
  SessNumbers: the walk.
-/
import Derived.Test.YtnfpobbdcjfcoaaB8
namespace Go.Proofs.Ytnfpobbdcjfcoaa
set_option linter.unusedVariables false
set_option linter.unusedSimpArgs false
open Go.RowKit
variable {w : World} {B b : Nat} {L : List Nat} {t : Tb}

set_option maxHeartbeats 400000 in
theorem less_any (w : World) (x y : Se) (h : y.id < x.id) (hx : x.id ≤ 4611686018427387904) (hy : 0 ≤ y.id) : Calls Try.prog 26 #[.agg #[.int .i64 x.id, .int .i64 x.seq, .int .i64 x.err, .int .i64 x.n], .agg #[.int .i64 y.id, .int .i64 y.seq, .int .i64 y.err, .int .i64 y.n]] w fun e w' => e = .returned (.int .i64 (x.id - y.id)) ∧ Below w.heap.size w w' := by
  have ew : IntKind.i64.wrap (x.id - y.id) = x.id - y.id := IntWalk.i64_in _ (by omega)
  have HB := Lib.hid ((below_alloc w (.cells #[.int .i64 x.id, .int .i64 x.seq, .int .i64 x.err, .int .i64 x.n] 44)).trans ((below_alloc _ (.cells #[.int .i64 y.id, .int .i64 y.seq, .int .i64 y.err, .int .i64 y.n] 44)).mono (by simp)))
  go_enter Try.func26, Try.ntmps26
  go_wp2_with fail
  go_ret
  exact ⟨rfl, HB.out⟩

set_option maxRecDepth 100000 in
set_option maxHeartbeats 3200000 in
theorem sorted_any {v : Value} {l : List Se} (h : SeB w [] v l) (hup : l.Pairwise fun a b => a.id < b.id) (hid : ∀ s ∈ l, 0 ≤ s.id ∧ s.id ≤ 4611686018427387904) (hl : l.length ≤ 100000) :
    Calls Try.prog 25 #[v, .func (.func 26) #[] #[]] w (Yes w) := by
  obtain ⟨a, c, rfl, h1, h2, h⟩ := h
  have HD := Lib.hid h
  have HU := Lib.hid hup
  have HI := Lib.hid hid
  clear h hup hid
  have ew : IntKind.i64.wrap ((l.length : Int) - 1) = (l.length : Int) - 1 := IntWalk.i64_in _ (by omega)
  go_enter Try.func25, Try.ntmps25
  go_wp2_with fail
  go_loopw [5] (fun v wr => ∃ i : Int, v = .int .i64 i ∧ -1 ≤ i ∧ i < l.length ∧ Hid (Below w.heap.size w wr))
    (fun v _ => (intOf v).toNat)
  case atStart => exact ⟨(l.length : Int) - 1, rfl, by omega, by omega, Below.refl _ _⟩
  case round =>
    obtain ⟨j, rfl, hj1, hj2, HB⟩ := hrel
    by_cases hpos : 0 < j
    · obtain ⟨i, rfl⟩ : ∃ i : Nat, j = (i : Int) + 1 := ⟨(j - 1).toNat, by omega⟩
      have hlt : i + 1 < l.length := by omega
      have ei : IntKind.i64.wrap ((i : Int) + 1 - 1) = (i : Int) := by rw [IntWalk.i64_in _ (by omega)]; omega
      have ei2 : IntKind.i64.wrap (i : Int) = (i : Int) := IntWalk.i64_in _ (by omega)
      have hI5 : ((i : Int) + 1).toNat = i + 1 := by omega
      obtain ⟨x, hx⟩ : ∃ s, l[i + 1]? = some s := ⟨l[i + 1], List.getElem?_eq_getElem hlt⟩
      obtain ⟨y, hy⟩ : ∃ s, l[i]? = some s := ⟨l[i]'(by omega), List.getElem?_eq_getElem (by omega)⟩
      have hxy : y.id < x.id := by
        have := List.pairwise_iff_getElem.1 HU.out i (i + 1) (by omega) hlt (by omega)
        rw [(List.getElem?_eq_some_iff.1 hx).2, (List.getElem?_eq_some_iff.1 hy).2] at this
        exact this
      have hxi := HI.out x (List.mem_of_getElem? hx)
      have hyi := HI.out y (List.mem_of_getElem? hy)
      obtain ⟨g, off, rfl, _, _, hat⟩ := HD.out.resolve_left (fun e => by rw [e] at hx; simp at hx)
      obtain ⟨k0, k1, k2, k3⟩ := hat (i + 1) x hx
      obtain ⟨m0, m1, m2, m3⟩ := hat i y hy
      have HBD : Hid (Below w.heap.size w wr.drew) := ⟨HB.out.os, HB.out.tape, HB.out.output, HB.out.size, HB.out.block⟩
      have k0 := cell_later HBD.out k0
      have k1 := cell_later HBD.out k1
      have k2 := cell_later HBD.out k2
      have k3 := cell_later HBD.out k3
      have m0 := cell_later HBD.out m0
      have m1 := cell_later HBD.out m1
      have m2 := cell_later HBD.out m2
      have m3 := cell_later HBD.out m3
      have hI1 : (i : Int) + 1 < ((l.length : Nat) : Int) := by omega
      have hI2 : (0 : Int) ≤ (i : Int) + 1 := by omega
      have hI3 : (i : Int) < ((l.length : Nat) : Int) := by omega
      have hI4 : (0 : Int) ≤ (i : Int) := by omega
      have hng : ¬ (x.id - y.id < 0) := by omega
      have HC := Lib.hid (fun W => less_any W x y hxy hxi.2 hyi.1)
      clear hat hx hy hxi hyi hxy
      go_wp2_with fail
      go_region_with (go_at_call 26; refine (HC.out _).mono ?_; rintro e w1 ⟨rfl, hb⟩; have HB1 := Lib.hid (HBD.out.trans (hb.mono HBD.out.size)); clear hb)
      all_goals
        clear k0 k1 k2 k3 m0 m1 m2 m3 HC
        go_wp2_with fail
        exact ⟨⟨i, rfl, by omega, by omega, HB1⟩, by show (i : Int).toNat < ((i : Int) + 1).toNat; omega⟩
    · go_wp2_with fail
      go_ret
      exact ⟨rfl, HB.out⟩

theorem does_begun {c : Kd} (h : ¬ opc c.op < 2) : (t.does c).2.begun = t.begun := by
  unfold Tb.does
  rw [if_neg h]
  split
  · unfold Tb.close; split <;> rfl
  · split
    · rfl
    · unfold Tb.keep
      split
      · rfl
      · split
        · rfl
        · split <;> rfl
theorem opn_cases (t : Tb) : (t.opn.2.1 = 0 ∧ t.opn.1 = t.begun + 1 ∧ t.opn.2.2.begun = t.begun + 1) ∨ (t.opn.2.1 ≠ 0 ∧ t.opn.2.2.begun = t.begun) := by
  unfold Tb.opn
  split
  · right; simp
  · split
    · right; simp
    · left; simp

set_option maxRecDepth 100000 in
set_option maxHeartbeats 6400000 in
theorem Numbers_any {v : Value} {ks : List Kd} (hks : KdsIn w v ks) :
    Calls Try.prog 6 #[v] w (Yes w) := by
  have HK := Lib.hid hks
  obtain ⟨a, c, rfl, _⟩ := hks
  by_cases hl : ks.length ≤ 500
  · have g1 : ((ks.length : Nat) : Int) ≤ 500 := by omega
    go_enter Try.func6, Try.ntmps6
    go_wp2_with fail
    go_fit (New_any w)
    rintro e w2 ⟨rfl, hd, hb2⟩
    have HS0 : Hid (Sk w w2 w.heap.size [w.heap.size] (dos T0 (ks.take 0)) 0) := ⟨hd, T0_ok 0, hb2⟩
    clear hd hb2
    go_wp2_with fail
    go_loopw [4, 17] (fun u v wr => ∃ (i : Nat) (L : List Nat), u = .int .i64 (dos T0 (ks.take i)).begun ∧ v = .int .i64 i ∧ i ≤ ks.length ∧ Hid (Sk w wr w.heap.size L (dos T0 (ks.take i)) i))
      (fun _ v _ => ks.length - (intOf v).toNat)
    case atStart => exact ⟨0, _, rfl, rfl, Nat.zero_le _, HS0⟩
    case round =>
      obtain ⟨i, L, rfl, rfl, hin, hst⟩ := hrel
      by_cases hlt : i < ks.length
      · have ei : IntKind.i64.wrap ((i : Int) + 1) = (i : Int) + 1 := IntWalk.i64_in _ (by omega)
        obtain ⟨k, hk1⟩ : ∃ k, ks[i]? = some k := ⟨ks[i], List.getElem?_eq_getElem hlt⟩
        obtain ⟨_, _, hv, hx⟩ := HK.out
        obtain ⟨g2, off2, hpa, hat⟩ := hx.resolve_left (fun e => by rw [e] at hk1; simp at hk1)
        simp only [Value.slice.injEq] at hv
        obtain ⟨rfl, _, rfl⟩ := hv
        subst hpa
        obtain ⟨k0, k1, k2, k3, k4⟩ := hat i k hk1
        have k0 := cell_later hst.out.below k0
        have k1 := cell_later hst.out.below k1
        have k2 := cell_later hst.out.below k2
        have k3 := cell_later hst.out.below k3
        have k4 := cell_later hst.out.below k4
        have hI1 : (i : Int) < ((ks.length : Nat) : Int) := by omega
        have hI2 : (0 : Int) ≤ (i : Int) := by omega
        have HSA := Lib.hid (hst.out.later (below_alloc wr (.cells #[.int .i64 k.op, .int .i64 k.k, .int .i64 k.q, .int .i64 k.err, .int .i64 k.n] 34)))
        have HDo := DC.alloc wr [.int .i64 k.op, .int .i64 k.k, .int .i64 k.q, .int .i64 k.err, .int .i64 k.n] 34
        have s0 := HDo.cells 0 _ rfl
        have s1 := HDo.cells 1 _ rfl
        have s2 := HDo.cells 2 _ rfl
        have s3 := HDo.cells 3 _ rfl
        have s4 := HDo.cells 4 _ rfl
        have HTB := Lib.hid hst.out.ok.begun
        have HK1 := Lib.hid hk1
        clear hat hk1 hx hst HDo
        -- the rest of a round, behind the call
        by_cases hop : bits .and .i64 k.op 7 < 2
        · have hop2 : ¬ (1 < bits .and .i64 k.op 7) := by omega
          have hdo : ((dos T0 (ks.take i)).does k).2 = (dos T0 (ks.take i)).opn.2.2 := by unfold Tb.does; rw [if_pos (show opc k.op < 2 from hop)]
          have HDO := Lib.hid hdo
          clear hdo
          go_wp2_with fail
          go_fit (Open_any HSA.out.tab HSA.out.ok)
          rintro e w3 ⟨L3, rfl, hd, he⟩
          have HST : Hid (Sk w w3 w.heap.size L3 (dos T0 (ks.take (i + 1))) (i + 1)) := by
            show Sk _ _ _ _ _ _
            rw [dos_step HK1.out, HDO.out]
            exact HSA.out.ext hd he ((opn_ok HSA.out.ok).more (by omega))
          clear hd he k0 k1 k2 k3 k4 s0 s1 s2 s3 s4 HSA
          have HLc := Lib.hid (List_any HST.out.tab (by have := HST.out.ok.len; omega))
          rcases opn_cases (dos T0 (ks.take i)) with ⟨e1, e2, e3⟩ | ⟨e1, e3⟩
          · have hbg : (dos T0 (ks.take (i + 1))).begun = (dos T0 (ks.take i)).begun + 1 := by rw [dos_step HK1.out, HDO.out, e3]
            have HBG := Lib.hid hbg
            have ew : IntKind.i64.wrap ((dos T0 (ks.take i)).begun + 1) = (dos T0 (ks.take i)).begun + 1 := IntWalk.i64_in _ (by have := HTB.out; omega)
            rw [e1, e2]
            clear e1 e2 e3 hbg
            generalize (dos T0 (ks.take i)).begun = n at *
            go_wp2_with fail
            go_fit HLc.out
            rintro e w4 ⟨u, rfl, ho, hb⟩
            have HS4 := Lib.hid (HST.out.later hb)
            have HSEB := Lib.hid (ho.seb (L := []) (fun k hk => by cases hk))
            have hsl := ho.seb (L := []) (fun k hk => by cases hk)
            obtain ⟨pa, pc, rfl, _⟩ := hsl
            clear ho hb HLc HST
            have hle : ((dos T0 (ks.take (i + 1))).seats.length : Int) ≤ 8 := by have := HS4.out.ok.len; omega
            go_wp2_with fail
            go_fit (sorted_any HSEB.out HS4.out.ok.up (fun s hs => by have := HS4.out.ok.id s hs; have := HS4.out.ok.begun; omega) (by have := HS4.out.ok.len; omega))
            rintro e w5 ⟨rfl, hb⟩
            have HS5 := Lib.hid (HS4.out.later hb)
            clear hb
            go_wp2_with fail
            refine ⟨⟨i + 1, L3, ?_, by simp, hlt, HS5⟩, by show ks.length - ((i : Int) + 1).toNat < ks.length - ((i : Int)).toNat; omega⟩
            rw [HBG.out]
          · have hbg : (dos T0 (ks.take (i + 1))).begun = (dos T0 (ks.take i)).begun := by rw [dos_step HK1.out, HDO.out, e3]
            have HBG := Lib.hid hbg
            have e1' : ((dos T0 (ks.take i)).opn.2.1 == 0) = false := by simpa using e1
            clear e3 hbg
            generalize (dos T0 (ks.take i)).opn.1 = x1 at *
            generalize (dos T0 (ks.take i)).opn.2.1 = x2 at *
            generalize (dos T0 (ks.take i)).begun = n at *
            go_wp2_with fail
            go_fit HLc.out
            rintro e w4 ⟨u, rfl, ho, hb⟩
            have HS4 := Lib.hid (HST.out.later hb)
            have HSEB := Lib.hid (ho.seb (L := []) (fun k hk => by cases hk))
            have hsl := ho.seb (L := []) (fun k hk => by cases hk)
            obtain ⟨pa, pc, rfl, _⟩ := hsl
            clear ho hb HLc HST
            have hle : ((dos T0 (ks.take (i + 1))).seats.length : Int) ≤ 8 := by have := HS4.out.ok.len; omega
            go_wp2_with fail
            go_fit (sorted_any HSEB.out HS4.out.ok.up (fun s hs => by have := HS4.out.ok.id s hs; have := HS4.out.ok.begun; omega) (by have := HS4.out.ok.len; omega))
            rintro e w5 ⟨rfl, hb⟩
            have HS5 := Lib.hid (HS4.out.later hb)
            clear hb
            go_wp2_with fail
            refine ⟨⟨i + 1, L3, ?_, by simp, hlt, HS5⟩, by show ks.length - ((i : Int) + 1).toNat < ks.length - ((i : Int)).toNat; omega⟩
            rw [HBG.out]
        · have hop2 : 1 < bits .and .i64 k.op 7 := by omega
          have HDO := Lib.hid (does_begun (t := dos T0 (ks.take i)) (c := k) hop)
          go_wp2_with fail
          go_fit (does_any k HSA.out.tab HSA.out.ok (by omega))
          rintro e w3 ⟨L3, rfl, hd, he⟩
          have HST : Hid (Sk w w3 w.heap.size L3 (dos T0 (ks.take (i + 1))) (i + 1)) := by
            show Sk _ _ _ _ _ _
            rw [dos_step HK1.out]
            exact HSA.out.ext hd he (does_ok HSA.out.ok _)
          clear hd he k0 k1 k2 k3 k4 s0 s1 s2 s3 s4 HSA
          have HLc := Lib.hid (List_any HST.out.tab (by have := HST.out.ok.len; omega))
          have hbg : (dos T0 (ks.take (i + 1))).begun = (dos T0 (ks.take i)).begun := by rw [dos_step HK1.out, HDO.out]
          have HBG := Lib.hid hbg
          clear hbg
          generalize (dos T0 (ks.take i)).begun = n at *
          go_wp2_with fail
          go_fit HLc.out
          rintro e w4 ⟨u, rfl, ho, hb⟩
          have HS4 := Lib.hid (HST.out.later hb)
          have HSEB := Lib.hid (ho.seb (L := []) (fun k hk => by cases hk))
          have hsl := ho.seb (L := []) (fun k hk => by cases hk)
          obtain ⟨pa, pc, rfl, _⟩ := hsl
          clear ho hb HLc HST
          have hle : ((dos T0 (ks.take (i + 1))).seats.length : Int) ≤ 8 := by have := HS4.out.ok.len; omega
          go_wp2_with fail
          go_fit (sorted_any HSEB.out HS4.out.ok.up (fun s hs => by have := HS4.out.ok.id s hs; have := HS4.out.ok.begun; omega) (by have := HS4.out.ok.len; omega))
          rintro e w5 ⟨rfl, hb⟩
          have HS5 := Lib.hid (HS4.out.later hb)
          clear hb
          go_wp2_with fail
          refine ⟨⟨i + 1, L3, ?_, by simp, hlt, HS5⟩, by show ks.length - ((i : Int) + 1).toNat < ks.length - ((i : Int)).toNat; omega⟩
          rw [HBG.out]
      · obtain rfl : i = ks.length := by omega
        rw [List.take_length] at hst
        go_wp2_with fail
        go_fit (awake_any _)
        rintro e w4 ⟨rfl, hb⟩
        have HB := Lib.hid (hst.out.below.trans (hb.mono hst.out.below.size))
        clear hb
        go_wp2_with fail
        go_ret
        exact ⟨rfl, HB.out⟩
  · have g1 : ¬ ((ks.length : Nat) : Int) ≤ 500 := by omega
    clear hl HK
    go_enter Try.func6, Try.ntmps6
    go_wp2_with fail
    go_fit (awake_any _)
    rintro e w2 ⟨rfl, hb⟩
    have HB := Lib.hid hb
    clear hb
    go_wp2_with fail
    go_ret
    exact ⟨rfl, HB.out⟩
end Go.Proofs.Ytnfpobbdcjfcoaa
