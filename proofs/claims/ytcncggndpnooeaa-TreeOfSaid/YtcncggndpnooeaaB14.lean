/-
  Walks: what leads from any tree to any other one. (Written by gentree14.py.)
-/
import Derived.Test.YtcncggndpnooeaaB13
namespace Go.Proofs.Ytcncggndpnooeaa
set_option linter.unusedVariables false
set_option linter.unusedSimpArgs false
open Go.RowKit

theorem below_grown {w w' : World} (h : Below w.heap.size w w') : w.grownBy w' none := ⟨h.os, h.tape, h.output, h.size, fun k hk _ => h.block k hk⟩
theorem row_below {w w' : World} {B n s : Nat} {E : TypeId} {v : Value} {xs : List Value} (h : w.ownsRow B E s v n xs) (hb : Below w.heap.size w w') : w'.ownsRow B E s v n xs := by
  refine h.kept (below_grown hb) ?_
  cases v.ownBlock with
  | none => exact .inl rfl
  | some g => exact .inr (by simp)
theorem Here.drop {w w' : World} {h : Option Pr} {v : Option Addr} {row : Option Nat} (H : Here w h v) (hg : w.grownBy w' row) (hn : NoKnot w row) : Here w' h v := by
  rcases H with H | ⟨p, a, c, e, K⟩
  · exact .inl H
  · exact .inr ⟨p, a, c, e, (K.drop hg hn).mono hg.size⟩
theorem NoKnot.below {w w' : World} {row : Option Nat} (h : NoKnot w row) (hlt : ∀ g, row = some g → g < w.heap.size) (hb : Below w.heap.size w w') : NoKnot w' row := fun g hg cs hc => h g hg cs ((hb.block g (hlt g hg)).symm.trans hc)

set_option maxRecDepth 100000 in
set_option maxHeartbeats 6400000 in
theorem diff_step {w : World} {B : Nat} {v : Value} {es : List Ev} {b la ra : T} {pa : Pr} {p : Nat} {y : Option Addr} (hB : B ≤ w.heap.size) (hv : w.ownsRow B 72 6 v es.length (evs es)) (hpq : (binOp .eql 77 (.pointer (some ⟨p, 0, none⟩)) (.pointer y)).run Try.prog w = .ok (.bool false) w)
    (ha : Knot w w.heap.size (.node la pa ra) (some ⟨p, 0, none⟩)) (hb : Knot w w.heap.size b y) (ga : Good (.node la pa ra) 500000000) (gb : Good b 500000000) (hs : es.length + (T.node la pa ra).size + b.size ≤ 1073741824)
    (IHl : ∀ (w : World) (v : Value) (es : List Ev) (b : T) (x y : Option Addr), B ≤ w.heap.size → w.ownsRow B 72 6 v es.length (evs es) → Knot w w.heap.size la x → Knot w w.heap.size b y → Good b 500000000 → es.length + la.size + b.size ≤ 1073741824 → Calls Try.prog 76 #[v, .pointer x, .pointer y] w (Diffs B v es la b w))
    (IHr : ∀ (w : World) (v : Value) (es : List Ev) (b : T) (x y : Option Addr), B ≤ w.heap.size → w.ownsRow B 72 6 v es.length (evs es) → Knot w w.heap.size ra x → Knot w w.heap.size b y → Good b 500000000 → es.length + ra.size + b.size ≤ 1073741824 → Calls Try.prog 76 #[v, .pointer x, .pointer y] w (Diffs B v es ra b w)) :
    Calls Try.prog 76 #[v, .pointer (some ⟨p, 0, none⟩), .pointer y] w (Diffs B v es (.node la pa ra) b w) := by
  have HV := Lib.hid hv
  have HBB := Lib.hid hB
  have GA := Lib.hid ga
  have GB := Lib.hid gb
  have Hs := Lib.hid hs
  obtain ⟨p', xl, xr, hp, hbb, c0, c1, c2, c3, c4, c5, kl, kr⟩ := ha
  simp only [Option.some.injEq, Addr.mk.injEq, and_true] at hp
  obtain rfl := hp
  have HS := Lib.hid (split_any pa.1 gb.bal gb.sorted (by have := gb.size; omega) w _ hb)
  have Kl := Lib.hid kl
  have Kr := Lib.hid kr
  have IL := Lib.hid IHl
  have IR0 := Lib.hid IHr
  clear kl kr IHl IHr hv c4 c5 hs ga gb hB hb
  go_enter Try.func76, Try.ntmps76
  go_wp2_with fail
  go_fit HS.out
  rintro e w1 ⟨vl, vh, vm, l, h, m, rfl, P, kl1, hh1, km1, hb1⟩
  have d0 := cell_later hb1 c0
  have d1 := cell_later hb1 c1
  have d2 := cell_later hb1 c2
  have d3 := cell_later hb1 c3
  have HV1 := Lib.hid (row_below HV.out hb1)
  have GL := Lib.hid (P.good_left GB.out)
  have hsz := P.sizes
  have HKm := Lib.hid km1
  have Kr1 := Lib.hid (Kr.out.all hb1)
  have HP := Lib.hid P
  have HB1 := Lib.hid hb1
  have HH := Lib.hid hh1
  have KB1 := Lib.hid ((hbb.later hb1).mono hb1.size)
  have Hs0 := Hs.out
  simp only [T.size] at Hs0
  have HT1 := Lib.hid (IL.out w1 v es l _ _ (Nat.le_trans HBB.out hb1.size) HV1.out (Kl.out.all hb1) kl1 GL.out (by omega))
  have IR : Hid (∀ (w : World) (v : Value) (es : List Ev) (x y : Option Addr), es.length + ra.size + m.size ≤ 1073741824 → B ≤ w.heap.size → w.ownsRow B 72 6 v es.length (evs es) → Knot w w.heap.size ra x → Knot w w.heap.size m y → Calls Try.prog 76 #[v, .pointer x, .pointer y] w (Diffs B v es ra m w)) := fun w v es x y hs hB hv hx hy => IR0.out w v es m x y hB hv hx hy (HP.out.good_right GB.out) hs
  have HszM : Hid (l.size + m.size ≤ b.size) := hsz
  clear kl1 km1 hh1 P hb1 c0 c1 c2 c3 HS IL Kl Kr hpq IR0 Hs0 hsz hbb
  go_wp2_with fail
  go_fit HT1.out
  rintro e w2 ⟨v2, ds2, rfl, hd2, hl2, hown2, hg2, hat2⟩
  obtain ⟨es1, hes1⟩ : ∃ es1, es1 = es ++ ds2 := ⟨_, rfl⟩
  rw [← hes1] at hown2
  obtain ⟨ad1, c1', rfl, hc3, hc4⟩ := row_slice hown2
  have hn0 := row_noknot HV1.out (by decide)
  have hne : some p ≠ v.ownBlock := fun e => by obtain ⟨cs, hc⟩ := KB1.out.2; exact hn0 p e.symm cs hc
  have d0 := hg2.cell d0 hne
  have d1 := hg2.cell d1 hne
  have d3 := hg2.cell d3 hne
  have hn2 := row_noknot hown2 (by decide)
  have hne2 : some p ≠ (Value.slice ad1 es1.length c1').ownBlock := fun e => by obtain ⟨cs, hc⟩ := (KB1.out.drop hg2 hn0).2; exact hn2 p e.symm cs hc
  have Hs2 : Hid (es1.length + 1 + ra.size + m.size ≤ 1073741824) := by have h1 := Hs.out; have h2 := HszM.out; simp only [T.size] at h1; show _ ≤ _; rw [hes1, List.length_append]; omega
  have Hlen : es1.length + 1 ≤ 1073741825 := by have h1 := Hs2.out; omega
  have g0 : w.grownBy w2 v.ownBlock := by
    have h1 : w.grownBy w1 v.ownBlock := ⟨HB1.out.os, HB1.out.tape, HB1.out.output, HB1.out.size, fun k hk _ => HB1.out.block k hk⟩
    exact grown_seq h1 hg2 (.inl rfl)
  have a0 : (Value.slice ad1 es1.length c1').ownBlock = v.ownBlock ∨ ∀ g, (Value.slice ad1 es1.length c1').ownBlock = some g → w.heap.size ≤ g := hat2.imp id (fun e g hg => Nat.le_trans HB1.out.size (e g hg))
  have Hg2 := Lib.hid g0
  have Hat2 := Lib.hid a0
  have Hown2 := Lib.hid hown2
  have Kr2 := Lib.hid ((Kr1.out.drop hg2 hn0).mono hg2.size)
  have HKm2 := Lib.hid ((HKm.out.drop hg2 hn0).mono hg2.size)
  have HH2 := Lib.hid (HH.out.drop hg2 hn0)
  have Hes1 := Lib.hid hes1
  have Hne2 := Lib.hid hne2
  have Hn2 := Lib.hid hn2
  have HB2 := Lib.hid (Nat.le_trans HBB.out g0.size)
  have Hd2 := Lib.hid hd2
  have Hl2 := Lib.hid hl2
  clear hown2 hg2 hat2 hes1 hne hne2 hn2 hl2 hd2 g0 a0 hn0 HV1 HV HKm Kr1 HH KB1 HT1 HB1 HszM HBB GL
  rcases HH2.out with ⟨rfl, rfl⟩ | ⟨ph, a', c', rfl, hkh⟩
  · clear HH2
    go_wp2_with fail
    go_region_law (refine step_pushs (w0 := w2.drew) (by rfl) _ _ 68 72 _ 6 72 (by rfl) Try.underlying68 Try.infoEvent (by rfl) (by decide) B es1.length _ (evs es1) (by rfl) Hown2.out.drew #[.int .i64 0, .string pa.1, .bool true, .string pa.2, .bool false, .string ByteArray.empty] (by rfl) (by simp [Value.oneCell']) (by rfl) Hlen (by decide) HB2.out ?_; intro g3 cap3 w3 hown3 hg3 hat3 hlt3; have hg3' := grown_of_drew hg3; have e3 := hg3'.cell d3 Hne2.out; have HT := Lib.hid (IR.out w3 _ (es1 ++ [⟨pa.1, true, pa.2, false, ByteArray.empty⟩]) _ _ (by rw [List.length_append]; exact Hs2.out) (Nat.le_trans HB2.out hg3'.size) (by rw [evs_app, evs_one, List.length_append]; exact hown3) ((Kr2.out.drop hg3' Hn2.out).mono hg3'.size) ((HKm2.out.drop hg3' Hn2.out).mono hg3'.size)); have Hg3 := Lib.hid hg3'; have Hat3 := Lib.hid hat3; clear hown3 hg3 hat3 hlt3 hg3')
    all_goals
      have HT' : Hid (Calls Try.prog 76 #[.slice (some ⟨g3, 0, none⟩) (es1.length + 1) cap3, .pointer xr, .pointer vm] w3 (Diffs B (.slice (some ⟨g3, 0, none⟩) (es1.length + 1) cap3) (es1 ++ [⟨pa.1, true, pa.2, false, ByteArray.empty⟩]) ra m w3)) := HT.out
      clear HT
      go_wp2_with fail
      go_fit HT'.out
      rintro e w4 ⟨v4, ds4, rfl, hd4, hl4, hown4, hg4, hat4⟩
      have HE : Hid (Diffs B v es (.node la pa ra) b w (.returned v4) w4) := by
        have hat3' : (Value.slice (some ⟨g3, 0, none⟩) (es1.length + 1) cap3).ownBlock = (Value.slice ad1 es1.length c1').ownBlock ∨ ∀ g, (Value.slice (some ⟨g3, 0, none⟩) (es1.length + 1) cap3).ownBlock = some g → w2.heap.size ≤ g := Hat3.out.imp (fun e => e.symm) (fun e g hg => by simp [Value.ownBlock] at hg; have e' : w2.heap.size ≤ g3 := e; omega)
        have a3 := at_seq Hg2.out.size Hat2.out hat3'
        have g13 := grown_seq Hg2.out Hg3.out Hat2.out
        refine ⟨v4, _, rfl, T.diffed_step GA.out.sorted GB.out.sorted (T.parted_here GA.out.bal GA.out.sorted) HP.out (.inl rfl) Hd2.out hd4, ?_, ?_, grown_seq g13 hg4 a3, at_seq g13.size a3 hat4⟩
        · have h1 := Hl2.out
          have h2 := HP.out.sizes
          have h3 : (ev pa.1 (Option.map (fun q : Pr => q.2) (some pa)) (Option.map (fun q : Pr => q.2) none)).toList = [⟨pa.1, true, pa.2, false, ByteArray.empty⟩] := by simp [ev]
          simp only [List.length_append, h3, List.length_cons, List.length_nil, T.size]
          omega
        · have h3 : (ev pa.1 (Option.map (fun q : Pr => q.2) (some pa)) (Option.map (fun q : Pr => q.2) none)).toList = [⟨pa.1, true, pa.2, false, ByteArray.empty⟩] := by simp [ev]
          have : es ++ (ds2 ++ ((ev pa.1 (Option.map (fun q : Pr => q.2) (some pa)) (Option.map (fun q : Pr => q.2) none)).toList ++ ds4)) = es1 ++ [⟨pa.1, true, pa.2, false, ByteArray.empty⟩] ++ ds4 := by rw [h3, Hes1.out]; simp
          rw [this]
          exact hown4
      clear hown4 hg4 hat4 hd4 hl4
      go_wp2_with fail
      go_ret
      exact HE.out

  · obtain ⟨bh, _, _, rfl, kbh, f0, f1, f2, f3, f4, f5, _, _⟩ := hkh
    have hneh : Hid (some bh ≠ (Value.slice ad1 es1.length c1').ownBlock) := fun e => by obtain ⟨cs, hc⟩ := kbh.2; exact Hn2.out bh e.symm cs hc
    by_cases hval : ph.2 = pa.2
    · have hv1 : (ph.2.toList == pa.2.toList) = true := by rw [ba_eq]; simp [hval]
      go_wp2_with fail
      go_region_held3 (fun V => V.cell? ⟨bh, 1, none⟩ = some (.string ph.2) ∧ V.cell? ⟨p, 1, none⟩ = some (.string pa.2)) (go_keep) (fail)
      go_wp2_with fail
      have HT := Lib.hid (IR.out w2.drew _ es1 _ _ (by have h1 := Hs2.out; omega) HB2.out Hown2.out.drew Kr2.out.drew HKm2.out.drew)
      clear Hown2 IR Kr2 HKm2
      go_fit HT.out
      rintro e w4 ⟨v4, ds4, rfl, hd4, hl4, hown4, hg4, hat4⟩
      have HE : Hid (Diffs B v es (.node la pa ra) b w (.returned v4) w4) := by
        have hg4' := grown_of_drew hg4
        have hat4' : v4.ownBlock = (Value.slice ad1 es1.length c1').ownBlock ∨ ∀ g, v4.ownBlock = some g → w2.heap.size ≤ g := hat4
        refine ⟨v4, _, rfl, T.diffed_step GA.out.sorted GB.out.sorted (T.parted_here GA.out.bal GA.out.sorted) HP.out (.inl rfl) Hd2.out hd4, ?_, ?_, grown_seq Hg2.out hg4' Hat2.out, at_seq Hg2.out.size Hat2.out hat4'⟩
        · have h1 := Hl2.out
          have h2 := HP.out.sizes
          have h3 : (ev pa.1 (Option.map (fun q : Pr => q.2) (some pa)) (Option.map (fun q : Pr => q.2) (some ph))).toList = [] := by simp [ev, hval]
          simp only [List.length_append, h3, List.length_nil, T.size]
          omega
        · have h3 : (ev pa.1 (Option.map (fun q : Pr => q.2) (some pa)) (Option.map (fun q : Pr => q.2) (some ph))).toList = [] := by simp [ev, hval]
          have : es ++ (ds2 ++ ((ev pa.1 (Option.map (fun q : Pr => q.2) (some pa)) (Option.map (fun q : Pr => q.2) (some ph))).toList ++ ds4)) = es1 ++ ds4 := by rw [h3, Hes1.out]; simp
          rw [this]
          exact hown4
      clear hown4 hg4 hat4 hd4 hl4
      go_wp2_with fail
      go_ret
      exact HE.out

    · have hv1 : (ph.2.toList == pa.2.toList) = false := by rw [ba_eq]; simp [hval]
      go_wp2_with fail
      go_region_held3 (fun V => V.cell? ⟨bh, 1, none⟩ = some (.string ph.2) ∧ V.cell? ⟨p, 1, none⟩ = some (.string pa.2)) (go_keep) (fail)
      go_wp2_with fail
      go_region_law (refine step_pushs (w0 := w2.drew.drew) (by rfl) _ _ 68 72 _ 6 72 (by rfl) Try.underlying68 Try.infoEvent (by rfl) (by decide) B es1.length _ (evs es1) (by rfl) Hown2.out.drew.drew #[.int .i64 0, .string pa.1, .bool true, .string pa.2, .bool true, .string ph.2] (by rfl) (by simp [Value.oneCell']) (by rfl) Hlen (by decide) HB2.out ?_; intro g3 cap3 w3 hown3 hg3 hat3 hlt3; have hg3' := grown_of_drew (grown_of_drew hg3); have e3 := hg3'.cell d3 Hne2.out; have HT := Lib.hid (IR.out w3 _ (es1 ++ [⟨pa.1, true, pa.2, true, ph.2⟩]) _ _ (by rw [List.length_append]; exact Hs2.out) (Nat.le_trans HB2.out hg3'.size) (by rw [evs_app, evs_one, List.length_append]; exact hown3) ((Kr2.out.drop hg3' Hn2.out).mono hg3'.size) ((HKm2.out.drop hg3' Hn2.out).mono hg3'.size)); have Hg3 := Lib.hid hg3'; have Hat3 := Lib.hid hat3; clear hown3 hg3 hat3 hlt3 hg3')
      all_goals
        have HT' : Hid (Calls Try.prog 76 #[.slice (some ⟨g3, 0, none⟩) (es1.length + 1) cap3, .pointer xr, .pointer vm] w3 (Diffs B (.slice (some ⟨g3, 0, none⟩) (es1.length + 1) cap3) (es1 ++ [⟨pa.1, true, pa.2, true, ph.2⟩]) ra m w3)) := HT.out
        clear HT
        go_wp2_with fail
        go_fit HT'.out
        rintro e w4 ⟨v4, ds4, rfl, hd4, hl4, hown4, hg4, hat4⟩
        have HE : Hid (Diffs B v es (.node la pa ra) b w (.returned v4) w4) := by
          have hat3' : (Value.slice (some ⟨g3, 0, none⟩) (es1.length + 1) cap3).ownBlock = (Value.slice ad1 es1.length c1').ownBlock ∨ ∀ g, (Value.slice (some ⟨g3, 0, none⟩) (es1.length + 1) cap3).ownBlock = some g → w2.heap.size ≤ g := Hat3.out.imp (fun e => e.symm) (fun e g hg => by simp [Value.ownBlock] at hg; have e' : w2.heap.size ≤ g3 := e; omega)
          have a3 := at_seq Hg2.out.size Hat2.out hat3'
          have g13 := grown_seq Hg2.out Hg3.out Hat2.out
          refine ⟨v4, _, rfl, T.diffed_step GA.out.sorted GB.out.sorted (T.parted_here GA.out.bal GA.out.sorted) HP.out (.inl rfl) Hd2.out hd4, ?_, ?_, grown_seq g13 hg4 a3, at_seq g13.size a3 hat4⟩
          · have h1 := Hl2.out
            have h2 := HP.out.sizes
            have h3 : (ev pa.1 (Option.map (fun q : Pr => q.2) (some pa)) (Option.map (fun q : Pr => q.2) (some ph))).toList = [⟨pa.1, true, pa.2, true, ph.2⟩] := by have h9 : ¬ pa.2 = ph.2 := fun e => hval e.symm; simp [ev, h9]
            simp only [List.length_append, h3, List.length_cons, List.length_nil, T.size]
            omega
          · have h3 : (ev pa.1 (Option.map (fun q : Pr => q.2) (some pa)) (Option.map (fun q : Pr => q.2) (some ph))).toList = [⟨pa.1, true, pa.2, true, ph.2⟩] := by have h9 : ¬ pa.2 = ph.2 := fun e => hval e.symm; simp [ev, h9]
            have : es ++ (ds2 ++ ((ev pa.1 (Option.map (fun q : Pr => q.2) (some pa)) (Option.map (fun q : Pr => q.2) (some ph))).toList ++ ds4)) = es1 ++ [⟨pa.1, true, pa.2, true, ph.2⟩] ++ ds4 := by rw [h3, Hes1.out]; simp
            rw [this]
            exact hown4
        clear hown4 hg4 hat4 hd4 hl4
        go_wp2_with fail
        go_ret
        exact HE.out

theorem diff_any (B : Nat) : ∀ {a : T}, Good a 500000000 → ∀ (w : World) (v : Value) (es : List Ev) (b : T) (x y : Option Addr), B ≤ w.heap.size → w.ownsRow B 72 6 v es.length (evs es) → Knot w w.heap.size a x → Knot w w.heap.size b y → Good b 500000000 → es.length + a.size + b.size ≤ 1073741824 →
    Calls Try.prog 76 #[v, .pointer x, .pointer y] w (Diffs B v es a b w)
  | .nil, ga, w, v, es, b, x, y, hB, hv, ha, hb, gb, hs => by
    obtain rfl : x = none := ha
    exact diff_nil_any B gb w v es y hB hv hb (by simp only [T.size] at hs; omega)
  | .node la pa ra, ga, w, v, es, b, x, y, hB, hv, ha, hb, gb, hs => by
    obtain ⟨p, rfl⟩ := knot_some ha
    by_cases hpq : y = some ⟨p, 0, none⟩
    · subst hpq
      rw [← ha.one hb]
      exact diff_same hv ha
    · refine diff_step hB hv ?_ ha hb ga gb hs (fun w v es b x y hB hv h1 h2 g hs => diff_any B ga.left w v es b x y hB hv h1 h2 g hs) (fun w v es b x y hB hv h1 h2 g hs => diff_any B ga.right w v es b x y hB hv h1 h2 g hs)
      cases b with
      | nil =>
        obtain rfl : y = none := hb
        exact run_eql_pointer_nil (P := Try.prog) w 77 _ (by kernel_rfl)
      | node lb pb rb =>
        obtain ⟨q, rfl⟩ := knot_some hb
        have hap : KB w w.heap.size p := by obtain ⟨p', _, _, hp, h, _⟩ := ha; simp only [Option.some.injEq, Addr.mk.injEq, and_true] at hp; rw [hp]; exact h
        have hbq : KB w w.heap.size q := by obtain ⟨p', _, _, hp, h, _⟩ := hb; simp only [Option.some.injEq, Addr.mk.injEq, and_true] at hp; rw [hp]; exact h
        exact knots_other w (fun e => hpq (by rw [e])) hap hbq
end Go.Proofs.Ytcncggndpnooeaa
