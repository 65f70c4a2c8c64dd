/-
  Walks: pairs put behind a list, from a key on.
-/
import Derived.Test.YtdfjnpnkfjcpcaaTB11
import Derived.Deep.RegionLaw
import Derived.Deep.AppendLies
namespace Go.Proofs.Ytdfjnpnkfjcpcaa
set_option linter.unusedVariables false
set_option linter.unusedSimpArgs false
open Go.RowKit

theorem Try.infoPair : (Try.prog.info? 87).map (fun i => (i.zero, i.size, i.bytes)) = some (some (.agg #[.string ByteArray.empty, .string ByteArray.empty]), 2, 32) := by kernel_rfl

/-- The cells of pairs. -/
def prs : List Pr → List Value
  | [] => []
  | p :: l => .string p.1 :: .string p.2 :: prs l
theorem prs_app (a b : List Pr) : prs (a ++ b) = prs a ++ prs b := by
  induction a with
  | nil => rfl
  | cons p a ih => simp [prs, ih]
theorem prs_length (a : List Pr) : (prs a).length = a.length * 2 := by
  induction a with
  | nil => rfl
  | cons p a ih => simp [prs, ih]; omega
theorem row_slice {w : World} {B n s : Nat} {E : TypeId} {v : Value} {xs : List Value} (h : w.ownsRow B E s v n xs) : ∃ a c, v = .slice a n c ∧ n ≤ c ∧ c ≤ maxLen := by
  rcases h.2 with ⟨rfl, rfl⟩ | ⟨g, cap, cur, rfl, _, _, h1, h2, _⟩
  · exact ⟨none, 0, rfl, Nat.le_refl _, by decide⟩
  · exact ⟨_, cap, rfl, h1, h2⟩
/-- A row's block is no knot's. -/
def NoKnot (w : World) (row : Option Nat) : Prop := ∀ g, row = some g → ∀ cs, w.heap[g]? ≠ some (.cells cs 119 (0, 0))
theorem row_noknot {w : World} {B n s : Nat} {E : TypeId} {v : Value} {xs : List Value} (h : w.ownsRow B E s v n xs) (hE : E ≠ 119) : NoKnot w v.ownBlock := by
  intro g hg cs hc
  rcases h.2 with ⟨rfl, rfl⟩ | ⟨g', cap, cur, rfl, _, hh, _⟩
  · cases hg
  · obtain rfl : g' = g := by simpa [Value.ownBlock] using hg
    rw [hh] at hc
    simp only [Option.some.injEq, Obj.cells.injEq] at hc
    exact hE hc.2.1
theorem KB.drop {w w' : World} {B b : Nat} {row : Option Nat} (h : KB w B b) (hg : w.grownBy w' row) (hn : NoKnot w row) : KB w' B b := by
  obtain ⟨h1, cs, hc⟩ := h
  have hlt : b < w.heap.size := by
    by_cases e : b < w.heap.size
    · exact e
    · rw [Array.getElem?_eq_none (by omega)] at hc; cases hc
  exact ⟨h1, cs, (hg.block b hlt (fun e => hn b e.symm cs hc)).trans hc⟩
theorem Knot.drop {w w' : World} {B : Nat} {row : Option Nat} (hg : w.grownBy w' row) (hn : NoKnot w row) : ∀ {t : T} {v : Option Addr}, Knot w B t v → Knot w' B t v
  | .nil, _, h => h
  | .node l p r, _, ⟨b, x, y, hv, hB, h0, h1, h2, h3, h4, h5, hl, hr⟩ =>
    have hne : some b ≠ row := fun e => by obtain ⟨cs, hc⟩ := hB.2; exact hn b e.symm cs hc
    ⟨b, x, y, hv, hB.drop hg hn, hg.cell h0 hne, hg.cell h1 hne, hg.cell h2 hne, hg.cell h3 hne, hg.cell h4 hne, hg.cell h5 hne, hl.drop hg hn, hr.drop hg hn⟩
/-- What a call leaves that put pairs behind an owned list. -/
def Scanned (B : Nat) (v : Value) (xs : List Pr) (w : World) (e : Ending) (w' : World) : Prop :=
  ∃ v', e = .returned v' ∧ w'.ownsRow B 87 2 v' xs.length (prs xs) ∧ w.grownBy w' v.ownBlock ∧ (v'.ownBlock = v.ownBlock ∨ ∀ g, v'.ownBlock = some g → w.heap.size ≤ g)
theorem grown_refl (w : World) (row : Option Nat) : w.grownBy w row := ⟨rfl, rfl, rfl, Nat.le_refl _, fun _ _ _ => rfl⟩

theorem within_of {a b : ByteArray} {p : Pr} (ha : klt p.1 a = false) (hb : (decide (b = ByteArray.empty) || klt p.1 b) = true) : within a b p = true := by simp only [within, ha, hb]; rfl
theorem scan_on {ps l r : List Pr} {p : Pr} {a b : ByteArray} {m : Int} (hw : within a b p = true) (h1 : (ps.length : Int) < m) {ps1 : List Pr} (he : ps1 = ps ++ scn l a b (m - ps.length).toNat) :
    ((ps1.length : Int) < m → ps ++ scn (l ++ p :: r) a b (m - ps.length).toNat = (ps1 ++ [p]) ++ scn r a b (m - ((ps1 ++ [p]).length : Nat)).toNat) ∧
    (m ≤ (ps1.length : Int) → ps ++ scn (l ++ p :: r) a b (m - ps.length).toNat = ps1 ++ scn r a b (m - (ps1.length : Nat)).toNat) := by
  subst he
  rw [scn_mid, if_pos hw]
  simp only [List.length_append, List.length_cons, List.length_nil]
  constructor
  · intro h
    obtain ⟨j, hj⟩ : ∃ j, (m - ps.length).toNat - (scn l a b (m - ps.length).toNat).length = j + 1 := ⟨(m - ps.length).toNat - (scn l a b (m - ps.length).toNat).length - 1, by omega⟩
    have hj2 : (m - ((ps.length + (scn l a b (m - ps.length).toNat).length + (0 + 1) : Nat) : Int)).toNat = j := by omega
    rw [hj, hj2]
    simp
  · intro h
    have hj : (m - ps.length).toNat - (scn l a b (m - ps.length).toNat).length = 0 := by omega
    have hj2 : (m - ((ps.length + (scn l a b (m - ps.length).toNat).length : Nat) : Int)).toNat = 0 := by omega
    rw [hj, hj2]
    simp [scn]
theorem scan_off {ps l r : List Pr} {p : Pr} {a b : ByteArray} {m : Int} (hw : within a b p = false) (h1 : (ps.length : Int) < m) {ps1 : List Pr} (he : ps1 = ps ++ scn l a b (m - ps.length).toNat) :
    ps ++ scn (l ++ p :: r) a b (m - ps.length).toNat = ps1 ++ scn r a b (m - (ps1.length : Nat)).toNat := by
  subst he
  rw [scn_mid, if_neg (by simp [hw])]
  simp only [List.length_append, List.take_nil, List.length_nil, List.nil_append]
  rw [show (m - ((ps.length + (scn l a b (m - ps.length).toNat).length : Nat) : Int)).toNat = (m - ps.length).toNat - (scn l a b (m - ps.length).toNat).length - 0 from by omega]
  simp
theorem off_left {l : T} {p : Pr} {r : T} (hs : Sorted (T.node l p r).list) {a b : ByteArray} (h : klt p.1 a = true) (m : Nat) : scn l.list a b m = [] :=
  scn_none (fun q hq => by simp [within, klt_trans ((T.node_sorted hs).2.2.1 q hq) h]) m
theorem off_right {l : T} {p : Pr} {r : T} (hs : Sorted (T.node l p r).list) {a b : ByteArray} (hb : (decide (b = ByteArray.empty) || klt p.1 b) = false) (m : Nat) : scn r.list a b m = [] := by
  simp only [Bool.or_eq_false_iff, decide_eq_false_iff_not] at hb
  refine scn_none (fun q hq => ?_) m
  have h1 := (T.node_sorted hs).2.2.2 q hq
  have h2 : klt q.1 b = false := by
    cases e : klt q.1 b
    · rfl
    · have := klt_trans h1 e; rw [hb.2] at this; cases this
  simp [within, hb.1, h2]
theorem scn_length (l : List Pr) (a b : ByteArray) (m : Nat) : (scn l a b m).length ≤ l.length := by
  simp only [scn, List.length_take]
  have := List.length_filter_le (within a b) l
  omega

/-- 'append(l, x)', x a struct in a new block of its own. -/
theorem wpList_pushs {P : Program} {w0 : World} {ops : Array Oper} {rest : List Oper} {o : Oper} {a : Act} {Q : Exit → Act → World → Prop} (hgd : o.guard = none) (s x : Operand) (T E : TypeId) (zero : Value) (size bytes : Nat)
    (ho : o.op = .call { callee := .builtin .append, args := #[s, x], argTypes := #[T, T] })
    (hT : P.underlying T = some (.slice E)) (hinfo : (P.info? E).map (fun i => (i.zero, i.size, i.bytes)) = some (some zero, size, bytes)) (hz : zero.cells.size = size) (hsz : 0 < size)
    (B n : Nat) (v : Value) (xs : List Value) (hs : a.eval s = v) (hown : w0.ownsRow B E size v n xs)
    (us : Array Value) (hul : us.size = size) (hu : ∀ u ∈ us.toList, u.oneCell' = true) (hx : a.eval x = .slice (some ⟨w0.heap.size, 0, none⟩) 1 1) (h63 : n + 1 ≤ 1073741825) (hb : bytes ≤ 65536) (hB : B ≤ w0.heap.size)
    (h : ∀ g c w', w'.ownsRow B E size (.slice (some ⟨g, 0, none⟩) (n + 1) c) (n + 1) (xs ++ us.toList) → w0.grownBy w' v.ownBlock → (v.ownBlock = some g ∨ w0.heap.size ≤ g) → w0.heap.size < w'.heap.size → wpList P ops Q rest (a.put o.dst (.slice (some ⟨g, 0, none⟩) (n + 1) c)) w') :
    wpList P ops Q (o :: rest) a (w0.alloc (.cells us E)) := by
  obtain ⟨i0, hi, hz0, hz1, hz2⟩ := info_parts hinfo
  have hwz : (w0.alloc (.cells us E)).heap.size = w0.heap.size + 1 := by simp
  refine wpList_append_lies _ hgd s x T ho B E i0 zero size bytes hT hi hz0 hz1 hz2 hz hsz v n xs hs (hown.alloc _) ⟨w0.heap.size, 0, none⟩ 1 1 us.toList hx (by simp [hul]) (World.news_of_block (Go.heap_alloc_new w0 _)) hu (by omega) (by unfold maxLen; omega)
    (Nat.le_trans (Nat.mul_le_mul h63 hb) (by decide)) (by omega) (w0.heap.size + 1) hwz ?_
  intro g cap w' hown' hgrow hat hlt
  have hg0 : w0.grownBy w' v.ownBlock := ⟨hgrow.os, hgrow.tape, hgrow.output, by have := hgrow.size; omega, fun k hk hne => (hgrow.block k (by omega) hne).trans (Below.heap_alloc _ _ _ hk)⟩
  exact h g cap w' hown' hg0 (hat.imp id (fun e => by omega)) (by have := hgrow.size; omega)

theorem grown_seq {w w1 w2 : World} {r1 r2 : Option Nat} (h1 : w.grownBy w1 r1) (h2 : w1.grownBy w2 r2) (hr : r2 = r1 ∨ ∀ g, r2 = some g → w.heap.size ≤ g) : w.grownBy w2 r1 :=
  ⟨h2.os.trans h1.os, h2.tape.trans h1.tape, h2.output.trans h1.output, Nat.le_trans h1.size h2.size, fun k hk hne => (h2.block k (Nat.lt_of_lt_of_le hk h1.size) (fun e => by
    rcases hr with rfl | hr
    · exact hne e
    · exact absurd (hr k e.symm) (Nat.not_le_of_lt hk))).trans (h1.block k hk hne)⟩
theorem at_seq {w w1 : World} {r1 r2 r3 : Option Nat} (hs : w.heap.size ≤ w1.heap.size) (h1 : r2 = r1 ∨ ∀ g, r2 = some g → w.heap.size ≤ g) (h2 : r3 = r2 ∨ ∀ g, r3 = some g → w1.heap.size ≤ g) : r3 = r1 ∨ ∀ g, r3 = some g → w.heap.size ≤ g := by
  rcases h2 with rfl | h2
  · exact h1
  · exact .inr fun g hg => Nat.le_trans hs (h2 g hg)
theorem grown_drew {w w' : World} {row : Option Nat} (h : w.grownBy w' row) : w.grownBy w'.drew row := ⟨h.os, h.tape, h.output, h.size, h.block⟩

set_option maxRecDepth 100000 in
set_option maxHeartbeats 3200000 in
theorem scan_none {w : World} {B : Nat} {v : Value} {ps : List Pr} {x : Option Addr} (a b : ByteArray) (m : Int) (hv : w.ownsRow B 87 2 v ps.length (prs ps)) (hx : x = none ∨ m ≤ (ps.length : Nat)) :
    Calls Try.prog 86 #[v, .pointer x, .string a, .string b, .int .i64 m] w (Scanned B v ps w) := by
  obtain ⟨ad, c, rfl, hc1, hc2⟩ := row_slice hv
  have HV := Lib.hid hv
  clear hv
  rcases hx with rfl | hx
  · go_enter Try.func86, Try.ntmps86
    go_wp2_with fail
    go_ret
    exact ⟨_, rfl, HV.out, grown_refl _ _, .inl rfl⟩
  · cases x with
    | none =>
      go_enter Try.func86, Try.ntmps86
      go_wp2_with fail
      go_ret
      exact ⟨_, rfl, HV.out, grown_refl _ _, .inl rfl⟩
    | some p =>
      go_enter Try.func86, Try.ntmps86
      go_wp2_with fail
      go_ret
      exact ⟨_, rfl, HV.out, grown_refl _ _, .inl rfl⟩

set_option maxRecDepth 100000 in
set_option maxHeartbeats 3200000 in
theorem scan_tt {w : World} {B : Nat} {v : Value} {ps : List Pr} {l r : T} {p : Pr} {x : Option Addr} (a b : ByteArray) (m : Int) (hv : w.ownsRow B 87 2 v ps.length (prs ps)) (hk : Knot w w.heap.size (.node l p r) x) (hB : B ≤ w.heap.size) (hm : (ps.length : Nat) < m) (hs : ps.length + (T.node l p r).size ≤ 1073741824) (hso : Sorted (T.node l p r).list)
    (ha : klt p.1 a = false) (hb : (decide (b = ByteArray.empty) || klt p.1 b) = true)
    (IHl : ∀ (w : World) (v : Value) (ps : List Pr) (x : Option Addr), B ≤ w.heap.size → w.ownsRow B 87 2 v ps.length (prs ps) → Knot w w.heap.size l x → ps.length + l.size ≤ 1073741824 → Calls Try.prog 86 #[v, .pointer x, .string a, .string b, .int .i64 m] w (Scanned B v (ps ++ scn l.list a b (m - ps.length).toNat) w))
    (IHr : ∀ (w : World) (v : Value) (ps : List Pr) (x : Option Addr), B ≤ w.heap.size → w.ownsRow B 87 2 v ps.length (prs ps) → Knot w w.heap.size r x → ps.length + r.size ≤ 1073741824 → Calls Try.prog 86 #[v, .pointer x, .string a, .string b, .int .i64 m] w (Scanned B v (ps ++ scn r.list a b (m - ps.length).toNat) w)) :
    Calls Try.prog 86 #[v, .pointer x, .string a, .string b, .int .i64 m] w (Scanned B v (ps ++ scn (T.node l p r).list a b (m - ps.length).toNat) w) := by
  obtain ⟨ad, c, rfl, hc1, hc2⟩ := row_slice hv
  have Hn := Lib.hid (row_noknot hv (by decide))
  have HA := Lib.hid ha
  have HB := Lib.hid hb
  have HBB := Lib.hid hB
  have HSO := Lib.hid hso
  have HM := Lib.hid hm
  obtain ⟨b', xl, xr, rfl, hbb, c0, c1, c2, c3, c4, c5, kl, kr⟩ := hk
  have HI := Lib.hid (IHl _ _ _ _ hB hv kl (by simp only [T.size] at hs; omega))
  have hfa : (Go.Op.bytesLess a.toList p.1.toList || (a.toList == p.1.toList)) = true := by
    rw [ba_eq]
    rcases klt_le ha with e | e
    · simp [e]
    · have e' : Go.Op.bytesLess a.toList p.1.toList = true := e
      simp [e']
  have hfb : b.toList = [] ∨ (¬ b.toList = [] ∧ Go.Op.bytesLess p.1.toList b.toList = true) := by
    by_cases e : b.toList = []
    · exact .inl e
    · have : b ≠ ByteArray.empty := fun h => e (by rw [h]; exact ba_list _)
      simp only [this, decide_false, Bool.false_or] at hb
      exact .inr ⟨e, hb⟩
  have Kr := Lib.hid kr
  have IR := Lib.hid IHr
  have Hs := Lib.hid hs
  clear kl kr IHl IHr hv c4 c5 hs hc2 ha hb hB hso
  rcases hfb with hbe | ⟨hbe, hbl⟩
  all_goals
    go_enter Try.func86, Try.ntmps86
    go_wp2_with fail
    go_fit HI.out
    rintro e w1 ⟨v1, rfl, hown1, hg1, hat1⟩
    obtain ⟨ps1, hps1⟩ : ∃ ps1, ps1 = ps ++ scn l.list a b (m - ps.length).toNat := ⟨_, rfl⟩
    rw [← hps1] at hown1
    obtain ⟨ad1, c1', rfl, hc3, hc4⟩ := row_slice hown1
    have hne : some b' ≠ (Value.slice ad ps.length c).ownBlock := fun e => by obtain ⟨cs, hc⟩ := hbb.2; exact Hn.out b' e.symm cs hc
    have d0 := hg1.cell c0 hne
    have d1 := hg1.cell c1 hne
    have d3 := hg1.cell c3 hne
    have hn1 := row_noknot hown1 (by decide)
    have hne1 : some b' ≠ (Value.slice ad1 ps1.length c1').ownBlock := fun e => by obtain ⟨cs, hc⟩ := (hbb.drop hg1 Hn.out).2; exact hn1 b' e.symm cs hc
    have hB1 : B ≤ w1.heap.size := Nat.le_trans HBB.out hg1.size
    have hl1 : ps1.length ≤ ps.length + l.size := by
      have := scn_length l.list a b (m - ps.length).toNat
      rw [T.size_list] at this
      rw [hps1, List.length_append]; omega
    have Hs1 : Hid (ps1.length + 1 + r.size ≤ 1073741824) := by have h1 := Hs.out; simp only [T.size] at h1; show _ ≤ _; omega
    have Hlen : ps1.length + 1 ≤ 1073741825 := by have h1 := Hs1.out; omega
    have Hg1 := Lib.hid hg1
    have Hown1 := Lib.hid hown1
    have Hat1 := Lib.hid hat1
    have kr1 := (Kr.out.drop hg1 Hn.out).mono hg1.size
    have Kr1 := Lib.hid kr1
    have Hps1 := Lib.hid hps1
    have Hne1 := Lib.hid hne1
    have Hn1 := Lib.hid hn1
    have HB1 := Lib.hid hB1
    have HT0 := Lib.hid (IR.out w1 _ ps1 _ hB1 hown1 kr1 (by have h1 := Hs1.out; omega))
    clear hown1 hg1 hat1 hps1 c0 c1 c2 c3 HI hne Kr hbb kr1 hne1 hn1 hl1 hB1 hm
    by_cases hfull : (ps1.length : Int) < m
    · go_wp2_with (at_builtin; go_loud (refine wpList_pushs rfl _ _ 85 87 _ 2 32 rfl Try.underlying85 Try.infoPair rfl (by decide) B ps1.length _ (prs ps1) rfl Hown1.out #[.string p.1, .string p.2] rfl (by simp [Value.oneCell']) rfl Hlen (by decide) HB1.out ?_; intro g2 cap2 w2 hown2 hg2 hat2 hlt2; have d3' := hg2.cell d3 Hne1.out; have HT := Lib.hid (IR.out w2 _ (ps1 ++ [p]) _ (Nat.le_trans HB1.out hg2.size) (by rw [prs_app, List.length_append]; exact hown2) ((Kr1.out.drop hg2 Hn1.out).mono hg2.size) (by rw [List.length_append]; exact Hs1.out)); have Hg2 := Lib.hid hg2; have Hat2 := Lib.hid hat2; clear hown2 hg2 hat2 hlt2 HT0))
      have HT' : Hid (Calls Try.prog 86 #[.slice (some ⟨g2, 0, none⟩) (ps1.length + 1) cap2, .pointer xr, .string a, .string b, .int .i64 m] w2 (Scanned B (.slice (some ⟨g2, 0, none⟩) (ps1.length + 1) cap2) (ps1 ++ [p] ++ scn r.list a b (m - (ps1 ++ [p]).length).toNat) w2)) := HT.out
      clear HT
      go_fit HT'.out
      rintro e w3 ⟨v3, rfl, hown3, hg3, hat3⟩
      have HE : Hid (Scanned B (Value.slice ad ps.length c) (ps ++ scn (T.node l p r).list a b (m - ps.length).toNat) w (.returned v3) w3) := by
        have hat2' : (Value.slice (some ⟨g2, 0, none⟩) (ps1.length + 1) cap2).ownBlock = (Value.slice ad1 ps1.length c1').ownBlock ∨ ∀ g, (Value.slice (some ⟨g2, 0, none⟩) (ps1.length + 1) cap2).ownBlock = some g → w1.heap.size ≤ g := Hat2.out.imp (fun e => e.symm) (fun e g hg => by simp [Value.ownBlock] at hg; omega)
        have a2 := at_seq Hg1.out.size Hat1.out hat2'
        have g12 := grown_seq Hg1.out Hg2.out Hat1.out
        refine ⟨v3, rfl, ?_, grown_seq g12 hg3 a2, at_seq g12.size a2 hat3⟩
        have := (scan_on (r := r.list) (within_of HA.out HB.out) HM.out Hps1.out).1 hfull
        rw [show (T.node l p r).list = l.list ++ p :: r.list from rfl, this]
        exact hown3
      clear hown3 hg3 hat3
      go_wp2_with fail
      go_ret
      exact HE.out
    · have hfull' : m ≤ (ps1.length : Int) := by omega
      go_wp2_with fail
      go_fit HT0.out
      rintro e w3 ⟨v3, rfl, hown3, hg3, hat3⟩
      have HE : Hid (Scanned B (Value.slice ad ps.length c) (ps ++ scn (T.node l p r).list a b (m - ps.length).toNat) w (.returned v3) w3) := by
        refine ⟨v3, rfl, ?_, grown_seq Hg1.out hg3 Hat1.out, at_seq Hg1.out.size Hat1.out hat3⟩
        have := (scan_on (r := r.list) (within_of HA.out HB.out) HM.out Hps1.out).2 hfull'
        rw [show (T.node l p r).list = l.list ++ p :: r.list from rfl, this]
        exact hown3
      clear hown3 hg3 hat3
      go_wp2_with fail
      go_ret
      exact HE.out

set_option maxRecDepth 100000 in
set_option maxHeartbeats 3200000 in
theorem scan_tf {w : World} {B : Nat} {v : Value} {ps : List Pr} {l r : T} {p : Pr} {x : Option Addr} (a b : ByteArray) (m : Int) (hv : w.ownsRow B 87 2 v ps.length (prs ps)) (hk : Knot w w.heap.size (.node l p r) x) (hB : B ≤ w.heap.size) (hm : (ps.length : Nat) < m) (hs : ps.length + (T.node l p r).size ≤ 1073741824) (hso : Sorted (T.node l p r).list)
    (ha : klt p.1 a = false) (hb : (decide (b = ByteArray.empty) || klt p.1 b) = false)
    (IHl : ∀ (w : World) (v : Value) (ps : List Pr) (x : Option Addr), B ≤ w.heap.size → w.ownsRow B 87 2 v ps.length (prs ps) → Knot w w.heap.size l x → ps.length + l.size ≤ 1073741824 → Calls Try.prog 86 #[v, .pointer x, .string a, .string b, .int .i64 m] w (Scanned B v (ps ++ scn l.list a b (m - ps.length).toNat) w)) :
    Calls Try.prog 86 #[v, .pointer x, .string a, .string b, .int .i64 m] w (Scanned B v (ps ++ scn (T.node l p r).list a b (m - ps.length).toNat) w) := by
  obtain ⟨ad, c, rfl, hc1, hc2⟩ := row_slice hv
  have Hn := Lib.hid (row_noknot hv (by decide))
  have HA := Lib.hid ha
  have HB := Lib.hid hb
  have HBB := Lib.hid hB
  have HSO := Lib.hid hso
  have HM := Lib.hid hm
  obtain ⟨b', xl, xr, rfl, hbb, c0, c1, c2, c3, c4, c5, kl, kr⟩ := hk
  have HI := Lib.hid (IHl _ _ _ _ hB hv kl (by simp only [T.size] at hs; omega))
  have hfa : (Go.Op.bytesLess a.toList p.1.toList || (a.toList == p.1.toList)) = true := by
    rw [ba_eq]
    rcases klt_le ha with e | e
    · simp [e]
    · have e' : Go.Op.bytesLess a.toList p.1.toList = true := e
      simp [e']
  have hfb : ¬ b.toList = [] ∧ Go.Op.bytesLess p.1.toList b.toList = false := by
    simp only [Bool.or_eq_false_iff, decide_eq_false_iff_not] at hb
    exact ⟨fun e => hb.1 (ba_inj (by rw [e, ba_list]; rfl)), hb.2⟩
  obtain ⟨hbe, hbl⟩ := hfb
  have hbe2 : b.toList.isEmpty = false := by simpa using hbe
  clear kl kr IHl hv c4 c5 hs hc2 ha hb hB hso
  go_enter Try.func86, Try.ntmps86
  go_wp2_with fail
  all_goals
    go_fit HI.out
    rintro e w1 ⟨v1, rfl, hown1, hg1, hat1⟩
    have HE : Hid (Scanned B (Value.slice ad ps.length c) (ps ++ scn (T.node l p r).list a b (m - ps.length).toNat) w (.returned v1) w1) := by
      refine ⟨v1, rfl, ?_, hg1, hat1⟩
      rw [show (T.node l p r).list = l.list ++ p :: r.list from rfl, scan_off (by simp only [within, HB.out]; simp) HM.out rfl, off_right HSO.out HB.out, List.append_nil]
      exact hown1
    generalize ps ++ scn l.list a b (m - ps.length).toNat = ps1 at hown1
    obtain ⟨ad1, c1', rfl, hc3, hc4⟩ := row_slice hown1
    clear hown1 hg1 hat1
    go_wp2_with fail
    go_ret
    exact HE.out

set_option maxRecDepth 100000 in
set_option maxHeartbeats 3200000 in
theorem scan_ft {w : World} {B : Nat} {v : Value} {ps : List Pr} {l r : T} {p : Pr} {x : Option Addr} (a b : ByteArray) (m : Int) (hv : w.ownsRow B 87 2 v ps.length (prs ps)) (hk : Knot w w.heap.size (.node l p r) x) (hB : B ≤ w.heap.size) (hm : (ps.length : Nat) < m) (hs : ps.length + (T.node l p r).size ≤ 1073741824) (hso : Sorted (T.node l p r).list)
    (ha : klt p.1 a = true) (hb : (decide (b = ByteArray.empty) || klt p.1 b) = true)
    (IHr : ∀ (w : World) (v : Value) (ps : List Pr) (x : Option Addr), B ≤ w.heap.size → w.ownsRow B 87 2 v ps.length (prs ps) → Knot w w.heap.size r x → ps.length + r.size ≤ 1073741824 → Calls Try.prog 86 #[v, .pointer x, .string a, .string b, .int .i64 m] w (Scanned B v (ps ++ scn r.list a b (m - ps.length).toNat) w)) :
    Calls Try.prog 86 #[v, .pointer x, .string a, .string b, .int .i64 m] w (Scanned B v (ps ++ scn (T.node l p r).list a b (m - ps.length).toNat) w) := by
  obtain ⟨ad, c, rfl, hc1, hc2⟩ := row_slice hv
  have Hn := Lib.hid (row_noknot hv (by decide))
  have HA := Lib.hid ha
  have HB := Lib.hid hb
  have HBB := Lib.hid hB
  have HSO := Lib.hid hso
  have HM := Lib.hid hm
  obtain ⟨b', xl, xr, rfl, hbb, c0, c1, c2, c3, c4, c5, kl, kr⟩ := hk
  have HI := Lib.hid (IHr _ _ _ _ hB hv kr (by simp only [T.size] at hs; omega))
  have hfa : (Go.Op.bytesLess a.toList p.1.toList || (a.toList == p.1.toList)) = false := by
    have e' : Go.Op.bytesLess a.toList p.1.toList = false := klt_asym ha
    rw [ba_eq, e']
    simp [(klt_ne ha).symm]
  have hfb : b.toList = [] ∨ (¬ b.toList = [] ∧ Go.Op.bytesLess p.1.toList b.toList = true) := by
    by_cases e : b.toList = []
    · exact .inl e
    · have : b ≠ ByteArray.empty := fun h => e (by rw [h]; exact ba_list _)
      simp only [this, decide_false, Bool.false_or] at hb
      exact .inr ⟨e, hb⟩
  clear kl kr IHr hv c4 c5 hs hc2 ha hb hB hso
  rcases hfb with hbe | ⟨hbe, hbl⟩
  all_goals
    go_enter Try.func86, Try.ntmps86
    go_wp2_with fail
    go_fit HI.out
    rintro e w1 ⟨v1, rfl, hown1, hg1, hat1⟩
    have HE : Hid (Scanned B (Value.slice ad ps.length c) (ps ++ scn (T.node l p r).list a b (m - ps.length).toNat) w (.returned v1) w1) := by
      refine ⟨v1, rfl, ?_, hg1, hat1⟩
      rw [show (T.node l p r).list = l.list ++ p :: r.list from rfl, scan_off (by simp only [within, HA.out]; simp) HM.out rfl, off_left HSO.out HA.out, List.append_nil]
      exact hown1
    clear hown1 hg1 hat1
    go_wp2_with fail
    go_ret
    exact HE.out

set_option maxRecDepth 100000 in
set_option maxHeartbeats 3200000 in
theorem scan_ff {w : World} {B : Nat} {v : Value} {ps : List Pr} {l r : T} {p : Pr} {x : Option Addr} (a b : ByteArray) (m : Int) (hv : w.ownsRow B 87 2 v ps.length (prs ps)) (hk : Knot w w.heap.size (.node l p r) x) (hB : B ≤ w.heap.size) (hm : (ps.length : Nat) < m) (hs : ps.length + (T.node l p r).size ≤ 1073741824) (hso : Sorted (T.node l p r).list)
    (ha : klt p.1 a = true) (hb : (decide (b = ByteArray.empty) || klt p.1 b) = false)
     :
    Calls Try.prog 86 #[v, .pointer x, .string a, .string b, .int .i64 m] w (Scanned B v (ps ++ scn (T.node l p r).list a b (m - ps.length).toNat) w) := by
  obtain ⟨ad, c, rfl, hc1, hc2⟩ := row_slice hv
  have Hn := Lib.hid (row_noknot hv (by decide))
  have HA := Lib.hid ha
  have HB := Lib.hid hb
  have HBB := Lib.hid hB
  have HSO := Lib.hid hso
  have HM := Lib.hid hm
  obtain ⟨b', xl, xr, rfl, hbb, c0, c1, c2, c3, c4, c5, kl, kr⟩ := hk
  have hfa : (Go.Op.bytesLess a.toList p.1.toList || (a.toList == p.1.toList)) = false := by
    have e' : Go.Op.bytesLess a.toList p.1.toList = false := klt_asym ha
    rw [ba_eq, e']
    simp [(klt_ne ha).symm]
  have hfb : ¬ b.toList = [] ∧ Go.Op.bytesLess p.1.toList b.toList = false := by
    simp only [Bool.or_eq_false_iff, decide_eq_false_iff_not] at hb
    exact ⟨fun e => hb.1 (ba_inj (by rw [e, ba_list]; rfl)), hb.2⟩
  obtain ⟨hbe, hbl⟩ := hfb
  have hbe2 : b.toList.isEmpty = false := by simpa using hbe
  have HV := Lib.hid hv
  clear kl kr hv c4 c5 hs hc2 ha hb hB hso
  go_enter Try.func86, Try.ntmps86
  go_wp2_with fail
  all_goals
    go_ret
    refine ⟨_, rfl, ?_, grown_refl _ _, .inl rfl⟩
    rw [show (T.node l p r).list = l.list ++ p :: r.list from rfl, scan_off (by simp only [within, HA.out]; simp) HM.out rfl, off_left HSO.out HA.out, off_right HSO.out HB.out, List.append_nil, List.append_nil]
    exact HV.out

theorem scan_any (a b : ByteArray) (m : Int) (B : Nat) : ∀ {t : T}, Sorted t.list → ∀ (w : World) (v : Value) (ps : List Pr) (x : Option Addr), B ≤ w.heap.size → w.ownsRow B 87 2 v ps.length (prs ps) → Knot w w.heap.size t x → ps.length + t.size ≤ 1073741824 →
    Calls Try.prog 86 #[v, .pointer x, .string a, .string b, .int .i64 m] w (Scanned B v (ps ++ scn t.list a b (m - ps.length).toNat) w)
  | .nil, _, w, v, ps, x, hB, hv, hk, hs => by
    have : ps ++ scn T.nil.list a b (m - ps.length).toNat = ps := by simp [T.list, scn]
    rw [this]
    exact scan_none a b m hv (.inl hk)
  | .node l p r, hso, w, v, ps, x, hB, hv, hk, hs => by
    by_cases hm : (ps.length : Int) < m
    · have h' := T.node_sorted hso
      cases ha : klt p.1 a <;> cases hb : (decide (b = ByteArray.empty) || klt p.1 b)
      · exact scan_tf a b m hv hk hB hm hs hso ha hb (scan_any a b m B h'.1)
      · exact scan_tt a b m hv hk hB hm hs hso ha hb (scan_any a b m B h'.1) (scan_any a b m B h'.2.1)
      · exact scan_ff a b m hv hk hB hm hs hso ha hb
      · exact scan_ft a b m hv hk hB hm hs hso ha hb (scan_any a b m B h'.2.1)
    · have : ps ++ scn (T.node l p r).list a b (m - ps.length).toNat = ps := by
        rw [show (m - (ps.length : Nat)).toNat = 0 from by omega]; simp [scn]
      rw [this]
      exact scan_none a b m hv (.inr (by omega))
end Go.Proofs.Ytdfjnpnkfjcpcaa
