/-
  Walks: what leads from one tree to another one. (Written by gentree13.py.)
-/
import Derived.Test.YtcncggndpnooeaaB12
namespace Go.Proofs.Ytcncggndpnooeaa
set_option linter.unusedVariables false
set_option linter.unusedSimpArgs false
open Go.RowKit

theorem Try.infoEvent : (Try.prog.info? 72).map (fun i => (i.zero, i.size, i.bytes)) = some (some (.agg #[.int .i64 0, .string ByteArray.empty, .bool false, .string ByteArray.empty, .bool false, .string ByteArray.empty]), 6, 72) := by kernel_rfl

def evc (e : Ev) : List Value := [.int .i64 0, .string e.key, .bool e.had, .string e.old, .bool e.has, .string e.now]
/-- The cells of events. -/
def evs : List Ev → List Value
  | [] => []
  | e :: l => evc e ++ evs l
theorem evs_app (a b : List Ev) : evs (a ++ b) = evs a ++ evs b := by
  induction a with
  | nil => rfl
  | cons p a ih => simp [evs, ih]
theorem evs_one (e : Ev) : evs [e] = evc e := by simp [evs]
/-- What a call leaves that put events behind an owned list. -/
def Diffs (B : Nat) (v : Value) (es : List Ev) (a b : T) (w : World) (e : Ending) (w' : World) : Prop :=
  ∃ v' ds, e = .returned v' ∧ T.Diffed a b ds ∧ ds.length ≤ a.size + b.size ∧ w'.ownsRow B 72 6 v' (es ++ ds).length (evs (es ++ ds)) ∧ w.grownBy w' v.ownBlock ∧ (v'.ownBlock = v.ownBlock ∨ ∀ g, v'.ownBlock = some g → w.heap.size ≤ g)

/-- The same at a step of a region that draws its order. -/
theorem step_pushs {P : Program} {w0 : World} {ops : Array Oper} {o : Oper} {a : Act} {K : Act → World → Prop} {Q : Exit → Act → World → Prop} {E' : Prop} (hgd : o.guard = none) (s x : Operand) (T E : TypeId) (zero : Value) (size bytes : Nat)
    (ho : o.op = .call { callee := .builtin .append, args := #[s, x], argTypes := #[T, T] })
    (hT : P.underlying T = some (.slice E)) (hinfo : (P.info? E).map (fun i => (i.zero, i.size, i.bytes)) = some (some zero, size, bytes)) (hz : zero.cells.size = size) (hsz : 0 < size)
    (B n : Nat) (v : Value) (xs : List Value) (hs : a.eval s = v) (hown : w0.ownsRow B E size v n xs)
    (us : Array Value) (hul : us.size = size) (hu : ∀ u ∈ us.toList, u.oneCell' = true) (hx : a.eval x = .slice (some ⟨w0.heap.size, 0, none⟩) 1 1) (h63 : n + 1 ≤ 1073741825) (hb : bytes ≤ 65536) (hB : B ≤ w0.heap.size)
    (h : ∀ g c w', w'.ownsRow B E size (.slice (some ⟨g, 0, none⟩) (n + 1) c) (n + 1) (xs ++ us.toList) → w0.grownBy w' v.ownBlock → (v.ownBlock = some g ∨ w0.heap.size ≤ g) → w0.heap.size < w'.heap.size → K (a.put o.dst (.slice (some ⟨g, 0, none⟩) (n + 1) c)) w') :
    if Region.wanted o (yielded ops a.tmps) = true then Oper.wp P o a (w0.alloc (.cells us E)) K Q else E' := by
  obtain ⟨i0, hi, hz0, hz1, hz2⟩ := info_parts hinfo
  have hwz : (w0.alloc (.cells us E)).heap.size = w0.heap.size + 1 := by simp
  refine step_append_lies _ hgd s x T ho B E i0 zero size bytes hT hi hz0 hz1 hz2 hz hsz v n xs hs (hown.alloc _) ⟨w0.heap.size, 0, none⟩ 1 1 us.toList hx (by simp [hul]) (World.news_of_block (Go.heap_alloc_new w0 _)) hu (by omega) (by unfold maxLen; omega)
    (Nat.le_trans (Nat.mul_le_mul h63 hb) (by decide)) (by omega) (w0.heap.size + 1) hwz ?_
  intro g cap w' hown' hgrow hat hlt
  have hg0 : w0.grownBy w' v.ownBlock := ⟨hgrow.os, hgrow.tape, hgrow.output, by have := hgrow.size; omega, fun k hk hne => (hgrow.block k (by omega) hne).trans (Below.heap_alloc _ _ _ hk)⟩
  exact h g cap w' hown' hg0 (hat.imp id (fun e => by omega)) (by have := hgrow.size; omega)
theorem grown_of_drew {w w' : World} {row : Option Nat} (h : w.drew.grownBy w' row) : w.grownBy w' row := ⟨h.os, h.tape, h.output, h.size, h.block⟩

theorem diffs_none {B : Nat} {v : Value} {es : List Ev} {a : T} {w : World} (hv : w.ownsRow B 72 6 v es.length (evs es)) : Diffs B v es a a w (.returned v) w :=
  ⟨v, [], rfl, T.diffed_same a, by simp, by simpa using hv, grown_refl _ _, .inl rfl⟩

set_option maxRecDepth 100000 in
set_option maxHeartbeats 3200000 in
theorem diff_same {w : World} {B : Nat} {v : Value} {es : List Ev} {a : T} {x : Option Addr} (hv : w.ownsRow B 72 6 v es.length (evs es)) (ha : Knot w w.heap.size a x) :
    Calls Try.prog 76 #[v, .pointer x, .pointer x] w (Diffs B v es a a w) := by
  cases a with
  | nil =>
    obtain rfl : x = none := ha
    have HD := Lib.hid (diffs_none (a := .nil) hv)
    clear hv
    go_enter Try.func76, Try.ntmps76
    go_wp2_with fail
    go_ret
    exact HD.out
  | node l p r =>
    obtain ⟨q, rfl⟩ := knot_some ha
    have HD := Lib.hid (diffs_none (a := .node l p r) hv)
    have E0 := knots_same q
    clear hv ha
    go_enter Try.func76, Try.ntmps76
    go_wp2_with fail
    go_ret
    exact HD.out

set_option maxRecDepth 100000 in
set_option maxHeartbeats 3200000 in
theorem diff_nil_step {w : World} {B : Nat} {v : Value} {es : List Ev} {l r : T} {p : Pr} {y : Option Addr} (hB : B ≤ w.heap.size) (hv : w.ownsRow B 72 6 v es.length (evs es)) (hb : Knot w w.heap.size (.node l p r) y) (gb : Good (.node l p r) 500000000) (hs : es.length + (T.node l p r).size ≤ 1073741824)
    (IHl : ∀ (w : World) (v : Value) (es : List Ev) (y : Option Addr), B ≤ w.heap.size → w.ownsRow B 72 6 v es.length (evs es) → Knot w w.heap.size l y → es.length + l.size ≤ 1073741824 → Calls Try.prog 76 #[v, .pointer none, .pointer y] w (Diffs B v es .nil l w))
    (IHr : ∀ (w : World) (v : Value) (es : List Ev) (y : Option Addr), B ≤ w.heap.size → w.ownsRow B 72 6 v es.length (evs es) → Knot w w.heap.size r y → es.length + r.size ≤ 1073741824 → Calls Try.prog 76 #[v, .pointer none, .pointer y] w (Diffs B v es .nil r w)) :
    Calls Try.prog 76 #[v, .pointer none, .pointer y] w (Diffs B v es .nil (.node l p r) w) := by
  have Hn := Lib.hid (row_noknot hv (by decide))
  have HBB := Lib.hid hB
  have GB := Lib.hid gb
  obtain ⟨q, xl, xr, rfl, hbb, c0, c1, c2, c3, c4, c5, kl, kr⟩ := hb
  have E1 := knots_nil ⟨q, 0, none⟩
  have HI := Lib.hid (IHl _ _ _ _ hB hv kl (by simp only [T.size] at hs; omega))
  have Kr := Lib.hid kr
  have IR := Lib.hid IHr
  have Hs := Lib.hid hs
  clear kl kr IHl IHr hv c4 c5 hs gb hB
  go_enter Try.func76, Try.ntmps76
  go_wp2_with fail
  go_fit HI.out
  rintro e w1 ⟨v1, ds1, rfl, hd1, hl1, hown1, hg1, hat1⟩
  obtain ⟨es1, hes1⟩ : ∃ es1, es1 = es ++ ds1 := ⟨_, rfl⟩
  rw [← hes1] at hown1
  obtain ⟨ad1, c1', rfl, hc3, hc4⟩ := row_slice hown1
  have hne : some q ≠ v.ownBlock := fun e => by obtain ⟨cs, hc⟩ := hbb.2; exact Hn.out q e.symm cs hc
  have d0 := hg1.cell c0 hne
  have d1 := hg1.cell c1 hne
  have d3 := hg1.cell c3 hne
  have hn1 := row_noknot hown1 (by decide)
  have hne1 : some q ≠ (Value.slice ad1 es1.length c1').ownBlock := fun e => by obtain ⟨cs, hc⟩ := (hbb.drop hg1 Hn.out).2; exact hn1 q e.symm cs hc
  have hB1 : B ≤ w1.heap.size := Nat.le_trans HBB.out hg1.size
  have Hs1 : Hid (es1.length + 1 + r.size ≤ 1073741824) := by have h1 := Hs.out; simp only [T.size] at h1; simp only [T.size] at hl1; show _ ≤ _; rw [hes1, List.length_append]; omega
  have Hlen : es1.length + 1 ≤ 1073741825 := by have h1 := Hs1.out; omega
  have Hg1 := Lib.hid hg1
  have Hown1 := Lib.hid hown1
  have Hat1 := Lib.hid hat1
  have kr1 := (Kr.out.drop hg1 Hn.out).mono hg1.size
  have Kr1 := Lib.hid kr1
  have Hes1 := Lib.hid hes1
  have Hne1 := Lib.hid hne1
  have Hn1 := Lib.hid hn1
  have HB1 := Lib.hid hB1
  have Hd1 := Lib.hid hd1
  have Hl1 := Lib.hid hl1
  clear hown1 hg1 hat1 hes1 c0 c1 c2 c3 HI hne Kr hbb kr1 hne1 hn1 hl1 hB1 hd1 E1
  go_wp2_with fail
  go_region_law (refine step_pushs (w0 := w1.drew) (by rfl) _ _ 68 72 _ 6 72 (by rfl) Try.underlying68 Try.infoEvent (by rfl) (by decide) B es1.length _ (evs es1) (by rfl) Hown1.out.drew #[.int .i64 0, .string p.1, .bool false, .string ByteArray.empty, .bool true, .string p.2] (by rfl) (by simp [Value.oneCell']) (by rfl) Hlen (by decide) HB1.out ?_; intro g2 cap2 w2 hown2 hg2 hat2 hlt2; have hg2' := grown_of_drew hg2; have d3' := hg2'.cell d3 Hne1.out; have HT := Lib.hid (IR.out w2 _ (es1 ++ [⟨p.1, false, ByteArray.empty, true, p.2⟩]) _ (Nat.le_trans HB1.out hg2'.size) (by rw [evs_app, evs_one, List.length_append]; exact hown2) ((Kr1.out.drop hg2' Hn1.out).mono hg2'.size) (by rw [List.length_append]; exact Hs1.out)); have Hg2 := Lib.hid hg2'; have Hat2 := Lib.hid hat2; clear hown2 hg2 hat2 hlt2 hg2')
  all_goals
    have HT' : Hid (Calls Try.prog 76 #[.slice (some ⟨g2, 0, none⟩) (es1.length + 1) cap2, .pointer none, .pointer xr] w2 (Diffs B (.slice (some ⟨g2, 0, none⟩) (es1.length + 1) cap2) (es1 ++ [⟨p.1, false, ByteArray.empty, true, p.2⟩]) .nil r w2)) := HT.out
    clear HT d0 d1 d3 Kr1 Hown1 IR
    go_wp2_with fail
    go_fit HT'.out
    rintro e w3 ⟨v3, ds3, rfl, hd3, hl3, hown3, hg3, hat3⟩
    have HE : Hid (Diffs B v es .nil (.node l p r) w (.returned v3) w3) := by
      have hat2' : (Value.slice (some ⟨g2, 0, none⟩) (es1.length + 1) cap2).ownBlock = (Value.slice ad1 es1.length c1').ownBlock ∨ ∀ g, (Value.slice (some ⟨g2, 0, none⟩) (es1.length + 1) cap2).ownBlock = some g → w1.heap.size ≤ g := Hat2.out.imp (fun e => e.symm) (fun e g hg => by simp [Value.ownBlock] at hg; simp at e; omega)
      have a2 := at_seq Hg1.out.size Hat1.out hat2'
      have g12 := grown_seq Hg1.out Hg2.out Hat1.out
      have hD := T.diffed_step (a := .nil) trivial GB.out.sorted (T.parted_nil p.1) (T.parted_here GB.out.bal GB.out.sorted) (.inr rfl) Hd1.out hd3
      refine ⟨v3, _, rfl, hD, ?_, ?_, grown_seq g12 hg3 a2, at_seq g12.size a2 hat3⟩
      · have h1 := Hl1.out
        simp only [T.size] at h1 hl3
        simp only [Option.map, ev, T.size, List.length_append]
        simp
        omega
      · have : es ++ (ds1 ++ ((ev p.1 (Option.map (fun q : Pr => q.2) none) (Option.map (fun q : Pr => q.2) (some p))).toList ++ ds3)) = es1 ++ [⟨p.1, false, ByteArray.empty, true, p.2⟩] ++ ds3 := by
          rw [Hes1.out]; simp [ev]
        rw [this]
        exact hown3
    clear hown3 hg3 hat3 hd3 hl3
    go_wp2_with fail
    go_ret
    exact HE.out

theorem diff_nil_any (B : Nat) : ∀ {b : T}, Good b 500000000 → ∀ (w : World) (v : Value) (es : List Ev) (y : Option Addr), B ≤ w.heap.size → w.ownsRow B 72 6 v es.length (evs es) → Knot w w.heap.size b y → es.length + b.size ≤ 1073741824 →
    Calls Try.prog 76 #[v, .pointer none, .pointer y] w (Diffs B v es .nil b w)
  | .nil, gb, w, v, es, y, hB, hv, hb, hs => by
    obtain rfl : y = none := hb
    exact diff_same hv (show Knot w w.heap.size .nil none from rfl)
  | .node l p r, gb, w, v, es, y, hB, hv, hb, hs => diff_nil_step hB hv hb gb hs (diff_nil_any B gb.left) (diff_nil_any B gb.right)
end Go.Proofs.Ytcncggndpnooeaa
