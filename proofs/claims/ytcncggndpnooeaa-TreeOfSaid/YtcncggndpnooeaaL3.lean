/-
  The document's lists, walked: the pair at a place; the last one whose key is not more; the first one whose key is not less. (Written by genl.py.)
-/
import Derived.Test.YtcncggndpnooeaaLB
namespace Go.Proofs.Ytcncggndpnooeaa
set_option linter.unusedVariables false
set_option linter.unusedSimpArgs false
open Go.RowKit

/-- The pair at a place. -/
def atL (xs : List Pr) (i : Int) : Option Pr := if i < 0 then none else xs[i.toNat]?
theorem atI_list (t : T) (i : Int) : atI t i = atL t.list i := rfl
theorem Box.drop {w w' : World} {B g : Nat} {k v : ByteArray} (h : Box w g k v) (hb : Below B w w') (hg : g < B) : Box w' g k v :=
  ⟨(hb.cell (p := ⟨g, 0, none⟩) hg).trans h.c0, (hb.cell (p := ⟨g, 1, none⟩) hg).trans h.c1, (hb.cell (p := ⟨g, 5, none⟩) hg).trans h.c5, (hb.frozen (p := ⟨g, 0, none⟩) hg).trans h.f0, (hb.frozen (p := ⟨g, 1, none⟩) hg).trans h.f1⟩

set_option maxRecDepth 100000 in
set_option maxHeartbeats 3200000 in
theorem RAt_any {w : World} {v : Value} {xs : List Pr} (k : Int) (h : PairsIn w v xs) (hl : xs.length ≤ 1073741824) :
    Calls Try.prog 31 #[v, .int .i64 k] w (fun e w' => e = .returned (toldV (atL xs k)) ∧ Below w.heap.size w w') := by
  have HA := Lib.hid (below_alloc w (Obj.cells #[Value.string { data := #[] }, Value.string { data := #[] }] 34))
  have HB := Lib.hid (box_alloc w { data := #[] } { data := #[] } 34)
  have HXI := Lib.hid (h.later HA.out)
  obtain ⟨a, c, rfl, hx0⟩ := h
  clear hx0
  obtain ⟨a', c', ha', hx⟩ := HXI.out
  simp only [Value.slice.injEq] at ha'
  obtain ⟨rfl, _, rfl⟩ := ha'
  have HX := Lib.hid hx
  clear hx HXI
  go_enter Try.func31, Try.ntmps31
  go_wp2_with fail
  generalize hW : w.alloc (Obj.cells #[Value.string { data := #[] }, Value.string { data := #[] }] 34) = W at *
  have HSW : Hid (W.heap.size = w.heap.size + 1) := by show _ = _; rw [← hW]; simp
  clear hW
  generalize hPB : w.heap.size = PB at *
  have HPB := Lib.hid hPB
  clear hPB
  go_loopw [10] (fun v wr => ∃ i : Nat, v = .int .i64 i ∧ i ≤ xs.length ∧ Hid (∀ j : Nat, j < i → (j : Int) ≠ k) ∧ Hid (Below W.heap.size W wr))
    (fun v _ => xs.length - (intOf v).toNat)
  case atStart => exact ⟨0, rfl, Nat.zero_le _, (fun j hj => absurd hj (by omega) : ∀ j : Nat, j < 0 → (j : Int) ≠ k), Below.refl _ _⟩
  case round =>
    obtain ⟨i, rfl, hin, hn, hb⟩ := hrel
    have ei : IntKind.i64.wrap ((i : Int) + 1) = (i : Int) + 1 := IntWalk.i64_in _ (by omega)
    by_cases hlt : i < xs.length
    · obtain ⟨p, hp1⟩ : ∃ p, xs[i]? = some p := ⟨xs[i], List.getElem?_eq_getElem hlt⟩
      obtain ⟨g2, off2, rfl, hpa⟩ := HX.out.resolve_left (fun e => by rw [e] at hp1; simp at hp1)
      obtain ⟨k0, k1⟩ := hpa i p hp1
      have k0 := cell_later hb.out k0
      have k1 := cell_later hb.out k1
      have hI1p : (i : Int) < ((xs.length : Nat) : Int) := by omega
      have hI2p : (0 : Int) ≤ (i : Int) := by omega
      have HBp := Lib.hid (hb.out.trans ((below_alloc wr (Obj.cells #[Value.string p.1, .string p.2] 34)).mono hb.out.size))
      have Hp1 := Lib.hid hp1
      clear hpa hp1
      clear hb
      by_cases hk : (i : Int) = k
      · subst hk
        have HE : Hid (atL xs (i : Int) = some p) := by show _ = _; unfold atL; rw [if_neg (by omega), Int.toNat_natCast]; exact Hp1.out
        have hxb := (HB.out.later HBp.out)
        have x0 := hxb.c0
        have x1 := hxb.c1
        have x2 := hxb.f0
        have x3 := hxb.f1
        have HXq := Lib.hid hxb
        clear hxb
        go_wp2_with fail
        have hsx := HXq.out.store p.1 p.2
        have s0 := hsx.c0
        have s1 := hsx.c1
        (try simp only [Exit.inBlock, Exit.then])
        refine bodyPost_ret (v := .tuple #[.agg #[.string p.1, .string p.2], .bool true]) (by simp [results, Try.results31, go_sem, s0, s1]) rfl ?_
        exact ⟨by rw [HE.out]; rfl, (by rw [HPB.out]; exact HA.out.trans ((HBp.out.mono (by rw [HSW.out]; omega)).trans (below_stored (Nat.le_refl _))))⟩
      · have HE : Hid (∀ j : Nat, j < i + 1 → (j : Int) ≠ k) := by
          intro j hj
          by_cases e : j = i
          · rw [e]; exact hk
          · exact hn.out j (by omega)
        go_wp2_with fail
        exact ⟨⟨i + 1, by simp, hlt, HE, HBp⟩, by show xs.length - ((i : Int) + 1).toNat < xs.length - ((i : Int)).toNat; omega⟩
    · obtain rfl : i = xs.length := by omega
      have HE : Hid (atL xs k = none) := by
        show _ = _
        unfold atL
        split
        · rfl
        · rename_i h0
          refine List.getElem?_eq_none ?_
          by_cases e : k.toNat < xs.length
          · exact absurd (show ((k.toNat : Nat) : Int) = k by omega) (hn.out k.toNat e)
          · omega
      clear hn
      have hxb := (HB.out.later hb.out)
      have x0 := hxb.c0
      have x1 := hxb.c1
      have x2 := hxb.f0
      have x3 := hxb.f1
      have HXq := Lib.hid hxb
      clear hxb
      go_wp2_with fail
      have hsx := HXq.out.store { data := #[] } { data := #[] }
      have s0 := hsx.c0
      have s1 := hsx.c1
      (try simp only [Exit.inBlock, Exit.then])
      refine bodyPost_ret (v := .tuple #[.agg #[.string { data := #[] }, .string { data := #[] }], .bool false]) (by simp [results, Try.results31, go_sem, s0, s1]) rfl ?_
      exact ⟨by rw [HE.out]; rfl, (by rw [HPB.out]; exact HA.out.trans ((hb.out.mono (by rw [HSW.out]; omega)).trans (below_stored (Nat.le_refl _))))⟩

set_option maxRecDepth 100000 in
set_option maxHeartbeats 3200000 in
theorem RCeil_any {w : World} {v : Value} {xs : List Pr} (k : ByteArray) (h : PairsIn w v xs) (hl : xs.length ≤ 1073741824) :
    Calls Try.prog 35 #[v, .string k] w (fun e w' => e = .returned (toldV (cei xs k)) ∧ Below w.heap.size w w') := by
  have HA := Lib.hid (below_alloc w (Obj.cells #[Value.string { data := #[] }, Value.string { data := #[] }] 34))
  have HB := Lib.hid (box_alloc w { data := #[] } { data := #[] } 34)
  have HXI := Lib.hid (h.later HA.out)
  obtain ⟨a, c, rfl, hx0⟩ := h
  clear hx0
  obtain ⟨a', c', ha', hx⟩ := HXI.out
  simp only [Value.slice.injEq] at ha'
  obtain ⟨rfl, _, rfl⟩ := ha'
  have HX := Lib.hid hx
  clear hx HXI
  go_enter Try.func35, Try.ntmps35
  go_wp2_with fail
  generalize hW : w.alloc (Obj.cells #[Value.string { data := #[] }, Value.string { data := #[] }] 34) = W at *
  have HSW : Hid (W.heap.size = w.heap.size + 1) := by show _ = _; rw [← hW]; simp
  clear hW
  generalize hPB : w.heap.size = PB at *
  have HPB := Lib.hid hPB
  clear hPB
  go_loopw [10] (fun v wr => ∃ i : Nat, v = .int .i64 i ∧ i ≤ xs.length ∧ Hid (cei (xs.take i) k = none) ∧ Hid (Below W.heap.size W wr))
    (fun v _ => xs.length - (intOf v).toNat)
  case atStart => exact ⟨0, rfl, Nat.zero_le _, rfl, Below.refl _ _⟩
  case round =>
    obtain ⟨i, rfl, hin, hn, hb⟩ := hrel
    have ei : IntKind.i64.wrap ((i : Int) + 1) = (i : Int) + 1 := IntWalk.i64_in _ (by omega)
    by_cases hlt : i < xs.length
    · obtain ⟨p, hp1⟩ : ∃ p, xs[i]? = some p := ⟨xs[i], List.getElem?_eq_getElem hlt⟩
      obtain ⟨g2, off2, rfl, hpa⟩ := HX.out.resolve_left (fun e => by rw [e] at hp1; simp at hp1)
      obtain ⟨k0, k1⟩ := hpa i p hp1
      have k0 := cell_later hb.out k0
      have k1 := cell_later hb.out k1
      have hI1p : (i : Int) < ((xs.length : Nat) : Int) := by omega
      have hI2p : (0 : Int) ≤ (i : Int) := by omega
      have HBp := Lib.hid (hb.out.trans ((below_alloc wr (Obj.cells #[Value.string p.1, .string p.2] 34)).mono hb.out.size))
      have Hp1 := Lib.hid hp1
      clear hpa hp1
      clear hb
      cases hk : klt p.1 k
      · have HE : Hid (cei xs k = some p) := cei_done Hp1.out hn.out hk
        have he : Go.Op.bytesLess p.1.toList k.toList = false := hk
        clear hk
        have hxb := (HB.out.later HBp.out)
        have x0 := hxb.c0
        have x1 := hxb.c1
        have x2 := hxb.f0
        have x3 := hxb.f1
        have HXq := Lib.hid hxb
        clear hxb
        go_wp2_with fail
        have hsx := HXq.out.store p.1 p.2
        have s0 := hsx.c0
        have s1 := hsx.c1
        (try simp only [Exit.inBlock, Exit.then])
        refine bodyPost_ret (v := .tuple #[.agg #[.string p.1, .string p.2], .bool true]) (by simp [results, Try.results35, go_sem, s0, s1]) rfl ?_
        exact ⟨by rw [HE.out]; rfl, (by rw [HPB.out]; exact HA.out.trans ((HBp.out.mono (by rw [HSW.out]; omega)).trans (below_stored (Nat.le_refl _))))⟩
      · have HE : Hid (cei (xs.take (i + 1)) k = none) := by have := cei_step Hp1.out hn.out; rw [if_pos hk] at this; exact this
        have he : Go.Op.bytesLess p.1.toList k.toList = true := hk
        clear hk
        go_wp2_with fail
        exact ⟨⟨i + 1, by simp, hlt, HE, HBp⟩, by show xs.length - ((i : Int) + 1).toNat < xs.length - ((i : Int)).toNat; omega⟩
    · obtain rfl : i = xs.length := by omega
      have HE : Hid (cei xs k = none) := by have := hn.out; rw [List.take_length] at this; exact this
      clear hn
      have hxb := (HB.out.later hb.out)
      have x0 := hxb.c0
      have x1 := hxb.c1
      have x2 := hxb.f0
      have x3 := hxb.f1
      have HXq := Lib.hid hxb
      clear hxb
      go_wp2_with fail
      have hsx := HXq.out.store { data := #[] } { data := #[] }
      have s0 := hsx.c0
      have s1 := hsx.c1
      (try simp only [Exit.inBlock, Exit.then])
      refine bodyPost_ret (v := .tuple #[.agg #[.string { data := #[] }, .string { data := #[] }], .bool false]) (by simp [results, Try.results35, go_sem, s0, s1]) rfl ?_
      exact ⟨by rw [HE.out]; rfl, (by rw [HPB.out]; exact HA.out.trans ((hb.out.mono (by rw [HSW.out]; omega)).trans (below_stored (Nat.le_refl _))))⟩

theorem cell_from {w w' : World} {B : Nat} (h : w.heap.size = B) (hb : Below B w w') {p : Addr} {v : Value} (hc : w.cell? p = some v) : w'.cell? p = some v := cell_later (by rw [h]; exact hb) hc
set_option maxRecDepth 100000 in
set_option maxHeartbeats 3200000 in
theorem RFloor_any {w : World} {v : Value} {xs : List Pr} (k : ByteArray) (h : PairsIn w v xs) (hl : xs.length ≤ 1073741824) :
    Calls Try.prog 33 #[v, .string k] w (fun e w' => e = .returned (toldV (flo xs k)) ∧ Below w.heap.size w w') := by
  have HA := Lib.hid (below_alloc w (Obj.cells #[Value.string { data := #[] }, Value.string { data := #[] }] 34))
  have HB := Lib.hid (box_alloc w { data := #[] } { data := #[] } 34)
  obtain ⟨a, c, rfl, hx⟩ := h
  have HX := Lib.hid hx
  clear hx
  go_enter Try.func33, Try.ntmps33
  go_wp2_with fail
  generalize hW : w.alloc (Obj.cells #[Value.string { data := #[] }, Value.string { data := #[] }] 34) = W at *
  have HSW : Hid (W.heap.size = w.heap.size + 1) := by show _ = _; rw [← hW]; simp
  clear hW
  have HB2 := Lib.hid (box_alloc W { data := #[] } { data := #[] } 34)
  have hA2 := below_alloc W (Obj.cells #[Value.string { data := #[] }, Value.string { data := #[] }] 34)
  have HA2 := Lib.hid (HA.out.trans (hA2.mono HA.out.size))
  have HB1 := Lib.hid (HB.out.later hA2)
  have HSX : Hid ((W.alloc (Obj.cells #[Value.string { data := #[] }, Value.string { data := #[] }] 34)).heap.size = W.heap.size + 1) := by show _ = _; simp
  clear hA2 HA HB
  go_wp2_with fail
  generalize hW2 : W.alloc (Obj.cells #[Value.string { data := #[] }, Value.string { data := #[] }] 34) = W2 at *
  clear hW2
  generalize hQ : W.heap.size = PQ at *
  generalize hP : w.heap.size = PB at *
  have HP := Lib.hid hP
  clear hQ hP
  obtain rfl : PQ = PB + 1 := HSW.out
  go_loopw [7, 13] (fun u v wr => ∃ (i : Nat) (o : Option Pr), v = .int .i64 i ∧ u = .bool o.isSome ∧ i ≤ xs.length ∧ Hid (o = flo (xs.take i) k) ∧ Hid (Below PB w wr) ∧ Hid (Box wr PB { data := #[] } { data := #[] }) ∧ Hid (Box wr (PB + 1) (o.elim ByteArray.empty (·.1)) (o.elim ByteArray.empty (·.2))))
    (fun _ v _ => xs.length - (intOf v).toNat)
  case atStart => exact ⟨0, none, rfl, rfl, Nat.zero_le _, rfl, HA2.out, HB1.out, HB2.out⟩
  case round =>
    obtain ⟨i, o, rfl, rfl, hin, ho, hb, hb1, hb2⟩ := hrel
    have ei : IntKind.i64.wrap ((i : Int) + 1) = (i : Int) + 1 := IntWalk.i64_in _ (by omega)
    by_cases hlt : i < xs.length
    · obtain ⟨p, hp1⟩ : ∃ p, xs[i]? = some p := ⟨xs[i], List.getElem?_eq_getElem hlt⟩
      obtain ⟨g2, off2, rfl, hpa⟩ := HX.out.resolve_left (fun e => by rw [e] at hp1; simp at hp1)
      obtain ⟨k0, k1⟩ := hpa i p hp1
      have k0 := cell_from HP.out hb.out k0
      have k1 := cell_from HP.out hb.out k1
      have hI1p : (i : Int) < ((xs.length : Nat) : Int) := by omega
      have hI2p : (0 : Int) ≤ (i : Int) := by omega
      have hA := below_alloc wr (Obj.cells #[Value.string p.1, .string p.2] 34)
      have hPw : PB ≤ wr.heap.size := by have := hb.out.size; rw [HP.out] at this; exact this
      have HBp := Lib.hid (hb.out.trans (hA.mono hPw))
      have HB1p := Lib.hid (hb1.out.later hA)
      have HB2p := Lib.hid (hb2.out.later hA)
      have Hp1 := Lib.hid hp1
      have HPQ : Hid (PB ≤ PB + 1) := by show _ ≤ _; omega
      clear hpa hp1 hA hb hb1 hb2 hPw
      cases hk : klt k p.1
      · have he : (Go.Op.bytesLess p.1.toList k.toList || (p.1.toList == k.toList)) = true := by
          rw [ba_eq]
          rcases klt_le hk with e | e
          · simp [e]
          · have e' : Go.Op.bytesLess p.1.toList k.toList = true := e
            simp [e']
        have HE : Hid (some p = flo (xs.take (i + 1)) k) := by show _ = _; rw [flo_step Hp1.out, hk]; rfl
        have x0 := HB2p.out.c0
        have x1 := HB2p.out.c1
        have x2 := HB2p.out.f0
        have x3 := HB2p.out.f1
        have HS1 := Lib.hid (HB2p.out.store p.1 p.2)
        have HS2 := Lib.hid (HB1p.out.drop (below_stored (x := .string p.1) (y := .string p.2) (Nat.le_refl (PB + 1))) (by omega))
        have HS3 := Lib.hid (HBp.out.trans ((below_stored (x := .string p.1) (y := .string p.2) (Nat.le_refl (PB + 1))).mono HPQ.out))
        clear hk
        go_wp2_with fail
        exact ⟨⟨i + 1, some p, by simp, rfl, hlt, HE, HS3, HS2, HS1⟩, by show xs.length - ((i : Int) + 1).toNat < xs.length - ((i : Int)).toNat; omega⟩
      · have he : (Go.Op.bytesLess p.1.toList k.toList || (p.1.toList == k.toList)) = false := by
          have e' : Go.Op.bytesLess p.1.toList k.toList = false := klt_asym hk
          rw [ba_eq, e']
          simp [(klt_ne hk).symm]
        have HE : Hid (o = flo (xs.take (i + 1)) k) := by show _ = _; rw [flo_step Hp1.out, hk]; exact ho.out
        clear hk
        go_wp2_with fail
        exact ⟨⟨i + 1, o, by simp, rfl, hlt, HE, HBp, HB1p, HB2p⟩, by show xs.length - ((i : Int) + 1).toNat < xs.length - ((i : Int)).toNat; omega⟩
    · obtain rfl : i = xs.length := by omega
      have HE : Hid (o = flo xs k) := by have := ho.out; rw [List.take_length] at this; exact this
      have y0 := hb2.out.c0
      have y1 := hb2.out.c1
      have x0 := hb1.out.c0
      have x1 := hb1.out.c1
      have x2 := hb1.out.f0
      have x3 := hb1.out.f1
      generalize hoa : o.elim ByteArray.empty (fun q => q.1) = oa at *
      generalize hob : o.elim ByteArray.empty (fun q => q.2) = ob at *
      have HOA := Lib.hid hoa
      have HOB := Lib.hid hob
      clear ho hoa hob
      go_wp2_with fail
      have hsx := hb1.out.store oa ob
      have s0 := hsx.c0
      have s1 := hsx.c1
      (try simp only [Exit.inBlock, Exit.then])
      refine bodyPost_ret (v := .tuple #[.agg #[.string oa, .string ob], .bool o.isSome]) (by simp [results, Try.results33, go_sem, s0, s1]) rfl ?_
      exact ⟨by rw [← HE.out, ← HOA.out, ← HOB.out]; rfl, (by rw [HP.out]; exact hb.out.trans (below_stored (Nat.le_refl _)))⟩
end Go.Proofs.Ytcncggndpnooeaa
