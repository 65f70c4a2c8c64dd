/-
  The document's lists, walked: what is less than a key, and what is more. (Written by genl.py.)
-/
import Derived.Test.YtcncggndpnooeaaLB
namespace Go.Proofs.Ytcncggndpnooeaa
set_option linter.unusedVariables false
set_option linter.unusedSimpArgs false
open Go.RowKit

/-- Two rows that lie apart. -/
def Apart (u v : Value) : Prop := v.ownBlock = none ∨ v.ownBlock ≠ u.ownBlock
theorem Row.keep {w0 w w2 : World} {u v : Value} {xs ys : List Pr} (h : Row w0 w v ys) (hu : Row w0 w u xs) (ha : Apart u v) (hg : w.grownBy w2 u.ownBlock) : Row w0 w2 v ys :=
  ⟨h.own.kept hg ha, grown_seq h.grown hg hu.new, h.new⟩
theorem Apart.push {w0 w : World} {u v : Value} {xs ys : List Pr} {g n c : Nat} (ha : Apart u v) (hv : Row w0 w v ys) (hat : u.ownBlock = some g ∨ w.heap.size ≤ g) : Apart (.slice (some ⟨g, 0, none⟩) n c) v := by
  by_cases e : v.ownBlock = none
  · exact .inl e
  · refine .inr fun e2 => ?_
    have e3 : v.ownBlock = some g := e2
    rcases hat with h | h
    · exact ha.elim e fun h2 => h2 (e3.trans h.symm)
    · have := hv.lt g e3; omega
theorem Apart.symm {u v : Value} (h : Apart u v) : Apart v u := by
  by_cases e : u.ownBlock = none
  · exact .inl e
  · exact .inr fun e2 => h.elim (fun h => e (e2.trans h)) fun h => h e2.symm
/-- What is told: two lists. -/
def Lists2 (xs ys : List Pr) (w : World) (e : Ending) (w' : World) : Prop := ∃ u v, e = .returned (.tuple #[u, v]) ∧ PairsIn w' u xs ∧ PairsIn w' v ys ∧ Below w.heap.size w w'

set_option maxRecDepth 100000 in
set_option maxHeartbeats 3200000 in
theorem RSplit_any {w : World} {v : Value} {xs : List Pr} (k : ByteArray) (h : PairsIn w v xs) (hl : xs.length ≤ 1073741824) :
    Calls Try.prog 41 #[v, .string k] w (Lists2 (xs.filter fun q => klt q.1 k) (xs.filter fun q => klt k q.1) w) := by
  obtain ⟨a, c, rfl, hx⟩ := h
  have HX := Lib.hid hx
  clear hx
  go_enter Try.func41, Try.ntmps41
  go_wp2_with fail
  go_loopw [6, 7, 12] (fun u1 u2 v wr => ∃ (i : Nat) (ys zs : List Pr), v = .int .i64 i ∧ i ≤ xs.length ∧ Hid (ys = (xs.take i).filter fun q => klt q.1 k) ∧ Hid (zs = (xs.take i).filter fun q => klt k q.1) ∧ Hid (ys.length ≤ i ∧ zs.length ≤ i) ∧ Hid (Row w wr u1 ys) ∧ Hid (Row w wr u2 zs) ∧ Hid (Apart u1 u2))
    (fun _ _ v _ => xs.length - (intOf v).toNat)
  case atStart => exact ⟨0, [], [], rfl, Nat.zero_le _, rfl, rfl, ⟨Nat.le_refl _, Nat.le_refl _⟩, Row.nil w, Row.nil w, .inl rfl⟩
  case round =>
    obtain ⟨i, ys, zs, rfl, hin, hys, hzs, hyl, hR, hQ, hap⟩ := hrel
    have ei : IntKind.i64.wrap ((i : Int) + 1) = (i : Int) + 1 := IntWalk.i64_in _ (by omega)
    obtain ⟨ad, cc, hu⟩ := hR.out.slice
    subst hu
    obtain ⟨ae, ce, hu⟩ := hQ.out.slice
    subst hu
    by_cases hlt : i < xs.length
    · obtain ⟨p, hp1⟩ : ∃ p, xs[i]? = some p := ⟨xs[i], List.getElem?_eq_getElem hlt⟩
      obtain ⟨g2, off2, rfl, hpa⟩ := HX.out.resolve_left (fun e => by rw [e] at hp1; simp at hp1)
      obtain ⟨k0, k1⟩ := hpa i p hp1
      have k0 := cell_later hR.out.below k0
      have k1 := cell_later hR.out.below k1
      have hI1 : (i : Int) < ((xs.length : Nat) : Int) := by omega
      have hI2 : (0 : Int) ≤ (i : Int) := by omega
      have HW1 := Lib.hid (hR.out.alloc (Obj.cells #[Value.string p.1, .string p.2] 34))
      have HV1 := Lib.hid (hQ.out.alloc (Obj.cells #[Value.string p.1, .string p.2] 34))
      have HSZ : Hid ((wr.alloc (Obj.cells #[Value.string p.1, .string p.2] 34)).heap.size = wr.heap.size + 1) := by show _ = _; simp
      have HBX := Lib.hid (box_alloc wr p.1 p.2 34)
      have HNE := Lib.hid (hR.out.ne_new (Nat.le_refl _))
      have HF1 := Lib.hid (filter_step (fun q => klt q.1 k) hp1)
      have HF2 := Lib.hid (filter_step (fun q => klt k q.1) hp1)
      rw [← hys.out] at HF1
      rw [← hzs.out] at HF2
      have Hlen : Hid (ys.length + 1 ≤ 1073741825) := by show _ ≤ _; have := hyl.out.1; omega
      have Hlen2 : Hid (zs.length + 1 ≤ 1073741825) := by show _ ≤ _; have := hyl.out.2; omega
      have Hy0 : Hid (ys.length ≤ i + 1 ∧ zs.length ≤ i + 1) := by show _ ∧ _; have := hyl.out; omega
      have Hy1 : Hid ((ys ++ [p]).length ≤ i + 1 ∧ zs.length ≤ i + 1) := by show _ ∧ _; have := hyl.out; simp; omega
      have Hy2 : Hid (ys.length ≤ i + 1 ∧ (zs ++ [p]).length ≤ i + 1) := by show _ ∧ _; have := hyl.out; simp; omega
      clear hpa hp1 hys hzs hyl hR hQ
      rcases klt_tri p.1 k with hk | hk | hk
      · have G1 : Hid (ys ++ [p] = (xs.take (i + 1)).filter fun q => klt q.1 k) := by show _ = _; rw [HF1.out, if_pos hk]
        have G2 : Hid (zs = (xs.take (i + 1)).filter fun q => klt k q.1) := by show _ = _; rw [HF2.out, if_neg (by rw [klt_asym hk]; simp)]
        have he : Go.Op.bytesLess p.1.toList k.toList = true := hk
        clear hk
        go_wp2_with (at_builtin; go_loud (refine wpList_pushs rfl _ _ 28 34 _ 2 32 rfl Try.underlying28 Try.infoPair rfl (by decide) w.heap.size _ _ _ rfl HW1.out.own #[.string p.1, .string p.2] rfl (by simp [Value.oneCell']) (by rw [HSZ.out]; rfl) Hlen.out (by decide) HW1.out.grown.size ?_; intro g2 cap2 w2 hown2 hg2 hat2 hlt2; have HR2 := Lib.hid (Row.push p HW1.out hown2 hg2 hat2); have q0 := hg2.cell HBX.out.c0 HNE.out; have q1 := hg2.cell HBX.out.c1 HNE.out; have HQ2 := Lib.hid (HV1.out.keep HW1.out hap.out hg2); have HA2 := Lib.hid (Apart.push (xs := ys) (n := ys.length + 1) (c := cap2) hap.out HV1.out hat2); clear hown2 hg2 hat2 hlt2 ))
        exact ⟨⟨i + 1, ys ++ [p], zs, by simp, hlt, G1, G2, Hy1, HR2, HQ2, HA2⟩, by show xs.length - ((i : Int) + 1).toNat < xs.length - ((i : Int)).toNat; omega⟩
      · have G1 : Hid (ys = (xs.take (i + 1)).filter fun q => klt q.1 k) := by show _ = _; rw [HF1.out, if_neg (by rw [hk, klt_irr]; simp)]
        have G2 : Hid (zs = (xs.take (i + 1)).filter fun q => klt k q.1) := by show _ = _; rw [HF2.out, if_neg (by rw [hk, klt_irr]; simp)]
        have he : Go.Op.bytesLess p.1.toList k.toList = false := by rw [hk]; exact klt_irr k
        have he2 : (p.1.toList == k.toList) = true := by rw [hk]; simp
        clear hk
        go_wp2_with fail
        exact ⟨⟨i + 1, ys, zs, by simp, hlt, G1, G2, Hy0, HW1, HV1, hap⟩, by show xs.length - ((i : Int) + 1).toNat < xs.length - ((i : Int)).toNat; omega⟩
      · have G1 : Hid (ys = (xs.take (i + 1)).filter fun q => klt q.1 k) := by show _ = _; rw [HF1.out, if_neg (by rw [klt_asym hk]; simp)]
        have G2 : Hid (zs ++ [p] = (xs.take (i + 1)).filter fun q => klt k q.1) := by show _ = _; rw [HF2.out, if_pos hk]
        have he : Go.Op.bytesLess p.1.toList k.toList = false := klt_asym hk
        have he2 : (p.1.toList == k.toList) = false := by rw [ba_eq]; simp [(klt_ne hk).symm]
        clear hk
        go_wp2_with (at_builtin; go_loud (refine wpList_pushs rfl _ _ 28 34 _ 2 32 rfl Try.underlying28 Try.infoPair rfl (by decide) w.heap.size _ _ _ rfl HV1.out.own #[.string p.1, .string p.2] rfl (by simp [Value.oneCell']) (by rw [HSZ.out]; rfl) Hlen2.out (by decide) HV1.out.grown.size ?_; intro g2 cap2 w2 hown2 hg2 hat2 hlt2; have HR2 := Lib.hid (Row.push p HV1.out hown2 hg2 hat2); have HQ2 := Lib.hid (HW1.out.keep HV1.out hap.out.symm hg2); have HA2 := Lib.hid (Apart.push (xs := zs) (n := zs.length + 1) (c := cap2) hap.out.symm HW1.out hat2); clear hown2 hg2 hat2 hlt2 ))
        exact ⟨⟨i + 1, ys, zs ++ [p], by simp, hlt, G1, G2, Hy2, HQ2, HR2, HA2.out.symm⟩, by show xs.length - ((i : Int) + 1).toNat < xs.length - ((i : Int)).toNat; omega⟩
    · obtain rfl : i = xs.length := by omega
      have h1 := hys.out
      have h2 := hzs.out
      rw [List.take_length] at h1 h2
      have G1 := Lib.hid h1
      have G2 := Lib.hid h2
      clear h1 h2 hys hzs
      go_wp2_with fail
      go_ret2
      rw [← G1.out, ← G2.out]
      exact ⟨_, _, rfl, hR.out.pairs, hQ.out.pairs, hR.out.below⟩
end Go.Proofs.Ytcncggndpnooeaa
