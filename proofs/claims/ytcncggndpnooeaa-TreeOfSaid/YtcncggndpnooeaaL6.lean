/-
  The document's lists, walked: two lists together, one without another one, and what is in both. (Written by genl.py.)
-/
import Derived.Test.YtcncggndpnooeaaL4
namespace Go.Proofs.Ytcncggndpnooeaa
set_option linter.unusedVariables false
set_option linter.unusedSimpArgs false
open Go.RowKit

set_option maxRecDepth 100000 in
set_option maxHeartbeats 3200000 in
theorem RUnion_any {w : World} {u v : Value} {xs zs : List Pr} (hu : PairsIn w u xs) (hv : PairsIn w v zs) (hs : Sorted xs) (hl : xs.length + zs.length ≤ 1073741822) :
    Calls Try.prog 48 #[u, v] w (Lists (un xs zs) w) := by
  obtain ⟨a, c, rfl, hx⟩ := hv
  have HX := Lib.hid hx
  have HU := Lib.hid hu
  have HS := Lib.hid hs
  clear hx hu hs
  go_enter Try.func48, Try.ntmps48
  go_wp2_with fail
  go_loopw [5, 11] (fun u' v wr => ∃ i : Nat, v = .int .i64 i ∧ i ≤ zs.length ∧ Hid (PairsIn wr u' (un xs (zs.take i))) ∧ Hid (Below w.heap.size w wr))
    (fun _ v _ => zs.length - (intOf v).toNat)
  case atStart => exact ⟨0, rfl, Nat.zero_le _, HU.out, Below.refl _ _⟩
  case round =>
    obtain ⟨i, rfl, hin, hP, hb⟩ := hrel
    have ei : IntKind.i64.wrap ((i : Int) + 1) = (i : Int) + 1 := IntWalk.i64_in _ (by omega)
    by_cases hlt : i < zs.length
    · obtain ⟨p, hp1⟩ : ∃ p, zs[i]? = some p := ⟨zs[i], List.getElem?_eq_getElem hlt⟩
      obtain ⟨g2, off2, rfl, hpa⟩ := HX.out.resolve_left (fun e => by rw [e] at hp1; simp at hp1)
      obtain ⟨k0, k1⟩ := hpa i p hp1
      have k0 := cell_later hb.out k0
      have k1 := cell_later hb.out k1
      have hI1p : (i : Int) < ((zs.length : Nat) : Int) := by omega
      have hI2p : (0 : Int) ≤ (i : Int) := by omega
      have HBp := Lib.hid (hb.out.trans ((below_alloc wr (Obj.cells #[Value.string p.1, .string p.2] 34)).mono hb.out.size))
      have Hp1 := Lib.hid hp1
      clear hpa hp1
      have HP2 := Lib.hid (hP.out.later (below_alloc wr (Obj.cells #[Value.string p.1, .string p.2] 34)))
      have HST := Lib.hid (un_step xs Hp1.out)
      have HLE : Hid ((un xs (zs.take i)).length ≤ 1073741822) := by show _ ≤ _; have h1 := un_len (zs.take i) xs; have h2 := List.length_take_le i zs; omega
      have HSS := Lib.hid (un_sorted (zs.take i) HS.out)
      generalize un xs (zs.take i) = ys at *
      clear hb hP
      go_wp2_with fail
      go_fit (With_any p HP2.out HSS.out HLE.out)
      rintro e w2 ⟨v2, rfl, hp2, hb2⟩
      have HF : Hid (PairsIn w2 v2 (un xs (zs.take (i + 1)))) := by rw [HST.out]; exact hp2
      have HB2 := Lib.hid (HBp.out.trans (hb2.mono HBp.out.size))
      clear hp2 hb2
      go_wp2_with fail
      exact ⟨⟨i + 1, by simp, hlt, HF, HB2⟩, by show zs.length - ((i : Int) + 1).toNat < zs.length - ((i : Int)).toNat; omega⟩
    · obtain rfl : i = zs.length := by omega
      have h2 := hP.out
      rw [List.take_length] at h2
      have HF := Lib.hid h2
      clear h2 hP
      go_wp2_with fail
      go_ret
      exact ⟨_, rfl, HF.out, hb.out⟩

set_option maxRecDepth 100000 in
set_option maxHeartbeats 3200000 in
theorem RMinus_any {w : World} {u v : Value} {xs zs : List Pr} (hu : PairsIn w u xs) (hv : PairsIn w v zs) (hs : Sorted xs) (hl : xs.length + zs.length ≤ 1073741822) :
    Calls Try.prog 49 #[u, v] w (Lists (mi xs zs) w) := by
  obtain ⟨a, c, rfl, hx⟩ := hv
  have HX := Lib.hid hx
  have HU := Lib.hid hu
  have HS := Lib.hid hs
  clear hx hu hs
  go_enter Try.func49, Try.ntmps49
  go_wp2_with fail
  go_loopw [5, 11] (fun u' v wr => ∃ i : Nat, v = .int .i64 i ∧ i ≤ zs.length ∧ Hid (PairsIn wr u' (mi xs (zs.take i))) ∧ Hid (Below w.heap.size w wr))
    (fun _ v _ => zs.length - (intOf v).toNat)
  case atStart => exact ⟨0, rfl, Nat.zero_le _, HU.out, Below.refl _ _⟩
  case round =>
    obtain ⟨i, rfl, hin, hP, hb⟩ := hrel
    have ei : IntKind.i64.wrap ((i : Int) + 1) = (i : Int) + 1 := IntWalk.i64_in _ (by omega)
    by_cases hlt : i < zs.length
    · obtain ⟨p, hp1⟩ : ∃ p, zs[i]? = some p := ⟨zs[i], List.getElem?_eq_getElem hlt⟩
      obtain ⟨g2, off2, rfl, hpa⟩ := HX.out.resolve_left (fun e => by rw [e] at hp1; simp at hp1)
      obtain ⟨k0, k1⟩ := hpa i p hp1
      have k0 := cell_later hb.out k0
      have k1 := cell_later hb.out k1
      have hI1p : (i : Int) < ((zs.length : Nat) : Int) := by omega
      have hI2p : (0 : Int) ≤ (i : Int) := by omega
      have HBp := Lib.hid (hb.out.trans ((below_alloc wr (Obj.cells #[Value.string p.1, .string p.2] 34)).mono hb.out.size))
      have Hp1 := Lib.hid hp1
      clear hpa hp1
      have HP2 := Lib.hid (hP.out.later (below_alloc wr (Obj.cells #[Value.string p.1, .string p.2] 34)))
      have HST := Lib.hid (mi_step xs Hp1.out)
      have HLE : Hid ((mi xs (zs.take i)).length ≤ 1073741822) := by show _ ≤ _; have h1 := mi_len (zs.take i) xs; have h2 := List.length_take_le i zs; omega
      have HSS := Lib.hid (mi_sorted (zs.take i) HS.out)
      generalize mi xs (zs.take i) = ys at *
      clear hb hP
      go_wp2_with fail
      go_fit (Without_any p.1 HP2.out (Nat.le_trans HLE.out (by decide)))
      rintro e w2 hsc
      obtain ⟨v2, rfl, hp2, hb2⟩ := hsc.lists
      clear hsc
      have HF : Hid (PairsIn w2 v2 (mi xs (zs.take (i + 1)))) := by rw [HST.out]; exact hp2
      have HB2 := Lib.hid (HBp.out.trans (hb2.mono HBp.out.size))
      clear hp2 hb2
      go_wp2_with fail
      exact ⟨⟨i + 1, by simp, hlt, HF, HB2⟩, by show zs.length - ((i : Int) + 1).toNat < zs.length - ((i : Int)).toNat; omega⟩
    · obtain rfl : i = zs.length := by omega
      have h2 := hP.out
      rw [List.take_length] at h2
      have HF := Lib.hid h2
      clear h2 hP
      go_wp2_with fail
      go_ret
      exact ⟨_, rfl, HF.out, hb.out⟩

set_option maxRecDepth 100000 in
set_option maxHeartbeats 3200000 in
theorem RBoth_any {w : World} {u v : Value} {xs zs : List Pr} (hu : PairsIn w u xs) (hv : PairsIn w v zs) (hs : Sorted xs) (hl : xs.length + xs.length + zs.length ≤ 1073741822) :
    Calls Try.prog 50 #[u, v] w (Lists (mi xs (mi xs zs)) w) := by
  have HU := Lib.hid hu
  have HV := Lib.hid hv
  have HS := Lib.hid hs
  clear hu hv hs
  go_enter Try.func50, Try.ntmps50
  go_wp2_with fail
  go_fit (RMinus_any HU.out HV.out HS.out (by omega))
  rintro e w1 ⟨v1, rfl, hp1, hb1⟩
  have HB1 := Lib.hid hb1
  have HP1 := Lib.hid hp1
  have HU1 := Lib.hid (HU.out.later hb1)
  have HLE := Lib.hid (mi_len zs xs)
  clear hp1 hb1
  go_wp2_with fail
  go_fit (RMinus_any HU1.out HP1.out HS.out (by have := HLE.out; omega))
  rintro e w2 hsc
  have HE := Lib.hid (hsc.behind HB1.out)
  obtain ⟨v2, rfl, _⟩ := hsc
  go_wp2_with fail
  go_ret
  exact HE.out

end Go.Proofs.Ytcncggndpnooeaa
