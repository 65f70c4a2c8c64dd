/-
  Walks: whether two filters are the same (those that are).
-/
import Derived.Test.YtdeknkfhlmkabaaF21
namespace Go.Proofs.Ytdeknkfhlmkabaa
set_option linter.unusedVariables false
set_option linter.unusedSimpArgs false
open Go.RowKit

def SameOk (f : Fl) : Prop := ∀ (w : World) (u v : Value), KidsIn w w.heap.size u f.kids → KidsIn w w.heap.size v f.kids → Calls Try.prog 30 #[flV f u, flV f v] w (HoldP true w)
set_option maxRecDepth 100000 in
set_option maxHeartbeats 3200000 in
theorem same_step (f : Fl) (IH : ∀ k ∈ f.kids, SameOk k) : SameOk f := by
  intro w u v hu hv
  obtain ⟨a, cap, rfl, hc1, hc2⟩ := hu.slice
  obtain ⟨a', cap', rfl, hc1', hc2'⟩ := hv.slice
  have hb1 := lay_alloc w (.cells #[.int .i64 f.kind, .string f.name, .string f.text, .slice a f.kids.length cap] 24)
  have hb2 := lay_alloc (w.alloc (.cells #[.int .i64 f.kind, .string f.name, .string f.text, .slice a f.kids.length cap] 24)) (.cells #[.int .i64 f.kind, .string f.name, .string f.text, .slice a' f.kids.length cap'] 24)
  have hb := hb1.trans (hb2.mono hb1.size)
  have HB := Lib.hid hb
  have HU := Lib.hid (hu.on hb)
  have HV := Lib.hid (hv.on hb)
  have HIH := Lib.hid IH
  have hA := (DC.alloc w [.int .i64 f.kind, .string f.name, .string f.text, .slice a f.kids.length cap] 24).below hb2
  have hB := DC.alloc (w.alloc (.cells #[.int .i64 f.kind, .string f.name, .string f.text, .slice a f.kids.length cap] 24)) [.int .i64 f.kind, .string f.name, .string f.text, .slice a' f.kids.length cap'] 24
  have hsz : (w.alloc (.cells #[.int .i64 f.kind, .string f.name, .string f.text, .slice a f.kids.length cap] 24)).heap.size = w.heap.size + 1 := by simp
  rw [hsz] at hB
  have ek : (f.kind != f.kind) = false := by simp
  have el : (((f.kids.length : Nat) : Int) != ((f.kids.length : Nat) : Int)) = false := by simp
  have a0 := hA.cells 0 _ rfl
  have a1 := hA.cells 1 _ rfl
  have a2 := hA.cells 2 _ rfl
  have a3 := hA.cells 3 _ rfl
  have b0 := hB.cells 0 _ rfl
  have b1 := hB.cells 1 _ rfl
  have b2 := hB.cells 2 _ rfl
  have b3 := hB.cells 3 _ rfl
  have HA := Lib.hid hA
  have HBB := Lib.hid hB
  clear hu hv hb1 hb2 hb IH hA hB hsz
  unfold flV
  go_enter Try.func30, Try.ntmps30
  go_wp2_with fail
  go_loopw [37] (fun iv wr => ∃ i : Nat, iv = .int .i64 i ∧ i ≤ f.kids.length ∧ Hid (Below (w.heap.size + 2) ((w.alloc (.cells #[.int .i64 f.kind, .string f.name, .string f.text, .slice a f.kids.length cap] 24)).alloc (.cells #[.int .i64 f.kind, .string f.name, .string f.text, .slice a' f.kids.length cap'] 24)) wr))
    (fun v _ => f.kids.length - (intOf v).toNat)
  case atStart => exact ⟨0, rfl, Nat.zero_le _, Below.refl _ _⟩
  case round =>
    obtain ⟨i, rfl, hin, hb⟩ := hrel
    have hbb : Below ((w.alloc (.cells #[.int .i64 f.kind, .string f.name, .string f.text, .slice a f.kids.length cap] 24)).alloc (.cells #[.int .i64 f.kind, .string f.name, .string f.text, .slice a' f.kids.length cap'] 24)).heap.size ((w.alloc (.cells #[.int .i64 f.kind, .string f.name, .string f.text, .slice a f.kids.length cap] 24)).alloc (.cells #[.int .i64 f.kind, .string f.name, .string f.text, .slice a' f.kids.length cap'] 24)) wr := by
      have e : ((w.alloc (.cells #[.int .i64 f.kind, .string f.name, .string f.text, .slice a f.kids.length cap] 24)).alloc (.cells #[.int .i64 f.kind, .string f.name, .string f.text, .slice a' f.kids.length cap'] 24)).heap.size = w.heap.size + 2 := by simp
      rw [e]; exact hb.out
    by_cases hlt : i < f.kids.length
    · have ei : IntKind.i64.wrap ((i : Int) + 1) = (i : Int) + 1 := IntWalk.i64_in _ (by omega)
      obtain ⟨k, hk1⟩ : ∃ k, f.kids[i]? = some k := ⟨f.kids[i], List.getElem?_eq_getElem hlt⟩
      have hA := HA.out.below hbb
      have hBr := HBB.out.below (w' := wr) hbb
      have hU := HU.out.on hbb
      have hV := HV.out.on hbb
      obtain ⟨g, off, u1, rfl, _, hgB, k0, k1, k2, k3, hku⟩ := hU.at_ hk1
      obtain ⟨g', off', u2, rfl, _, hgB', l0, l1, l2, l3, hkv⟩ := hV.at_ hk1
      obtain ⟨ua, uc, rfl, _, _⟩ := hku.slice
      obtain ⟨va, vc, rfl, _, _⟩ := hkv.slice
      have hI1 : (i : Int) < ((f.kids.length : Nat) : Int) := by omega
      have hI2 : (0 : Int) ≤ (i : Int) := by omega
      have hC := HIH.out k (List.mem_of_getElem? hk1) wr.drew _ _ (hku.on (lay_drew (Below.refl _ _))) (hkv.on (lay_drew (Below.refl _ _)))
      unfold flV at hC
      have HC := Lib.hid hC
      have a3 := hA.cells 3 _ rfl
      have b3 := hBr.cells 3 _ rfl
      have HBr := Lib.hid hb.out
      have HSr : Hid (w.heap.size + 2 ≤ wr.heap.size) := by show _ ≤ _; have := hbb.size; simpa using this
      clear hb hbb hA hBr hU hV hku hkv hC hk1
      go_wp2_with fail
      go_region_with (go_at_call 30; (with_reducible refine HC.out.mono ?_); rintro e w3 ⟨rfl, hb3⟩; have HB3 := Lib.hid ((lay_drew HBr.out).trans (hb3.mono HSr.out)); clear hb3)
      all_goals
        clear HC k0 k1 k2 k3 l0 l1 l2 l3 a3 b3
        go_wp2_with fail
        exact ⟨⟨i + 1, by simp, hlt, HB3⟩, by show f.kids.length - ((i : Int) + 1).toNat < f.kids.length - ((i : Int)).toNat; omega⟩
    · obtain rfl : i = f.kids.length := by omega
      have HBE := Lib.hid (HB.out.trans (hbb.mono HB.out.size))
      clear hb hbb
      go_wp2_with fail
      go_ret
      exact ⟨rfl, HBE.out⟩
theorem Same_any (f : Fl) : SameOk f := f.ind (fun f ih => same_step f ih)
end Go.Proofs.Ytdeknkfhlmkabaa
