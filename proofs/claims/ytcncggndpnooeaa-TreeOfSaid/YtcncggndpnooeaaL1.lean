/-
  The document's lists, walked: a list without a key.
-/
import Derived.Test.YtcncggndpnooeaaB25
import Derived.Test.YtcncggndpnooeaaM5
namespace Go.Proofs.Ytcncggndpnooeaa
set_option linter.unusedVariables false
set_option linter.unusedSimpArgs false
open Go.RowKit

theorem grown_alloc {w wr : World} (h : w.grownBy wr none) (o : Obj) : w.grownBy (wr.alloc o) none :=
  ⟨h.os, h.tape, h.output, by have := h.size; simp; omega, fun k hk hne => (Below.heap_alloc _ _ _ (Nat.lt_of_lt_of_le hk h.size)).trans (h.block k hk hne)⟩

set_option maxRecDepth 100000 in
set_option maxHeartbeats 3200000 in
theorem Without_any {w : World} {v : Value} {xs : List Pr} (k : ByteArray) (h : PairsIn w v xs) (hl : xs.length ≤ 1073741824) :
    Calls Try.prog 21 #[v, .string k] w (Scanned w.heap.size (.slice none 0 0) (wo xs k) w) := by
  obtain ⟨a, c, rfl, hx⟩ := h
  have HX := Lib.hid hx
  clear hx
  go_enter Try.func21, Try.ntmps21
  go_wp2_with fail
  go_loopw [5, 10] (fun u v wr => ∃ (i : Nat) (ys : List Pr), v = .int .i64 i ∧ i ≤ xs.length ∧ Hid (ys = wo (xs.take i) k) ∧ Hid (wr.ownsRow w.heap.size 34 2 u ys.length (prs ys)) ∧ Hid (w.grownBy wr none) ∧ Hid (u.ownBlock = none ∨ ∀ g, u.ownBlock = some g → w.heap.size ≤ g))
    (fun _ v _ => xs.length - (intOf v).toNat)
  case atStart => exact ⟨0, [], rfl, Nat.zero_le _, rfl, World.ownsRow_nil _ _ _ _, grown_refl _ _, .inl rfl⟩
  case round =>
    obtain ⟨i, ys, rfl, hin, hys, hown, hgr, hat⟩ := hrel
    obtain ⟨ad, cc, hu, _, _⟩ := row_slice hown.out
    subst hu
    have ei : IntKind.i64.wrap ((i : Int) + 1) = (i : Int) + 1 := IntWalk.i64_in _ (by omega)
    by_cases hlt : i < xs.length
    · obtain ⟨p, hp1⟩ : ∃ p, xs[i]? = some p := ⟨xs[i], List.getElem?_eq_getElem hlt⟩
      obtain ⟨g2, off2, rfl, hpa⟩ := HX.out.resolve_left (fun e => by rw [e] at hp1; simp at hp1)
      obtain ⟨k0, k1⟩ := hpa i p hp1
      have k0 := hgr.out.cell k0 (by simp)
      have k1 := hgr.out.cell k1 (by simp)
      have hI1 : (i : Int) < ((xs.length : Nat) : Int) := by omega
      have hI2 : (0 : Int) ≤ (i : Int) := by omega
      have Hp1 := Lib.hid hp1
      have Hlen : ys.length + 1 ≤ 1073741825 := by have := wo_length xs k i; rw [hys.out]; omega
      have HW1 := Lib.hid (hown.out.alloc (Obj.cells #[Value.string p.1, .string p.2] 34))
      have HG1 := Lib.hid (grown_alloc hgr.out (Obj.cells #[Value.string p.1, .string p.2] 34))
      clear hpa hp1 hown hgr
      by_cases hk : p.1 = k
      · have hkl : p.1.toList = k.toList := by rw [hk]
        have Hst : Hid (ys = wo (xs.take (i + 1)) k) := by show _ = _; rw [wo_step Hp1.out, if_pos hk]; exact hys.out
        go_wp2_with fail
        exact ⟨⟨i + 1, ys, by simp, hlt, Hst, by rw [hk] at HW1; exact HW1, by rw [hk] at HG1; exact HG1, hat⟩, by show xs.length - ((i : Int) + 1).toNat < xs.length - ((i : Int)).toNat; omega⟩
      · have Hst : Hid (ys ++ [p] = wo (xs.take (i + 1)) k) := by show _ = _; rw [wo_step Hp1.out, if_neg hk, hys.out]
        have HBB := Lib.hid HG1.out.size
        have HSZ : Hid ((wr.alloc (Obj.cells #[Value.string p.1, .string p.2] 34)).heap.size = wr.heap.size + 1) := by show _ = _; simp
        go_wp2_with (at_builtin; go_loud (refine wpList_pushs rfl _ _ 28 34 _ 2 32 rfl Try.underlying28 Try.infoPair rfl (by decide) w.heap.size ys.length _ (prs ys) rfl HW1.out #[.string p.1, .string p.2] rfl (by simp [Value.oneCell']) (by rw [HSZ.out]; rfl) Hlen (by decide) HBB.out ?_; intro g2 cap2 w2 hown2 hg2 hat2 hlt2; have Hown2 := Lib.hid hown2; have Hg2 := Lib.hid hg2; have Hat2 := Lib.hid hat2; clear hown2 hg2 hat2 hlt2))
        have HE : Hid (w.grownBy w2 none) := grown_seq HG1.out Hg2.out hat.out
        exact ⟨⟨i + 1, ys ++ [p], by simp, hlt, Hst, by show World.ownsRow _ _ _ _ _ _ _; rw [prs_app, List.length_append]; exact Hown2.out, HE, .inr (fun g hg => by
          simp [Value.ownBlock] at hg; subst hg
          rcases Hat2.out with e | e
          · have e' : (Value.slice ad ys.length cc).ownBlock = some _ := e
            exact (hat.out.resolve_left (by rw [e']; simp)) _ e'
          · have := HBB.out; omega)⟩, by show xs.length - ((i : Int) + 1).toNat < xs.length - ((i : Int)).toNat; omega⟩
        rename_i hz
        rw [ba_eq] at hz
        simp [hk] at hz
    · obtain rfl : i = xs.length := by omega
      go_wp2_with fail
      go_ret
      have h1 := hys.out
      rw [List.take_length] at h1
      exact ⟨_, rfl, by rw [← h1]; exact hown.out, hgr.out, hat.out⟩
end Go.Proofs.Ytcncggndpnooeaa
