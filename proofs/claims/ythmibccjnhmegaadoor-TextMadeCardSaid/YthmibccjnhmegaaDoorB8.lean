/-
  Walks: what a value has under a name, by the reference (Field).
-/
import Derived.Test.YthmibccjnhmegaaDoorB7
namespace Go.Proofs.YthmibccjnhmegaaDoor
set_option linter.unusedVariables false
set_option linter.unusedSimpArgs false
open Go.RowKit

set_option maxHeartbeats 1000000 in
theorem rField_any (s name : ByteArray) (w : World) (hs : s.size ≤ 1073741824) (hsn : name.size ≤ 1073741824) :
    Calls Tryd.prog 25 #[.string s, .string name] w (FieldP (partsOf s 32) name w) := by
  have hP : Hid (Calls Tryd.prog 23 #[.string s, .int .i32 32] w (StrsMade' (partsOf s 32) w)) := rParts_any s 32 w hs (by omega) (by omega)
  have hlen := (partsFrom_length s 32 s.size 0 0)
  have Hlen : Hid (1 ≤ (partsOf s 32).length ∧ (partsOf s 32).length ≤ s.size + 1) := hlen
  clear hlen
  go_enter Tryd.func25, Tryd.ntmps25
  go_wp2_with fail
  go_fit hP.out
  rintro e w1 ⟨g, n, c, rfl, hn, hown, hbel⟩
  have Hsz : Hid (∀ k, k < n → ((partsOf s 32).getD k ByteArray.empty).size ≤ s.size) := fun k hk => parts_size s 32 k (by omega)
  have Hcell : Hid (∀ W, Below w1.heap.size w1 W → ∀ k, k < n → W.cell? ⟨g, k, none⟩ = some (.string ((partsOf s 32).getD k ByteArray.empty))) := fun W hb k hk => by
    rw [owns_cell (owns_later hown hb) k hk, str_cell _ _ (by omega)]
  have Hbel := Lib.hid hbel
  have hnb : n ≤ s.size + 1 := by have := Hlen.out; omega
  have Hn := Lib.hid hn
  have Hhit : Hid (∀ k, k < n → colonB ((partsOf s 32).getD k ByteArray.empty) = true → frontB ((partsOf s 32).getD k ByteArray.empty) = name → fieldOf name ((partsOf s 32).drop k) = (restB ((partsOf s 32).getD k ByteArray.empty), true)) := fun k hk a b => field_hit name _ k (by omega) a b
  have Hmiss : Hid (∀ k, k < n → hitB ((partsOf s 32).getD k ByteArray.empty) name = false → fieldOf name ((partsOf s 32).drop k) = fieldOf name ((partsOf s 32).drop (k + 1))) := fun k hk a => field_miss name _ k (by omega) a
  have Hend : Hid (fieldOf name ((partsOf s 32).drop n) = (ByteArray.empty, false)) := field_end name _ n (by omega)
  clear hown hbel hn hP Hlen
  go_wp2_with fail
  go_loopw [12] (fun i wr => ∃ k : Nat, k ≤ n ∧ i = .int .i64 k ∧ Hid (Below w1.heap.size w1 wr) ∧ Hid (fieldOf name ((partsOf s 32).drop k) = fieldOf name (partsOf s 32)))
    (fun i _ => n - (intOf i).toNat)
  case atStart => exact ⟨0, Nat.zero_le _, rfl, Below.refl _ _, rfl⟩
  case round =>
    obtain ⟨k, hk, rfl, hb, hf⟩ := hrel
    by_cases hlt : k < n
    · have hcell := Hcell.out wr hb.out k hlt
      have hz := Hsz.out k hlt
      have H1 := Lib.hid (Hhit.out k hlt)
      have H2 := Lib.hid (Hmiss.out k hlt)
      generalize (partsOf s 32).getD k ByteArray.empty = p at *
      have HC : Hid (Calls Tryd.prog 23 #[.string p, .int .i32 58] wr (StrsMade' (partsOf p 58) wr)) := rParts_any p 58 wr (by omega) (by omega) (by omega)
      have hp1 := partsFrom_length p 58 p.size 0 0
      have Hp1 : Hid (1 ≤ (partsOf p 58).length ∧ (partsOf p 58).length ≤ p.size + 1) := hp1
      have Hfs : Hid (frontB p = name → colonB p = true → name.size + 1 ≤ p.size) := fun hfr hcol => by
        rw [← hfr]; exact front_fits p hcol
      clear hp1
      go_wp2_with fail
      go_fit HC.out
      rintro e w2 ⟨g2, n2, c2, rfl, hn2, hown2, hb2⟩
      have Hcol : Hid (colonB p = decide (1 < n2)) := by unfold colonB; rw [hn2]; rfl
      have h0 : 0 < n2 := by have := Hp1.out; omega
      have hcell2 : w2.cell? ⟨g2, 0, none⟩ = some (.string (frontB p)) := by
        rw [owns_cell hown2 0 h0, str_cell _ _ (by omega)]
        unfold frontB
        cases partsOf p 58 <;> rfl
      have hn2b : n2 ≤ p.size + 1 := by have := Hp1.out; omega
      have Hb2 := Lib.hid (hb.out.trans (hb2.mono hb.out.size))
      clear hb2 hn2 hown2 hcell
      by_cases h1 : 1 < n2
      · have Hc : Hid (colonB p = true) := by rw [Hcol.out, decide_eq_true h1]; rfl
        by_cases hfr : frontB p = name
        · have hq : ((frontB p).toList == name.toList) = true := by rw [← beq_toListBytes, beq_bytes, decide_eq_true hfr]
          have hfs := Hfs.out hfr Hc.out
          have HE : Hid (fieldOf name ((partsOf s 32).drop k) = (p.extract (name.size + 1) p.size, true)) := by
            have := H1.out Hc.out hfr
            rw [this]; unfold restB; rw [hfr]; rfl
          clear hfr H1 H2 Hfs Hc Hcol
          generalize frontB p = fr at *
          go_wp2_with fail
          go_ret2
          refine ⟨?_, Hbel.out.trans (Hb2.out.mono Hbel.out.size)⟩
          rw [← hf.out, HE.out]
          rfl
        · have hq : ((frontB p).toList == name.toList) = false := by rw [← beq_toListBytes, beq_bytes, decide_eq_false hfr]
          have HE := Lib.hid (H2.out (by unfold hitB; rw [decide_eq_false hfr, Bool.and_false]))
          clear hfr H1 H2 Hfs Hc Hcol
          generalize frontB p = fr at *
          go_wp2_with fail
          go_roundw
          case rel => exact ⟨k + 1, by omega, by go_num, Hb2, HE.out.symm.trans hf.out⟩
          case measure => simp [intOf]; omega
      · have HE := Lib.hid (H2.out (by unfold hitB; rw [Hcol.out, decide_eq_false h1]; rfl))
        clear H1 H2 Hfs Hcol
        go_wp2_with fail
        go_roundw
        case rel => exact ⟨k + 1, by omega, by go_num, Hb2, HE.out.symm.trans hf.out⟩
        case measure => simp [intOf]; omega
    · have e : k = n := by omega
      have HE : Hid (fieldOf name (partsOf s 32) = (ByteArray.empty, false)) := by rw [← hf.out, e]; exact Hend.out
      clear e
      go_wp2_with fail
      go_ret2
      refine ⟨?_, Hbel.out.trans (hb.out.mono Hbel.out.size)⟩
      rw [HE.out]; rfl

end Go.Proofs.YthmibccjnhmegaaDoor
