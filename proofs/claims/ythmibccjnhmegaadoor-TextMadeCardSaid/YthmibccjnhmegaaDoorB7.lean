/-
  Walks: what a value has under a name, by the package (Field).
-/
import Derived.Test.YthmibccjnhmegaaDoorB6
import Derived.Test.YthmibccjnhmegaaDoorM4
import Derived.Deep.QuietTactic
import Derived.BigQuiet
namespace Go.Proofs.YthmibccjnhmegaaDoor
set_option linter.unusedVariables false
set_option linter.unusedSimpArgs false
open Go.RowKit

theorem str_cell (l : List ByteArray) (k : Nat) (h : k < l.length) : (strVals l).getD k undef = .string (l.getD k ByteArray.empty) := by
  unfold strVals
  simp [List.getD_eq_getElem?_getD, List.getElem?_eq_getElem h]

theorem below_drewN' {B : Nat} {w : World} (n : Nat) : Below B w (w.drewN n) := below_drewN (Below.refl _ _) n

theorem Cut_yes (p : ByteArray) (w : World) (hs : p.size ≤ 1073741824) (h : colonB p = true) :
    Calls Tryd.prog 40 #[.string p, .string ⟨#[58]⟩] w fun e w' => e = .returned (.tuple #[.string (frontB p), .string (restB p), .bool true]) ∧ Below w.heap.size w w' := by
  have hf := front_fits p h
  have hx : Lib.indexByte p.data.toList 58 = ((frontB p).size : Int) := by
    rw [indexByte_one, if_pos ((colonB_iff p).1 h), ← frontB_list, ← Lib.size_eq]
  have e1 : Hid (p.extract 0 (frontB p).size = frontB p) := by
    apply toList_inj
    rw [extract_list, frontB_list, List.drop_zero, Nat.sub_zero]
    have := head_take 58 p.data.toList
    rw [← frontB_list, ← Lib.size_eq] at this
    rw [← this, frontB_list]
  have e2 : Hid (p.extract ((frontB p).size + 1) p.size = restB p) := rfl
  have hi := Tryd.stringslite_Index_one p 58 w
  rw [hx] at hi
  have Hi : Hid (Calls Tryd.prog 63 #[.string p, .string ⟨#[58]⟩] w fun e w' => e = .returned (.int .i64 ((frontB p).size : Int)) ∧ w = w') := hi.mono fun _ _ ⟨a, b⟩ => ⟨a, b.symm⟩
  clear hi hx
  generalize hq : frontB p = fr at *
  clear hq
  obtain ⟨q, hq⟩ : ∃ q, q = fr.size := ⟨_, rfl⟩
  rw [← hq] at hf e1 e2 Hi
  clear hq
  have Hc : Hid (Calls Tryd.prog 54 #[.string p, .string ⟨#[58]⟩] w fun e w' => e = .returned (.tuple #[.string fr, .string (restB p), .bool true]) ∧ Below w.heap.size w w') := by
    show Calls _ _ _ _ _
    go_enter Tryd.func54, Tryd.ntmps54
    go_wp2_with fail
    go_fit Hi.out
    rintro e w' ⟨rfl, rfl⟩
    go_wp2_with fail
    go_quiet (fail)
    go_wp2_with fail
    go_ret3
    rw [← e1.out, ← e2.out]
    exact ⟨rfl, below_drewN' _⟩
  go_enter Tryd.func40, Tryd.ntmps40
  go_wp2_with fail
  go_fit Hc.out
  rintro e w' ⟨rfl, hb⟩
  go_wp2_with fail
  go_ret3
  exact ⟨rfl, hb⟩
theorem Cut_no (p : ByteArray) (w : World) (hs : p.size ≤ 1073741824) (h : colonB p = false) :
    Calls Tryd.prog 40 #[.string p, .string ⟨#[58]⟩] w fun e w' => e = .returned (.tuple #[.string p, .string ByteArray.empty, .bool false]) ∧ Below w.heap.size w w' := by
  have hx : Lib.indexByte p.data.toList 58 = -1 := by
    rw [indexByte_one, if_neg (by rw [← colonB_iff, h]; decide)]
  have hi := Tryd.stringslite_Index_one p 58 w
  rw [hx] at hi
  have Hi : Hid (Calls Tryd.prog 63 #[.string p, .string ⟨#[58]⟩] w fun e w' => e = .returned (.int .i64 (-1)) ∧ w = w') := hi.mono fun _ _ ⟨a, b⟩ => ⟨a, b.symm⟩
  clear hi hx
  have Hc : Hid (Calls Tryd.prog 54 #[.string p, .string ⟨#[58]⟩] w fun e w' => e = .returned (.tuple #[.string p, .string ByteArray.empty, .bool false]) ∧ w = w') := by
    show Calls _ _ _ _ _
    go_enter Tryd.func54, Tryd.ntmps54
    go_wp2_with fail
    go_fit Hi.out
    rintro e w' ⟨rfl, rfl⟩
    go_wp2_with fail
    go_ret3
    exact ⟨rfl, rfl⟩
  go_enter Tryd.func40, Tryd.ntmps40
  go_wp2_with fail
  go_fit Hc.out
  rintro e w' ⟨rfl, rfl⟩
  go_wp2_with fail
  go_ret3
  exact ⟨rfl, Below.refl _ _⟩

def FieldP (l : List ByteArray) (name : ByteArray) (w : World) (e : Ending) (w' : World) : Prop :=
  e = .returned (.tuple #[.string (fieldOf name l).1, .bool (fieldOf name l).2]) ∧ Below w.heap.size w w'

set_option maxHeartbeats 1000000 in
theorem Field_any (s name : ByteArray) (w : World) (hs : s.size ≤ 1073741824) (hT : TabIn w) :
    Calls Tryd.prog 24 #[.string s, .string name] w (FieldP (partsOf s 32) name w) := by
  have hP : Hid (Calls Tryd.prog 22 #[.string s, .int .i32 32] w (StrsMade (partsOf s 32) w)) := Parts_any s 32 w hs (by omega) (by omega) hT
  have hlen := (partsFrom_length s 32 s.size 0 0)
  have Hlen : Hid (1 ≤ (partsOf s 32).length ∧ (partsOf s 32).length ≤ s.size + 1) := hlen
  clear hT hlen
  go_enter Tryd.func24, Tryd.ntmps24
  go_wp2_with fail
  go_fit hP.out
  rintro e w1 ⟨g, n, c, rfl, hn, hown, hbel⟩
  have Hsz : Hid (∀ k, k < n → ((partsOf s 32).getD k ByteArray.empty).size ≤ s.size) := fun k hk => parts_size s 32 k (by omega)
  have Hcell : Hid (∀ W, Below w1.heap.size w1 W → ∀ k, k < n → W.cell? ⟨g, k, none⟩ = some (.string ((partsOf s 32).getD k ByteArray.empty))) := fun W hb k hk => by
    rw [owns_cell (owns_later hown hb) k hk, str_cell _ _ (by omega)]
  have Hbel := Lib.hid hbel
  have hnb : n ≤ s.size + 1 := by have := Hlen.out; omega
  have Hn := Lib.hid hn
  have Hhit : Hid (∀ k, k < n → colonB ((partsOf s 32).getD k ByteArray.empty) = true → frontB ((partsOf s 32).getD k ByteArray.empty) = name → fieldOf name ((partsOf s 32).drop k) = (restB ((partsOf s 32).getD k ByteArray.empty), true)) := fun k hk a b => field_hit name _ k (by omega) a b
  have Hmiss : Hid (∀ k, k < n → hitB ((partsOf s 32).getD k ByteArray.empty) name = false → fieldOf name ((partsOf s 32).drop k) = fieldOf name ((partsOf s 32).drop (k + 1))) := fun k hk a => field_miss name _ k (by omega) a
  have Hend : Hid (fieldOf name ((partsOf s 32).drop n) = (ByteArray.empty, false)) := field_end name _ n (by omega)
  clear hown hbel hn hP Hlen
  go_wp2_with fail
  go_loopw [14] (fun i wr => ∃ k : Nat, k ≤ n ∧ i = .int .i64 k ∧ Hid (Below w1.heap.size w1 wr) ∧ Hid (fieldOf name ((partsOf s 32).drop k) = fieldOf name (partsOf s 32)))
    (fun i _ => n - (intOf i).toNat)
  case atStart => exact ⟨0, Nat.zero_le _, rfl, Below.refl _ _, rfl⟩
  case round =>
    obtain ⟨k, hk, rfl, hb, hf⟩ := hrel
    by_cases hlt : k < n
    · have hcell := Hcell.out wr hb.out k hlt
      have hz := Hsz.out k hlt
      have H1 := Lib.hid (Hhit.out k hlt)
      have H2 := Lib.hid (Hmiss.out k hlt)
      generalize (partsOf s 32).getD k ByteArray.empty = p at *
      cases hc : colonB p with
      | true =>
        have HC := Lib.hid (Cut_yes p wr (by omega) hc)
        by_cases hfr : frontB p = name
        · have hq : ((frontB p).toList == name.toList) = true := by rw [← beq_toListBytes, beq_bytes, decide_eq_true hfr]
          have HE := Lib.hid (H1.out hc hfr)
          clear hc hfr H1 H2
          generalize frontB p = fr at *
          generalize restB p = re at *
          go_wp2_with fail
          go_fit HC.out
          rintro e w2 ⟨rfl, hb2⟩
          have Hb2 := Lib.hid (Hbel.out.trans ((hb.out.trans (hb2.mono hb.out.size)).mono Hbel.out.size))
          clear hb2
          go_wp2_with fail
          go_ret2
          refine ⟨?_, Hb2.out⟩
          rw [← hf.out, HE.out]
          rfl
        · have hq : ((frontB p).toList == name.toList) = false := by rw [← beq_toListBytes, beq_bytes, decide_eq_false hfr]
          have HE := Lib.hid (H2.out (by unfold hitB; rw [decide_eq_false hfr, Bool.and_false]))
          clear hc hfr H1 H2
          generalize frontB p = fr at *
          generalize restB p = re at *
          go_wp2_with fail
          go_fit HC.out
          rintro e w2 ⟨rfl, hb2⟩
          have Hb2 := Lib.hid (hb.out.trans (hb2.mono hb.out.size))
          clear hb2
          go_wp2_with fail
          go_roundw
          case rel => exact ⟨k + 1, by omega, by go_num, Hb2, HE.out.symm.trans hf.out⟩
          case measure => simp [intOf]; omega
      | false =>
        have HC := Lib.hid (Cut_no p wr (by omega) hc)
        have HE := Lib.hid (H2.out (by unfold hitB; rw [hc]; rfl))
        clear hc H1 H2
        go_wp2_with fail
        go_fit HC.out
        rintro e w2 ⟨rfl, hb2⟩
        have Hb2 := Lib.hid (hb.out.trans (hb2.mono hb.out.size))
        clear hb2
        go_wp2_with fail
        go_roundw
        case rel => exact ⟨k + 1, by omega, by go_num, Hb2, HE.out.symm.trans hf.out⟩
        case measure => simp [intOf]; omega
    · have e : k = n := by omega
      have HE : Hid (fieldOf name (partsOf s 32) = (ByteArray.empty, false)) := by rw [← hf.out, e]; exact Hend.out
      clear e
      go_wp2_with fail
      go_ret2
      refine ⟨?_, Hbel.out.trans (hb.out.mono Hbel.out.size)⟩
      rw [HE.out]; rfl

end Go.Proofs.YthmibccjnhmegaaDoor
