/-
  KvTold: the walk. Whoever takes all events of a map has what it has. (Written by genkv.py.)
-/
import Derived.Test.YtenjniieohmniaaK11
import Derived.Test.YtenjniieohmniaaK12
namespace Go.Proofs.Ytenjniieohmniaa
set_option linter.unusedVariables false
set_option linter.unusedSimpArgs false
open Go.RowKit
theorem off_row {w : World} {B n s b : Nat} {E : TypeId} {v : Value} {xs : List Value} (h : w.ownsRow B E s v n xs) (hb : w.heap.size ≤ b) : Off b v := by
  rintro g off m c rfl rfl
  have := (h.lt g rfl).2
  omega

set_option maxRecDepth 100000 in
set_option maxHeartbeats 12800000 in
theorem Told_any {w : World} (l : List Kd) {v0 : Value} (h0 : KdsIn w v0 l) : Calls Try.prog 6 #[v0] w (Yes w) := by
  obtain ⟨a0, c0, rfl⟩ := h0.slice
  have HK0 := Lib.hid h0
  clear h0
  go_enter Try.func6, Try.ntmps6
  go_wp2_with fail
  go_fit (short_any HK0.out)
  rintro e w1 ⟨sb, rfl, hsb, hq⟩
  have HB1 : Hid (Below w.heap.size w w1) := by obtain ⟨m, rfl⟩ := hq; exact below_drewN (Below.refl _ _) _
  cases sb
  · clear hsb hq
    go_wp2_with fail
    go_fit (awake_any _)
    rintro e wz ⟨rfl, hbz⟩
    have HZ := Lib.hid (below_of HB1.out hbz)
    clear hbz
    go_wp2_with fail
    go_ret
    exact ⟨rfl, HZ.out⟩
  obtain ⟨hl, ho⟩ := hsb rfl
  have HL1 := Lib.hid hl
  have HO1 := Lib.hid ho
  clear hsb hq hl ho
  go_wp2_with fail
  go_fit (made_any (HK0.out.later HB1.out) HL1.out HO1.out)
  rintro e w4 ⟨b, u, rfl, hms⟩
  obtain ⟨ht, hch, hso⟩ := mades_told l
  obtain ⟨hl1, hl2⟩ := mades_len' HL1.out
  have hrow := hms.row
  have hmap := hms.map
  have hbel := hms.below
  generalize mades l = s at *
  obtain ⟨L, es⟩ := s
  have HT := Lib.hid ht
  have HCh := Lib.hid hch
  have HL := Lib.hid hl1
  have HEl := Lib.hid hl2
  have HM4 := Lib.hid hmap
  have HB4 := Lib.hid (below_of HB1.out hbel)
  have HR4 := Lib.hid (Lay.in_own (I := evL) hrow rfl)
  obtain ⟨ra, rc, hru⟩ := row_slice1 hrow
  subst hru
  have HRow := Lib.hid hrow
  clear hms ht hch hso hl1 hl2 hrow hmap hbel
  go_wp2_with fail
  go_fit (New_map w4)
  rintro e w5 ⟨n, rfl, hlo, hm, hb⟩
  have HN5 := Lib.hid hm
  have HM5 := Lib.hid (HM4.out.below hb)
  have HB5 := Lib.hid (below_of HB4.out hb)
  have HLn : Hid (w.heap.size ≤ n) := Nat.le_trans HB4.out.size hlo
  have HNe : Hid (b ≠ n) := fun e => by have := HM4.out.lt; omega
  have HR5 := Lib.hid (HR4.out.later hb)
  have HOf : Hid (Off n (.slice ra es.length rc)) := off_row HRow.out hlo
  clear hlo hm hb HM4 HR4
  go_wp2_with fail
  go_loopw [22] (fun v wr => ∃ (i : Nat), v = .int .i64 i ∧ i ≤ es.length ∧ Hid (Mp wr n (takes [] (es.take i))) ∧ Hid (Mp wr b L) ∧ Hid (evL.In wr (.slice ra es.length rc) es) ∧ Hid (Below w.heap.size w wr))
    (fun v _ => es.length - (intOf v).toNat)
  case atStart => exact ⟨0, rfl, Nat.zero_le _, HN5, HM5, HR5, HB5⟩
  case round =>
    obtain ⟨i, rfl, hin, hN, hM, hR, hB⟩ := hrel
    have hel := HEl.out
    have ei : IntKind.i64.wrap ((i : Int) + 1) = (i : Int) + 1 := IntWalk.i64_in _ (by omega)
    by_cases hlt : i < es.length
    ·
      obtain ⟨o, ho⟩ : ∃ o, es[i]? = some o := ⟨es[i], List.getElem?_eq_getElem hlt⟩
      have htl := HCh.out.at ho
      have hst := takes_step ([] : List Pr) ho
      have hln := takes_len (es.take i) []
      have htk : (es.take i).length ≤ i := List.length_take_le _ _
      generalize takes [] (es.take i) = M at *
      obtain ⟨g, off, rfl, _, hcell⟩ := hR.out.cells ho
      obtain ⟨p, key, had, old, has, now⟩ := o
      obtain ⟨t1, t2, t3⟩ := htl
      simp only at t1 t2 t3
      have c0 : wr.cell? ⟨g, off + i * 6, none⟩ = some (.int .i64 p) := hcell 0 _ rfl
      have c1 : wr.cell? ⟨g, off + i * 6 + 1, none⟩ = some (.string key) := hcell 1 _ rfl
      have c2 : wr.cell? ⟨g, off + i * 6 + 2, none⟩ = some (.bool had) := hcell 2 _ rfl
      have c3 : wr.cell? ⟨g, off + i * 6 + 3, none⟩ = some (.string old) := hcell 3 _ rfl
      have c4 : wr.cell? ⟨g, off + i * 6 + 4, none⟩ = some (.bool has) := hcell 4 _ rfl
      have c5 : wr.cell? ⟨g, off + i * 6 + 5, none⟩ = some (.string now) := hcell 5 _ rfl
      have hI1 : (i : Int) < ((es.length : Nat) : Int) := by omega
      have hI0 : (0 : Int) ≤ (i : Int) := by omega
      have hA := lay_alloc wr (.cells #[.int .i64 p, .string key, .bool had, .string old, .bool has, .string now] 32)
      have hG := Get_mp key (hN.out.below hA)
      unfold GetP at hG
      rw [← t1, ← t2] at hG
      have HG := Lib.hid hG
      have HNA := Lib.hid (hN.out.below hA)
      have HMA := Lib.hid (hM.out.below hA)
      have HRA := Lib.hid (hR.out.later hA)
      have HBA := Lib.hid (below_of hB.out hA)
      have HST := Lib.hid hst
      have HLM : Hid (M.length ≤ 1000) := by show _ ≤ _; simp at hln; omega
      have HCells := Lib.hid (kd_box wr #[.int .i64 p, .string key, .bool had, .string old, .bool has, .string now] 32)
      have HT3 := Lib.hid t3
      clear hcell ho hN hM hR hB hA hG hst hln htk t1 t2 t3
      cases had <;> cases has
      all_goals
        first
          | (have HX : Hid (¬ old = now) := (fun e => HT3.out ⟨rfl, e⟩)
             have hx : (old.toList == now.toList) = false := by rw [ba_eq]; simpa using HX.out
             have hx2 : ¬ old.toList = now.toList := fun e => HX.out (ba_inj e))
          | skip
        go_wp2_with fail
        go_fit HG.out
        rintro e w6 ⟨rfl, hb6⟩
        have HN6 := Lib.hid (HNA.out.below hb6)
        have HM6 := Lib.hid (HMA.out.below hb6)
        have HR6 := Lib.hid (HRA.out.later hb6)
        have HB6 := Lib.hid (below_of HBA.out hb6)
        have d0 := lay_later hb6 (HCells.out 0 _ rfl)
        have d1 := lay_later hb6 (HCells.out 1 _ rfl)
        have d2 := lay_later hb6 (HCells.out 2 _ rfl)
        have d3 := lay_later hb6 (HCells.out 3 _ rfl)
        have d4 := lay_later hb6 (HCells.out 4 _ rfl)
        have d5 := lay_later hb6 (HCells.out 5 _ rfl)
        clear hb6 HG HNA HMA HRA HBA HCells c0 c1 c2 c3 c4 c5
        have tk : ∀ (hd hs : Bool), Calls Try.prog 24 #[.pointer (some ⟨n, 0, none⟩), .slice (some ⟨w6.heap.size, 0, none⟩) 1 1] (w6.alloc (.cells #[.int .i64 p, .string key, .bool hd, .string old, .bool hs, .string now] 32)) (TakeP n (takes M [⟨p, key, hd, old, hs, now⟩]) (w6.alloc (.cells #[.int .i64 p, .string key, .bool hd, .string old, .bool hs, .string now] 32))) := fun hd hs =>
          Take_mp (HN6.out.below (lay_alloc _ _)) (block_in evL w6 [⟨p, key, hd, old, hs, now⟩] _ _ 1 rfl rfl (by decide)) (fun g o q cc he e => by simp only [Value.slice.injEq, Option.some.injEq, Addr.mk.injEq] at he; have := HN6.out.lt; omega) (by simp) (by have := HLM.out; omega)
        have HTk := Lib.hid tk
        clear tk
        go_wp2_with fail
        go_fit (HTk.out _ _)
        rintro e w7 ⟨rfl, hm, hg⟩
        have HMB : Hid (∀ o : Obj, MB (w6.alloc o) n) := fun o => (HN6.out.below (lay_alloc w6 o)).mb
        have HM7 := Lib.hid ((HM6.out.below (lay_alloc _ _)).other hg (HMB.out _) HNe.out)
        have HR7 := Lib.hid (In.grown (HR6.out.later (lay_alloc _ _)) hg HOf.out)
        have HB7 := Lib.hid (grown_below1 hg (below_of HB6.out (lay_alloc _ _)) HLn.out)
        have HN7 := Lib.hid hm
        clear hm hg HTk HN6 HM6 HR6 HB6 d0 d1 d2 d3 d4 d5
        go_wp2_with fail
        refine ⟨⟨i + 1, by simp, hlt, ?_, HM7, HR7, HB7⟩, by show es.length - ((i : Int) + 1).toNat < es.length - ((i : Int)).toNat; omega⟩
        show Mp _ _ _
        rw [HST.out]
        exact HN7.out
    · obtain rfl : i = es.length := by omega
      have HN8 : Hid (Mp wr n L) := by show Mp _ _ _; have h := hN.out; rw [List.take_length, ← HT.out] at h; exact h
      have HL8 : Hid (L.length ≤ 1000000) := by show _ ≤ _; have := HL.out; omega
      clear hN
      go_wp2_with fail
      go_fit (Scan_mp ByteArray.empty ByteArray.empty hM.out HL8.out)
      rintro e w8 ⟨v8, rfl, hr8⟩
      have HR8 := Lib.hid hr8.told
      have HN9 := Lib.hid (HN8.out.below hr8.grown)
      have HB8 := Lib.hid (below_of hB.out hr8.grown)
      obtain ⟨v8a, v8c, rfl, _, _⟩ := hr8.slice
      clear hr8
      go_wp2_with fail
      go_fit (Scan_mp ByteArray.empty ByteArray.empty HN9.out HL8.out)
      rintro e w9 ⟨v9, rfl, hr9⟩
      have HE := Lib.hid (EqualO (HR8.out.later hr9.grown) hr9.told)
      have HB9 := Lib.hid (below_of HB8.out hr9.grown)
      obtain ⟨v9a, v9c, rfl, _, _⟩ := hr9.slice
      clear hr9
      go_wp2_with fail
      go_fit HE.out
      rintro e w10 ⟨rfl, hb10⟩
      have HB10 := Lib.hid (below_of HB9.out hb10)
      clear hb10 HE
      go_wp2_with fail
      go_fit (awake_any _)
      rintro e wz ⟨rfl, hbz⟩
      have HZ := Lib.hid (below_of HB10.out hbz)
      clear hbz
      go_wp2_with fail
      go_ret
      exact ⟨rfl, HZ.out⟩
end Go.Proofs.Ytenjniieohmniaa
