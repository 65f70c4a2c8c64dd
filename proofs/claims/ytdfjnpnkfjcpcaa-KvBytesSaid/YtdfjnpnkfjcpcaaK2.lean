/-
  Walks: whether operations may be.
-/
import Derived.Test.YtdfjnpnkfjcpcaaK1
namespace Go.Proofs.Ytdfjnpnkfjcpcaa
set_option linter.unusedVariables false
set_option linter.unusedSimpArgs false
open Go.RowKit

theorem below_of {w w1 w2 : World} (h1 : Below w.heap.size w w1) (h2 : Below w1.heap.size w1 w2) : Below w.heap.size w w2 := h1.trans (h2.mono h1.size)
theorem below_drewN0 {B : Nat} {w w' : World} (h : Below B w w') (n : Nat) : Below B w (w'.drewN n) := below_drewN h n
theorem key_c {s : ByteArray} {b : Bool} (h : keyOk s = b) (w : World) (hs : s.size ≤ 1073741824) : Calls Try.prog 78 #[.string s] w fun e w' => e = .returned (.int .i64 (if b = true then 0 else 20)) ∧ Below w.heap.size w w' := by
  subst h
  exact Tx.Key_any s w hs
theorem val_c {s : ByteArray} {b : Bool} (h : valOk s = b) (w : World) (hs : s.size ≤ 1073741824) : Calls Try.prog 79 #[.string s] w fun e w' => e = .returned (.int .i64 (if b = true then 0 else 21)) ∧ Below w.heap.size w w' := by
  subst h
  exact Tx.Value_any s w hs
theorem key_yes {s : ByteArray} (h : keyOk s = true) (w : World) (hs : s.size ≤ 1073741824) : Calls Try.prog 78 #[.string s] w fun e w' => e = .returned (.int .i64 0) ∧ Below w.heap.size w w' := key_c h w hs
theorem key_no {s : ByteArray} (h : keyOk s = false) (w : World) (hs : s.size ≤ 1073741824) : Calls Try.prog 78 #[.string s] w fun e w' => e = .returned (.int .i64 20) ∧ Below w.heap.size w w' := key_c h w hs
theorem val_yes {s : ByteArray} (h : valOk s = true) (w : World) (hs : s.size ≤ 1073741824) : Calls Try.prog 79 #[.string s] w fun e w' => e = .returned (.int .i64 0) ∧ Below w.heap.size w w' := val_c h w hs
theorem val_no {s : ByteArray} (h : valOk s = false) (w : World) (hs : s.size ≤ 1073741824) : Calls Try.prog 79 #[.string s] w fun e w' => e = .returned (.int .i64 21) ∧ Below w.heap.size w w' := val_c h w hs
/-- A struct's cells in a new block. -/
theorem box_cell (w : World) (cs : Array Value) (t : TypeId) (j : Nat) : (w.alloc (.cells cs t)).cell? ⟨w.heap.size, j, none⟩ = cs[j]? := by rw [World.cell?_alloc_at _ _ _ _ rfl]

def HasP (l : List Kop) (k : ByteArray) (w : World) (e : Ending) (w' : World) : Prop := e = .returned (.bool (hasK l k)) ∧ Below w.heap.size w w'
theorem HasP.of {l : List Kop} {k : ByteArray} {w w' : World} {b : Bool} (h : hasK l k = b) (hb : Below w.heap.size w w') : HasP l k w (.returned (.bool b)) w' := ⟨by rw [h], hb⟩
set_option maxRecDepth 100000 in
set_option maxHeartbeats 1600000 in
theorem has_any {w : World} {v : Value} {l : List Kop} (k : ByteArray) (h : opL.In w v l) (hlen : l.length ≤ 1073741824) : Calls Try.prog 80 #[v, .string k] w (HasP l k w) := by
  obtain ⟨a, c, rfl, hc1, hc2⟩ := h.slice
  have HD := Lib.hid h
  clear h
  go_enter Try.func80, Try.ntmps80
  go_wp2_with fail
  go_loopw [9] (fun v wr => ∃ i : Nat, v = .int .i64 i ∧ i ≤ l.length ∧ Hid (hasK (l.take i) k = false) ∧ Hid (Below w.heap.size w wr))
    (fun v _ => l.length - (intOf v).toNat)
  case atStart => exact ⟨0, rfl, Nat.zero_le _, rfl, Below.refl _ _⟩
  case round =>
    obtain ⟨i, rfl, hin, hT, hbw⟩ := hrel
    have ei : IntKind.i64.wrap ((i : Int) + 1) = (i : Int) + 1 := IntWalk.i64_in _ (by omega)
    by_cases hlt : i < l.length
    · obtain ⟨o, ho⟩ : ∃ o, l[i]? = some o := ⟨l[i], List.getElem?_eq_getElem hlt⟩
      obtain ⟨g, off, rfl, _, hcell⟩ := HD.out.cells ho
      have c0 : wr.cell? ⟨g, off + i * 3, none⟩ = some (.string o.key) := lay_later hbw.out (hcell 0 _ rfl)
      have c1 : wr.cell? ⟨g, off + i * 3 + 1, none⟩ = some (.bool o.has) := lay_later hbw.out (hcell 1 _ rfl)
      have c2 : wr.cell? ⟨g, off + i * 3 + 2, none⟩ = some (.string o.val) := lay_later hbw.out (hcell 2 _ rfl)
      have hI1 : (i : Int) < ((l.length : Nat) : Int) := by omega
      have hI0 : (0 : Int) ≤ (i : Int) := by omega
      have HB := Lib.hid (below_of hbw.out (lay_alloc wr (.cells #[.string o.key, .bool o.has, .string o.val] 37)))
      have HO := Lib.hid ho
      clear hcell ho hbw
      by_cases hk : o.key = k
      · have hkb : (o.key.toList == k.toList) = true := by rw [ba_eq]; simpa using hk
        have HY : Hid (hasK l k = true) := hasK_hit HO.out hk
        clear hk
        go_wp2_with fail
        go_ret
        exact HasP.of HY.out HB.out
      · have hkb : (o.key.toList == k.toList) = false := by rw [ba_eq]; simpa using hk
        have HN : Hid (hasK (l.take (i + 1)) k = false) := by show _ = _; rw [hasK_step HO.out, hT.out]; simpa using hk
        clear hk
        go_wp2_with fail
        exact ⟨⟨i + 1, by simp, hlt, HN, HB.out⟩, by show l.length - ((i : Int) + 1).toNat < l.length - ((i : Int)).toNat; omega⟩
    · obtain rfl : i = l.length := by omega
      have HN : Hid (hasK l k = false) := by have h := hT.out; rw [List.take_length] at h; exact h
      go_wp2_with fail
      go_ret
      exact HasP.of HN.out hbw.out

def MayP (l : List Kop) (w : World) (e : Ending) (w' : World) : Prop := e = .returned (.int .i64 (mayE l)) ∧ Below w.heap.size w w'
def Small (l : List Kop) : Prop := ∀ o ∈ l, o.key.size ≤ 1073741824 ∧ o.val.size ≤ 1073741824
theorem may_mid {l : List Kop} {i : Nat} {o : Kop} (h : l[i]? = some o) (hm : mayGo (l.take i) (l.drop i) = mayE l) {n : Int} (h1 : may1 (l.take i) o = n) (hn : n ≠ 0) : mayE l = n := by
  rw [(may_step h hm).2 (by rw [h1]; exact hn), h1]
theorem MayP.of {l : List Kop} {w w' : World} {n : Int} (h : mayE l = n) (hb : Below w.heap.size w w') : MayP l w (.returned (.int .i64 n)) w' := ⟨by rw [h], hb⟩
theorem emp_toList : (ByteArray.empty).toList = [] := by rw [ba_list]; rfl
theorem ba_emp (a : ByteArray) : a.toList.isEmpty = decide (a = ByteArray.empty) := by
  cases hd : decide (a = ByteArray.empty) with
  | true =>
    have : a = ByteArray.empty := by simpa using hd
    rw [this, emp_toList]; rfl
  | false =>
    cases hl : a.toList with
    | nil => 
      have : a = ByteArray.empty := ba_inj (by rw [hl, emp_toList])
      simp [this] at hd
    | cons x l => rfl

set_option maxRecDepth 100000 in
set_option maxHeartbeats 6400000 in
theorem may_any {w : World} {v : Value} {l : List Kop} (h : opL.In w v l) (hs : Small l) (hlen : l.length ≤ 1073741824) : Calls Try.prog 54 #[v] w (MayP l w) := by
  obtain ⟨a, c, rfl, hc1, hc2⟩ := h.slice
  have HD := Lib.hid h
  have HS := Lib.hid hs
  clear h hs
  go_enter Try.func54, Try.ntmps54
  go_wp2_with fail
  go_loopw [7] (fun v wr => ∃ i : Nat, v = .int .i64 i ∧ i ≤ l.length ∧ Hid (mayGo (l.take i) (l.drop i) = mayE l) ∧ Hid (Below w.heap.size w wr))
    (fun v _ => l.length - (intOf v).toNat)
  case atStart => exact ⟨0, rfl, Nat.zero_le _, rfl, Below.refl _ _⟩
  case round =>
    obtain ⟨i, rfl, hin, hT, hbw⟩ := hrel
    have ei : IntKind.i64.wrap ((i : Int) + 1) = (i : Int) + 1 := IntWalk.i64_in _ (by omega)
    by_cases hlt : i < l.length
    · obtain ⟨o, ho⟩ : ∃ o, l[i]? = some o := ⟨l[i], List.getElem?_eq_getElem hlt⟩
      have HP := Lib.hid (HD.out.take i (by omega))
      obtain ⟨g, off, rfl, _, hcell⟩ := HD.out.cells ho
      have c0 : wr.cell? ⟨g, off + i * 3, none⟩ = some (.string o.key) := lay_later hbw.out (hcell 0 _ rfl)
      have c1 : wr.cell? ⟨g, off + i * 3 + 1, none⟩ = some (.bool o.has) := lay_later hbw.out (hcell 1 _ rfl)
      have c2 : wr.cell? ⟨g, off + i * 3 + 2, none⟩ = some (.string o.val) := lay_later hbw.out (hcell 2 _ rfl)
      have hI1 : (i : Int) < ((l.length : Nat) : Int) := by omega
      have hI0 : (0 : Int) ≤ (i : Int) := by omega
      have HB := Lib.hid (below_of hbw.out (lay_alloc wr (.cells #[.string o.key, .bool o.has, .string o.val] 37)))
      have HC0 := Lib.hid (box_cell wr #[.string o.key, .bool o.has, .string o.val] 37 0)
      have HC1 := Lib.hid (box_cell wr #[.string o.key, .bool o.has, .string o.val] 37 1)
      have HC2 := Lib.hid (box_cell wr #[.string o.key, .bool o.has, .string o.val] 37 2)
      have HO := Lib.hid ho
      have HZ := Lib.hid (HS.out o (List.mem_of_getElem? ho))
      clear hcell ho hbw
      cases hk : keyOk o.key with
      | false =>
        have HK := Lib.hid (fun W => key_no hk W HZ.out.1)
        have HE : Hid (mayE l = 20) := may_mid HO.out hT.out (by unfold may1; rw [if_pos hk]) (by decide)
        clear hk
        go_wp2_with fail
        go_fit (HK.out _)
        rintro e w2 ⟨rfl, hb2⟩
        have HB2 := Lib.hid (below_of HB.out hb2)
        clear hb2
        go_wp2_with fail
        go_ret
        exact MayP.of HE.out HB2.out
      | true =>
        have HK := Lib.hid (fun W => key_yes hk W HZ.out.1)
        have Hk := Lib.hid hk
        clear hk
        have rest : ∀ (w3 : World) (HB3 : Hid (Below w.heap.size w w3)), True := fun _ _ => trivial
        cases hh : o.has with
        | true =>
          cases hv : valOk o.val with
          | false =>
            have HV := Lib.hid (fun W => val_no hv W HZ.out.2)
            have HE : Hid (mayE l = 21) := may_mid HO.out hT.out (by unfold may1; rw [if_neg (by rw [Hk.out]; simp), if_pos (by rw [hh, hv]; rfl)]) (by decide)
            rw [hh] at c1 HB HC0 HC1 HC2
            clear hv hh
            go_wp2_with fail
            go_fit (HK.out _)
            rintro e w2 ⟨rfl, hb2⟩
            have HB2 := Lib.hid (below_of HB.out hb2)
            have d0 := lay_later hb2 HC0.out
            have d1 := lay_later hb2 HC1.out
            have d2 := lay_later hb2 HC2.out
            clear hb2
            go_wp2_with fail
            go_fit (HV.out _)
            rintro e w3 ⟨rfl, hb3⟩
            have HB3 := Lib.hid (below_of HB2.out hb3)
            clear hb3
            go_wp2_with fail
            go_ret
            exact MayP.of HE.out HB3.out
          | true =>
            have HV := Lib.hid (fun W => val_yes hv W HZ.out.2)
            have HM : Hid (may1 (l.take i) o = if hasK (l.take i) o.key = true then 61 else 0) := by show _ = _; unfold may1; rw [if_neg (by rw [Hk.out]; simp), if_neg (by rw [hh, hv]; simp)]
            rw [hh] at c1 HB HC0 HC1 HC2
            clear hv hh
            go_wp2_with fail
            go_fit (HK.out _)
            rintro e w2 ⟨rfl, hb2⟩
            have HB2 := Lib.hid (below_of HB.out hb2)
            have d0 := lay_later hb2 HC0.out
            have d1 := lay_later hb2 HC1.out
            have d2 := lay_later hb2 HC2.out
            clear hb2
            go_wp2_with fail
            go_fit (HV.out _)
            rintro e w3 ⟨rfl, hb3⟩
            have HB3 := Lib.hid (below_of HB2.out hb3)
            have d0 := lay_later hb3 d0
            have d1 := lay_later hb3 d1
            have d2 := lay_later hb3 d2
            have HP3 := Lib.hid (HP.out.later (HB3.out.trans (lay_drew (Below.refl _ _))))
            have HD0 : Hid (w3.drew.cell? ⟨wr.heap.size, 0, none⟩ = some (.string o.key)) := d0
            have hIc : (i : Int) ≤ ((c : Nat) : Int) := by omega
            clear hb3 HB HB2 HK HV c0 c1 c2 HC0 HC1 HC2
            cases hq : hasK (l.take i) o.key with
            | true =>
              have HH : Hid (Calls Try.prog 80 #[.slice (some ⟨g, off, none⟩) i c, .string o.key] w3.drew fun e w' => e = .returned (.bool true) ∧ Below w3.drew.heap.size w3.drew w') := by
                show Calls _ _ _ _ _
                have h := has_any o.key HP3.out (by rw [List.length_take]; omega)
                unfold HasP at h
                rw [hq] at h; exact h
              have HE : Hid (mayE l = 61) := may_mid HO.out hT.out (by rw [HM.out, if_pos hq]) (by decide)
              clear hq HM
              go_wp2_with fail
              go_region_held3 (fun V => V.cell? ⟨wr.heap.size, 0, none⟩ = some (.string o.key)) (go_keep) ((go_at_call 80; (with_reducible refine HH.out.mono ?_); rintro e w4 ⟨rfl, hb4⟩; have HB4 := Lib.hid hb4; have e0 := lay_later hb4 HD0.out; clear hb4))
              go_wp2_with fail
              go_ret
              exact MayP.of HE.out ((lay_drew HB3.out).trans (HB4.out.mono HB3.out.size))
            | false =>
              have HH : Hid (Calls Try.prog 80 #[.slice (some ⟨g, off, none⟩) i c, .string o.key] w3.drew fun e w' => e = .returned (.bool false) ∧ Below w3.drew.heap.size w3.drew w') := by
                show Calls _ _ _ _ _
                have h := has_any o.key HP3.out (by rw [List.length_take]; omega)
                unfold HasP at h
                rw [hq] at h; exact h
              have HN : Hid (mayGo (l.take (i + 1)) (l.drop (i + 1)) = mayE l) := (may_step HO.out hT.out).1 (by rw [HM.out, if_neg (by rw [hq]; simp)])
              clear hq HM
              go_wp2_with fail
              go_region_held3 (fun V => V.cell? ⟨wr.heap.size, 0, none⟩ = some (.string o.key)) (go_keep) ((go_at_call 80; (with_reducible refine HH.out.mono ?_); rintro e w4 ⟨rfl, hb4⟩; have HB4 := Lib.hid hb4; have e0 := lay_later hb4 HD0.out; clear hb4))
              go_wp2_with fail
              exact ⟨⟨i + 1, by simp, hlt, HN, (lay_drew HB3.out).trans (HB4.out.mono HB3.out.size)⟩, by show l.length - ((i : Int) + 1).toNat < l.length - ((i : Int)).toNat; omega⟩
        | false =>
          by_cases hv : o.val = ByteArray.empty
          · have hv1 : o.val.toList.isEmpty = true := by rw [ba_emp]; simpa using hv
            have hv2 : o.val.toList = [] := by rw [hv, emp_toList]
            have HM : Hid (may1 (l.take i) o = if hasK (l.take i) o.key = true then 61 else 0) := by show _ = _; unfold may1; rw [if_neg (by rw [Hk.out]; simp), if_neg (by rw [hh]; simp [hv])]
            rw [hh] at c1 HB HC0 HC1 HC2
            clear hv hh
            go_wp2_with fail
            go_fit (HK.out _)
            rintro e w2 ⟨rfl, hb2⟩
            have HB2 := Lib.hid (below_of HB.out hb2)
            have d0 := lay_later hb2 HC0.out
            have d1 := lay_later hb2 HC1.out
            have d2 := lay_later hb2 HC2.out
            have HP3 := Lib.hid (HP.out.later (HB2.out.trans (lay_drew (Below.refl _ _))))
            have HD0 : Hid (w2.drew.cell? ⟨wr.heap.size, 0, none⟩ = some (.string o.key)) := d0
            have hIc : (i : Int) ≤ ((c : Nat) : Int) := by omega
            clear hb2 HB HK c0 c1 c2 HC0 HC1 HC2
            cases hq : hasK (l.take i) o.key with
            | true =>
              have HH : Hid (Calls Try.prog 80 #[.slice (some ⟨g, off, none⟩) i c, .string o.key] w2.drew fun e w' => e = .returned (.bool true) ∧ Below w2.drew.heap.size w2.drew w') := by
                show Calls _ _ _ _ _
                have h := has_any o.key HP3.out (by rw [List.length_take]; omega)
                unfold HasP at h
                rw [hq] at h; exact h
              have HE : Hid (mayE l = 61) := may_mid HO.out hT.out (by rw [HM.out, if_pos hq]) (by decide)
              clear hq HM
              go_wp2_with fail
              go_region_held3 (fun V => V.cell? ⟨wr.heap.size, 0, none⟩ = some (.string o.key)) (go_keep) ((go_at_call 80; (with_reducible refine HH.out.mono ?_); rintro e w4 ⟨rfl, hb4⟩; have HB4 := Lib.hid hb4; have e0 := lay_later hb4 HD0.out; clear hb4))
              go_wp2_with fail
              go_ret
              exact MayP.of HE.out ((lay_drew HB2.out).trans (HB4.out.mono HB2.out.size))
            | false =>
              have HH : Hid (Calls Try.prog 80 #[.slice (some ⟨g, off, none⟩) i c, .string o.key] w2.drew fun e w' => e = .returned (.bool false) ∧ Below w2.drew.heap.size w2.drew w') := by
                show Calls _ _ _ _ _
                have h := has_any o.key HP3.out (by rw [List.length_take]; omega)
                unfold HasP at h
                rw [hq] at h; exact h
              have HN : Hid (mayGo (l.take (i + 1)) (l.drop (i + 1)) = mayE l) := (may_step HO.out hT.out).1 (by rw [HM.out, if_neg (by rw [hq]; simp)])
              clear hq HM
              go_wp2_with fail
              go_region_held3 (fun V => V.cell? ⟨wr.heap.size, 0, none⟩ = some (.string o.key)) (go_keep) ((go_at_call 80; (with_reducible refine HH.out.mono ?_); rintro e w4 ⟨rfl, hb4⟩; have HB4 := Lib.hid hb4; have e0 := lay_later hb4 HD0.out; clear hb4))
              go_wp2_with fail
              exact ⟨⟨i + 1, by simp, hlt, HN, (lay_drew HB2.out).trans (HB4.out.mono HB2.out.size)⟩, by show l.length - ((i : Int) + 1).toNat < l.length - ((i : Int)).toNat; omega⟩
          · have hv1 : o.val.toList.isEmpty = false := by rw [ba_emp]; simpa using hv
            have hv2 : ¬ o.val.toList = [] := fun h => hv (ba_inj (by rw [h, emp_toList]))
            have HE : Hid (mayE l = 21) := may_mid HO.out hT.out (by unfold may1; rw [if_neg (by rw [Hk.out]; simp), if_pos (by rw [hh]; simp [hv])]) (by decide)
            rw [hh] at c1 HB HC0 HC1 HC2
            clear hv hh
            go_wp2_with fail
            go_fit (HK.out _)
            rintro e w2 ⟨rfl, hb2⟩
            have HB2 := Lib.hid (below_of HB.out hb2)
            have d0 := lay_later hb2 HC0.out
            have d1 := lay_later hb2 HC1.out
            have d2 := lay_later hb2 HC2.out
            clear hb2
            go_wp2_with fail
            go_ret
            exact MayP.of HE.out HB2.out
    · obtain rfl : i = l.length := by omega
      have HN : Hid (mayE l = 0) := may_end hT.out
      go_wp2_with fail
      go_ret
      exact MayP.of HN.out hbw.out

def CkP (conds ops : List Kop) (w : World) (e : Ending) (w' : World) : Prop := e = .returned (.int .i64 (ckE conds ops)) ∧ Below w.heap.size w w'
theorem CkP.of {conds ops : List Kop} {w w' : World} {n : Int} (h : ckE conds ops = n) (hb : Below w.heap.size w w') : CkP conds ops w (.returned (.int .i64 n)) w' := ⟨by rw [h], hb⟩
set_option maxRecDepth 100000 in
set_option maxHeartbeats 1600000 in
theorem Check_any {w : World} {u v : Value} {conds ops : List Kop} (hc : opL.In w u conds) (ho : opL.In w v ops) (sc : Small conds) (so : Small ops) (lc : conds.length ≤ 1073741824) (lo : ops.length ≤ 1073741824) :
    Calls Try.prog 33 #[u, v] w (CkP conds ops w) := by
  have HC := Lib.hid (may_any hc sc lc)
  have HO := Lib.hid (fun w' (hb : Below w.heap.size w w') => may_any (ho.later hb) so lo)
  obtain ⟨a, c, rfl, _, _⟩ := hc.slice
  obtain ⟨a', c', rfl, _, _⟩ := ho.slice
  clear hc ho sc so
  by_cases h0 : ops.length = 0
  · have HE : Hid (ckE conds ops = 61) := by show _ = _; unfold ckE; rw [if_pos (by simp [h0])]
    have g0 : decide (ops.length = 0) = true := by simpa using h0
    go_enter Try.func33, Try.ntmps33
    go_wp2_with fail
    go_ret
    exact CkP.of HE.out (Below.refl _ _)
  · by_cases h1 : 6 < ops.length
    · have HE : Hid (ckE conds ops = 61) := by show _ = _; unfold ckE; rw [if_pos (by simp [h1])]
      go_enter Try.func33, Try.ntmps33
      go_wp2_with fail
      go_ret
      exact CkP.of HE.out (Below.refl _ _)
    · by_cases h2 : 6 < conds.length
      · have HE : Hid (ckE conds ops = 61) := by show _ = _; unfold ckE; rw [if_pos (by simp [h2])]
        go_enter Try.func33, Try.ntmps33
        go_wp2_with fail
        go_ret
        exact CkP.of HE.out (Below.refl _ _)
      · have hI0 : ¬ ((ops.length : Nat) : Int) = 0 := by omega
        have hI1 : ¬ (6 : Int) < ((ops.length : Nat) : Int) := by omega
        have hI2 : ¬ (6 : Int) < ((conds.length : Nat) : Int) := by omega
        have hne : ¬ (decide (ops.length = 0) || decide (6 < ops.length) || decide (6 < conds.length)) = true := by simp only [Bool.or_eq_true, decide_eq_true_eq, not_or]; exact ⟨⟨h0, h1⟩, h2⟩
        by_cases hm : mayE conds = 0
        · have HE : Hid (ckE conds ops = mayE ops) := by show _ = _; unfold ckE; rw [if_neg hne, if_pos hm]
          have HC' : Hid (Calls Try.prog 54 #[.slice a conds.length c] w fun e w' => e = .returned (.int .i64 0) ∧ Below w.heap.size w w') := by show Calls _ _ _ _ _; have h := HC.out; unfold MayP at h; rw [hm] at h; exact h
          clear hm hne HC
          go_enter Try.func33, Try.ntmps33
          go_wp2_with fail
          go_fit HC'.out
          rintro e w1 ⟨rfl, hb1⟩
          have HB1 := Lib.hid hb1
          have HO' := Lib.hid (HO.out w1 hb1)
          clear hb1 HO
          go_wp2_with fail
          go_fit HO'.out
          rintro e w2 ⟨rfl, hb2⟩
          have HB2 := Lib.hid (below_of HB1.out hb2)
          clear hb2
          go_wp2_with fail
          go_ret
          exact CkP.of HE.out HB2.out
        · have HE : Hid (ckE conds ops = mayE conds) := by show _ = _; unfold ckE; rw [if_neg hne, if_neg hm]
          obtain ⟨n, hn⟩ : ∃ n, n = mayE conds := ⟨_, rfl⟩
          have HC' : Hid (Calls Try.prog 54 #[.slice a conds.length c] w fun e w' => e = .returned (.int .i64 n) ∧ Below w.heap.size w w') := by show Calls _ _ _ _ _; have h := HC.out; unfold MayP at h; rw [← hn] at h; exact h
          have HE' : Hid (ckE conds ops = n) := by show _ = _; rw [HE.out, hn]
          rw [← hn] at hm
          have hm2 : (n == 0) = false := by simpa using hm
          clear hne HC HE hn
          go_enter Try.func33, Try.ntmps33
          go_wp2_with fail
          go_fit HC'.out
          rintro e w1 ⟨rfl, hb1⟩
          have HB1 := Lib.hid hb1
          clear hb1 HO
          go_wp2_with fail
          go_ret
          exact CkP.of HE'.out HB1.out
end Go.Proofs.Ytdfjnpnkfjcpcaa
