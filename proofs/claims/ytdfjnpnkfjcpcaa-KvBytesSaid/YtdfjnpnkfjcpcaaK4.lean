/-
  Walks: what operations would change; how many keys there would be; plans.
-/
import Derived.Test.YtdfjnpnkfjcpcaaK3
namespace Go.Proofs.Ytdfjnpnkfjcpcaa
set_option linter.unusedVariables false
set_option linter.unusedSimpArgs false
open Go.RowKit

theorem Try.infoEv : (Try.prog.info? 32).map (fun i => (i.zero, i.size, i.bytes)) = some (some (.agg #[.int .i64 0, .string ByteArray.empty, .bool false, .string ByteArray.empty, .bool false, .string ByteArray.empty]), 6, 72) := by kernel_rfl
theorem Try.infoOp : (Try.prog.info? 37).map (fun i => (i.zero, i.size, i.bytes)) = some (some (.agg #[.string ByteArray.empty, .bool false, .string ByteArray.empty]), 3, 40) := by kernel_rfl
theorem is_c {w : World} {b : Nat} {L : List Pr} {o : Kop} {r : Bool} (h : Mp w b L) (hr : isB L o = r) : Calls Try.prog 50 #[.pointer (some ⟨b, 0, none⟩), .agg #[.string o.key, .bool o.has, .string o.val]] w fun e w' => e = .returned (.bool r) ∧ Below w.heap.size w w' := by
  subst hr
  exact is_mp o h
theorem rw_zero {ys : List Kev} {w0 w : World} {v : Value} (h : Rw evL 32 w0 w v ys) : w.ownsRow w0.heap.size 32 6 v ys.length (evL.all ys) := h.own

def ChgP (es : List Kev) (w : World) (e : Ending) (w' : World) : Prop := ∃ v, e = .returned v ∧ Rw evL 32 w w' v es
set_option maxRecDepth 100000 in
set_option maxHeartbeats 3200000 in
theorem changes_mp {w : World} {b : Nat} {L : List Pr} {v : Value} {ops : List Kop} (pos : Int) (h : Mp w b L) (ho : opL.In w v ops) (hl : ops.length ≤ 1000000) :
    Calls Try.prog 51 #[.pointer (some ⟨b, 0, none⟩), .int .i64 pos, v] w (ChgP (chg L pos ops) w) := by
  obtain ⟨a, c, rfl, hc1, hc2⟩ := ho.slice
  have HD := Lib.hid ho
  have HM := Lib.hid h
  have HLen := Lib.hid hl
  clear h ho
  go_enter Try.func51, Try.ntmps51
  go_wp2_with fail
  go_loopw [7, 14] (fun u v wr => ∃ i : Nat, v = .int .i64 i ∧ i ≤ ops.length ∧ Hid (Rw evL 32 w wr u (chg L pos (ops.take i))))
    (fun _ v _ => ops.length - (intOf v).toNat)
  case atStart => exact ⟨0, rfl, Nat.zero_le _, by show Rw _ _ _ _ _ _; exact Rw.nil w⟩
  case round =>
    obtain ⟨i, rfl, hin, hR⟩ := hrel
    have ei : IntKind.i64.wrap ((i : Int) + 1) = (i : Int) + 1 := IntWalk.i64_in _ (by omega)
    by_cases hlt : i < ops.length
    · obtain ⟨o, ho⟩ : ∃ o, ops[i]? = some o := ⟨ops[i], List.getElem?_eq_getElem hlt⟩
      obtain ⟨g, off, rfl, _, hcell⟩ := HD.out.cells ho
      have hbw := hR.out.grown
      have c0 : wr.cell? ⟨g, off + i * 3, none⟩ = some (.string o.key) := lay_later hbw (hcell 0 _ rfl)
      have c1 : wr.cell? ⟨g, off + i * 3 + 1, none⟩ = some (.bool o.has) := lay_later hbw (hcell 1 _ rfl)
      have c2 : wr.cell? ⟨g, off + i * 3 + 2, none⟩ = some (.string o.val) := lay_later hbw (hcell 2 _ rfl)
      have hI1 : (i : Int) < ((ops.length : Nat) : Int) := by omega
      have hI0 : (0 : Int) ≤ (i : Int) := by omega
      have hA := lay_alloc wr (.cells #[.string o.key, .bool o.has, .string o.val] 37)
      have HR := Lib.hid (hR.out.below hA)
      have HC0 := Lib.hid (box_cell wr #[.string o.key, .bool o.has, .string o.val] 37 0)
      have HC1 := Lib.hid (box_cell wr #[.string o.key, .bool o.has, .string o.val] 37 1)
      have HC2 := Lib.hid (box_cell wr #[.string o.key, .bool o.has, .string o.val] 37 2)
      have HMA := Lib.hid ((HM.out.below hbw).below hA)
      have HO := Lib.hid ho
      clear hcell ho hbw hA hR
      cases hb : isB L o with
      | true =>
        have HI := Lib.hid (is_c HMA.out hb)
        have HE : Hid (chg L pos (ops.take (i + 1)) = chg L pos (ops.take i)) := by show _ = _; rw [chg_step L pos HO.out, if_pos hb]
        clear hb
        go_wp2_with fail
        go_fit HI.out
        rintro e w2 ⟨rfl, hb2⟩
        have HR2 := Lib.hid (HR.out.below hb2)
        clear hb2
        go_wp2_with fail
        refine ⟨⟨i + 1, by simp, hlt, ?_⟩, by show ops.length - ((i : Int) + 1).toNat < ops.length - ((i : Int)).toNat; omega⟩
        show Rw _ _ _ _ _ _
        rw [HE.out]; exact HR2.out
      | false =>
        have HI := Lib.hid (is_c HMA.out hb)
        have HE : Hid (chg L pos (ops.take (i + 1)) = chg L pos (ops.take i) ++ [evOf L pos o]) := by show _ = _; rw [chg_step L pos HO.out, if_neg (by rw [hb]; simp)]
        have HN : Hid ((chg L pos (ops.take i)).length ≤ 1000000) := by show _ ≤ _; have := chg_len L pos (ops.take i); have h2 : (ops.take i).length ≤ i := List.length_take_le _ _; omega
        clear hb
        go_wp2_with fail
        go_fit HI.out
        rintro e w2 ⟨rfl, hb2⟩
        have HR2 := Lib.hid (HR.out.below hb2)
        have HG := Lib.hid (Get_mp o.key (HMA.out.below hb2))
        have d0 := lay_later hb2 HC0.out
        have d1 := lay_later hb2 HC1.out
        have d2 := lay_later hb2 HC2.out
        clear hb2
        go_wp2_with fail
        go_fit HG.out
        rintro e w3 ⟨rfl, hb3⟩
        have hR3 := HR2.out.below hb3
        obtain ⟨ea, ec, hev, _, _⟩ := hR3.slice
        subst hev
        have HR3 := Lib.hid hR3
        have HA3 : Hid (w.heap.size ≤ w3.heap.size) := hR3.grown.size
        have d0 := lay_later hb3 d0
        have d1 := lay_later hb3 d1
        have d2 := lay_later hb3 d2
        generalize hes : chg L pos (ops.take i) = es at *
        clear hb3 hR3 HR HR2 HG HC0 HC1 HC2 hes
        go_wp2_with (at_builtin; refine wpList_pushI rfl _ _ 38 32 _ 6 72 rfl Try.underlying38 Try.infoEv rfl (by decide) w.heap.size es.length _ (evL.all es) rfl HR3.out.own #[.int .i64 pos, .string o.key, .bool (hasB L o.key), .string (val1 L o.key), .bool o.has, .string o.val] rfl (evL.one ⟨pos, o.key, hasB L o.key, val1 L o.key, o.has, o.val⟩) rfl (by have := HN.out; omega) (by decide) HA3.out ?_; intro g4 c4 w4 hown hgrow hat hlt4; have HR4 := Lib.hid (HR3.out.push (evOf L pos o) hown hgrow); clear hown hgrow hat hlt4)
        refine ⟨⟨i + 1, by simp, hlt, ?_⟩, by show ops.length - ((i : Int) + 1).toNat < ops.length - ((i : Int)).toNat; omega⟩
        show Rw _ _ _ _ _ _
        rw [HE.out]; exact HR4.out
    · obtain rfl : i = ops.length := by omega
      have HR : Hid (Rw evL 32 w wr u7 (chg L pos ops)) := by have h := hR.out; rw [List.take_length] at h; exact h
      go_wp2_with fail
      go_ret
      exact ⟨_, rfl, HR.out⟩

def LbP (n : Int) (w : World) (e : Ending) (w' : World) : Prop := e = .returned (.int .i64 n) ∧ Below w.heap.size w w'
set_option maxRecDepth 100000 in
set_option maxHeartbeats 3200000 in
theorem lenBehind_mp {w : World} {b : Nat} {L : List Pr} {v : Value} {es : List Kev} (h : Mp w b L) (ho : evL.In w v es) (hl : es.length ≤ 1000000) (hL : L.length ≤ 1000000) :
    Calls Try.prog 52 #[.pointer (some ⟨b, 0, none⟩), v] w (LbP (lenE L.length es) w) := by
  obtain ⟨a, c, rfl, hc1, hc2⟩ := ho.slice
  have HD := Lib.hid ho
  have HN := Lib.hid (Len_mp h)
  have HLL := Lib.hid hL
  clear h ho
  go_enter Try.func52, Try.ntmps52
  go_wp2_with fail
  go_fit HN.out
  rintro e w' ⟨rfl, rfl⟩
  go_wp2_with fail
  go_loopw [5, 12] (fun n v wr => ∃ i : Nat, v = .int .i64 i ∧ n = .int .i64 (lenE L.length (es.take i)) ∧ i ≤ es.length ∧ Hid (Below w.heap.size w wr))
    (fun _ v _ => es.length - (intOf v).toNat)
  case atStart => exact ⟨0, rfl, rfl, Nat.zero_le _, Below.refl _ _⟩
  case round =>
    obtain ⟨i, rfl, rfl, hin, hbw⟩ := hrel
    have ei : IntKind.i64.wrap ((i : Int) + 1) = (i : Int) + 1 := IntWalk.i64_in _ (by omega)
    by_cases hlt : i < es.length
    · obtain ⟨o, ho⟩ : ∃ o, es[i]? = some o := ⟨es[i], List.getElem?_eq_getElem hlt⟩
      obtain ⟨g, off, rfl, _, hcell⟩ := HD.out.cells ho
      have c0 : wr.cell? ⟨g, off + i * 6, none⟩ = some (.int .i64 o.pos) := lay_later hbw.out (hcell 0 _ rfl)
      have c1 : wr.cell? ⟨g, off + i * 6 + 1, none⟩ = some (.string o.key) := lay_later hbw.out (hcell 1 _ rfl)
      have c2 : wr.cell? ⟨g, off + i * 6 + 2, none⟩ = some (.bool o.had) := lay_later hbw.out (hcell 2 _ rfl)
      have c3 : wr.cell? ⟨g, off + i * 6 + 3, none⟩ = some (.string o.old) := lay_later hbw.out (hcell 3 _ rfl)
      have c4 : wr.cell? ⟨g, off + i * 6 + 4, none⟩ = some (.bool o.has) := lay_later hbw.out (hcell 4 _ rfl)
      have c5 : wr.cell? ⟨g, off + i * 6 + 5, none⟩ = some (.string o.now) := lay_later hbw.out (hcell 5 _ rfl)
      have hI1 : (i : Int) < ((es.length : Nat) : Int) := by omega
      have hI0 : (0 : Int) ≤ (i : Int) := by omega
      have hst := lenE_step (L.length : Int) ho
      have hrg := lenE_in (es.take i) (L.length : Int)
      have htk : (es.take i).length ≤ 1000000 := by have : (es.take i).length ≤ i := List.length_take_le _ _; omega
      have hLL := HLL.out
      have HB := Lib.hid (below_of hbw.out (lay_alloc wr (.cells #[.int .i64 o.pos, .string o.key, .bool o.had, .string o.old, .bool o.has, .string o.now] 32)))
      generalize lenE (L.length : Int) (es.take i) = m at *
      have e1 : IntKind.i64.wrap (m + 1) = m + 1 := IntWalk.i64_in _ (by omega)
      have e2 : IntKind.i64.wrap (m - 1) = m - 1 := IntWalk.i64_in _ (by omega)
      have HM4 : Hid (wrap64 m = m) := IntWalk.wrap64_in m (by omega)
      have HST := Lib.hid hst
      clear hcell ho hbw hst hrg htk hLL
      cases hh : o.has <;> cases hd : o.had
      all_goals
        rw [hh] at c4 HB
        rw [hd] at c2 HB
        have HE : Hid (lenE (L.length : Int) (es.take (i + 1)) = _) := HST.out
        unfold lenE1 at HE
        rw [hh, hd] at HE
        clear hh hd HST
        go_wp2_with fail
        refine ⟨⟨i + 1, by simp, ?_, hlt, HB.out⟩, by show es.length - ((i : Int) + 1).toNat < es.length - ((i : Int)).toNat; omega⟩
        rw [HE.out]; first | (simp; done) | (simp; exact HM4.out) | (simp; rw [HM4.out])
    · obtain rfl : i = es.length := by omega
      have HR : Hid (lenE (L.length : Int) (es.take es.length) = lenE (L.length : Int) es) := by show _ = _; rw [List.take_length]
      go_wp2_with fail
      go_ret
      exact ⟨by rw [← HR.out]; rfl, hbw.out⟩

/-- A plan: what it would change, in memory of its own. -/
def PlanP (p : List Kev × Int) (w : World) (e : Ending) (w' : World) : Prop := ∃ v, e = .returned (.tuple #[v, .int .i64 p.2]) ∧ Rw evL 32 w w' v p.1
theorem PlanP.of {p : List Kev × Int} {w w' : World} {v : Value} {es : List Kev} {n : Int} (h : p = (es, n)) (hr : Rw evL 32 w w' v es) : PlanP p w (.returned (.tuple #[v, .int .i64 n])) w' := by subst h; exact ⟨v, rfl, hr⟩
theorem Rw.none {w w' : World} (h : Below w.heap.size w w') : Rw evL 32 w w' (.slice none 0 0) [] := (Rw.nil w).below h
theorem all_step {L : List Pr} {l : List Kop} {i : Nat} {o : Kop} (h : l[i]? = some o) : (l.take (i + 1)).all (isB L) = ((l.take i).all (isB L) && isB L o) := by
  rw [List.take_add_one, h]; simp
theorem all_miss {L : List Pr} {l : List Kop} {i : Nat} {o : Kop} (h : l[i]? = some o) (hb : isB L o = false) : l.all (isB L) = false := by
  rw [List.all_eq_false]
  exact ⟨o, List.mem_of_getElem? h, by rw [hb]; simp⟩
set_option maxRecDepth 100000 in
set_option maxHeartbeats 6400000 in
theorem Plan_mp {w : World} {b : Nat} {L : List Pr} {u v : Value} {conds ops : List Kop} (pos : Int) (h : Mp w b L) (hc : opL.In w u conds) (ho : opL.In w v ops) (sc : Small conds) (so : Small ops) (lc : conds.length ≤ 1000000) (lo : ops.length ≤ 1000000) (hL : L.length ≤ 1000000) :
    Calls Try.prog 17 #[.pointer (some ⟨b, 0, none⟩), .int .i64 pos, u, v] w (PlanP (plan L pos conds ops) w) := by
  have HM := Lib.hid h
  have HMd := Lib.hid (made_mp h)
  have HC := Lib.hid (Check_any hc ho sc so (by omega) (by omega))
  have HCI := Lib.hid hc
  have HOI := Lib.hid ho
  have HLo := Lib.hid lo
  have HLL := Lib.hid hL
  obtain ⟨a, c, rfl, hc1, hc2⟩ := hc.slice
  obtain ⟨a', c', rfl, _, _⟩ := ho.slice
  clear h hc ho sc so lo hL
  by_cases hk : ckE conds ops = 0
  · have HC' : Hid (Calls Try.prog 33 #[.slice a conds.length c, .slice a' ops.length c'] w fun e w' => e = .returned (.int .i64 0) ∧ Below w.heap.size w w') := by show Calls _ _ _ _ _; have h := HC.out; unfold CkP at h; rw [hk] at h; exact h
    have HK := Lib.hid hk
    clear hk HC
    go_enter Try.func17, Try.ntmps17
    go_wp2_with fail
    go_fit HMd.out
    rintro e w' ⟨rfl, rfl⟩
    go_wp2_with fail
    go_fit HC'.out
    rintro e w1 ⟨rfl, hb1⟩
    have HB1 := Lib.hid hb1
    clear hb1 HC' HMd
    go_wp2_with fail
    go_loopw [25] (fun v wr => ∃ i : Nat, v = .int .i64 i ∧ i ≤ conds.length ∧ Hid ((conds.take i).all (isB L) = true) ∧ Hid (Below w.heap.size w wr))
      (fun v _ => conds.length - (intOf v).toNat)
    case atStart => exact ⟨0, rfl, Nat.zero_le _, rfl, HB1⟩
    case round =>
      obtain ⟨i, rfl, hin, hT, hbw⟩ := hrel
      have ei : IntKind.i64.wrap ((i : Int) + 1) = (i : Int) + 1 := IntWalk.i64_in _ (by omega)
      by_cases hlt : i < conds.length
      · obtain ⟨o, ho⟩ : ∃ o, conds[i]? = some o := ⟨conds[i], List.getElem?_eq_getElem hlt⟩
        obtain ⟨g, off, rfl, _, hcell⟩ := HCI.out.cells ho
        have c0 : wr.cell? ⟨g, off + i * 3, none⟩ = some (.string o.key) := lay_later hbw.out (hcell 0 _ rfl)
        have c1 : wr.cell? ⟨g, off + i * 3 + 1, none⟩ = some (.bool o.has) := lay_later hbw.out (hcell 1 _ rfl)
        have c2 : wr.cell? ⟨g, off + i * 3 + 2, none⟩ = some (.string o.val) := lay_later hbw.out (hcell 2 _ rfl)
        have hI1 : (i : Int) < ((conds.length : Nat) : Int) := by omega
        have hI0 : (0 : Int) ≤ (i : Int) := by omega
        have hA := lay_alloc wr (.cells #[.string o.key, .bool o.has, .string o.val] 37)
        have HB := Lib.hid (below_of hbw.out hA)
        have HMA := Lib.hid ((HM.out.below hbw.out).below hA)
        have HO := Lib.hid ho
        clear hcell ho hbw hA
        cases hb : isB L o with
        | true =>
          have HI := Lib.hid (is_c HMA.out hb)
          have HT2 : Hid ((conds.take (i + 1)).all (isB L) = true) := by show _ = _; rw [all_step HO.out, hT.out, hb]; rfl
          clear hb
          go_wp2_with fail
          go_fit HI.out
          rintro e w2 ⟨rfl, hb2⟩
          have HB2 := Lib.hid (below_of HB.out hb2)
          clear hb2
          go_wp2_with fail
          exact ⟨⟨i + 1, by simp, hlt, HT2, HB2.out⟩, by show conds.length - ((i : Int) + 1).toNat < conds.length - ((i : Int)).toNat; omega⟩
        | false =>
          have HI := Lib.hid (is_c HMA.out hb)
          have HE : Hid (plan L pos conds ops = ([], 60)) := by show _ = _; unfold plan; rw [if_pos HK.out, if_neg (by rw [all_miss HO.out hb]; simp)]
          clear hb
          go_wp2_with fail
          go_fit HI.out
          rintro e w2 ⟨rfl, hb2⟩
          have HB2 := Lib.hid (below_of HB.out hb2)
          clear hb2
          go_wp2_with fail
          go_ret2
          exact PlanP.of HE.out (Rw.none HB2.out)
      · obtain rfl : i = conds.length := by omega
        have HA : Hid (conds.all (isB L) = true) := by have h := hT.out; rw [List.take_length] at h; exact h
        have HCh := Lib.hid (changes_mp pos (HM.out.below hbw.out) (HOI.out.later hbw.out) HLo.out)
        go_wp2_with fail
        go_fit HCh.out
        rintro e w2 ⟨v2, rfl, hr2⟩
        have hr2' := hr2.base hbw.out
        have HLB := Lib.hid (lenBehind_mp (HM.out.below hr2'.grown) hr2'.told (by have := chg_len L pos ops; have := HLo.out; omega) HLL.out)
        obtain ⟨ea, ec, hev, _, _⟩ := hr2'.slice
        have HR2 := Lib.hid hr2'
        subst hev
        clear hr2 hr2' HCh
        go_wp2_with fail
        go_fit HLB.out
        rintro e w3 ⟨rfl, hb3⟩
        have HR3 := Lib.hid (HR2.out.below hb3)
        clear hb3 HLB
        by_cases hf : 24 < lenE L.length (chg L pos ops)
        · have HE : Hid (plan L pos conds ops = ([], 7)) := by show _ = _; unfold plan; rw [if_pos HK.out, if_pos HA.out, if_pos hf]
          go_wp2_with fail
          go_ret2
          exact PlanP.of HE.out (Rw.none HR3.out.grown)
        · have HE : Hid (plan L pos conds ops = (chg L pos ops, 0)) := by show _ = _; unfold plan; rw [if_pos HK.out, if_pos HA.out, if_neg hf]
          go_wp2_with fail
          go_ret2
          exact PlanP.of HE.out HR3.out
  · obtain ⟨n, hn⟩ : ∃ n, n = ckE conds ops := ⟨_, rfl⟩
    have HC' : Hid (Calls Try.prog 33 #[.slice a conds.length c, .slice a' ops.length c'] w fun e w' => e = .returned (.int .i64 n) ∧ Below w.heap.size w w') := by show Calls _ _ _ _ _; have h := HC.out; unfold CkP at h; rw [← hn] at h; exact h
    have HE : Hid (plan L pos conds ops = ([], n)) := by show _ = _; unfold plan; rw [if_neg hk, hn]
    rw [← hn] at hk
    have hk2 : (n == 0) = false := by simpa using hk
    clear hn HC
    go_enter Try.func17, Try.ntmps17
    go_wp2_with fail
    go_fit HMd.out
    rintro e w' ⟨rfl, rfl⟩
    go_wp2_with fail
    go_fit HC'.out
    rintro e w1 ⟨rfl, hb1⟩
    have HB1 := Lib.hid hb1
    clear hb1 HC' HMd
    go_wp2_with fail
    go_ret2
    exact PlanP.of HE.out (Rw.none HB1.out)
end Go.Proofs.Ytdfjnpnkfjcpcaa
