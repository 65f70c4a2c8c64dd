/-
  The document's Get, Union, Diff.
-/
import Derived.Test.YtcbgnmolfdhnfaaRQ
namespace Go.Proofs.Ytcbgnmolfdhnfaa
set_option linter.unusedVariables false
set_option linter.unusedSimpArgs false
open Go.RowKit

def e0 : ByteArray := ⟨#[]⟩
theorem look_at {xs : List Pr} {i : Nat} {p : Pr} {k : ByteArray} (h : xs[i]? = some p) (hn : look (xs.take i) k = none) : look (xs.take (i + 1)) k = (if p.1 = k then some p.2 else none) ∧ (p.1 = k → look xs k = some p.2) := by
  have e : xs = xs.take i ++ p :: xs.drop (i + 1) := by
    have h1 := List.getElem?_eq_some_iff.1 h
    obtain ⟨hl, rfl⟩ := h1
    rw [List.getElem_cons_drop, List.take_append_drop]
  refine ⟨?_, fun hk => ?_⟩
  · rw [List.take_add_one, h, look_app, hn]
    simp [look]
  · rw [e, look_app, hn]
    simp [look, hk]
set_option maxRecDepth 100000 in
set_option maxHeartbeats 3200000 in
theorem Get_any {w : World} {v : Value} {xs : List Pr} (k : ByteArray) (h : prL.In w v xs) (hl : xs.length ≤ 1073741824) :
    Calls Try.prog 61 #[v, .string k] w fun e w' => e = .returned (.tuple #[.string ((look xs k).getD e0), .bool (look xs k).isSome]) ∧ Below w.heap.size w w' := by
  have HX := Lib.hid h
  obtain ⟨a, c, rfl, _, _⟩ := h.slice
  obtain ⟨n, hn⟩ : ∃ n, n = xs.length := ⟨_, rfl⟩
  rw [← hn] at hl HX ⊢
  have HN := Lib.hid hn
  clear h hn
  go_enter Try.func61, Try.ntmps61
  go_wp2_with fail
  go_loopw [10] (fun v wr => ∃ i : Nat, v = .int .i64 i ∧ i ≤ n ∧ Hid (look (xs.take i) k = none) ∧ Hid (Below w.heap.size w wr)) (fun v _ => n - (intOf v).toNat)
  case atStart => exact ⟨0, rfl, Nat.zero_le _, Lib.hid rfl, Lib.hid (Below.refl _ _)⟩
  case round =>
    obtain ⟨i, rfl, hin, HL, HB⟩ := hrel
    have ei : IntKind.i64.wrap ((i : Int) + 1) = (i : Int) + 1 := IntWalk.i64_in _ (by omega)
    by_cases hlt : i < n
    · obtain ⟨p, hp1⟩ : ∃ p, xs[i]? = some p := ⟨xs[i]'(by rw [← HN.out]; exact hlt), List.getElem?_eq_getElem _⟩
      obtain ⟨g2, off2, rfl, hcl, hpa⟩ := (HX.out.later HB.out).cells hp1
      clear hcl
      have k0 : wr.cell? ⟨g2, off2 + i * 2, none⟩ = some (.string p.1) := hpa 0 _ rfl
      have k1 : wr.cell? ⟨g2, off2 + i * 2 + 1, none⟩ = some (.string p.2) := hpa 1 _ rfl
      have hI1 : (i : Int) < (n : Int) := by omega
      have hI2 : (0 : Int) ≤ (i : Int) := by omega
      have HSt := Lib.hid (look_at hp1 HL.out)
      have hba := below_alloc wr (Obj.cells #[Value.string p.1, .string p.2] 27)
      have HBa := Lib.hid (HB.out.trans (hba.mono HB.out.size))
      obtain ⟨k', x⟩ := p
      simp only at k0 k1 HSt HBa
      clear hpa hp1 hba
      by_cases hk : k' = k
      · have hke : (k'.toList == k.toList) = true := by rw [ba_eq]; simpa using hk
        have HSo := Lib.hid (HSt.out.2 hk)
        clear HSt hk
        go_wp2_with fail
        refine bodyPost_ret (v := .tuple #[.string x, .bool true]) (by simp [results, Try.results61, go_sem]) rfl ?_
        exact ⟨by rw [HSo.out]; rfl, HBa.out⟩
      · have hke : (k'.toList == k.toList) = false := by rw [ba_eq]; simpa using hk
        have HNo : Hid (look (xs.take (i + 1)) k = none) := Lib.hid (by rw [HSt.out.1, if_neg hk])
        clear HSt hk
        go_wp2_with fail
        exact ⟨⟨i + 1, by push_cast; rfl, by omega, HNo, HBa⟩, by simp [intOf]; omega⟩
    · obtain rfl : i = n := by omega
      have hL := HL.out
      rw [List.take_of_length_le (by rw [← HN.out]; exact Nat.le_refl _)] at hL
      have HLL := Lib.hid hL
      clear hL
      go_wp2_with fail
      refine bodyPost_ret (v := .tuple #[.string ⟨#[]⟩, .bool false]) (by simp [results, Try.results61, go_sem]) rfl ?_
      exact ⟨by rw [HLL.out]; rfl, HB.out⟩
set_option maxRecDepth 100000 in
set_option maxHeartbeats 3200000 in
theorem Union_any {w : World} {u v : Value} {xs ys : List Pr} (h : prL.In w u xs) (hy : prL.In w v ys) (hs : Sorted xs) (hl : xs.length + ys.length ≤ 1000000) :
    Calls Try.prog 60 #[u, v] w fun e w' => ∃ r, e = .returned r ∧ prL.In w' r (un xs ys) ∧ Below w.heap.size w w' := by
  have HX := Lib.hid h
  have HY := Lib.hid hy
  obtain ⟨a, c, rfl, _, _⟩ := hy.slice
  obtain ⟨a1, c1, rfl, _, _⟩ := h.slice
  obtain ⟨n, hn⟩ : ∃ n, n = ys.length := ⟨_, rfl⟩
  rw [← hn] at HY hl ⊢
  have HN := Lib.hid hn
  have HS := Lib.hid hs
  clear h hy hn hs
  have H0 : Hid (prL.In w (.slice a1 xs.length c1) (un xs (ys.take 0))) := Lib.hid HX.out
  go_enter Try.func60, Try.ntmps60
  go_wp2_with fail
  go_loopw [5, 11] (fun u v wr => ∃ i : Nat, v = .int .i64 i ∧ i ≤ n ∧ Hid (prL.In wr u (un xs (ys.take i))) ∧ Hid (Below w.heap.size w wr)) (fun _ v _ => n - (intOf v).toNat)
  case atStart => exact ⟨0, rfl, Nat.zero_le _, H0, Lib.hid (Below.refl _ _)⟩
  case round =>
    obtain ⟨i, rfl, hin, HR, HB⟩ := hrel
    clear H0
    have ei : IntKind.i64.wrap ((i : Int) + 1) = (i : Int) + 1 := IntWalk.i64_in _ (by omega)
    obtain ⟨ua, uc, hu, _, _⟩ := HR.out.slice
    subst hu
    by_cases hlt : i < n
    · obtain ⟨p, hp1⟩ : ∃ p, ys[i]? = some p := ⟨ys[i]'(by rw [← HN.out]; exact hlt), List.getElem?_eq_getElem _⟩
      obtain ⟨g2, off2, rfl, hcl, hpa⟩ := (HY.out.later HB.out).cells hp1
      clear hcl
      have k0 : wr.cell? ⟨g2, off2 + i * 2, none⟩ = some (.string p.1) := hpa 0 _ rfl
      have k1 : wr.cell? ⟨g2, off2 + i * 2 + 1, none⟩ = some (.string p.2) := hpa 1 _ rfl
      have hI1 : (i : Int) < (n : Int) := by omega
      have hI2 : (0 : Int) ≤ (i : Int) := by omega
      have HSt := Lib.hid (un_step xs hp1)
      have hba := below_alloc wr (Obj.cells #[Value.string p.1, .string p.2] 27)
      have HBa := Lib.hid (HB.out.trans (hba.mono HB.out.size))
      have HRa := Lib.hid (HR.out.later hba)
      have HLn : Hid ((un xs (ys.take i)).length ≤ 1073741822) := Lib.hid (by have := un_len (ys.take i) xs; have := List.length_take_le i ys; omega)
      have b0 : (wr.alloc (Obj.cells #[Value.string p.1, .string p.2] 27)).cell? ⟨wr.heap.size, 0, none⟩ = some (.string p.1) := by go_simp
      have b1 : (wr.alloc (Obj.cells #[Value.string p.1, .string p.2] 27)).cell? ⟨wr.heap.size, 1, none⟩ = some (.string p.2) := by go_simp
      have HC := Lib.hid (With_row p HRa.out (un_sorted _ HS.out) HLn.out)
      clear hpa hp1 hba
      go_wp2_with fail
      go_fit HC.out
      rintro e w2 ⟨u2, rfl, hr2⟩
      have HR2 : Hid (prL.In w2 u2 (un xs (ys.take (i + 1)))) := Lib.hid (by rw [HSt.out]; exact hr2.told)
      have HB2 := Lib.hid (HBa.out.trans (hr2.grown.mono HBa.out.size))
      clear hr2 b0 b1 HC HRa HBa
      go_wp2_with fail
      exact ⟨⟨i + 1, by push_cast; rfl, by omega, HR2, HB2⟩, by simp [intOf]; omega⟩
    · obtain rfl : i = n := by omega
      have HR2 : Hid (prL.In wr (.slice ua (un xs (ys.take i)).length uc) (un xs ys)) := Lib.hid (by have h := HR.out; rw [List.take_of_length_le (by rw [← HN.out]; exact Nat.le_refl _)] at h ⊢; exact h)
      clear HR
      go_wp2_with fail
      go_ret
      exact ⟨_, rfl, HR2.out, HB.out⟩

/-- What leads from one list to another one: a key, what it had, what it has. -/
abbrev Dv := ByteArray × Option ByteArray × Option ByteArray
def dvL : Lay Dv := ⟨fun e => [.int .i64 0, .string e.1, .bool e.2.1.isSome, .string (e.2.1.getD e0), .bool e.2.2.isSome, .string (e.2.2.getD e0)], 6, fun _ => rfl, by
  intro e u hu
  simp only [List.mem_cons, List.not_mem_nil, or_false] at hu
  rcases hu with rfl | rfl | rfl | rfl | rfl | rfl <;> rfl⟩
def dfO (A B : List Pr) (k : ByteArray) : List Dv := if look A k = look B k then [] else [(k, look A k, look B k)]
def df (A B L : List Pr) : List Dv := L.flatMap fun p => dfO A B p.1
theorem df_step (A B : List Pr) {L : List Pr} {i : Nat} {p : Pr} (h : L[i]? = some p) : df A B (L.take (i + 1)) = df A B (L.take i) ++ dfO A B p.1 := by
  unfold df
  rw [List.take_add_one, h, List.flatMap_append]
  simp
theorem df_len (A B : List Pr) : ∀ L : List Pr, (df A B L).length ≤ L.length
  | [] => Nat.le_refl _
  | p :: L => by
    have ih := df_len A B L
    unfold df at ih ⊢
    rw [List.flatMap_cons, List.length_append, List.length_cons]
    have : (dfO A B p.1).length ≤ 1 := by unfold dfO; split <;> simp
    omega
theorem Try.infoEv : (Try.prog.info? 67).map (fun i => (i.zero, i.size, i.bytes)) = some (some (.agg #[.int .i64 0, .string ByteArray.empty, .bool false, .string ByteArray.empty, .bool false, .string ByteArray.empty]), 6, 72) := by kernel_rfl
theorem opt_same (o p : Option ByteArray) : o = p ↔ (o.isSome = p.isSome ∧ o.getD e0 = p.getD e0) := by
  cases o <;> cases p <;> simp
set_option maxRecDepth 100000 in
set_option maxHeartbeats 6400000 in
theorem Diff_any {w : World} {u v : Value} {A B : List Pr} (h : prL.In w u A) (hy : prL.In w v B) (hs : Sorted A) (hl : A.length + B.length ≤ 1000000) :
    Calls Try.prog 31 #[u, v] w fun e w' => ∃ r, e = .returned r ∧ Rw dvL 67 w w' r (df A B (un A B)) := by
  have HU := Lib.hid (Union_any h hy hs hl)
  have HX := Lib.hid h
  have HY := Lib.hid hy
  have HLt : Hid (A.length ≤ 1000000 ∧ B.length ≤ 1000000 ∧ (un A B).length ≤ 1000000) := Lib.hid ⟨by omega, by omega, by have := un_len B A; omega⟩
  obtain ⟨a, c, rfl, _, _⟩ := hy.slice
  obtain ⟨a1, c1, rfl, _, _⟩ := h.slice
  clear h hy hs hl
  go_enter Try.func31, Try.ntmps31
  go_wp2_with fail
  go_fit HU.out
  rintro e w1 ⟨r1, rfl, hr1, hb1⟩
  have HR := Lib.hid hr1
  have HB1 := Lib.hid hb1
  obtain ⟨ra, rc, rfl, _, _⟩ := hr1.slice
  obtain ⟨n, hn⟩ : ∃ n, n = (un A B).length := ⟨_, rfl⟩
  obtain ⟨L, hL⟩ : ∃ L, L = un A B := ⟨_, rfl⟩
  have hn2 : n ≤ 1000000 := by rw [hn]; exact HLt.out.2.2
  rw [← hn, ← hL] at HR
  rw [← hn]
  have HN : Hid (n = L.length) := Lib.hid (by rw [hL]; exact hn)
  have HLe := Lib.hid hL
  clear hr1 hb1 hn hL HU
  go_wp2_with fail
  have H0 : Hid (Rw dvL 67 w1 w1 (.slice none 0 0) (df A B (L.take 0))) := Lib.hid (Rw.nil w1)
  go_loopw [5, 16] (fun u v wr => ∃ i : Nat, v = .int .i64 i ∧ i ≤ n ∧ Hid (Rw dvL 67 w1 wr u (df A B (L.take i)))) (fun _ v _ => n - (intOf v).toNat)
  case atStart => exact ⟨0, rfl, Nat.zero_le _, H0⟩
  case round =>
    obtain ⟨i, rfl, hin, HRw⟩ := hrel
    clear H0
    have ei : IntKind.i64.wrap ((i : Int) + 1) = (i : Int) + 1 := IntWalk.i64_in _ (by omega)
    obtain ⟨ua, uc, hu, _, _⟩ := HRw.out.slice
    subst hu
    by_cases hlt : i < n
    · obtain ⟨p, hp1⟩ : ∃ p, L[i]? = some p := ⟨L[i]'(by rw [← HN.out]; exact hlt), List.getElem?_eq_getElem _⟩
      obtain ⟨g2, off2, rfl, hcl, hpa⟩ := (HR.out.later HRw.out.grown).cells hp1
      clear hcl
      have k0 : wr.cell? ⟨g2, off2 + i * 2, none⟩ = some (.string p.1) := hpa 0 _ rfl
      have k1 : wr.cell? ⟨g2, off2 + i * 2 + 1, none⟩ = some (.string p.2) := hpa 1 _ rfl
      have hI1 : (i : Int) < (n : Int) := by omega
      have hI2 : (0 : Int) ≤ (i : Int) := by omega
      have HSt := Lib.hid (df_step A B hp1)
      have hln : (df A B (L.take i)).length ≤ i := Nat.le_trans (df_len A B _) (List.length_take_le i L)
      obtain ⟨k, x⟩ := p
      simp only at k0 k1 HSt
      clear hpa hp1
      obtain ⟨y, hy⟩ : ∃ y, y = (look A k).getD e0 := ⟨_, rfl⟩
      obtain ⟨b, hb⟩ : ∃ b, b = (look A k).isSome := ⟨_, rfl⟩
      obtain ⟨z, hz⟩ : ∃ z, z = (look B k).getD e0 := ⟨_, rfl⟩
      obtain ⟨d, hd⟩ : ∃ d, d = (look B k).isSome := ⟨_, rfl⟩
      have HV := Lib.hid (show y = (look A k).getD e0 ∧ b = (look A k).isSome ∧ z = (look B k).getD e0 ∧ d = (look B k).isSome from ⟨hy, hb, hz, hd⟩)
      clear hy hb hz hd
      have HW1 := Lib.hid (HRw.out.alloc (Obj.cells #[Value.string k, .string x] 27))
      have HF1 : Hid ((wr.alloc (Obj.cells #[Value.string k, .string x] 27)).cell? ⟨wr.heap.size, 0, none⟩ = some (.string k)) := Lib.hid (by go_simp)
      have f0 := HF1.out
      obtain ⟨m, hm⟩ : ∃ m, m = (df A B (L.take i)).length := ⟨_, rfl⟩
      rw [← hm] at hln ⊢
      have HM := Lib.hid hm
      clear hm
      go_upto_region 5 with fail
      clear k0 k1
      generalize wr.alloc (Obj.cells #[Value.string k, .string x] 27) = w2 at *
      generalize wr.heap.size = bx at *
      have hb2 : Hid (Below w.heap.size w w2) := Lib.hid (HB1.out.trans (HW1.out.grown.mono HB1.out.size))
      have HG1 : Hid (Calls Try.prog 61 #[.slice a1 A.length c1, .string k] w2 fun e w' => e = .returned (.tuple #[.string y, .bool b]) ∧ Below w2.heap.size w2 w') := by
        have h := Get_any k (HX.out.later hb2.out) (by have := HLt.out.1; omega)
        rw [← HV.out.1, ← HV.out.2.1] at h
        exact Lib.hid h
      go_wp2_with fail
      go_fit HG1.out
      rintro e w3 ⟨rfl, hb3⟩
      have HB3 := Lib.hid (hb2.out.trans (hb3.mono hb2.out.size))
      have HW3 := Lib.hid (HW1.out.below hb3)
      have HF3 := Lib.hid (cell_later hb3 f0)
      clear hb3 f0 HG1
      have f0 := HF3.out
      have HG2 : Hid (Calls Try.prog 61 #[.slice a B.length c, .string k] w3 fun e w' => e = .returned (.tuple #[.string z, .bool d]) ∧ Below w3.heap.size w3 w') := by
        have h := Get_any k (HY.out.later HB3.out) (by have := HLt.out.2.1; omega)
        rw [← HV.out.2.2.1, ← HV.out.2.2.2] at h
        exact Lib.hid h
      go_wp2_with fail
      go_fit HG2.out
      rintro e w4 ⟨rfl, hb4⟩
      have HW4 := Lib.hid (HW3.out.below hb4)
      have HF4 := Lib.hid (cell_later hb4 f0)
      clear hb4 f0 HG2 HW3 HF3 HW1 HF1 HB3 hb2
      have f0 := HF4.out
      by_cases hs : b = d ∧ y = z
      · have hE : look A k = look B k := (opt_same _ _).2 ⟨by rw [← HV.out.2.1, ← HV.out.2.2.2]; exact hs.1, by rw [← HV.out.1, ← HV.out.2.2.1]; exact hs.2⟩
        have HNx : Hid (Rw dvL 67 w1 w4 (.slice ua m uc) (df A B (L.take (i + 1)))) := Lib.hid (by
          rw [HSt.out, dfO, if_pos hE, List.append_nil, HM.out]; exact HW4.out)
        obtain ⟨rfl, rfl⟩ := hs
        have hye : (y.toList == y.toList) = true := by rw [ba_eq]; simp
        clear hE
        cases b <;>
        · go_wp2_with fail
          exact ⟨⟨i + 1, by push_cast; rfl, by omega, HNx⟩, by simp [intOf]; omega⟩
      · have hE : ¬ look A k = look B k := fun e => hs (by
          have := (opt_same _ _).1 e
          rw [HV.out.1, HV.out.2.1, HV.out.2.2.1, HV.out.2.2.2]; exact this)
        have HDo : Hid (df A B (L.take (i + 1)) = df A B (L.take i) ++ [(k, look A k, look B k)]) := Lib.hid (by rw [HSt.out, dfO, if_neg hE])
        have HEnc : Hid (dvL.enc (k, look A k, look B k) = [.int .i64 0, .string k, .bool b, .string y, .bool d, .string z]) := Lib.hid (by
          rw [HV.out.1, HV.out.2.1, HV.out.2.2.1, HV.out.2.2.2]; rfl)
        have Hl2 : Hid (m + 1 ≤ 1073741825) := Lib.hid (by omega)
        have HZ4 := Lib.hid HW4.out.grown.size
        have HO4 := Lib.hid (show w4.ownsRow w1.heap.size 67 6 (.slice ua m uc) m (dvL.all (df A B (L.take i))) from by have h := HW4.out.own; rw [← HM.out] at h; exact h)
        have hfin : ∀ (w5 : World) (g5 c5 : Nat), w5.ownsRow w1.heap.size 67 6 (.slice (some ⟨g5, 0, none⟩) (m + 1) c5) (m + 1) (dvL.all (df A B (L.take i)) ++ [.int .i64 0, .string k, .bool b, .string y, .bool d, .string z]) → w4.grownBy w5 (Value.slice ua m uc).ownBlock → Rw dvL 67 w1 w5 (.slice (some ⟨g5, 0, none⟩) (m + 1) c5) (df A B (L.take (i + 1))) := fun w5 g5 c5 ho hg => by
          have h := HW4.out.push (k, look A k, look B k) (g := g5) (c2 := c5) (w2 := w5) (by rw [← HM.out, HEnc.out]; exact ho) (by rw [← HM.out]; exact hg)
          rw [← HM.out, ← HDo.out] at h
          exact h
        have HFn := Lib.hid hfin
        clear hfin hE HDo HEnc HV
        have hcond : (b = d → ¬ y = z) := fun e f => hs ⟨e, f⟩
        by_cases hyz : y = z
        · have hbd : b ≠ d := fun e => hs ⟨e, hyz⟩
          subst hyz
          clear hs hcond
          cases b <;> cases d <;> first | exact absurd rfl hbd | skip
          all_goals
            clear hbd
            go_wp2_with (at_builtin; go_loud (refine wpList_pushI rfl _ _ 62 67 _ 6 72 rfl Try.underlying62 Try.infoEv rfl (by decide) w1.heap.size m _ _ rfl HO4.out #[.int .i64 0, .string k, .bool _, .string y, .bool _, .string y] rfl (by simp [Value.oneCell']) rfl Hl2.out (by decide) HZ4.out ?_; intro g5 c5 w5 hown5 hg5 hat5 hlt5; have HN5 := Lib.hid (HFn.out w5 g5 c5 hown5 hg5); clear hown5 hg5 hat5 hlt5))
            exact ⟨⟨i + 1, by push_cast; rfl, by omega, HN5⟩, by simp [intOf]; omega⟩
        · have hye : (y.toList == z.toList) = false := by rw [ba_eq]; simpa using hyz
          clear hs hcond hyz
          cases b <;> cases d
          all_goals
            go_wp2_with (at_builtin; go_loud (refine wpList_pushI rfl _ _ 62 67 _ 6 72 rfl Try.underlying62 Try.infoEv rfl (by decide) w1.heap.size m _ _ rfl HO4.out #[.int .i64 0, .string k, .bool _, .string y, .bool _, .string z] rfl (by simp [Value.oneCell']) rfl Hl2.out (by decide) HZ4.out ?_; intro g5 c5 w5 hown5 hg5 hat5 hlt5; have HN5 := Lib.hid (HFn.out w5 g5 c5 hown5 hg5); clear hown5 hg5 hat5 hlt5))
            exact ⟨⟨i + 1, by push_cast; rfl, by omega, HN5⟩, by simp [intOf]; omega⟩
    · obtain rfl : i = n := by omega
      have HR2 : Hid (Rw dvL 67 w wr (.slice ua (df A B (L.take i)).length uc) (df A B (un A B))) := Lib.hid (by
        have h := HRw.out
        rw [List.take_of_length_le (by rw [← HN.out]; exact Nat.le_refl _)] at h ⊢
        rw [← HLe.out]
        exact h.base HB1.out)
      clear HRw
      go_wp2_with fail
      go_ret
      exact ⟨_, rfl, HR2.out⟩
end Go.Proofs.Ytcbgnmolfdhnfaa
