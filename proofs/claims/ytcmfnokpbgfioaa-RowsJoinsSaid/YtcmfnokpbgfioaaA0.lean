/-
  The laws' terms and light.
-/
import Derived.Test.YtcmfnokpbgfioaaE4
namespace Go.Proofs.Ytcmfnokpbgfioaa
set_option linter.unusedVariables false
set_option linter.unusedSimpArgs false
open Go.RowKit

def intL : Lay Int := ⟨fun x => [.int .i64 x], 1, fun _ => rfl, by intro x u hu; simp at hu; subst hu; rfl⟩
def termN (ts : List Int) (n : Nat) : List En := (List.range n).map fun (k : Nat) => (⟨(k : Int) + 1, ts.getD k 0, (none, 0, 0)⟩ : En)
def termR (ts : List Int) : List Er := (List.range ts.length).map fun (k : Nat) => (⟨(k : Int) + 1, ts.getD k 0, []⟩ : Er)
theorem termN_len (ts : List Int) (n : Nat) : (termN ts n).length = n := by simp [termN]
theorem termN_succ (ts : List Int) (n : Nat) : termN ts (n + 1) = termN ts n ++ [⟨(n : Int) + 1, ts.getD n 0, (none, 0, 0)⟩] := by
  unfold termN
  rw [List.range_succ, List.map_append]; rfl
theorem term_mat (w : World) (L : List Nat) (ts : List Int) : Mat w L (termN ts ts.length) (termR ts) := by
  refine ⟨by simp [termN, termR], fun k x e hx he => ?_⟩
  unfold termN at hx
  unfold termR at he
  rw [List.getElem?_map] at hx he
  obtain ⟨k1, hk1, rfl⟩ := Option.map_eq_some_iff.1 hx
  obtain ⟨k2, hk2, rfl⟩ := Option.map_eq_some_iff.1 he
  rw [hk1] at hk2; cases hk2
  exact ⟨rfl, rfl, Byt.nil w L⟩

set_option maxRecDepth 100000 in
set_option maxHeartbeats 6400000 in
theorem terms_any {w : World} {a : Option Addr} {c : Nat} {ts : List Int} (h : intL.In w (.slice a ts.length c) ts) (hl : ts.length ≤ 1000) : Calls Try.prog 32 #[.slice a ts.length c] w (LogP 0 0 (termR ts) w) := by
  have hal := lay_alloc w (.cells #[.int .i64 0, .int .i64 0, .slice none 0 0] 24)
  have hd := DC.alloc w [.int .i64 0, .int .i64 0, .slice none 0 0] 24
  have hal2 := lay_alloc (w.alloc (.cells #[.int .i64 0, .int .i64 0, .slice none 0 0] 24)) (.cells #[.int .i64 0, .int .i64 0, .slice none 0 0] 24)
  have hd2 := DC.alloc (w.alloc (.cells #[.int .i64 0, .int .i64 0, .slice none 0 0] 24)) [.int .i64 0, .int .i64 0, .slice none 0 0] 24
  have hs : (w.alloc (.cells #[.int .i64 0, .int .i64 0, .slice none 0 0] 24)).heap.size = w.heap.size + 1 := by simp
  rw [hs] at hd2
  have hs2 : ((w.alloc (.cells #[.int .i64 0, .int .i64 0, .slice none 0 0] 24)).alloc (.cells #[.int .i64 0, .int .i64 0, .slice none 0 0] 24)).heap.size = w.heap.size + 2 := by simp
  have hb := hal.trans (hal2.mono hal.size)
  have HR := Lib.hid (hd.below hal2)
  have HX := Lib.hid hd2
  have HB := Lib.hid hb
  have HI := Lib.hid h
  have HS := Lib.hid hs2
  clear hal hal2 hd hd2 hs hs2 hb h
  go_enter Try.func32, Try.ntmps32
  go_wp2_with fail
  generalize (w.alloc _).alloc _ = W at *
  go_loopw [4, 5, 8] (fun _ _ j wr => ∃ (k : Nat) (v : Value), j = .int .i64 k ∧ k ≤ ts.length ∧ Hid (DC wr (w.heap.size + 1) [.int .i64 0, .int .i64 0, v]) ∧ Hid (DC wr w.heap.size [.int .i64 0, .int .i64 0, .slice none 0 0]) ∧ Hid (wr.ownsRow (w.heap.size + 2) 44 enL.sz v k (enL.all (termN ts k))) ∧ Hid (Below w.heap.size w wr) ∧ Hid (w.heap.size + 2 ≤ wr.heap.size)) (fun _ _ j _ => ts.length - (intOf j).toNat)
  case atStart => exact ⟨0, .slice none 0 0, rfl, Nat.zero_le _, HX, HR, (by show World.ownsRow _ _ _ _ _ _ _; exact World.ownsRow_nil _ _ _ _), HB, (by show _ ≤ _; rw [HS.out]; exact Nat.le_refl _)⟩
  case round =>
    obtain ⟨k, v, rfl, hk, hX, hR, hO, hB, hW⟩ := hrel
    obtain ⟨va, vc, rfl⟩ := row_slice1 hO.out
    by_cases hlt : k < ts.length
    · have hg : ts[k]? = some ts[k] := List.getElem?_eq_getElem hlt
      have hget : ts.getD k 0 = ts[k] := by simp [hlt]
      have HST := Lib.hid (termN_succ ts k)
      rw [hget] at HST
      generalize ts[k] = y at *
      obtain ⟨g, off, rfl, _, hc⟩ := (HI.out.later hB.out).cells hg
      have k0 : wr.cell? ⟨g, off + k, none⟩ = some (.int .i64 y) := by have := hc 0 _ rfl; simpa [intL] using this
      have e1 : IntKind.i64.wrap ((k : Int) + 1) = (k : Int) + 1 := IntWalk.i64_in _ (by omega)
      have hkk : (k : Int) < (ts.length : Int) := by omega
      have x0 := hX.out.cells 0 _ rfl
      have x1 := hX.out.cells 1 _ rfl
      have x2 := hX.out.cells 2 _ rfl
      have xf := hX.out.fz 2
      have hgl := World.block_lt_of_cell? wr _ k0
      clear hget hg hc
      go_wp2_with (at_builtin; refine wpList_pushI rfl _ _ 22 44 _ 3 40 rfl Try.underlying22 Try.infoEn rfl (by decide) (w.heap.size + 2) k _ (enL.all (termN ts k)) rfl hO.out #[.int .i64 ((k : Int) + 1), .int .i64 y, .slice none 0 0] rfl (enL.one ⟨(k : Int) + 1, y, (none, 0, 0)⟩) rfl (by omega) (by decide) hW.out ?_; intro g4 c4 w4 hown hgrow hat hlt4; have HO4 := Lib.hid hown; have HG4 := Lib.hid hgrow; have HX4 := Lib.hid (hX.out.keep hgrow.size (hgrow.block _ hX.out.lt (fun e => by have := (hO.out.lt _ e.symm).1; omega))); have HR4 := Lib.hid (hR.out.keep hgrow.size (hgrow.block _ hR.out.lt (fun e => by have := (hO.out.lt _ e.symm).1; omega))); have HB4 : Hid (Below w.heap.size w w4) := ⟨hgrow.os.trans hB.out.os, hgrow.tape.trans hB.out.tape, hgrow.output.trans hB.out.output, Nat.le_trans hB.out.size hgrow.size, fun j hj => (hgrow.block j (Nat.lt_of_lt_of_le hj hB.out.size) (fun e => by have := (hO.out.lt _ e.symm).1; omega)).trans (hB.out.block j hj)⟩; have y0 := HX4.out.cells 0 _ rfl; have y1 := HX4.out.cells 1 _ rfl; have y2 := HX4.out.cells 2 _ rfl; have yf := HX4.out.fz 2; clear hown hgrow hat)
      have HX5 := Lib.hid (HX4.out.set 2 (.slice (some ⟨g4, 0, none⟩) (k + 1) c4) (by simp))
      have HR5 := Lib.hid (HR4.out.other (k := w.heap.size + 1) (o := 2) (x := .slice (some ⟨g4, 0, none⟩) (k + 1) c4) (by omega))
      have HB5 := Lib.hid (HB4.out.setCell (p := ⟨w.heap.size + 1, 2, none⟩) (Nat.le_succ _) (.slice (some ⟨g4, 0, none⟩) (k + 1) c4))
      have HO5 := Lib.hid (ownsRow_setCell_below HO4.out (a := ⟨w.heap.size + 1, 2, none⟩) (Nat.lt_succ_self _) (.slice (some ⟨g4, 0, none⟩) (k + 1) c4))
      have HW5 : Hid (w.heap.size + 2 ≤ (w4.setCell ⟨w.heap.size + 1, 2, none⟩ (.slice (some ⟨g4, 0, none⟩) (k + 1) c4)).heap.size) := by show _ ≤ _; simp only [World.setCell, Array.size_modify]; have := hW.out; omega
      exact ⟨⟨k + 1, _, by go_num, hlt, HX5, HR5, (by show World.ownsRow _ _ _ _ _ _ _; rw [HST.out, Lay.all_app, Lay.all_one]; exact HO5.out), HB5, HW5⟩, by show ts.length - ((k : Int) + 1).toNat < ts.length - (k : Int).toNat; omega⟩
    · obtain rfl : k = ts.length := by omega
      have x0 := hX.out.cells 0 _ rfl
      have x1 := hX.out.cells 1 _ rfl
      have x2 := hX.out.cells 2 _ rfl
      have r0 := hR.out.cells 0 _ rfl
      have r1 := hR.out.cells 1 _ rfl
      have r2 := hR.out.cells 2 _ rfl
      have f0 := hR.out.fz 0
      have f1 := hR.out.fz 1
      have f2 := hR.out.fz 2
      have hE : EInB wr (w.heap.size + 2) (.slice va ts.length vc) (termR ts) := by
        refine ⟨termN ts ts.length, by rw [termN_len]; exact hO.out, by rw [(term_mat wr [] ts).len], fun k x e hx he => ⟨((term_mat wr [] ts).each k x e hx he).1, ((term_mat wr [] ts).each k x e hx he).2.1, ?_⟩⟩
        unfold termN at hx
        unfold termR at he
        rw [List.getElem?_map] at hx he
        obtain ⟨k1, hk1, rfl⟩ := Option.map_eq_some_iff.1 hx
        obtain ⟨k2, hk2, rfl⟩ := Option.map_eq_some_iff.1 he
        exact World.ownsRow_nil _ _ _ _
      have HE := Lib.hid hE
      clear hE
      go_wp2_with fail
      change bodyPost _ _ _ _ _ (put3 wr w.heap.size (.int .i64 0) (.int .i64 0) (.slice va ts.length vc))
      have K := put3_dc (v0 := .int .i64 0) (v1 := .int .i64 0) (v2 := .slice va ts.length vc) hR.out
      have hB2 := put3_below (b := w.heap.size) (.int .i64 0) (.int .i64 0) (.slice va ts.length vc) hB.out (Nat.le_refl _)
      have hE2 := put3_ein (B' := w.heap.size) (b := w.heap.size) (.int .i64 0) (.int .i64 0) (.slice va ts.length vc) HE.out (by omega) (by omega)
      have k0 := K.cells 0 _ rfl
      have k1 := K.cells 1 _ rfl
      have k2 := K.cells 2 _ rfl
      clear x0 x1 x2 r0 r1 r2 f0 f1 f2
      generalize put3 _ _ _ _ _ = w9 at *
      exact bodyPost_ret (v := .agg #[.int .i64 0, .int .i64 0, .slice va ts.length vc]) (by simp [results, Try.results32, go_sem, k0, k1, k2]) rfl ⟨_, rfl, hE2, hB2⟩

/-- Lists of entries, as a list of lists in a block. -/
def LsIn (w : World) (g : Nat) (ls : List (List Er)) : Prop := ∀ k l, ls[k]? = some l → ∃ v, w.cell? ⟨g, k, none⟩ = some v ∧ EIn w v l
theorem LsIn.later {w w' : World} {g : Nat} {ls : List (List Er)} (h : LsIn w g ls) (hb : Below w.heap.size w w') : LsIn w' g ls := fun k l hk => by
  obtain ⟨v, h1, h2⟩ := h k l hk
  exact ⟨v, lay_later hb h1, h2.later hb⟩
def LightP (ls : List (List Er)) (w : World) (e : Ending) (w' : World) : Prop := ∃ b : Bool, e = .returned (.bool b) ∧ (b = true → ∀ l ∈ ls, l.length ≤ 200) ∧ w = w'
set_option maxRecDepth 100000 in
set_option maxHeartbeats 6400000 in
theorem light_any {w : World} {g : Nat} {ls : List (List Er)} (h : LsIn w g ls) (hl : ls.length ≤ 10) : Calls Try.prog 11 #[.slice (some ⟨g, 0, none⟩) ls.length ls.length] w (LightP ls w) := by
  have HL := Lib.hid h
  have HN := Lib.hid hl
  clear h
  go_enter Try.func11, Try.ntmps11
  go_wp2_with fail
  go_loopw [3, 5, 6, 9] (fun n _ _ j wr => ∃ (k : Nat) (N : Int), n = .int .i64 N ∧ j = .int .i64 k ∧ k ≤ ls.length ∧ Hid (0 ≤ N ∧ N ≤ 70000 * k) ∧ Hid (∀ i l, i < k → ls[i]? = some l → l.length ≤ 200) ∧ w = wr) (fun _ _ _ j _ => ls.length - (intOf j).toNat)
  case atStart => exact ⟨0, 0, rfl, rfl, Nat.zero_le _, (by show _ ∧ _; omega), (by intro i l hi; omega), rfl⟩
  case round =>
    obtain ⟨k, N, rfl, rfl, hk, hN, hF, rfl⟩ := hrel
    by_cases hlt : k < ls.length
    · have hg : ls[k]? = some ls[k] := List.getElem?_eq_getElem hlt
      generalize ls[k] = l at *
      obtain ⟨v, k0, hv⟩ := HL.out k l hg
      obtain ⟨a, c, rfl, _, _⟩ := hv.slice
      have HV := Lib.hid hv
      have HG := Lib.hid hg
      have hkk : (k : Int) < (ls.length : Int) := by omega
      clear hv hg
      go_wp2_with fail
      go_loopw [3, 6] (fun n j wr => ∃ (q : Nat) (M : Int), n = .int .i64 M ∧ j = .int .i64 q ∧ q ≤ l.length ∧ Hid (0 ≤ M ∧ M ≤ 70000 * k + 65536) ∧ w = wr) (fun _ j _ => l.length - (intOf j).toNat)
      case atStart => exact ⟨0, N, rfl, rfl, Nat.zero_le _, (by show _ ∧ _; have := hN.out; omega), rfl⟩
      case round =>
        obtain ⟨q, M, rfl, rfl, hq, hM, rfl⟩ := hrel
        by_cases q1 : (q : Int) < (l.length : Int)
        · by_cases q2 : (q : Int) ≤ 200
          · by_cases q3 : M ≤ 32768
            · have he : l[q]? = some l[q] := List.getElem?_eq_getElem (by omega)
              generalize l[q] = y at *
              obtain ⟨g2, off, p, c', rfl, e0, e1, e2, _⟩ := HV.out.at he
              have hmn : ∀ ts ty W, (Builtin.min_ ts ty #[.int .i64 (y.d.length : Nat), .int .i64 32768]).run Try.prog W = .ok (.int .i64 (min (y.d.length : Int) 32768)) W := fun ts ty W => by
                rw [run_min_int2]; congr 2; split <;> omega
              have hmb : 0 ≤ min (y.d.length : Int) 32768 ∧ min (y.d.length : Int) 32768 ≤ 32768 := by omega
              generalize min (y.d.length : Int) 32768 = z at *
              have ew : IntKind.i64.wrap (M + z) = M + z := IntWalk.i64_in _ (by have := hM.out; omega)
              have eq : IntKind.i64.wrap ((q : Int) + 1) = (q : Int) + 1 := IntWalk.i64_in _ (by omega)
              have HM2 : Hid (0 ≤ M + z ∧ M + z ≤ 70000 * (k : Int) + 65536) := by show _ ∧ _; have := hM.out; omega
              clear e0 e1 he hmb
              go_wp2_with fail
              exact ⟨⟨q + 1, _, rfl, by go_num, by omega, HM2, trivial⟩, by show l.length - ((q : Int) + 1).toNat < l.length - (q : Int).toNat; omega⟩
            · by_cases h200 : (200 : Int) < (l.length : Int)
              · go_wp2_with fail
                go_ret
                exact ⟨_, rfl, (fun h => by cases h), rfl⟩
              · have HF2 : Hid (∀ i l', i < k + 1 → ls[i]? = some l' → l'.length ≤ 200) := fun i l' hi hl' => by
                  by_cases e : i < k
                  · exact hF.out i l' e hl'
                  · obtain rfl : i = k := by omega
                    rw [HG.out] at hl'; cases hl'; omega
                have HN2 : Hid (0 ≤ M ∧ M ≤ 70000 * ((k + 1 : Nat) : Int)) := by show _ ∧ _; have := hM.out; omega
                go_wp2_with fail
                exact ⟨⟨k + 1, M, rfl, by go_num, hlt, HN2, HF2, trivial⟩, by show ls.length - ((k : Int) + 1).toNat < ls.length - (k : Int).toNat; omega⟩
          · by_cases h200 : (200 : Int) < (l.length : Int)
            · go_wp2_with fail
              go_ret
              exact ⟨_, rfl, (fun h => by cases h), rfl⟩
            · have HF2 : Hid (∀ i l', i < k + 1 → ls[i]? = some l' → l'.length ≤ 200) := fun i l' hi hl' => by
                by_cases e : i < k
                · exact hF.out i l' e hl'
                · obtain rfl : i = k := by omega
                  rw [HG.out] at hl'; cases hl'; omega
              have HN2 : Hid (0 ≤ M ∧ M ≤ 70000 * ((k + 1 : Nat) : Int)) := by show _ ∧ _; have := hM.out; omega
              go_wp2_with fail
              exact ⟨⟨k + 1, M, rfl, by go_num, hlt, HN2, HF2, trivial⟩, by show ls.length - ((k : Int) + 1).toNat < ls.length - (k : Int).toNat; omega⟩
        · by_cases h200 : (200 : Int) < (l.length : Int)
          · go_wp2_with fail
            go_ret
            exact ⟨_, rfl, (fun h => by cases h), rfl⟩
          · have HF2 : Hid (∀ i l', i < k + 1 → ls[i]? = some l' → l'.length ≤ 200) := fun i l' hi hl' => by
              by_cases e : i < k
              · exact hF.out i l' e hl'
              · obtain rfl : i = k := by omega
                rw [HG.out] at hl'; cases hl'; omega
            have HN2 : Hid (0 ≤ M ∧ M ≤ 70000 * ((k + 1 : Nat) : Int)) := by show _ ∧ _; have := hM.out; omega
            go_wp2_with fail
            exact ⟨⟨k + 1, M, rfl, by go_num, hlt, HN2, HF2, trivial⟩, by show ls.length - ((k : Int) + 1).toNat < ls.length - (k : Int).toNat; omega⟩
    · obtain rfl : k = ls.length := by omega
      have HALL : Hid (∀ l ∈ ls, l.length ≤ 200) := fun l hl' => by
        obtain ⟨i, hi, rfl⟩ := List.getElem_of_mem hl'
        exact hF.out i _ hi (List.getElem?_eq_getElem hi)
      go_wp2_with fail
      go_ret
      exact ⟨_, rfl, fun _ => HALL.out, rfl⟩
theorem light_one {w : World} {g : Nat} {l : List Er} (h : LsIn w g [l]) : Calls Try.prog 11 #[.slice (some ⟨g, 0, none⟩) 1 1] w (LightP [l] w) := light_any (ls := [l]) h (by simp)
theorem light_two {w : World} {g : Nat} {l m : List Er} (h : LsIn w g [l, m]) : Calls Try.prog 11 #[.slice (some ⟨g, 0, none⟩) 2 2] w (LightP [l, m] w) := light_any (ls := [l, m]) h (by simp)
theorem light_three {w : World} {g : Nat} {l m n : List Er} (h : LsIn w g [l, m, n]) : Calls Try.prog 11 #[.slice (some ⟨g, 0, none⟩) 3 3] w (LightP [l, m, n] w) := light_any (ls := [l, m, n]) h (by simp)
end Go.Proofs.Ytcmfnokpbgfioaa
