/-
  Walks: how much operations and calls have; whether they may be gone through.
-/
import Derived.Test.YtdfjnpnkfjcpcaaK6
namespace Go.Proofs.Ytdfjnpnkfjcpcaa
set_option linter.unusedVariables false
set_option linter.unusedSimpArgs false
open Go.RowKit

def kwt (o : Kop) : Nat := 1 + min o.key.size 32768 + min o.val.size 32768
def wghGo (n : Nat) : List Kop → Nat
  | [] => n
  | o :: l => if n ≤ 32768 then wghGo (n + kwt o) l else n
def wgh (l : List Kop) : Nat := wghGo 0 l
theorem kwt_le (o : Kop) : kwt o ≤ 65537 := by unfold kwt; omega
theorem wghGo_le : ∀ (l : List Kop) (n : Nat), n ≤ 98305 → wghGo n l ≤ 98305
  | [], n, h => h
  | o :: l, n, h => by
    unfold wghGo
    split
    · exact wghGo_le l _ (by have := kwt_le o; omega)
    · exact h
theorem wghGo_ge : ∀ (l : List Kop) (n : Nat), n ≤ wghGo n l
  | [], n => Nat.le_refl _
  | o :: l, n => by
    unfold wghGo
    split
    · exact Nat.le_trans (by omega) (wghGo_ge l _)
    · exact Nat.le_refl _
theorem wghGo_ok : ∀ (l : List Kop) (n : Nat), wghGo n l ≤ 32768 → n + l.length ≤ 32768 ∧ ∀ o ∈ l, o.key.size ≤ 32768 ∧ o.val.size ≤ 32768
  | [], n, h => ⟨by simpa [wghGo] using h, fun o ho => by cases ho⟩
  | o :: l, n, h => by
    unfold wghGo at h
    split at h
    · rename_i hn
      have h1 := wghGo_ok l _ h
      have h2 := wghGo_ge l (n + kwt o)
      have h3 : kwt o ≤ 32768 := by omega
      unfold kwt at h1 h2 h3
      refine ⟨by have := h1.1; simp only [List.length_cons]; omega, fun x hx => ?_⟩
      rcases List.mem_cons.1 hx with rfl | hx
      · omega
      · exact h1.2 x hx
    · omega
theorem wgh_ok {l : List Kop} (h : wgh l ≤ 32768) : l.length ≤ 32768 ∧ Small l := by
  have h1 := wghGo_ok l 0 h
  exact ⟨by omega, fun o ho => by have := h1.2 o ho; omega⟩
theorem wgh_le (l : List Kop) : wgh l ≤ 98305 := wghGo_le l 0 (by omega)
theorem wgh_step {l : List Kop} {i n : Nat} {o : Kop} (h : l[i]? = some o) (hm : wghGo n (l.drop i) = wgh l) : (n ≤ 32768 → wghGo (n + kwt o) (l.drop (i + 1)) = wgh l) ∧ (¬ n ≤ 32768 → wgh l = n) := by
  have hlt := (List.getElem?_eq_some_iff.1 h).1
  have e : l.drop i = o :: l.drop (i + 1) := by
    rw [List.drop_eq_getElem_cons hlt]
    congr 1
    exact (List.getElem?_eq_some_iff.1 h).2
  rw [e] at hm
  unfold wghGo at hm
  constructor
  · intro h0
    rw [if_pos h0] at hm; exact hm
  · intro h0
    rw [if_neg h0] at hm; exact hm.symm
def WghP (l : List Kop) (w : World) (e : Ending) (w' : World) : Prop := e = .returned (.int .i64 (wgh l : Nat)) ∧ ∃ m, w' = w.drewN m
theorem WghP.of {l : List Kop} {w w' : World} {n : Nat} (h : wgh l = n) (hw : ∃ m, w' = w.drewN m) : WghP l w (.returned (.int .i64 (n : Nat))) w' := ⟨by rw [h], hw⟩
theorem drew_cell {w wr : World} (h : ∃ m, wr = w.drewN m) {p : Addr} {v : Value} (hc : w.cell? p = some v) : wr.cell? p = some v := by
  obtain ⟨m, rfl⟩ := h
  exact hc

set_option maxRecDepth 100000 in
set_option maxHeartbeats 3200000 in
theorem weigh_any {w : World} {v : Value} {l : List Kop} (h : opL.In w v l) : Calls Try.prog 32 #[v] w (WghP l w) := by
  obtain ⟨a, c, rfl, hc1, hc2⟩ := h.slice
  have HD := Lib.hid h
  clear h
  go_enter Try.func32, Try.ntmps32
  go_wp2_with fail
  go_loopw [3, 4] (fun u v wr => ∃ (i n : Nat), u = .int .i64 n ∧ v = .int .i64 i ∧ i ≤ l.length ∧ i ≤ n ∧ n ≤ 98305 ∧ Hid (wghGo n (l.drop i) = wgh l) ∧ Hid (∃ m, wr = w.drewN m))
    (fun _ v _ => l.length - (intOf v).toNat)
  case atStart => exact ⟨0, 0, rfl, rfl, Nat.zero_le _, Nat.le_refl _, by omega, rfl, 0, rfl⟩
  case round =>
    obtain ⟨i, n, rfl, rfl, hin, hi2, hn, hw, hq⟩ := hrel
    have ei : IntKind.i64.wrap ((i : Int) + 1) = (i : Int) + 1 := IntWalk.i64_in _ (by omega)
    by_cases hlt : i < l.length
    · obtain ⟨o, ho⟩ : ∃ o, l[i]? = some o := ⟨l[i], List.getElem?_eq_getElem hlt⟩
      by_cases hn2 : n ≤ 32768
      · obtain ⟨g, off, rfl, _, hcell⟩ := HD.out.cells ho
        have c0 : wr.cell? ⟨g, off + i * 3, none⟩ = some (.string o.key) := drew_cell hq.out (hcell 0 _ rfl)
        have c2 : wr.cell? ⟨g, off + i * 3 + 2, none⟩ = some (.string o.val) := drew_cell hq.out (hcell 2 _ rfl)
        have hI1 : (i : Int) < ((l.length : Nat) : Int) := by omega
        have hI2 : (0 : Int) ≤ (i : Int) := by omega
        have hI4 : (n : Int) ≤ 32768 := by omega
        have HK : Hid (((n + kwt o : Nat) : Int) = (n : Int) + (1 + min (o.key.size : Int) 32768 + min (o.val.size : Int) 32768)) := by show _ = _; unfold kwt; omega
        have HS : Hid (wghGo (n + kwt o) (l.drop (i + 1)) = wgh l) := (wgh_step ho hw.out).1 hn2
        have HL : Hid (n + kwt o ≤ 98305) := by show _ ≤ _; have := kwt_le o; omega
        have HG : Hid (i + 1 ≤ n + kwt o) := by show _ ≤ _; unfold kwt; omega
        have e1 : IntKind.i64.wrap (1 + min (o.key.size : Int) 32768) = 1 + min (o.key.size : Int) 32768 := IntWalk.i64_in _ (by omega)
        have e2 : IntKind.i64.wrap (1 + min (o.key.size : Int) 32768 + min (o.val.size : Int) 32768) = 1 + min (o.key.size : Int) 32768 + min (o.val.size : Int) 32768 := IntWalk.i64_in _ (by omega)
        have e3 : IntKind.i64.wrap ((n : Int) + (1 + min (o.key.size : Int) 32768 + min (o.val.size : Int) 32768)) = (n : Int) + (1 + min (o.key.size : Int) 32768 + min (o.val.size : Int) 32768) := IntWalk.i64_in _ (by omega)
        clear hcell ho hn2 hn hw
        go_wp2_with fail
        go_quiet (fail)
        go_wp2_with fail
        refine ⟨⟨i + 1, n + kwt o, by rw [HK.out], by simp, hlt, HG.out, HL.out, HS, ?_⟩, by show l.length - ((i : Int) + 1).toNat < l.length - ((i : Int)).toNat; omega⟩
        obtain ⟨m, hm⟩ := hq.out
        exact ⟨_, by rw [hm, World.drewN_drewN]⟩
      · have HE : Hid (wgh l = n) := (wgh_step ho hw.out).2 hn2
        have hI1 : (i : Int) < ((l.length : Nat) : Int) := by omega
        have hI4 : ¬ (n : Int) ≤ 32768 := by omega
        clear ho hn2 hn hw
        go_wp2_with fail
        go_ret
        exact WghP.of HE.out hq.out
    · obtain rfl : i = l.length := by omega
      have HE : Hid (wgh l = n) := by show _ = _; have h := hw.out; rw [List.drop_length] at h; exact h.symm
      go_wp2_with fail
      go_ret
      exact WghP.of HE.out hq.out
end Go.Proofs.Ytdfjnpnkfjcpcaa
