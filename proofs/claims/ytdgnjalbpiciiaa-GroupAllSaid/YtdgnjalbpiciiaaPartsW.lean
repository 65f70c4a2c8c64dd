/-
  GroupParts walked.
-/
import Derived.Test.YtdgnjalbpiciiaaPp
import Derived.Test.YtdgnjalbpiciiaaEvenW
namespace Go.Proofs.Ytdgnjalbpiciiaa
set_option linter.unusedVariables false
set_option linter.unusedSimpArgs false
open Go.RowKit Go.Shelf

def cost (l : List Kev) : Nat := (l.map fun e => 1 + min e.key.size 4096).sum
theorem cost_step {l : List Kev} {i : Nat} {e : Kev} (h : l[i]? = some e) : cost (l.take (i + 1)) = cost (l.take i) + (1 + min e.key.size 4096) := by
  unfold cost
  rw [List.take_add_one, h, List.map_append, List.sum_append]
  simp
theorem cost_fit : ∀ {l : List Kev}, cost l ≤ 4096 → l.length ≤ cost l ∧ ∀ e ∈ l, e.key.size ≤ 4096
  | [], _ => ⟨Nat.zero_le _, fun e h => by cases h⟩
  | x :: l, h => by
    have e : cost (x :: l) = (1 + min x.key.size 4096) + cost l := by unfold cost; simp
    rw [e] at h ⊢
    obtain ⟨h1, h2⟩ := cost_fit (l := l) (by omega)
    refine ⟨by rw [List.length_cons]; omega, fun y hy => ?_⟩
    rcases List.mem_cons.1 hy with rfl | hy
    · omega
    · exact h2 y hy
theorem cost_mono (l : List Kev) (i : Nat) : i ≤ l.length → i ≤ cost (l.take i) := by
  induction i with
  | zero => intro _; exact Nat.zero_le _
  | succ i ih =>
    intro h
    rw [cost_step (List.getElem?_eq_getElem (by omega : i < l.length))]
    have := ih (by omega)
    omega

set_option maxRecDepth 100000 in
set_option maxHeartbeats 6400000 in
theorem Parts_law {w : World} {v : Value} (parts part : Int) {l : List Kev} (hwp : W64 parts) (hwq : W64 part) (hv : evL.In w v l) (hs : ∀ e ∈ l, e.key.size ≤ 9223372036854775807) : Calls Try.prog 5 #[.int .i64 parts, .int .i64 part, v] w (BoolP true w) := by
  obtain ⟨va, vc, rfl, hvc1, hvc2⟩ := hv.slice
  have HV := Lib.hid hv
  have HS := Lib.hid hs
  have HWP := Lib.hid hwp
  have HWQ := Lib.hid hwq
  clear hv hs hwp hwq
  go_enter Try.func5, Try.ntmps5
  go_wp2_with fail
  go_loopw [7, 8] (fun cv iv wr => ∃ i c : Nat, cv = .int .i64 c ∧ iv = .int .i64 i ∧ i ≤ l.length ∧ c ≤ 8193 ∧ Hid (c = cost (l.take i)) ∧ Hid (w = wr)) (fun _ v _ => l.length - (intOf v).toNat)
  case atStart => exact ⟨0, 0, rfl, rfl, Nat.zero_le _, by omega, rfl, rfl⟩
  case round =>
    obtain ⟨i, c, rfl, rfl, hin, hc8, hc, hw⟩ := hrel
    obtain rfl := hw.out
    by_cases hcl : (c : Int) ≤ 4096
    · by_cases hlt : i < l.length
      · obtain ⟨e, he⟩ : ∃ e, l[i]? = some e := ⟨l[i], List.getElem?_eq_getElem hlt⟩
        obtain ⟨g, off, rfl, _, hcell⟩ := HV.out.cells he
        have k1 : w.cell? ⟨g, off + i * 6 + 1, none⟩ = some (.string e.key) := hcell 1 _ rfl
        have hI1 : (i : Int) < ((l.length : Nat) : Int) := by omega
        have hI2 : (0 : Int) ≤ (i : Int) := by omega
        have hes := HS.out e (List.mem_of_getElem? he)
        have HC : Hid (c + (1 + min e.key.size 4096) = cost (l.take (i + 1))) := by show _ = _; rw [cost_step he, ← hc.out]
        clear he hcell
        go_wp2_with fail
        exact ⟨⟨i + 1, c + (1 + min e.key.size 4096), by congr 1; omega, by go_num, by omega, by omega, HC, by first | exact trivial | rfl⟩, by simp [intOf]; omega⟩
      · obtain rfl : i = l.length := by omega
        have hfit := cost_fit (l := l) (by have := hc.out; rw [List.take_length] at this; omega)
        have HF := Lib.hid hfit.2
        have hll : l.length ≤ 4096 := by have := hc.out; rw [List.take_length] at this; omega
        have HP := Lib.hid (fun (wx : World) (h : evL.In wx (.slice va l.length vc) l) => Pass_any parts part HWP.out HWQ.out h (by omega) (fun e he => by have := HF.out e he; omega))
        have HRP := Lib.hid (fun (wx : World) (h : evL.In wx (.slice va l.length vc) l) => RPass_any parts part HWP.out HWQ.out h (by omega) (fun e he => by have := HF.out e he; omega))
        clear hfit hc
        go_wp2_with fail
        go_loopw [37] (fun iv wr => ∃ i : Nat, iv = .int .i64 i ∧ i ≤ l.length ∧ Hid (Below w.heap.size w wr)) (fun v _ => l.length - (intOf v).toNat)
        case atStart => exact ⟨0, rfl, Nat.zero_le _, Below.refl _ _⟩
        case round =>
          obtain ⟨i, rfl, hin, hb⟩ := hrel
          by_cases hlt : i < l.length
          · obtain ⟨e, he⟩ : ∃ e, l[i]? = some e := ⟨l[i], List.getElem?_eq_getElem hlt⟩
            obtain ⟨g, off, rfl, _, hcell⟩ := (HV.out.later hb.out).cells he
            have k0 : wr.cell? ⟨g, off + i * 6, none⟩ = some (.int .i64 e.pos) := hcell 0 _ rfl
            have k1 : wr.cell? ⟨g, off + i * 6 + 1, none⟩ = some (.string e.key) := hcell 1 _ rfl
            have k2 : wr.cell? ⟨g, off + i * 6 + 2, none⟩ = some (.bool e.had) := hcell 2 _ rfl
            have k3 : wr.cell? ⟨g, off + i * 6 + 3, none⟩ = some (.string e.old) := hcell 3 _ rfl
            have k4 : wr.cell? ⟨g, off + i * 6 + 4, none⟩ = some (.bool e.has) := hcell 4 _ rfl
            have k5 : wr.cell? ⟨g, off + i * 6 + 5, none⟩ = some (.string e.now) := hcell 5 _ rfl
            have hI1 : (i : Int) < ((l.length : Nat) : Int) := by omega
            have hI2 : (0 : Int) ≤ (i : Int) := by omega
            have hks := HF.out e (List.mem_of_getElem? he)
            have HD := Lib.hid (DC.alloc wr [.int .i64 e.pos, .string e.key, .bool e.had, .string e.old, .bool e.has, .string e.now] 51)
            have HC := Lib.hid (Part_any (w := wr.alloc (.cells #[.int .i64 e.pos, .string e.key, .bool e.had, .string e.old, .bool e.has, .string e.now] 51)) parts e.key HWP.out (by omega))
            have HB2 : Hid (Below w.heap.size w (wr.alloc (.cells #[.int .i64 e.pos, .string e.key, .bool e.had, .string e.old, .bool e.has, .string e.now] 51))) := hb.out.alloc hb.out.size _
            have HR := Lib.hid (fun wx : World => RPart_any (w := wx) parts e.key HWP.out (by omega))
            have HI := Lib.hid (fun h => partE_in (parts := parts) h e.key)
            clear he hcell
            go_wp2_with fail
            go_fit HC.out
            rintro e' w3 ⟨rfl, hb3⟩
            have HB3 := Lib.hid (HB2.out.trans (hb3.mono HB2.out.size))
            have d1 := (HD.out.below hb3).cells 1 _ rfl
            clear HC HB2 HD k0 k1 k2 k3 k4 k5 hb3
            go_wp2_with fail
            go_fit (HR.out w3)
            rintro e' w4 ⟨rfl, hb4⟩
            have HB4 : Hid (Below w.heap.size w w4) := HB3.out.trans (hb4.mono HB3.out.size)
            by_cases hp : 0 < parts
            · obtain ⟨i1, i2⟩ := HI.out hp
              have i1' : ¬ partE parts e.key < 0 := by omega
              have i2' : ¬ parts ≤ partE parts e.key := by omega
              generalize partE parts e.key = x at *
              go_wp2_with fail
              exact ⟨⟨i + 1, by go_num, by omega, HB4⟩, by simp [intOf]; omega⟩
            · generalize partE parts e.key = x at *
              go_wp2_with fail
              exact ⟨⟨i + 1, by go_num, by omega, HB4⟩, by simp [intOf]; omega⟩
          · obtain rfl : i = l.length := by omega
            have HP1 := Lib.hid (HP.out wr (HV.out.later hb.out))
            clear HP
            go_wp2_with fail
            go_fit HP1.out
            rintro e' w3 ⟨u3, rfl, hr3⟩
            have HB3 := Lib.hid (hb.out.trans (hr3.grown.mono hb.out.size))
            have HRP1 := Lib.hid (HRP.out w3 ((HV.out.later hb.out).later hr3.grown))
            have HT3 := Lib.hid hr3.told
            obtain ⟨a3, c3, rfl, _, _⟩ := hr3.slice
            clear HRP HP1 hr3
            go_wp2_with fail
            go_fit HRP1.out
            rintro e' w4 ⟨u4, rfl, hr4⟩
            have HB4 := Lib.hid (HB3.out.trans (hr4.grown.mono HB3.out.size))
            have HE := Lib.hid (EqualE (HT3.out.later hr4.grown) hr4.told)
            obtain ⟨a4, c4, rfl, _, _⟩ := hr4.slice
            clear HRP1 hr4
            go_wp2_with fail
            go_fit HE.out
            rintro e' w5 ⟨rfl, hb5⟩
            have HA := Lib.hid (awake_then (HB4.out.trans (hb5.mono HB4.out.size)))
            clear HE hb5
            go_wp2_with fail
            go_fit HA.out
            rintro e' w6 ⟨rfl, hb6⟩
            go_wp2_with fail
            go_ret
            exact ⟨rfl, hb6⟩
    · have HA := Lib.hid (awake_then (Below.refl w.heap.size w))
      go_wp2_with fail
      all_goals
        go_fit HA.out
        rintro e' w6 ⟨rfl, hb6⟩
        go_wp2_with fail
        go_ret
        exact ⟨rfl, hb6⟩
end Go.Proofs.Ytdgnjalbpiciiaa
