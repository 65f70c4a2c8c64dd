/-
  GroupEven walked.
-/
import Derived.Test.YtdgnjalbpiciiaaRT
import Derived.Lib.MinMax
namespace Go.Proofs.Ytdgnjalbpiciiaa
set_option linter.unusedVariables false
set_option linter.unusedSimpArgs false
open Go.RowKit Go.Shelf

theorem awake_then {w0 w : World} (hb : Below w0.heap.size w0 w) : Calls Try.prog 13 #[] w (BoolP true w0) :=
  (awake_any w).mono fun e w' ⟨h1, h2⟩ => ⟨h1, hb.trans (h2.mono hb.size)⟩
theorem even_facts (o m : List Int) : (share o (team m)).length = o.length ∧ (team m ≠ [] → ∀ x ∈ team m, o.length / (team m).length ≤ (share o (team m)).count x ∧ (share o (team m)).count x ≤ o.length / (team m).length + 1) ∧ (∀ x ∈ share o (team m), hasI (team m) x = decide (0 < (team m).length)) := by
  refine ⟨share_len o (team_nodup m) (team_pos m), fun hne x hx => share_even o (team_nodup m) hne (team_pos m) x hx, fun x hx => ?_⟩
  by_cases hne : team m = []
  · rw [hne]; rfl
  · have h1 := share_mem o (team_nodup m) hne (team_pos m) x hx
    rw [(hasI_iff _ _).2 h1]
    have := List.length_pos_iff.2 hne
    simp [this]

set_option maxRecDepth 100000 in
set_option maxHeartbeats 6400000 in
theorem Even_law {w : World} {u v : Value} {o m : List Int} (ho : intL.In w u o) (hm : intL.In w v m) (hwo : ∀ x ∈ o, W64 x) (hwm : ∀ x ∈ m, W64 x) : Calls Try.prog 6 #[u, v] w (BoolP true w) := by
  have HO := Lib.hid ho
  have HM := Lib.hid hm
  have HWO := Lib.hid hwo
  have HWM := Lib.hid hwm
  obtain ⟨a1, c1, rfl, _, _⟩ := ho.slice
  obtain ⟨a2, c2, rfl, _, _⟩ := hm.slice
  have HA := Lib.hid (awake_then (Below.refl w.heap.size w))
  clear ho hm hwo hwm
  go_enter Try.func6, Try.ntmps6
  by_cases l1 : (200 : Int) < (o.length : Int)
  · go_wp2_with fail
    go_fit HA.out
    rintro e w1 ⟨rfl, hb⟩
    go_wp2_with fail
    go_ret
    exact ⟨rfl, hb⟩
  · by_cases l2 : (100 : Int) < (m.length : Int)
    · go_wp2_with fail
      go_fit HA.out
      rintro e w1 ⟨rfl, hb⟩
      go_wp2_with fail
      go_ret
      exact ⟨rfl, hb⟩
    · clear HA
      have HS := Lib.hid (Share_any HO.out HM.out HWO.out HWM.out (by omega) (by omega))
      obtain ⟨E1, E2, E3⟩ := even_facts o m
      have HE1 := Lib.hid E1
      have HE2 := Lib.hid E2
      have HE3 := Lib.hid E3
      clear E1 E2 E3
      go_wp2_with fail
      go_fit HS.out
      rintro e w1 ⟨v1, rfl, hr1⟩
      have HT := Lib.hid (RTeam_any (HM.out.later hr1.grown) (by omega))
      have HR1 := Lib.hid hr1
      obtain ⟨a3, c3, rfl, _, _⟩ := hr1.slice
      clear HS hr1
      go_wp2_with fail
      go_fit HT.out
      rintro e w2 ⟨v2, rfl, hr2⟩
      have hr1 := HR1.out.below hr2.grown
      have HB2 := Lib.hid hr1.grown
      have HSn := Lib.hid hr1.told
      have HTn := Lib.hid hr2.told
      obtain ⟨a4, c4, rfl, _, _⟩ := hr2.slice
      clear HT hr1 hr2 HR1
      have HTl : Hid ((team m).length ≤ 100) := by show _ ≤ _; have := team_len m; omega
      have HTp := Lib.hid (team_pos m)
      generalize hS : share o (team m) = S at *
      generalize team m = T at *
      clear hS
      have hSl := HE1.out
      have hTl := HTl.out
      go_wp2_with fail
      have hql := Nat.div_le_self o.length T.length
      generalize o.length / T.length = q0 at *
      go_loopw [7, 8, 39] (fun lv mv iv wr => ∃ (least most : Int) (k : Nat), lv = .int .i64 least ∧ mv = .int .i64 most ∧ iv = .int .i64 k ∧ k ≤ T.length ∧ (q0 : Int) ≤ least ∧ least ≤ 200 ∧ 0 ≤ most ∧ most ≤ (q0 : Int) + 1 ∧ most ≤ 200 ∧ Hid (w2 = wr)) (fun _ _ iv _ => T.length - (intOf iv).toNat)
      case atStart => exact ⟨o.length, 0, 0, rfl, rfl, rfl, Nat.zero_le _, (by omega), (by omega), (by omega), (by omega), (by omega), rfl⟩
      case round =>
        obtain ⟨least, most, k, rfl, rfl, rfl, hk, b1, b2, b3, b4, b5, hw⟩ := hrel
        obtain rfl := hw.out
        by_cases hlt : k < T.length
        · have hg : T[k]? = some T[k] := List.getElem?_eq_getElem hlt
          obtain ⟨g, off, rfl, _, hc⟩ := intL_at HTn.out hg
          have HX := Lib.hid (HE2.out (fun e => by rw [e] at hlt; exact absurd hlt (Nat.not_lt_zero _)) _ (List.getElem_mem hlt))
          clear hg
          generalize T[k] = x at *
          go_wp2_with fail
          go_loopw [11, 45] (fun nv jv wx => ∃ j : Nat, nv = .int .i64 ((S.take j).count x : Nat) ∧ jv = .int .i64 j ∧ j ≤ S.length ∧ Hid (w2 = wx)) (fun _ jv _ => S.length - (intOf jv).toNat)
          case atStart => exact ⟨0, rfl, rfl, Nat.zero_le _, rfl⟩
          case round =>
            obtain ⟨j, rfl, rfl, hj, hw2⟩ := hrel
            obtain rfl := hw2.out
            by_cases hjl : j < S.length
            · have hg : S[j]? = some S[j] := List.getElem?_eq_getElem hjl
              obtain ⟨g2, off2, rfl, _, hc2⟩ := intL_at HSn.out hg
              have HY : Hid ((S.take (j + 1)).count x = (S.take j).count x + if S[j] = x then 1 else 0) := by
                show _ = _
                rw [List.take_add_one, hg, Option.toList_some, List.count_append, List.count_singleton]
                congr 1
                by_cases e : S[j] = x <;> simp [e]
              have hcl : (S.take j).count x ≤ 200 := Nat.le_trans List.count_le_length (by rw [List.length_take]; omega)
              clear hg
              generalize S[j] = y at *
              generalize (S.take j).count x = q at *
              by_cases hyx : y = x
              · have HE : Hid ((S.take (j + 1)).count x = q + 1) := by show _ = _; rw [HY.out, if_pos hyx]
                clear HY
                go_wp2_with fail
                exact ⟨⟨j + 1, by rw [HE.out]; go_num, by go_num, by omega, by first | exact trivial | rfl⟩, by simp [intOf]; omega⟩
              · have HE : Hid ((S.take (j + 1)).count x = q) := by show _ = _; rw [HY.out, if_neg hyx]; rfl
                clear HY
                go_wp2_with fail
                exact ⟨⟨j + 1, by rw [HE.out], by go_num, by omega, by first | exact trivial | rfl⟩, by simp [intOf]; omega⟩
            · obtain rfl : j = S.length := by omega
              rw [List.take_length]
              have hx1 := HX.out.1
              have hx2 := HX.out.2
              have hcl : S.count x ≤ 200 := Nat.le_trans List.count_le_length (by omega)
              clear HX
              generalize S.count x = q at *
              go_wp2_with fail
              exact ⟨⟨min least q, max most q, k + 1, rfl, rfl, by go_num, by omega, by omega, by omega, by omega, by omega, by omega, by first | exact trivial | rfl⟩, by simp [intOf]; omega⟩
        · obtain rfl : k = T.length := by omega
          have HLM : Hid (most - least ≤ 1) := by show _ ≤ _; omega
          clear HE2
          have HA := Lib.hid (awake_then HB2.out)
          go_wp2_with fail
          go_loopw [64] (fun iv wr => ∃ k : Nat, iv = .int .i64 k ∧ k ≤ S.length ∧ Hid (w2 = wr)) (fun iv _ => S.length - (intOf iv).toNat)
          case atStart => exact ⟨0, rfl, Nat.zero_le _, rfl⟩
          case round =>
            obtain ⟨k, rfl, hk, hw⟩ := hrel
            obtain rfl := hw.out
            by_cases hlt : k < S.length
            · have hg : S[k]? = some S[k] := List.getElem?_eq_getElem hlt
              obtain ⟨g, off, rfl, _, hc⟩ := intL_at HSn.out hg
              have HX := Lib.hid (HE3.out _ (List.getElem_mem hlt))
              clear hg
              generalize S[k] = x at *
              have HC := Lib.hid (Contains_any HTn.out x)
              by_cases hT : 0 < T.length
              · rw [HX.out, decide_eq_true hT] at HC
                have hT' : (0 : Int) < (T.length : Int) := by omega
                clear HX
                go_wp2_with fail
                go_fit HC.out
                rintro e w3 ⟨rfl, rfl⟩
                go_wp2_with fail
                exact ⟨⟨k + 1, by go_num, by omega, by first | exact trivial | rfl⟩, by simp [intOf]; omega⟩
              · rw [HX.out, decide_eq_false hT] at HC
                have hT' : ¬ (0 : Int) < (T.length : Int) := by omega
                clear HX
                go_wp2_with fail
                go_fit HC.out
                rintro e w3 ⟨rfl, rfl⟩
                go_wp2_with fail
                exact ⟨⟨k + 1, by go_num, by omega, by first | exact trivial | rfl⟩, by simp [intOf]; omega⟩
            · obtain rfl : k = S.length := by omega
              have hlm := HLM.out
              by_cases hT : (T.length : Int) = 0
              · go_wp2_with fail
                all_goals
                  go_fit HA.out
                  rintro e w3 ⟨rfl, hb⟩
                  go_wp2_with fail
                  go_ret
                  exact ⟨rfl, hb⟩
              · go_wp2_with fail
                all_goals
                  go_fit HA.out
                  rintro e w3 ⟨rfl, hb⟩
                  go_wp2_with fail
                  go_ret
                  exact ⟨rfl, hb⟩
end Go.Proofs.Ytdgnjalbpiciiaa
