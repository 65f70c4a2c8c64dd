/-
  The document's team walked.
-/
import Derived.Test.YtdgnjalbpiciiaaAw
namespace Go.Proofs.Ytdgnjalbpiciiaa
set_option linter.unusedVariables false
set_option linter.unusedSimpArgs false
open Go.RowKit Go.Shelf

def lst (out : List Int) (a m : Int) : Int := if 0 < m ∧ m ∉ out ∧ (a = 0 ∨ m < a) then m else a
def lf (out l : List Int) : Int := l.foldl (lst out) 0
theorem lf_step (out : List Int) {l : List Int} {k : Nat} {x : Int} (h : l[k]? = some x) : lf out (l.take (k + 1)) = lst out (lf out (l.take k)) x := by
  rw [List.take_add_one, h]; unfold lf; rw [List.foldl_append]; rfl
theorem lf_spec (out l : List Int) : (lf out l = 0 ∧ ∀ m ∈ l, 0 < m → m ∈ out) ∨ (lf out l ∈ l ∧ 0 < lf out l ∧ lf out l ∉ out ∧ ∀ m ∈ l, 0 < m → m ∉ out → lf out l ≤ m) := by
  refine revI (P := fun l => (lf out l = 0 ∧ ∀ m ∈ l, 0 < m → m ∈ out) ∨ (lf out l ∈ l ∧ 0 < lf out l ∧ lf out l ∉ out ∧ ∀ m ∈ l, 0 < m → m ∉ out → lf out l ≤ m)) ?_ ?_ l
  · exact .inl ⟨rfl, fun m h => by cases h⟩
  · intro l x ih
    have e : lf out (l ++ [x]) = lst out (lf out l) x := by unfold lf; rw [List.foldl_append]; rfl
    rw [e]
    unfold lst
    rcases ih with ⟨h0, h1⟩ | ⟨h0, h1, h2, h3⟩
    · rw [h0]
      split
      · rename_i h
        refine .inr ⟨by simp, h.1, h.2.1, fun m hm hp hn => ?_⟩
        rcases List.mem_append.1 hm with hm | hm
        · exact absurd (h1 m hm hp) hn
        · rw [List.mem_singleton.1 hm]; exact Int.le_refl _
      · rename_i h
        refine .inl ⟨rfl, fun m hm hp => ?_⟩
        rcases List.mem_append.1 hm with hm | hm
        · exact h1 m hm hp
        · rw [List.mem_singleton.1 hm] at hp ⊢
          exact Classical.byContradiction fun hn => h ⟨hp, hn, .inl rfl⟩
    · split
      · rename_i h
        refine .inr ⟨by simp, h.1, h.2.1, fun m hm hp hn => ?_⟩
        rcases List.mem_append.1 hm with hm | hm
        · have := h3 m hm hp hn
          rcases h.2.2 with h4 | h4 <;> omega
        · rw [List.mem_singleton.1 hm]; exact Int.le_refl _
      · rename_i h
        refine .inr ⟨List.mem_append.2 (.inl h0), h1, h2, fun m hm hp hn => ?_⟩
        rcases List.mem_append.1 hm with hm | hm
        · exact h3 m hm hp hn
        · rw [List.mem_singleton.1 hm] at hp hn ⊢
          exact Classical.byContradiction fun h4 => h ⟨hp, hn, .inr (by omega)⟩
theorem lf_team (m : List Int) (k : Nat) : lf ((team m).take k) m = (team m).getD k 0 := by
  have hs := team_sorted m
  have hnd := team_nodup m
  rw [List.getD_eq_getElem?_getD]
  rcases Nat.lt_or_ge k (team m).length with hk | hk
  · rw [List.getElem?_eq_getElem hk, Option.getD_some]
    have hx := (team_mem m _).1 (List.getElem_mem hk)
    have hnot : (team m)[k] ∉ (team m).take k := fun h => by
      obtain ⟨i, hi, e⟩ := List.getElem_of_mem h
      rw [List.length_take] at hi
      rw [List.getElem_take] at e
      have := List.pairwise_iff_getElem.1 hs i k (by omega) hk (by omega)
      omega
    rcases lf_spec ((team m).take k) m with ⟨_, h1⟩ | ⟨h0, h1, h2, h3⟩
    · exact absurd (h1 _ hx.1 hx.2) hnot
    · have h4 := h3 _ hx.1 hx.2 hnot
      have h5 := (team_mem m _).2 ⟨h0, h1⟩
      obtain ⟨j, hj, e⟩ := List.getElem_of_mem h5
      rcases Nat.lt_trichotomy j k with h | h | h
      · exact absurd (by rw [← e]; exact List.mem_of_getElem? (i := j) (by rw [List.getElem?_take, if_pos h, List.getElem?_eq_getElem hj])) h2
      · subst h; exact e.symm
      · have := List.pairwise_iff_getElem.1 hs k j hk hj h
        omega
  · rw [List.getElem?_eq_none hk, List.take_of_length_le hk]
    rcases lf_spec (team m) m with ⟨h0, _⟩ | ⟨h0, h1, h2, _⟩
    · exact h0
    · exact absurd ((team_mem m _).2 ⟨h0, h1⟩) h2
theorem team_step (m : List Int) (k : Nat) : (team m).take (k + 1) = if 0 < (team m).getD k 0 then (team m).take k ++ [(team m).getD k 0] else (team m).take k := by
  rw [List.take_add_one, List.getD_eq_getElem?_getD]
  cases h : (team m)[k]? with
  | none => simp
  | some x =>
    have := team_pos m x (List.mem_of_getElem? h)
    simp [this]

set_option maxRecDepth 100000 in
set_option maxHeartbeats 3200000 in
theorem RTeam_any {w : World} {v : Value} {m : List Int} (h : intL.In w v m) (lm : m.length ≤ 100000) : Calls Try.prog 36 #[v] w (RwP (team m) w) := by
  have HM := Lib.hid h
  obtain ⟨a, c, rfl, hlc, hcm⟩ := h.slice
  clear h
  go_enter Try.func36, Try.ntmps36
  go_wp2_with fail
  go_loopw [3, 9] (fun o iv wr => ∃ k : Nat, iv = .int .i64 k ∧ k ≤ m.length ∧ Hid (Rw intL 3 w wr o ((team m).take k))) (fun _ iv _ => m.length - (intOf iv).toNat)
  case atStart => exact ⟨0, rfl, Nat.zero_le _, by show Rw _ _ _ _ _ _; exact Rw.nil w⟩
  case round =>
    obtain ⟨k, rfl, hk, hR⟩ := hrel
    by_cases hlt : k < m.length
    · obtain ⟨ao, co, rfl, hoc, hom⟩ := hR.out.slice
      have HTl : Hid (((team m).take k).length ≤ 100000) := by show _ ≤ _; have := team_len m; rw [List.length_take]; omega
      have HS := Lib.hid (team_step m k)
      have HL := Lib.hid (lf_team m k)
      have HI := Lib.hid (HM.out.later hR.out.grown)
      generalize hT : (team m).take k = T at *
      have HT := Lib.hid hT
      clear hT
      go_wp2_with fail
      go_loopw [4, 13] (fun av jv wx => ∃ j : Nat, jv = .int .i64 j ∧ j ≤ m.length ∧ av = .int .i64 (lf T (m.take j)) ∧ Hid (wr = wx)) (fun _ jv _ => m.length - (intOf jv).toNat)
      case atStart => exact ⟨0, rfl, Nat.zero_le _, rfl, rfl⟩
      case round =>
        obtain ⟨j, rfl, hj, rfl, hwx⟩ := hrel
        obtain rfl := hwx.out
        by_cases hjl : j < m.length
        · have hg : m[j]? = some m[j] := List.getElem?_eq_getElem hjl
          obtain ⟨g, off, rfl, _, hc⟩ := intL_at HI.out hg
          have HX := Lib.hid (lf_step T hg)
          have HC := Lib.hid (times_any hR.out.told m[j])
          clear hg
          generalize m[j] = x at *
          generalize lf T (m.take j) = b at *
          by_cases hx0 : 0 < x
          · by_cases hxo : x ∈ T
            · have HE : Hid (lf T (m.take (j + 1)) = b) := by show _ = _; rw [HX.out]; unfold lst; rw [if_neg (fun h => h.2.1 hxo)]
              have hct : ¬ ((T.count x : Nat) : Int) = 0 := by have := List.count_pos_iff.2 hxo; omega
              clear HX hxo
              go_wp2_with fail
              go_fit HC.out
              rintro e w2 ⟨rfl, rfl⟩
              go_wp2_with fail
              exact ⟨⟨j + 1, by go_num, by omega, by rw [HE.out], by first | exact trivial | rfl⟩, by simp [intOf]; omega⟩
            · have hct : ((T.count x : Nat) : Int) = 0 := by rw [List.count_eq_zero.2 hxo]; rfl
              by_cases hb0 : b = 0
              · have HE : Hid (lf T (m.take (j + 1)) = x) := by show _ = _; rw [HX.out]; unfold lst; rw [if_pos ⟨hx0, hxo, .inl hb0⟩]
                clear HX hxo
                go_wp2_with fail
                go_fit HC.out
                rintro e w2 ⟨rfl, rfl⟩
                go_wp2_with fail
                exact ⟨⟨j + 1, by go_num, by omega, by rw [HE.out], by first | exact trivial | rfl⟩, by simp [intOf]; omega⟩
              · by_cases hxb : x < b
                · have HE : Hid (lf T (m.take (j + 1)) = x) := by show _ = _; rw [HX.out]; unfold lst; rw [if_pos ⟨hx0, hxo, .inr hxb⟩]
                  clear HX hxo
                  go_wp2_with fail
                  go_fit HC.out
                  rintro e w2 ⟨rfl, rfl⟩
                  go_wp2_with fail
                  exact ⟨⟨j + 1, by go_num, by omega, by rw [HE.out], by first | exact trivial | rfl⟩, by simp [intOf]; omega⟩
                · have HE : Hid (lf T (m.take (j + 1)) = b) := by show _ = _; rw [HX.out]; unfold lst; rw [if_neg (fun h => h.2.2.elim hb0 hxb)]
                  clear HX hxo
                  go_wp2_with fail
                  go_fit HC.out
                  rintro e w2 ⟨rfl, rfl⟩
                  go_wp2_with fail
                  · rename_i hh; exfalso; revert hh; trace_state; simp [hb0]; omega
                  · exact ⟨⟨j + 1, by go_num, by omega, by rw [HE.out], by first | exact trivial | rfl⟩, by simp [intOf]; omega⟩
          · have HE : Hid (lf T (m.take (j + 1)) = b) := by show _ = _; rw [HX.out]; unfold lst; rw [if_neg (fun h => hx0 h.1)]
            clear HX
            go_wp2_with fail
            exact ⟨⟨j + 1, by go_num, by omega, by rw [HE.out], by first | exact trivial | rfl⟩, by simp [intOf]; omega⟩
        · obtain rfl : j = m.length := by omega
          rw [List.take_length, HL.out]
          generalize (team m).getD k 0 = x at *
          by_cases hx0 : 0 < x
          · have HF : Hid ((team m).take (k + 1) = T ++ [x]) := by show _ = _; rw [HS.out, if_pos hx0]
            clear HS
            have HGA : Hid (w.heap.size ≤ wr.heap.size) := hR.out.grown.size
            go_wp2_with (at_builtin; refine wpList_pushI rfl _ _ 43 3 _ 1 8 rfl Try.underlying43 infoInt rfl (by decide) w.heap.size T.length _ (intL.all T) rfl hR.out.own #[.int .i64 x] rfl (intL.one x) rfl (by have := HTl.out; omega) (by decide) HGA.out ?_; intro g3 c3 wB hown hgrow hat hlt3; have HB3 := Lib.hid (hR.out.push x hown hgrow); clear hown hgrow hat hlt3)
            exact ⟨⟨k + 1, by go_num, by omega, by rw [HF.out]; exact HB3⟩, by simp [intOf]; omega⟩
          · have HF : Hid ((team m).take (k + 1) = T) := by show _ = _; rw [HS.out, if_neg hx0]
            clear HS
            go_wp2_with fail
            exact ⟨⟨k + 1, by go_num, by omega, by rw [HF.out]; exact hR⟩, by simp [intOf]; omega⟩
    · obtain rfl : k = m.length := by omega
      have hF := hR.out
      rw [List.take_of_length_le (team_len m)] at hF
      have HF := Lib.hid hF
      clear hR hF
      obtain ⟨ao, co, rfl, hoc, hom⟩ := HF.out.slice
      go_wp2_with fail
      go_ret
      exact ⟨_, rfl, HF.out⟩
end Go.Proofs.Ytdgnjalbpiciiaa
