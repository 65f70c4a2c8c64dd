/-
  Groups stay what groups are.
-/
import Derived.Test.YtdgnjalbpiciiaaGB
import Derived.Test.YtdgnjalbpiciiaaG9
import Derived.Test.YtdgnjalbpiciiaaG8
import Derived.Test.YtdgnjalbpiciiaaG7
import Derived.Test.YtdgnjalbpiciiaaG5
namespace Go.Proofs.Ytdgnjalbpiciiaa
set_option linter.unusedVariables false
set_option linter.unusedSimpArgs false

theorem GOk.nil : GOk [] := ⟨fun g h => (by cases h), by decide, List.Pairwise.nil⟩
theorem GOk.set {l : List Gr} (h : GOk l) {i : Nat} {g g' : Gr} (hg : l[i]? = some g) (ok : g'.Ok) (hn : g'.name = g.name) : GOk (l.set i g') := by
  refine ⟨fun x hx => ?_, by rw [List.length_set]; exact h.len, ?_⟩
  · rcases List.mem_or_eq_of_mem_set hx with hx | rfl
    · exact h.all x hx
    · exact ok
  · have h1 : ((l.set i g').map (·.name)).Pairwise (· ≠ ·) := by
      rw [List.map_set, hn]
      have : (l.map (·.name)).set i g.name = l.map (·.name) := by
        apply List.ext_getElem?
        intro j
        rw [List.getElem?_set]
        split
        · rename_i e
          subst e
          have hlt := (List.getElem?_eq_some_iff.1 hg).1
          rw [if_pos (by simpa using hlt), List.getElem?_map, hg]; rfl
        · rfl
      rw [this, List.pairwise_map]
      exact h.names
    rw [List.pairwise_map] at h1
    exact h1
theorem GOk.up {l : List Gr} (h : GOk l) (k : ByteArray) (f : Gr → Gr) (hf : ∀ g, gp l k = some g → (f g).Ok ∧ (f g).name = g.name) : GOk (upG l k f) := by
  unfold upG
  cases hp : plc l k with
  | none => exact h
  | some i =>
    obtain ⟨g, hg, _⟩ := plc_some hp
    simp only [hg]
    obtain ⟨h1, h2⟩ := hf g (gp_some hp hg)
    exact h.set hg h1 h2
theorem team_nil : team [] = [] := List.eq_nil_iff_forall_not_mem.2 fun x hx => by have := ((team_mem [] x).1 hx).1; cases this
theorem gp_mem {l : List Gr} {k : ByteArray} {g : Gr} (h : gp l k = some g) : g ∈ l := by
  unfold gp at h
  rw [Option.bind_eq_some_iff] at h
  obtain ⟨i, _, h⟩ := h
  exact List.mem_of_getElem? h
theorem Gr.Ok.turned {g : Gr} (h : g.Ok) {m : List Int} {nx : Int} (ht : g.term < 1099511627776) (hn : 1 ≤ nx ∧ nx ≤ 1099511627776) (hl : m.length ≤ 6) (hm : ∀ x ∈ m, 1 ≤ x ∧ x < nx) (ha : m.Pairwise (· < ·)) : (({ g with next := nx } : Gr).turn m).Ok := by
  have hlen := share_len g.owners (team_nodup m) (team_pos m)
  have hne : m ≠ [] → team m ≠ [] := fun hm0 e => by
    obtain ⟨x, hx⟩ := List.exists_mem_of_ne_nil _ hm0
    have := (team_mem m x).2 ⟨hx, by have := hm x hx; omega⟩
    rw [e] at this; cases this
  have hshr : (m = [] → ∀ x ∈ share g.owners (team m), x = 0) ∧ (m ≠ [] → ∀ x ∈ share g.owners (team m), x ∈ m) := by
    constructor
    · rintro rfl x hx
      have : share g.owners (team []) = List.replicate g.owners.length 0 := by unfold share; rw [if_pos team_nil]
      rw [this] at hx
      exact (List.mem_replicate.1 hx).2
    · intro hm0 x hx
      exact ((team_mem m x).1 (share_mem g.owners (team_nodup m) (hne hm0) (team_pos m) x hx)).1
  refine ⟨h.sub, ⟨by show 0 ≤ g.term + 1; have := h.term; omega, by show g.term + 1 ≤ _; omega⟩, hn, hl, hm, ha, ?_, ?_, ?_, h.dones, hshr⟩
  · show 1 ≤ (share g.owners (team m)).length ∧ (share g.owners (team m)).length ≤ 12
    rw [hlen]; exact h.parts
  · intro x hx
    by_cases hm0 : m = []
    · have := hshr.1 hm0 x hx; omega
    · have := hm x (hshr.2 hm0 x hx); omega
  · show g.done.length = (share g.owners (team m)).length
    rw [hlen]; exact h.len
theorem GOk.join {l : List Gr} (h : GOk l) (k : ByteArray) : GOk (joinG l k).2.2 := by
  unfold joinG
  cases hp : gp l k with
  | none => exact h
  | some g =>
    have ok := h.all g (gp_mem hp)
    simp only
    split
    · exact h
    · rename_i h6
      split
      · exact h
      · rename_i h5
        refine h.up k _ fun g' hg' => ?_
        rw [hp] at hg'
        cases hg'
        refine ⟨ok.turned (by omega) ⟨by have := ok.next; omega, by omega⟩ (by rw [List.length_append]; simp; omega) (fun x hx => ?_) ?_, rfl⟩
        · rcases List.mem_append.1 hx with hx | hx
          · have := ok.mems x hx; omega
          · rw [List.mem_singleton.1 hx]; have := ok.next; omega
        · rw [List.pairwise_append]
          exact ⟨ok.asc, by simp, fun x hx y hy => by rw [List.mem_singleton.1 hy]; exact (ok.mems x hx).2⟩
theorem GOk.leave {l : List Gr} (h : GOk l) (k : ByteArray) (m : Int) : GOk (leaveG l k m).2 := by
  unfold leaveG
  cases hp : gp l k with
  | none => exact h
  | some g =>
    have ok := h.all g (gp_mem hp)
    simp only
    split
    · exact h
    · split
      · exact h
      · rename_i h5
        refine h.up k _ fun g' hg' => ?_
        rw [hp] at hg'
        cases hg'
        exact ⟨ok.turned (nx := g.next) (by omega) ok.next (Nat.le_trans (List.length_filter_le _ _) ok.mem) (fun x hx => ok.mems x ((List.mem_filter.1 hx).1)) (ok.asc.filter _), rfl⟩
theorem GOk.com {l : List Gr} (h : GOk l) (k : ByteArray) (m t p pos : Int) : GOk (comG l k m t p pos).2 := by
  unfold comG
  cases hp : gp l k with
  | none => exact h
  | some g =>
    have ok := h.all g (gp_mem hp)
    simp only
    split
    · exact h
    · rename_i h0
      split
      · exact h
      · rename_i h1
        split
        · exact h
        · rename_i h2
          refine h.up k _ fun g' hg' => ?_
          rw [hp] at hg'
          cases hg'
          obtain ⟨_, _, hp0, hp1, _⟩ := ownG_zero (by simpa using h0)
          have hd : p.toNat < g.done.length := by rw [ok.len]; omega
          refine ⟨⟨ok.sub, ok.term, ok.next, ok.mem, ok.mems, ok.asc, ok.parts, ok.owns, by rw [List.length_set]; exact ok.len, fun x hx => ?_, ok.shr⟩, rfl⟩
          rcases List.mem_or_eq_of_mem_set hx with hx | rfl
          · exact ok.dones x hx
          · refine ⟨?_, by omega⟩
            have := ok.dones (g.done.getD p.toNat 0) (by rw [List.getD_eq_getElem?_getD, List.getElem?_eq_getElem hd]; exact List.getElem_mem _)
            omega
theorem GOk.add {l : List Gr} (h : GOk l) (k : ByteArray) (parts sub at_ : Int) : GOk (addG l k parts sub at_).2 := by
  unfold addG
  split
  · exact h
  · rename_i hc
    have hpp := ckE_ok (by simpa using hc)
    cases hp : gp l k with
    | some g => exact h
    | none =>
      simp only
      split
      · exact h
      · rename_i h3
        split
        · exact h
        · rename_i hb
          have ok : (newG k parts sub at_).Ok := by
            refine ⟨by show 1 ≤ sub ∧ sub ≤ _; omega, by show (0 : Int) ≤ 0 ∧ (0 : Int) ≤ _; omega, by show (1 : Int) ≤ 1 ∧ (1 : Int) ≤ _; omega, Nat.zero_le _, fun x hx => (by cases hx), List.Pairwise.nil, ?_, fun x hx => ?_, by simp [newG], fun x hx => ?_, fun _ x hx => (List.mem_replicate.1 hx).2, fun e => absurd rfl e⟩
            · simp only [newG, List.length_replicate]; omega
            · rw [(List.mem_replicate.1 hx).2]; omega
            · rw [(List.mem_replicate.1 hx).2]; omega
          refine ⟨fun x hx => ?_, by rw [List.length_append]; simp; omega, ?_⟩
          · rcases List.mem_append.1 hx with hx | hx
            · exact h.all x hx
            · rw [List.mem_singleton.1 hx]; exact ok
          · rw [List.pairwise_append]
            refine ⟨h.names, by simp, fun x hx y hy => ?_⟩
            rw [List.mem_singleton.1 hy]
            show x.name ≠ k
            intro e
            have hp' : plc l k = none := by
              unfold gp at hp
              cases hq : plc l k with
              | none => rfl
              | some i =>
                rw [hq] at hp
                obtain ⟨s, hs, _⟩ := plc_some hq
                rw [Option.bind_some, hs] at hp
                cases hp
            exact plc_none hp' x hx e
end Go.Proofs.Ytdgnjalbpiciiaa
