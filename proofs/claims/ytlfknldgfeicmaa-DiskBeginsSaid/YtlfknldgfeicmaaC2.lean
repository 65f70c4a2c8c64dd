/-
  What is appended behind a Sync; how long a tape may be behind few calls.
-/
import Derived.Test.YtlfknldgfeicmaaC1
namespace Go.Proofs.Ytlfknldgfeicmaa
set_option linter.unusedVariables false
set_option linter.unusedSimpArgs false
open Go.RowKit
variable {d : Ds}

/-- A disk to whose tape some bytes were appended since a Sync. -/
def Ds.ad (d : Ds) (l : List (List Int)) : Ds := { d.synced with told := ⟨d.told.s0, d.told.s1, d.told.tp ++ flat l⟩, waits := l.map (fun xs => ⟨2, 0, xs⟩) }
theorem ad_nil (d : Ds) : d.ad [] = d.synced := by simp [Ds.ad, Ds.synced, Ds.calm, flat]
theorem ad_few (d : Ds) (l : List (List Int)) (n : Nat) (h : l.length ≤ n) : (d.ad l).Few n := ⟨by simpa [Ds.ad] using h, by simp [Ds.ad, Ds.synced, Ds.calm]⟩
theorem ad_append (d : Ds) (l : List (List Int)) (xs : List Int) (hr : d.room = 16777216) (hs : d.told.size + (flat l).length + xs.length ≤ 16777216) : (d.ad l).append xs = (0, d.ad (l ++ [xs])) := by
  have e : (d.ad l).told.size = d.told.size + (flat l).length := by simp [Ds.ad, Fc.size]; omega
  have hr2 : (d.ad l).room = 16777216 := hr
  unfold Ds.append
  rw [if_neg (by simp [Ds.ad, Ds.synced, Ds.calm]), if_neg (by omega)]
  simp [Ds.wait, Ds.burn, Ds.ad, Ds.synced, Ds.calm, Ac.does, flat]
theorem ad_step (d : Ds) {l : List (List Int)} {i : Nat} {xs : List Int} (h : l[i]? = some xs) (hr : d.room = 16777216) (hs : d.told.size + (flat l).length ≤ 16777216) : (d.ad (l.take i)).append xs = (0, d.ad (l.take (i + 1))) := by
  have h1 := congrArg List.length (flat_step h)
  rw [List.length_append] at h1
  have h2 := flat_take l (i + 1)
  rw [ad_append d _ xs hr (by omega), List.take_add_one, h]; rfl
theorem acts_ad : ∀ (l : List (List Int)) (f : Fc), acts (l.map (fun xs => (⟨2, 0, xs⟩ : Ac))) f = ⟨f.s0, f.s1, f.tp ++ flat l⟩
  | [], f => by simp [acts, flat]
  | x :: l, f => by
    have h := acts_ad l ((⟨2, 0, x⟩ : Ac).does f)
    simp only [acts, List.map_cons, List.foldl_cons] at h ⊢
    rw [h]
    simp [Ac.does, flat]
theorem flat_pre (l : List (List Int)) (i : Nat) : flat (l.take i) <+: flat l := by
  refine ⟨flat (l.drop i), ?_⟩
  unfold flat
  rw [← List.flatten_append, List.take_append_drop]
theorem ad_last (d : Ds) (l : List (List Int)) (k t : Int) : ∃ q, (d.ad l).last k t = ⟨d.told.s0, d.told.s1, d.told.tp ++ q⟩ ∧ q <+: flat l ∧ ((l.length : Int) ≤ k → q.length = (flat l).length) := by
  have hw : (d.ad l).waits = l.map (fun xs => (⟨2, 0, xs⟩ : Ac)) := rfl
  have hl : (d.ad l).lasts = d.told := rfl
  have hn : (d.ad l).waits.length = l.length := by rw [hw, List.length_map]
  unfold Ds.last
  rw [hn, hl]
  generalize hK : keepN k l.length = K
  rw [hw, List.getElem?_map, ← List.map_take, acts_ad]
  cases hx : l[K]? with
  | none =>
    have hK2 : l.length ≤ K := by rw [List.getElem?_eq_none_iff] at hx; exact hx
    refine ⟨flat (l.take K), rfl, flat_pre l K, fun _ => by rw [List.take_of_length_le hK2]⟩
  | some xs =>
    have hlt : K < l.length := (List.getElem?_eq_some_iff.1 hx).1
    have hno : ¬ (l.length : Int) ≤ k := by unfold keepN at hK; omega
    simp only [Option.map_some]
    unfold Ac.torn
    split
    · exact ⟨flat (l.take K), by simp [Ac.does], flat_pre l K, fun h => absurd h hno⟩
    · refine ⟨flat (l.take K) ++ xs.take t.toNat, by simp [Ac.does], ?_, fun h => absurd h hno⟩
      refine List.IsPrefix.trans ?_ (flat_pre l (K + 1))
      rw [flat_step hx]
      exact List.prefix_append_right_inj _ |>.2 (List.take_prefix _ _)

/-! how long a tape may be -/
def wsum (l : List Ac) : Nat := (l.map fun a => a.b.length).sum
theorem wsum_app (a b : List Ac) : wsum (a ++ b) = wsum a + wsum b := by simp [wsum]
theorem wsum_take (l : List Ac) (i : Nat) : wsum (l.take i) ≤ wsum l := by
  have := wsum_app (l.take i) (l.drop i)
  rw [List.take_append_drop] at this
  omega
theorem acts_wsum : ∀ (l : List Ac) (f : Fc), (acts l f).tp.length ≤ f.tp.length + wsum l
  | [], f => by simp [acts, wsum]
  | a :: l, f => by
    have h1 := acts_wsum l (a.does f)
    have h2 := a.does_tp f
    simp only [acts, List.foldl_cons, wsum, List.map_cons, List.sum_cons] at h1 ⊢
    omega
structure Ds.Low (d : Ds) (N : Nat) : Prop where
  told : d.told.tp.length ≤ N
  lasts : d.lasts.tp.length + wsum d.waits ≤ N
theorem Ds.Low.more {M N : Nat} (h : d.Low M) (hm : M ≤ N) : d.Low N := ⟨Nat.le_trans h.told hm, Nat.le_trans h.lasts hm⟩
theorem Ds.last_low {N : Nat} (h : d.Low N) (k t : Int) : (d.last k t).tp.length ≤ N := by
  have h1 := h.lasts
  have h2 := acts_wsum (d.waits.take (keepN k d.waits.length)) d.lasts
  unfold Ds.last
  split
  · rename_i a ha
    have h3 := wsum_take d.waits (keepN k d.waits.length + 1)
    rw [List.take_add_one, ha, wsum_app] at h3
    have h4 : wsum (some a).toList = a.b.length := by simp [wsum]
    have h5 := (a.torn t).does_tp (acts (d.waits.take (keepN k d.waits.length)) d.lasts)
    have h6 : (a.torn t).b.length ≤ a.b.length := by
      unfold Ac.torn
      split
      · simp
      · simp; omega
    omega
  · have h3 := wsum_take d.waits (keepN k d.waits.length)
    omega
theorem Ds.fall_low {N : Nat} (h : d.Low N) (k t : Int) : (d.fall k t).Low N := ⟨Ds.last_low h k t, by have := Ds.last_low h k t; simpa [Ds.fall, wsum] using this⟩
theorem Ds.burn_low {N : Nat} (h : d.Low N) : (d.burn).2.Low N := by
  unfold Ds.burn
  split
  · exact h
  · split
    · exact ⟨h.told, h.lasts⟩
    · exact Ds.fall_low h _ _
theorem Ds.wait_low {N : Nat} (h : d.Low N) (a : Ac) (ha : a.b.length ≤ 32768) : (d.wait a).2.Low (N + 32768) :=
  Ds.burn_low ⟨by have h1 := a.does_tp d.told; have h2 := h.told; simp only; omega, by
    have h1 := h.lasts
    simp only
    rw [wsum_app]
    have : wsum [a] = a.b.length := by simp [wsum]
    omega⟩
theorem Ds.does_low {N : Nat} (h : d.Low N) (op i k t : Int) (xs : List Int) (hx : xs.length ≤ 32768) : (d.does op i k t xs).2.Low (N + 32768) := by
  have hm := h.more (Nat.le_add_right N 32768)
  unfold Ds.does Ds.slot Ds.clear Ds.sync Ds.crash Ds.start Ds.arm Ds.append
  repeat' split
  all_goals first
    | exact hm
    | exact Ds.wait_low h _ hx
    | exact Ds.wait_low h _ (by simp)
    | exact Ds.burn_low ⟨hm.told, by have := hm.told; simpa [wsum] using this⟩
    | exact Ds.fall_low hm _ _
    | exact ⟨hm.told, hm.lasts⟩
theorem dos_low : ∀ (ks : List Kd) (d : Ds) (N : Nat), d.Low N → (∀ k ∈ ks, k.b.length ≤ 32768) → (dos d ks).Low (N + ks.length * 32768)
  | [], d, N, h, _ => h.more (by omega)
  | k :: ks, d, N, h, hk => (dos_low ks _ (N + 32768) (Ds.does_low h _ _ _ _ _ (hk k (by simp))) (fun x hx => hk x (by simp [hx]))).more (by simp; omega)
theorem new_low (room : Int) : (Ds.new room).Low 0 := ⟨by simp [Ds.new], by simp [Ds.new, wsum]⟩
/-- How much lies on a disk behind a law's calls. -/
theorem made_size (room : Int) (ks : List Kd) (h1 : ks.length ≤ 200) (h2 : ∀ k ∈ ks, k.b.length ≤ 32768) : (dos (Ds.new room) ks).told.size ≤ 6684672 := by
  have h3 := (dos_low ks (Ds.new room) 0 (new_low room) h2).told
  have h4 := (dos_small ks (Ds.new room) (new_small room) (fun k hk => by have := h2 k hk; omega)).told
  have h5 := h4.1
  have h6 := h4.2
  unfold Fc.size
  omega

/-! the sum of a law's parts -/
def pw (xs : List Int) : Nat := 1 + min xs.length 32768
def pws (l : List (List Int)) : Nat := (l.map pw).sum
theorem pws_step {l : List (List Int)} {i : Nat} {x : List Int} (h : l[i]? = some x) : pws (l.take (i + 1)) = pws (l.take i) + pw x := by
  unfold pws
  rw [List.take_add_one, h]; simp
theorem pws_flat : ∀ l : List (List Int), pws l ≤ 32768 → (flat l).length + l.length ≤ 32768 ∧ ∀ x ∈ l, x.length ≤ 32768
  | [], _ => by simp [flat]
  | x :: l, h => by
    have e : pws (x :: l) = pw x + pws l := by simp [pws]
    have hp : pw x = 1 + min x.length 32768 := rfl
    obtain ⟨h1, h2⟩ := pws_flat l (by omega)
    have e2 : (flat (x :: l)).length = x.length + (flat l).length := by simp [flat]
    refine ⟨?_, fun y hy => ?_⟩
    · -- the sum of what is left is at most as much as the sum itself
      have h3 : (flat l).length + l.length ≤ pws l := flat_le l (fun y hy => h2 y hy)
      rw [e2, List.length_cons]; omega
    · rcases List.mem_cons.1 hy with rfl | hy
      · omega
      · exact h2 y hy
where flat_le : ∀ l : List (List Int), (∀ y ∈ l, y.length ≤ 32768) → (flat l).length + l.length ≤ pws l
  | [], _ => by simp [flat, pws]
  | x :: l, h => by
    have h1 := flat_le l (fun y hy => h y (by simp [hy]))
    have h2 := h x (by simp)
    have e : pws (x :: l) = pw x + pws l := by simp [pws]
    have hp : pw x = 1 + min x.length 32768 := rfl
    have e2 : (flat (x :: l)).length = x.length + (flat l).length := by simp [flat]
    rw [e2, List.length_cons]; omega
end Go.Proofs.Ytlfknldgfeicmaa
