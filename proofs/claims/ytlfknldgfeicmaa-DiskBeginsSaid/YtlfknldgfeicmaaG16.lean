/-
  How much lies in the slots; a disk's room; what a call that finds no room leaves.
-/
import Derived.Test.YtlfknldgfeicmaaG15
namespace Go.Proofs.Ytlfknldgfeicmaa
set_option linter.unusedVariables false
set_option linter.unusedSimpArgs false
open Go.RowKit
variable {w w' : World} {B b : Nat} {L L' : List Nat} {d : Ds}

def Fc.Sm (f : Fc) : Prop := f.s0.length ≤ 65536 ∧ f.s1.length ≤ 65536
theorem Ac.does_sm (a : Ac) (f : Fc) (h : f.Sm) (ha : a.b.length ≤ 65536) : (a.does f).Sm := by
  unfold Ac.does
  repeat' split
  · exact ⟨ha, h.2⟩
  · exact ⟨h.1, ha⟩
  · exact h
  · exact h
  · exact h
theorem acts_sm : ∀ (l : List Ac) (f : Fc), f.Sm → (∀ a ∈ l, a.b.length ≤ 65536) → (acts l f).Sm
  | [], f, h, _ => h
  | a :: l, f, h, hl => acts_sm l (a.does f) (a.does_sm f h (hl a (by simp))) (fun x hx => hl x (by simp [hx]))
theorem Ac.torn_sm (a : Ac) (t : Int) (ha : a.b.length ≤ 65536) : (a.torn t).b.length ≤ 65536 := by
  unfold Ac.torn
  split
  · simp
  · simp; omega
structure Ds.Small (d : Ds) : Prop where
  told : d.told.Sm
  lasts : d.lasts.Sm
  waits : ∀ a ∈ d.waits, a.b.length ≤ 65536
theorem Ds.last_sm (h : d.Small) (k t : Int) : (d.last k t).Sm := by
  have h1 : (acts (d.waits.take (keepN k d.waits.length)) d.lasts).Sm := acts_sm _ _ h.lasts (fun a ha => h.waits a (List.mem_of_mem_take ha))
  unfold Ds.last
  split
  · rename_i a ha
    exact Ac.does_sm _ _ h1 (Ac.torn_sm _ _ (h.waits a (List.mem_of_getElem? ha)))
  · exact h1
theorem Ds.fall_small (h : d.Small) (k t : Int) : (d.fall k t).Small := ⟨Ds.last_sm h k t, Ds.last_sm h k t, by simp [Ds.fall]⟩
theorem Ds.burn_small (h : d.Small) : (d.burn).2.Small := by
  unfold Ds.burn
  split
  · exact h
  · split
    · exact ⟨h.told, h.lasts, h.waits⟩
    · exact Ds.fall_small h _ _
theorem Ds.wait_small (h : d.Small) (a : Ac) (ha : a.b.length ≤ 65536) : (d.wait a).2.Small :=
  Ds.burn_small ⟨Ac.does_sm _ _ h.told ha, h.lasts, fun x hx => by
    rcases List.mem_append.1 hx with hx | hx
    · exact h.waits x hx
    · simp at hx; rw [hx]; exact ha⟩
theorem Ds.does_small (h : d.Small) (op i k t : Int) (xs : List Int) (hx : xs.length ≤ 65536) : (d.does op i k t xs).2.Small := by
  unfold Ds.does Ds.slot Ds.clear Ds.sync Ds.crash Ds.start Ds.arm Ds.append
  repeat' split
  all_goals first
    | exact h
    | exact Ds.wait_small h _ hx
    | exact Ds.wait_small h _ (by simp)
    | exact Ds.burn_small ⟨h.told, h.told, by simp⟩
    | exact Ds.fall_small h _ _
    | exact ⟨h.told, h.lasts, h.waits⟩
theorem dos_small : ∀ (ks : List Kd) (d : Ds), d.Small → (∀ k ∈ ks, k.b.length ≤ 65536) → (dos d ks).Small
  | [], d, h, _ => h
  | k :: ks, d, h, hk => dos_small ks _ (Ds.does_small h _ _ _ _ _ (hk k (by simp))) (fun x hx => hk x (by simp [hx]))
theorem new_small (room : Int) : (Ds.new room).Small := ⟨by simp [Ds.new, Fc.Sm], by simp [Ds.new, Fc.Sm], by simp [Ds.new]⟩

theorem Ds.burn_room (d : Ds) : (d.burn).2.room = d.room := by
  unfold Ds.burn Ds.fall
  repeat' split
  all_goals rfl
theorem Ds.does_room (d : Ds) (op i k t : Int) (xs : List Int) : (d.does op i k t xs).2.room = d.room := by
  unfold Ds.does Ds.slot Ds.clear Ds.sync Ds.crash Ds.start Ds.arm Ds.append Ds.wait
  repeat' split
  all_goals first
    | rfl
    | exact Ds.burn_room _
theorem dos_room : ∀ (ks : List Kd) (d : Ds), (dos d ks).room = d.room
  | [], d => rfl
  | k :: ks, d => (dos_room ks _).trans (Ds.does_room d _ _ _ _ _)

theorem Ds.burn_code (d : Ds) : (d.burn).1 ≠ 7 := by
  unfold Ds.burn
  repeat' split
  all_goals simp
theorem Ds.does_full (d : Ds) (op i k t : Int) (xs : List Int) : (d.does op i k t xs).1 = 7 → (d.does op i k t xs).2 = d := by
  unfold Ds.does Ds.slot Ds.clear Ds.sync Ds.crash Ds.start Ds.arm Ds.append Ds.wait
  repeat' split
  all_goals first
    | (intro _; rfl)
    | (intro h; exact absurd h (Ds.burn_code _))
    | (intro h; simp at h)
theorem Dk.size (h : Dk w B b L d) : (d.told.size : Int) ≤ d.room := by
  obtain ⟨_, _, _, _, _, _, _, _, _, _, h⟩ := h
  exact h.told

def Ds.cleared (d : Ds) : Ds := { d.calm with told := ⟨d.told.s0, d.told.s1, []⟩, waits := d.waits ++ [⟨3, 0, []⟩] }
def Ds.laid (d : Ds) (bs : List Int) : Ds := { d.calm with told := ⟨d.told.s0, bs, []⟩, waits := d.waits ++ [⟨3, 0, []⟩] ++ [⟨1, 1, bs⟩] }
theorem calm_clear (d : Ds) : d.calm.clear = (0, d.cleared) := by simp [Ds.clear, Ds.wait, Ds.burn, Ds.cleared, Ds.calm, Ac.does]
theorem cleared_slot (h : d.Small) (hr : d.room = 16777216) {bs : List Int} (hb : bs.length ≤ 32768) : d.cleared.slot 1 bs = (0, d.laid bs) := by
  have h1 := h.told.1
  have h2 := h.told.2
  have e : ¬ (d.cleared.room < (d.cleared.told.size : Int) - d.cleared.told.s1.length + bs.length) := by
    simp only [Ds.cleared, Ds.calm, Fc.size, hr]
    simp
    omega
  unfold Ds.slot
  rw [if_neg (by simp [Ds.cleared, Ds.calm]), if_neg (by omega), if_neg (by simpa using e)]
  simp [Ds.wait, Ds.burn, Ds.laid, Ds.cleared, Ds.calm, Ac.does]
theorem laid_sync (d : Ds) (bs : List Int) : (d.laid bs).sync = (0, (d.laid bs).synced) := calm_sync (d.laid bs)
theorem cleared_few {n : Nat} (h : d.Few n) : d.cleared.Few (n + 1) := ⟨by have := h.waits; simp [Ds.cleared]; omega, by simp [Ds.cleared, Ds.calm]⟩
theorem laid_few {n : Nat} (h : d.Few n) (bs : List Int) : (d.laid bs).Few (n + 2) := ⟨by have := h.waits; simp [Ds.laid]; omega, by simp [Ds.laid, Ds.calm]⟩
end Go.Proofs.Ytlfknldgfeicmaa
