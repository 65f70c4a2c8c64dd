/-
  A disk that tells; blocks that no call of it turns; what a Sync and a crash make.
-/
import Derived.Test.YtlfknldgfeicmaaG14
namespace Go.Proofs.Ytlfknldgfeicmaa
set_option linter.unusedVariables false
set_option linter.unusedSimpArgs false
open Go.RowKit
variable {w w' : World} {B b : Nat} {L L' : List Nat} {d : Ds}

def FacedOn (L : List Nat) (f : Fc) (w : World) (e : Ending) (w' : World) : Prop :=
  ∃ a0 c0 a1 c1 a2 c2, e = .returned (.tuple #[.agg #[.slice a0 f.s0.length c0, .slice a1 f.s1.length c1, .slice a2 f.tp.length c2], .bool true]) ∧
    Byt w' L (.slice a0 f.s0.length c0) f.s0 ∧ Byt w' L (.slice a1 f.s1.length c1) f.s1 ∧ Byt w' L (.slice a2 f.tp.length c2) f.tp ∧ Below w.heap.size w w'
theorem face_on (h : Dk w B b L d) (hon : d.on = true) : Calls Try.prog 36 #[.pointer (some ⟨b, 0, none⟩)] w (FacedOn L d.told w) := by
  have e : d.face = d.told := by unfold Ds.face; rw [if_pos hon]
  refine (face_any h).mono ?_
  rintro _ w' ⟨a0, c0, a1, c1, a2, c2, rfl, h0, h1, h2, hb⟩
  rw [e] at h0 h1 h2
  exact ⟨a0, c0, a1, c1, a2, c2, by rw [e, hon], h0, h1, h2, hb⟩
theorem face_told {f : Fc} (h : Dk w B b L d) (hon : d.on = true) (hf : d.told = f) : Calls Try.prog 36 #[.pointer (some ⟨b, 0, none⟩)] w (FacedOn L f w) := hf ▸ face_on h hon
/-- A block that no call of a disk turns. -/
def Bx (w : World) (L : List Nat) (g : Nat) (cs : List Value) : Prop := DC w g cs ∧ g ∉ L
theorem Bx.ext {g : Nat} {cs : List Value} (h : Bx w L g cs) (he : Ext w L w' L') : Bx w' L' g cs :=
  ⟨h.1.keep he.size (he.block g h.1.lt h.2), fun hm => by
    rcases he.new g hm with h' | h'
    · exact h.2 h'
    · have := h.1.lt; omega⟩
theorem Bx.below {g : Nat} {cs : List Value} (h : Bx w L g cs) (hb : Below w.heap.size w w') : Bx w' L g cs := ⟨h.1.below hb, h.2⟩
theorem Bx.new (w : World) (hL : ∀ k ∈ L, k < w.heap.size) (cs : List Value) (t : TypeId) : Bx (w.alloc (.cells cs.toArray t)) L w.heap.size cs := ⟨DC.alloc w cs t, fun hm => by have := hL _ hm; omega⟩
theorem below_alloc (w : World) (o : Obj) : Below w.heap.size w (w.alloc o) := (Below.refl _ _).alloc (Nat.le_refl _) _

def Ds.calm (d : Ds) : Ds := { d with on := true, left := 0, keep := 0, tear := 0 }
def Ds.synced (d : Ds) : Ds := { d.calm with lasts := d.told, waits := [] }
def Ds.fell (d : Ds) : Ds := ⟨d.room, false, d.told, d.told, [], 0, 0, 0⟩
theorem start_arm (d : Ds) : (d.start).2.arm 0 0 0 = (0, d.calm) := by simp [Ds.start, Ds.arm, Ds.calm]
theorem calm_sync (d : Ds) : d.calm.sync = (0, d.synced) := by simp [Ds.sync, Ds.burn, Ds.synced, Ds.calm]
theorem synced_crash (d : Ds) (k t : Int) : d.synced.crash k t = (0, d.fell) := by simp [Ds.crash, Ds.fall, Ds.last, Ds.synced, Ds.calm, Ds.fell, acts]
theorem fell_tape (d : Ds) : d.fell.tape = ([], 30) := by simp [Ds.tape, Ds.fell]
theorem calm_few {n : Nat} (h : d.Few n) : d.calm.Few n := ⟨h.waits, by simp [Ds.calm]⟩
theorem synced_few (d : Ds) (n : Nat) : d.synced.Few n := ⟨by simp [Ds.synced], by simp [Ds.synced, Ds.calm]⟩
theorem fell_few (d : Ds) (n : Nat) : d.fell.Few n := ⟨by simp [Ds.fell], by simp [Ds.fell]⟩
end Go.Proofs.Ytlfknldgfeicmaa
