/-
  Walks: whether things to do may be gone through here.
-/
import Derived.Test.YtcncggndpnooeaaB23
namespace Go.Proofs.Ytcncggndpnooeaa
set_option linter.unusedVariables false
set_option linter.unusedSimpArgs false
open Go.RowKit

/-- Something that is done to a tree. -/
structure Dk where
  op : Int
  key : ByteArray
  val : ByteArray

/-- A list of things to do is told. -/
def DosAt (w : World) (g off : Nat) (ks : List Dk) : Prop := ∀ i k, ks[i]? = some k → w.cell? ⟨g, off + i * 3, none⟩ = some (.int .i64 k.op) ∧ w.cell? ⟨g, off + i * 3 + 1, none⟩ = some (.string k.key) ∧ w.cell? ⟨g, off + i * 3 + 2, none⟩ = some (.string k.val)
def DosIn (w : World) (v : Value) (ks : List Dk) : Prop := ∃ a c, v = .slice a ks.length c ∧ (ks = [] ∨ ∃ g off, a = some ⟨g, off, none⟩ ∧ DosAt w g off ks)
theorem DosIn.later {w w' : World} {v : Value} {ks : List Dk} (h : DosIn w v ks) (hb : Below w.heap.size w w') : DosIn w' v ks := by
  obtain ⟨a, c, hv, h⟩ := h
  refine ⟨a, c, hv, h.imp id ?_⟩
  rintro ⟨g, off, ha, h⟩
  exact ⟨g, off, ha, fun i k hk => ⟨cell_later hb (h i k hk).1, cell_later hb (h i k hk).2.1, cell_later hb (h i k hk).2.2⟩⟩
/-- Lists of them. -/
def ListsIn (w : World) (v : Value) (ls : List (List Dk)) : Prop := ∃ g off c, v = .slice (some ⟨g, off, none⟩) ls.length c ∧ ∀ i l, ls[i]? = some l → ∃ u, w.cell? ⟨g, off + i, none⟩ = some u ∧ DosIn w u l

def weight (k : Dk) : Nat := min k.key.size 16384 + min k.val.size 16384
def weights (ks : List Dk) : Nat := (ks.map weight).sum
def weightsL (ls : List (List Dk)) : Nat := (ls.map weights).sum
/-- What short tells. -/
def Shorts (ls : List (List Dk)) (w : World) (e : Ending) (w' : World) : Prop :=
  ∃ b : Bool, e = .returned (.bool b) ∧ (b = true → (∀ l ∈ ls, l.length ≤ 300) ∧ weightsL ls ≤ 16384) ∧ Below w.heap.size w w'

theorem weightsL_step {ls : List (List Dk)} {i : Nat} {l : List Dk} (h : ls[i]? = some l) : weightsL (ls.take (i + 1)) = weightsL (ls.take i) + weights l := by
  rw [List.take_add_one, h]; simp [weightsL]
theorem weights_step {ls : List Dk} {i : Nat} {l : Dk} (h : ls[i]? = some l) : weights (ls.take (i + 1)) = weights (ls.take i) + weight l := by
  rw [List.take_add_one, h]; simp [weights]
theorem shorts_no {ls : List (List Dk)} {w w' : World} (hb : Below w.heap.size w w') : Shorts ls w (.returned (.bool false)) w' := ⟨false, rfl, (fun h => by cases h), hb⟩

set_option maxRecDepth 100000 in
set_option maxHeartbeats 3200000 in
theorem short_any {w : World} {v : Value} {ls : List (List Dk)} (hv : ListsIn w v ls) (hl : ls.length ≤ 8) : Calls Try.prog 15 #[v] w (Shorts ls w) := by
  obtain ⟨g, off, c, rfl, hv⟩ := hv
  have HV := Lib.hid hv
  clear hv
  go_enter Try.func15, Try.ntmps15
  go_wp2_with fail
  go_loopw [3, 10] (fun u v wr => ∃ (i n : Nat), v = .int .i64 i ∧ u = .int .i64 n ∧ i ≤ ls.length ∧ Hid (n = weightsL (ls.take i)) ∧ n ≤ 16384 ∧ Hid (∀ l ∈ ls.take i, l.length ≤ 300) ∧ Hid (Below w.heap.size w wr))
    (fun _ v _ => ls.length - (intOf v).toNat)
  case atStart => exact ⟨0, 0, rfl, rfl, Nat.zero_le _, rfl, by omega, (fun l hl => absurd hl (by simp) : ∀ l ∈ ls.take 0, l.length ≤ 300), Below.refl _ _⟩
  case round =>
    obtain ⟨i, n, rfl, rfl, hin, hnw, hn, hall, hbw⟩ := hrel
    have ei : IntKind.i64.wrap ((i : Int) + 1) = (i : Int) + 1 := IntWalk.i64_in _ (by omega)
    by_cases hlt : i < ls.length
    · obtain ⟨l, hl1⟩ : ∃ l, ls[i]? = some l := ⟨ls[i], List.getElem?_eq_getElem hlt⟩
      obtain ⟨u, hu, hd⟩ := HV.out i l hl1
      have hu := cell_later hbw.out hu
      obtain ⟨a, c', rfl, hk⟩ := hd
      have hI1 : (i : Int) < ((ls.length : Nat) : Int) := by omega
      have hI2 : (0 : Int) ≤ (i : Int) := by omega
      have Hk := Lib.hid hk
      have Hl1 := Lib.hid hl1
      clear hk hl1
      by_cases hlen : 300 < l.length
      · have hlI : (300 : Int) < ((l.length : Nat) : Int) := by omega
        go_wp2_with fail
        go_ret
        exact shorts_no hbw.out
      · have hlI : ((l.length : Nat) : Int) ≤ 300 := by omega
        go_wp2_with fail
        have Hlen : Hid (l.length ≤ 300) := by show _ ≤ _; omega
        clear hlen
        go_loopw [3, 19] (fun u v wr2 => ∃ (j m : Nat), v = .int .i64 j ∧ u = .int .i64 m ∧ j ≤ l.length ∧ Hid (m = n + weights (l.take j)) ∧ m ≤ 16384 ∧ Hid (Below w.heap.size w wr2))
          (fun _ v _ => l.length - (intOf v).toNat)
        case atStart => exact ⟨0, n, rfl, rfl, Nat.zero_le _, by show _ = _; simp [weights], hn, hbw⟩
        case round =>
          obtain ⟨j, m, rfl, rfl, hjl, hmw, hm, hb2⟩ := hrel
          have ej : IntKind.i64.wrap ((j : Int) + 1) = (j : Int) + 1 := IntWalk.i64_in _ (by have := Hlen.out; omega)
          by_cases hjlt : j < l.length
          · obtain ⟨k, hk1⟩ : ∃ k, l[j]? = some k := ⟨l[j], List.getElem?_eq_getElem hjlt⟩
            obtain ⟨g2, off2, rfl, hat⟩ := Hk.out.resolve_left (fun e => by rw [e] at hk1; simp at hk1)
            obtain ⟨k0, k1, k2⟩ := hat j k hk1
            have k0 := cell_later hb2.out k0
            have k1 := cell_later hb2.out k1
            have k2 := cell_later hb2.out k2
            have hJ1 : (j : Int) < ((l.length : Nat) : Int) := by omega
            have hJ2 : (0 : Int) ≤ (j : Int) := by omega
            have Hk1 := Lib.hid hk1
            have hA := below_alloc wr (Obj.cells #[Value.int .i64 k.op, .string k.key, .string k.val] 30)
            have e1 : IntKind.i64.wrap (min (k.key.size : Int) 16384 + min (k.val.size : Int) 16384) = min (k.key.size : Int) 16384 + min (k.val.size : Int) 16384 := IntWalk.i64_in _ (by omega)
            have e2 : IntKind.i64.wrap ((m : Int) + (min (k.key.size : Int) 16384 + min (k.val.size : Int) 16384)) = (m : Int) + (min (k.key.size : Int) 16384 + min (k.val.size : Int) 16384) := IntWalk.i64_in _ (by omega)
            have HB3 := Lib.hid (hb2.out.trans (hA.mono hb2.out.size))
            clear hA hat hk1
            by_cases hbig : (16384 : Int) < (m : Int) + (min (k.key.size : Int) 16384 + min (k.val.size : Int) 16384)
            · go_wp2_with fail
              go_ret
              exact shorts_no HB3.out
            · have hbig' : (m : Int) + (min (k.key.size : Int) 16384 + min (k.val.size : Int) 16384) ≤ 16384 := by omega
              clear hbig
              go_wp2_with fail
              refine ⟨⟨j + 1, m + weight k, by simp, ?_, hjlt, ?_, ?_, HB3⟩, by show l.length - ((j : Int) + 1).toNat < l.length - ((j : Int)).toNat; omega⟩
              · simp only [weight]; congr 1; omega
              · show _ = _; rw [weights_step Hk1.out, hmw.out]; omega
              · simp only [weight]; omega
          · obtain rfl : j = l.length := by omega
            have HW : Hid (m = weightsL (ls.take (i + 1))) := by
              have := hmw.out
              rw [List.take_length] at this
              show _ = _
              rw [weightsL_step Hl1.out, this, hnw.out]
            have HA : Hid (∀ x ∈ ls.take (i + 1), x.length ≤ 300) := by
              intro x hx
              rw [List.take_add_one, Hl1.out] at hx
              rcases List.mem_append.1 hx with h | h
              · exact hall.out x h
              · simp at h; rw [h]; exact Hlen.out
            go_wp2_with fail
            exact ⟨⟨i + 1, m, by simp, rfl, hlt, HW, hm, HA, hb2⟩, by show ls.length - ((i : Int) + 1).toNat < ls.length - ((i : Int)).toNat; omega⟩
    · obtain rfl : i = ls.length := by omega
      go_wp2_with fail
      go_ret
      have h1 := hall.out
      have h2 := hnw.out
      rw [List.take_length] at h1 h2
      exact ⟨true, rfl, fun _ => ⟨h1, by rw [← h2]; exact hn⟩, hbw.out⟩
end Go.Proofs.Ytcncggndpnooeaa
