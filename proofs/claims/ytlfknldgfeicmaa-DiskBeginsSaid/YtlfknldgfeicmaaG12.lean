/-
  A disk behind a list of calls.
-/
import Derived.Test.YtlfknldgfeicmaaG11
namespace Go.Proofs.Ytlfknldgfeicmaa
set_option linter.unusedVariables false
set_option linter.unusedSimpArgs false
open Go.RowKit
variable {w : World} {B b : Nat} {L : List Nat} {d : Ds}

theorem Ds.Few.more {m n : Nat} (h : d.Few m) (hm : m ≤ n) : d.Few n := ⟨Nat.le_trans h.waits hm, h.left⟩
theorem Ds.burn_few {n : Nat} (h : d.Few n) : (d.burn).2.Few n := by
  have hl := h.left
  unfold Ds.burn
  split
  · exact h
  · split
    · exact ⟨h.waits, by simp only; omega⟩
    · exact ⟨by simp [Ds.fall], by simp [Ds.fall]⟩
theorem Ds.wait_few {n : Nat} (h : d.Few n) (a : Ac) : (d.wait a).2.Few (n + 1) :=
  Ds.burn_few ⟨by simp; exact h.waits, h.left⟩
theorem Ds.append_few {n : Nat} (h : d.Few n) (xs : List Int) : (d.append xs).2.Few (n + 1) := by
  unfold Ds.append
  split
  · exact h.more (by omega)
  · split
    · exact h.more (by omega)
    · exact Ds.wait_few h _
theorem Ds.clear_few {n : Nat} (h : d.Few n) : (d.clear).2.Few (n + 1) := by
  unfold Ds.clear
  split
  · exact h.more (by omega)
  · exact Ds.wait_few h _
theorem Ds.slot_few {n : Nat} (h : d.Few n) (i : Int) (xs : List Int) : (d.slot i xs).2.Few (n + 1) := by
  unfold Ds.slot
  repeat' split
  all_goals first | exact h.more (by omega) | exact Ds.wait_few h _
theorem Ds.sync_few {n : Nat} (h : d.Few n) : (d.sync).2.Few n := by
  unfold Ds.sync
  split
  · exact h
  · exact Ds.burn_few ⟨by simp, h.left⟩
theorem Ds.crash_few {n : Nat} (h : d.Few n) (k t : Int) : (d.crash k t).2.Few n := by
  unfold Ds.crash
  split
  · exact h
  · exact ⟨by simp [Ds.fall], by simp [Ds.fall]⟩
theorem Ds.start_few {n : Nat} (h : d.Few n) : (d.start).2.Few n := ⟨h.waits, h.left⟩
theorem Ds.arm_few {n : Nat} (h : d.Few n) (i k t : Int) (hi : i ≤ 9223372036854775807) : (d.arm i k t).2.Few n := by
  unfold Ds.arm
  split
  · exact h
  · split
    · exact h
    · exact ⟨h.waits, by simp only; omega⟩
theorem Ds.does_few {n : Nat} (h : d.Few n) (op i k t : Int) (xs : List Int) (hi : i ≤ 9223372036854775807) : (d.does op i k t xs).2.Few (n + 1) := by
  unfold Ds.does
  repeat' split
  · exact Ds.slot_few h _ _
  · exact Ds.slot_few h _ _
  · exact Ds.clear_few h
  · exact (Ds.sync_few h).more (by omega)
  · exact (Ds.crash_few h _ _).more (by omega)
  · exact (Ds.start_few h).more (by omega)
  · exact (Ds.arm_few h _ _ _ hi).more (by omega)
  · exact Ds.append_few h _
theorem Ds.new_few (room : Int) : (Ds.new room).Few 0 := ⟨by simp [Ds.new], by simp [Ds.new]⟩

theorem cell_later {w w' : World} (hb : Below w.heap.size w w') {p : Addr} {v : Value} (h : w.cell? p = some v) : w'.cell? p = some v := (hb.cell (World.block_lt_of_cell? w _ h)).trans h
/-- A list of calls is told. -/
def KdsAt (w : World) (g off : Nat) (ks : List Kd) : Prop := ∀ j k, ks[j]? = some k → w.cell? ⟨g, off + j * 5, none⟩ = some (.int .i64 k.op) ∧ w.cell? ⟨g, off + j * 5 + 1, none⟩ = some (.int .i64 k.i) ∧ w.cell? ⟨g, off + j * 5 + 2, none⟩ = some (.int .i64 k.keep) ∧ w.cell? ⟨g, off + j * 5 + 3, none⟩ = some (.int .i64 k.tear) ∧ ∃ x, w.cell? ⟨g, off + j * 5 + 4, none⟩ = some x ∧ Byt w [] x k.b
def KdsIn (w : World) (v : Value) (ks : List Kd) : Prop := ∃ a c, v = .slice a ks.length c ∧ (ks = [] ∨ ∃ g off, a = some ⟨g, off, none⟩ ∧ KdsAt w g off ks)
theorem KdsAt.later {w w' : World} {g off : Nat} {ks : List Kd} (h : KdsAt w g off ks) (hb : Below w.heap.size w w') : KdsAt w' g off ks := fun j k hk => by
  obtain ⟨h0, h1, h2, h3, x, h4, h5⟩ := h j k hk
  exact ⟨cell_later hb h0, cell_later hb h1, cell_later hb h2, cell_later hb h3, x, cell_later hb h4, h5.below hb⟩
theorem KdsIn.later {w w' : World} {v : Value} {ks : List Kd} (h : KdsIn w v ks) (hb : Below w.heap.size w w') : KdsIn w' v ks := by
  obtain ⟨a, c, hv, h⟩ := h
  refine ⟨a, c, hv, h.imp id ?_⟩
  rintro ⟨g, off, ha, h⟩
  exact ⟨g, off, ha, h.later hb⟩
def Kd.Ok (k : Kd) : Prop := k.b.length ≤ 65536 ∧ k.i ≤ 9223372036854775807
def dos (d : Ds) (ks : List Kd) : Ds := ks.foldl (fun d k => (d.does k.op k.i k.keep k.tear k.b).2) d
theorem dos_step {ks : List Kd} {i : Nat} {k : Kd} (h : ks[i]? = some k) (d : Ds) : dos d (ks.take (i + 1)) = ((dos d (ks.take i)).does k.op k.i k.keep k.tear k.b).2 := by
  unfold dos
  rw [List.take_add_one, h, List.foldl_append]; rfl

/-- A disk behind calls, in a world that came from another one. -/
structure Sk (w wr : World) (b : Nat) (L : List Nat) (d : Ds) (n : Nat) : Prop where
  disk : Dk wr w.heap.size b L d
  few : d.Few n
  below : Below w.heap.size w wr
theorem Sk.later {w wr w' : World} {n : Nat} (h : Sk w wr b L d n) (hb : Below wr.heap.size wr w') : Sk w w' b L d n := ⟨h.disk.below hb, h.few, h.below.trans (hb.mono h.below.size)⟩
theorem Sk.ext {w wr w' : World} {n m : Nat} {L' : List Nat} {d' : Ds} (h : Sk w wr b L d n) (hd : Dk w' w.heap.size b L' d') (he : Ext wr L w' L') (hf : d'.Few m) : Sk w w' b L' d' m :=
  ⟨hd, hf, h.below.trans (he.below h.below.size h.disk.low)⟩
theorem Sk.more {w wr : World} {n m : Nat} (h : Sk w wr b L d n) (hm : n ≤ m) : Sk w wr b L d m := ⟨h.disk, h.few.more hm, h.below⟩

def Madek (w : World) (room : Int) (ks : List Kd) (e : Ending) (w' : World) : Prop := ∃ b L, e = .returned (.pointer (some ⟨b, 0, none⟩)) ∧ Sk w w' b L (dos (Ds.new room) ks) ks.length

set_option maxRecDepth 100000 in
set_option maxHeartbeats 3200000 in
theorem made_any {v : Value} {ks : List Kd} (room : Int) (hr : 0 < room ∧ room ≤ 16777216) (h : KdsIn w v ks) (hl : ks.length ≤ 200) (hok : ∀ k ∈ ks, k.Ok) : Calls Try.prog 32 #[.int .i64 room, v] w (Madek w room ks) := by
  obtain ⟨a, c, rfl, ha⟩ := h
  have HD := Lib.hid ha
  have HOK := Lib.hid hok
  have HR := Lib.hid hr
  clear ha hok hr
  go_enter Try.func32, Try.ntmps32
  go_wp2_with fail
  go_fit (New_room room HR.out w)
  rintro e w2 ⟨rfl, hd, hb2⟩
  have HS0 : Hid (Sk w w2 w.heap.size [w.heap.size] (dos (Ds.new room) (ks.take 0)) 0) := ⟨hd, Ds.new_few room, hb2⟩
  clear hd hb2
  go_wp2_with fail
  go_loopw [16] (fun v wr => ∃ (i : Nat) (L : List Nat), v = .int .i64 i ∧ i ≤ ks.length ∧ Hid (Sk w wr w.heap.size L (dos (Ds.new room) (ks.take i)) i))
    (fun v _ => ks.length - (intOf v).toNat)
  case atStart => exact ⟨0, _, rfl, Nat.zero_le _, HS0⟩
  case round =>
    obtain ⟨i, L, rfl, hin, hst⟩ := hrel
    have ei : IntKind.i64.wrap ((i : Int) + 1) = (i : Int) + 1 := IntWalk.i64_in _ (by omega)
    by_cases hlt : i < ks.length
    · obtain ⟨k, hk1⟩ : ∃ k, ks[i]? = some k := ⟨ks[i], List.getElem?_eq_getElem hlt⟩
      obtain ⟨g2, off2, rfl, hat⟩ := HD.out.resolve_left (fun e => by rw [e] at hk1; simp at hk1)
      obtain ⟨k0, k1, k2, k3, x, k4, hx⟩ := hat i k hk1
      have k0 := cell_later hst.out.below k0
      have k1 := cell_later hst.out.below k1
      have k2 := cell_later hst.out.below k2
      have k3 := cell_later hst.out.below k3
      have k4 := cell_later hst.out.below k4
      have hx := hx.below hst.out.below
      obtain ⟨xa, xc, rfl, _, _⟩ := hx.slice
      have hI1 : (i : Int) < ((ks.length : Nat) : Int) := by omega
      have hI2 : (0 : Int) ≤ (i : Int) := by omega
      have hba := (Below.refl wr.heap.size wr).alloc (Nat.le_refl _) (Obj.cells #[Value.int .i64 k.op, .int .i64 k.i, .int .i64 k.keep, .int .i64 k.tear, .slice xa k.b.length xc] 34)
      have HSA := Lib.hid (hst.out.later hba)
      have HX := Lib.hid (hx.below hba)
      have HKo := Lib.hid (HOK.out k (List.mem_of_getElem? hk1))
      have HK1 := Lib.hid hk1
      clear hat hk1 hst hx hba
      go_wp2_with fail
      go_fit (does_any k.op k.i k.keep k.tear HSA.out.disk HX.out HKo.out.1 (HSA.out.few.more (by omega)))
      rintro e w3 ⟨L3, rfl, hd, he⟩
      have HST : Hid (Sk w w3 w.heap.size L3 (dos (Ds.new room) (ks.take (i + 1))) (i + 1)) := by
        show Sk _ _ _ _ _ _
        rw [dos_step HK1.out]
        exact HSA.out.ext hd he (Ds.does_few HSA.out.few _ _ _ _ _ HKo.out.2)
      clear hd he k0 k1 k2 k3 k4 HSA HX
      go_wp2_with fail
      exact ⟨⟨i + 1, L3, by simp, hlt, HST⟩, by show ks.length - ((i : Int) + 1).toNat < ks.length - ((i : Int)).toNat; omega⟩
    · obtain rfl : i = ks.length := by omega
      go_wp2_with fail
      go_ret
      rw [List.take_length] at hst
      exact ⟨_, L, rfl, hst.out⟩
end Go.Proofs.Ytlfknldgfeicmaa
