/-
  Walks: questions over questions; Holds and Pass.
-/
import Derived.Test.YtdeknkfhlmkabaaF9
namespace Go.Proofs.Ytdeknkfhlmkabaa
set_option linter.unusedVariables false
set_option linter.unusedSimpArgs false
open Go.RowKit
variable {w : World}

set_option maxRecDepth 100000 in
set_option maxHeartbeats 1600000 in
theorem asks_not (q : Value) (b : Bool) (ev : Kev) (w : World) (hi : ∃ t x, q = .iface t x) (IH : ∀ W, Below w.heap.size w W → Asks q b ev W) : Asks (.iface 109 (.agg #[q])) (!b) ev w := by
  obtain ⟨qt, qx, rfl⟩ := hi
  refine ⟨_, _, 125, .agg #[.iface qt qx], rfl, fun W => by kernel_rfl, fun vs W => by kernel_rfl, ?_⟩
  have hb1 := lay_alloc w (.cells #[.iface qt qx] 109)
  have hb2 := lay_alloc (w.alloc (.cells #[.iface qt qx] 109)) (.cells #[.int .i64 ev.pos, .string ev.key, .bool ev.had, .string ev.old, .bool ev.has, .string ev.now] 32)
  have hb := hb1.trans (hb2.mono hb1.size)
  have HB := Lib.hid hb
  obtain ⟨t, x, K, r, e, hm, hcf, hC⟩ := IH _ hb
  cases e
  unfold evV at hC ⊢
  have HC := Lib.hid hC
  clear hb1 hb2 hb hC IH
  go_enter Try.func125, Try.ntmps125
  go_wp2_with fail
  go_fit HC.out
  rintro e w1 ⟨rfl, hb⟩
  have HB1 := Lib.hid (HB.out.trans (hb.mono HB.out.size))
  clear hb
  go_wp2_with fail
  go_ret
  exact ⟨rfl, HB1.out⟩

/-- The questions of kids can be asked. -/
def Row (w : World) (a : Option Addr) (ks : List Fl) (qs : Nat → Value) : Prop := ks = [] ∨ ∃ g, a = some ⟨g, 0, none⟩ ∧ g < w.heap.size ∧ ∀ i, i < ks.length → w.cell? ⟨g, i, none⟩ = some (qs i)

set_option maxRecDepth 100000 in
set_option maxHeartbeats 3200000 in
theorem asks_each (a : Option Addr) (c : Nat) (ks : List Fl) (qs : Nat → Value) (p : Fl → Bool) (ev : Kev) (w : World) (hc : ks.length ≤ c ∧ c ≤ 9223372036854775807) (hl : ks.length ≤ 1000) (hr : Row w a ks qs)
    (IH : ∀ i k, ks[i]? = some k → ∀ W, Below w.heap.size w W → Asks (qs i) (p k) ev W) : Asks (.iface 110 (.slice a ks.length c)) (ks.all p) ev w := by
  refine ⟨_, _, 126, .slice a ks.length c, rfl, fun W => by kernel_rfl, fun vs W => by kernel_rfl, ?_⟩
  have hb := lay_alloc w (.cells #[.int .i64 ev.pos, .string ev.key, .bool ev.had, .string ev.old, .bool ev.has, .string ev.now] 32)
  have HB := Lib.hid hb
  have HR := Lib.hid hr
  have HI := Lib.hid IH
  obtain ⟨hc1, hc2⟩ := hc
  clear hb hr IH
  unfold evV at HI ⊢
  have HY := Lib.hid (DC.alloc w [.int .i64 ev.pos, .string ev.key, .bool ev.had, .string ev.old, .bool ev.has, .string ev.now] 32)
  go_enter Try.func126, Try.ntmps126
  go_wp2_with fail
  go_loopw [9] (fun v wr => ∃ i : Nat, v = .int .i64 i ∧ i ≤ ks.length ∧ Hid ((ks.take i).all p = true) ∧ Hid (Below w.heap.size w wr) ∧ Hid (Below (w.alloc (.cells #[.int .i64 ev.pos, .string ev.key, .bool ev.had, .string ev.old, .bool ev.has, .string ev.now] 32)).heap.size (w.alloc (.cells #[.int .i64 ev.pos, .string ev.key, .bool ev.had, .string ev.old, .bool ev.has, .string ev.now] 32)) wr))
    (fun v _ => ks.length - (intOf v).toNat)
  case atStart => exact ⟨0, rfl, Nat.zero_le _, rfl, HB.out, Below.refl _ _⟩
  case round =>
    obtain ⟨i, rfl, hin, ht, hb, hbe⟩ := hrel
    have ei : IntKind.i64.wrap ((i : Int) + 1) = (i : Int) + 1 := IntWalk.i64_in _ (by omega)
    by_cases hlt : i < ks.length
    · obtain ⟨k, hk⟩ : ∃ k, ks[i]? = some k := ⟨ks[i], List.getElem?_eq_getElem hlt⟩
      obtain ⟨g, rfl, hg, hcell⟩ := HR.out.resolve_left (fun e => by rw [e] at hlt; simp at hlt)
      obtain ⟨t, x, K, r, hqv, hm, hcf, hC⟩ := HI.out i k hk wr hb.out
      have k0 := lay_later hb.out (hcell i hlt)
      rw [hqv] at k0
      have hI1 : (i : Int) < ((ks.length : Nat) : Int) := by omega
      have hI2 : (0 : Int) ≤ (i : Int) := by omega
      have HC := Lib.hid hC
      have HT : Hid ((ks.take (i + 1)).all p = ((ks.take i).all p && p k)) := by show _ = _; rw [ones_take hk]; simp
      have HH : Hid (p k = false → ks.all p = false) := fun h => by
        rw [List.all_eq_false]
        exact ⟨k, List.mem_of_getElem? hk, by rw [h]; simp⟩
      have hY := HY.out.below hbe.out
      have y0 := hY.cells 0 _ rfl
      have y1 := hY.cells 1 _ rfl
      have y2 := hY.cells 2 _ rfl
      have y3 := hY.cells 3 _ rfl
      have y4 := hY.cells 4 _ rfl
      have y5 := hY.cells 5 _ rfl
      clear hk hg hcell hC hqv hY
      go_wp2_with fail
      go_fit HC.out
      rintro e w3 ⟨rfl, hb3⟩
      have HB3 := Lib.hid (hb.out.trans (hb3.mono hb.out.size))
      have HB4 := Lib.hid (hbe.out.trans (hb3.mono hbe.out.size))
      clear hb3 y0 y1 y2 y3 y4 y5 k0 HC
      cases hp : p k
      · have HS := Lib.hid (HH.out hp)
        clear hp
        go_wp2_with fail
        go_ret
        rw [HS.out]
        exact ⟨rfl, HB3.out⟩
      · have HT' : Hid ((ks.take (i + 1)).all p = true) := by show _ = _; rw [HT.out, hp, ht.out]; rfl
        clear hp
        go_wp2_with fail
        exact ⟨⟨i + 1, by simp, hlt, HT', HB3, HB4⟩, by show ks.length - ((i : Int) + 1).toNat < ks.length - ((i : Int)).toNat; omega⟩
    · obtain rfl : i = ks.length := by omega
      have HE : Hid (ks.all p = true) := by have h := ht.out; rw [List.take_length] at h; exact h
      go_wp2_with fail
      go_ret
      rw [HE.out]
      exact ⟨rfl, hb.out⟩

set_option maxRecDepth 100000 in
set_option maxHeartbeats 3200000 in
theorem asks_some (a : Option Addr) (c : Nat) (ks : List Fl) (qs : Nat → Value) (p : Fl → Bool) (ev : Kev) (w : World) (hc : ks.length ≤ c ∧ c ≤ 9223372036854775807) (hl : ks.length ≤ 1000) (hr : Row w a ks qs)
    (IH : ∀ i k, ks[i]? = some k → ∀ W, Below w.heap.size w W → Asks (qs i) (p k) ev W) : Asks (.iface 111 (.slice a ks.length c)) (ks.any p) ev w := by
  refine ⟨_, _, 127, .slice a ks.length c, rfl, fun W => by kernel_rfl, fun vs W => by kernel_rfl, ?_⟩
  have hb := lay_alloc w (.cells #[.int .i64 ev.pos, .string ev.key, .bool ev.had, .string ev.old, .bool ev.has, .string ev.now] 32)
  have HB := Lib.hid hb
  have HR := Lib.hid hr
  have HI := Lib.hid IH
  obtain ⟨hc1, hc2⟩ := hc
  clear hb hr IH
  unfold evV at HI ⊢
  have HY := Lib.hid (DC.alloc w [.int .i64 ev.pos, .string ev.key, .bool ev.had, .string ev.old, .bool ev.has, .string ev.now] 32)
  go_enter Try.func127, Try.ntmps127
  go_wp2_with fail
  go_loopw [9] (fun v wr => ∃ i : Nat, v = .int .i64 i ∧ i ≤ ks.length ∧ Hid ((ks.take i).any p = false) ∧ Hid (Below w.heap.size w wr) ∧ Hid (Below (w.alloc (.cells #[.int .i64 ev.pos, .string ev.key, .bool ev.had, .string ev.old, .bool ev.has, .string ev.now] 32)).heap.size (w.alloc (.cells #[.int .i64 ev.pos, .string ev.key, .bool ev.had, .string ev.old, .bool ev.has, .string ev.now] 32)) wr))
    (fun v _ => ks.length - (intOf v).toNat)
  case atStart => exact ⟨0, rfl, Nat.zero_le _, rfl, HB.out, Below.refl _ _⟩
  case round =>
    obtain ⟨i, rfl, hin, ht, hb, hbe⟩ := hrel
    have ei : IntKind.i64.wrap ((i : Int) + 1) = (i : Int) + 1 := IntWalk.i64_in _ (by omega)
    by_cases hlt : i < ks.length
    · obtain ⟨k, hk⟩ : ∃ k, ks[i]? = some k := ⟨ks[i], List.getElem?_eq_getElem hlt⟩
      obtain ⟨g, rfl, hg, hcell⟩ := HR.out.resolve_left (fun e => by rw [e] at hlt; simp at hlt)
      obtain ⟨t, x, K, r, hqv, hm, hcf, hC⟩ := HI.out i k hk wr hb.out
      have k0 := lay_later hb.out (hcell i hlt)
      rw [hqv] at k0
      have hI1 : (i : Int) < ((ks.length : Nat) : Int) := by omega
      have hI2 : (0 : Int) ≤ (i : Int) := by omega
      have HC := Lib.hid hC
      have HT : Hid ((ks.take (i + 1)).any p = ((ks.take i).any p || p k)) := by show _ = _; rw [ones_take hk]; simp
      have HH : Hid (p k = true → ks.any p = true) := fun h => by
        rw [List.any_eq_true]
        exact ⟨k, List.mem_of_getElem? hk, by rw [h]⟩
      have hY := HY.out.below hbe.out
      have y0 := hY.cells 0 _ rfl
      have y1 := hY.cells 1 _ rfl
      have y2 := hY.cells 2 _ rfl
      have y3 := hY.cells 3 _ rfl
      have y4 := hY.cells 4 _ rfl
      have y5 := hY.cells 5 _ rfl
      clear hk hg hcell hC hqv hY
      go_wp2_with fail
      go_fit HC.out
      rintro e w3 ⟨rfl, hb3⟩
      have HB3 := Lib.hid (hb.out.trans (hb3.mono hb.out.size))
      have HB4 := Lib.hid (hbe.out.trans (hb3.mono hbe.out.size))
      clear hb3 y0 y1 y2 y3 y4 y5 k0 HC
      cases hp : p k
      · have HT' : Hid ((ks.take (i + 1)).any p = false) := by show _ = _; rw [HT.out, hp, ht.out]; rfl
        clear hp
        go_wp2_with fail
        exact ⟨⟨i + 1, by simp, hlt, HT', HB3, HB4⟩, by show ks.length - ((i : Int) + 1).toNat < ks.length - ((i : Int)).toNat; omega⟩
      · have HS := Lib.hid (HH.out hp)
        clear hp
        go_wp2_with fail
        go_ret
        rw [HS.out]
        exact ⟨rfl, HB3.out⟩
    · obtain rfl : i = ks.length := by omega
      have HE : Hid (ks.any p = false) := by have h := ht.out; rw [List.take_length] at h; exact h
      go_wp2_with fail
      go_ret
      rw [HE.out]
      exact ⟨rfl, hb.out⟩
end Go.Proofs.Ytdeknkfhlmkabaa
