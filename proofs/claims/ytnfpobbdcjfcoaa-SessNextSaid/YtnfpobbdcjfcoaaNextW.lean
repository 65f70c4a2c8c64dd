/-
  SessNext: the walk.
-/
import Derived.Test.YtnfpobbdcjfcoaaB8
namespace Go.Proofs.Ytnfpobbdcjfcoaa
set_option linter.unusedVariables false
set_option linter.unusedSimpArgs false
open Go.RowKit
variable {w : World} {B b : Nat} {L : List Nat} {t : Tb}

theorem plc_first : ∀ {l : List Se} {k : Int} {i : Nat}, plc l k = some i → ∀ j y, j < i → l[j]? = some y → y.id ≠ k
  | [], k, i, h, j, y, hj, hy => by simp at hy
  | x :: l, k, i, h, j, y, hj, hy => by
    unfold plc at h
    split at h
    · cases h; omega
    · rename_i hx
      cases hp : plc l k with
      | none => rw [hp] at h; simp at h
      | some m =>
        rw [hp] at h
        simp at h
        subst h
        cases j with
        | zero => simp at hy; subst hy; exact hx
        | succ j => exact plc_first hp j y (by omega) (by simpa using hy)
theorem Se.ask_next {s : Se} {q : Int} (h0 : 0 ≤ s.seq) : ((s.ask q).fresh = true ∧ q = s.seq + 1 ∧ (s.ask q).e = 0) ∨ ((s.ask q).fresh = false ∧ q ≠ s.seq + 1) := by
  unfold Se.ask
  split
  · right; exact ⟨rfl, by omega⟩
  · split
    · right; exact ⟨rfl, by omega⟩
    · split
      · right; exact ⟨rfl, by omega⟩
      · left; exact ⟨rfl, by omega, rfl⟩

set_option maxRecDepth 100000 in
set_option maxHeartbeats 6400000 in
theorem Next_any {v : Value} {ks : List Kd} (hks : KdsIn w v ks) (q k : Int) :
    Calls Try.prog 5 #[v, .int .i64 q, .int .i64 k] w (Yes w) := by
  have HK := Lib.hid hks
  obtain ⟨a, c, rfl, _⟩ := hks
  by_cases hl : ks.length ≤ 500
  · have g1 : ((ks.length : Nat) : Int) ≤ 500 := by omega
    have HM := Lib.hid (made_any HK.out hl)
    have HL := Lib.hid hl
    clear hl HK
    go_enter Try.func5, Try.ntmps5
    go_wp2_with fail
    go_fit HM.out
    rintro e w1 ⟨b, L1, rfl, hs⟩
    generalize dos T0 ks = t at hs
    have HS1 : Hid (Sk w w1 b L1 t 500) := hs.more HL.out
    clear hs HM
    have HQ : Hid (∀ s ∈ t.seats, 0 ≤ s.seq ∧ s.seq ≤ 4611686018427387904) := fun s hs => by have := HS1.out.ok.seq s hs; omega
    have HC := Lib.hid (Ask_any k q HS1.out.tab HQ.out)
    go_wp2_with fail
    go_fit HC.out
    rintro e w2 ⟨rfl, hb⟩
    have HS2 := Lib.hid ((HS1.out.later hb).later (below_alloc w2 (.cells #[.int .i64 (ask t.seats k q).err, .int .i64 (ask t.seats k q).n] 32)))
    have HC2 := Lib.hid (List_any HS2.out.tab (by have := HS2.out.ok.len; omega))
    clear hb HC
    go_wp2_with fail
    go_fit HC2.out
    rintro e w3 ⟨u, rfl, ho, hb⟩
    have HS3 := Lib.hid (HS2.out.later hb)
    have HO := Lib.hid (ho.seb (L := []) (fun k hk => by cases hk))
    obtain ⟨pa, pc, rfl, hp⟩ := HO.out
    clear ho hb HC2
    have hlen : t.seats.length ≤ 8 := HS3.out.ok.len
    cases hp : plc t.seats k with
    | none =>
      have HN := Lib.hid (plc_none hp)
      have ha : ask t.seats k q = ⟨0, 0, false, 90⟩ := ask_none q hp
      rw [ha]
      clear ha hp
      go_wp2_with fail
      go_loopw [30] (fun v wr => ∃ i : Nat, v = .int .i64 i ∧ i ≤ t.seats.length ∧ Hid (Below w3.heap.size w3 wr))
        (fun v _ => t.seats.length - (intOf v).toNat)
      case atStart => exact ⟨0, rfl, Nat.zero_le _, Below.refl _ _⟩
      case round =>
        obtain ⟨i, rfl, hin, HB⟩ := hrel
        by_cases hlt : i < t.seats.length
        · have ei : IntKind.i64.wrap ((i : Int) + 1) = (i : Int) + 1 := IntWalk.i64_in _ (by omega)
          obtain ⟨s, hs⟩ : ∃ s, t.seats[i]? = some s := ⟨t.seats[i], List.getElem?_eq_getElem hlt⟩
          have hne := HN.out s (List.mem_of_getElem? hs)
          obtain ⟨_, _, hv, _, _, hx⟩ := HO.out
          obtain ⟨g, off, hpa, _, _, hat⟩ := hx.resolve_left (fun e => by rw [e] at hs; simp at hs)
          simp only [Value.slice.injEq] at hv
          obtain ⟨rfl, _, rfl⟩ := hv
          subst hpa
          obtain ⟨k0, k1, k2, k3⟩ := hat i s hs
          have k0 := cell_later HB.out k0
          have k1 := cell_later HB.out k1
          have k2 := cell_later HB.out k2
          have k3 := cell_later HB.out k3
          have hI1 : (i : Int) < ((t.seats.length : Nat) : Int) := by omega
          have hI2 : (0 : Int) ≤ (i : Int) := by omega
          have HB2 := Lib.hid (HB.out.trans ((below_alloc wr (.cells #[.int .i64 s.id, .int .i64 s.seq, .int .i64 s.err, .int .i64 s.n] 44)).mono HB.out.size))
          have s0 := (DC.alloc wr [.int .i64 s.id, .int .i64 s.seq, .int .i64 s.err, .int .i64 s.n] 44).cells 0 _ rfl
          clear hat hs hx
          go_wp2_with fail
          refine ⟨⟨i + 1, by simp, hlt, HB2⟩, by show t.seats.length - ((i : Int) + 1).toNat < t.seats.length - ((i : Int)).toNat; omega⟩
        · obtain rfl : i = t.seats.length := by omega
          go_wp2_with fail
          go_fit (awake_any _)
          rintro e w4 ⟨rfl, hb⟩
          have HB4 := Lib.hid (HS3.out.below.trans ((HB.out.trans (hb.mono HB.out.size)).mono HS3.out.below.size))
          clear hb
          go_wp2_with fail
          go_ret
          exact ⟨rfl, HB4.out⟩
    | some m =>
      obtain ⟨s, hs, rfl⟩ := plc_some hp
      have HN := Lib.hid (plc_first hp)
      have ha : ask t.seats s.id q = s.ask q := ask_some q hp hs
      have hml := plc_lt hp
      have hsq := HQ.out s (List.mem_of_getElem? hs)
      have hnx := Se.ask_next (q := q) hsq.1
      have HS := Lib.hid hs
      rw [ha]
      generalize s.ask q = x at hnx
      obtain ⟨xe, xn, fr, e⟩ := x
      simp only at hnx
      clear ha hp hs
      go_wp2_with fail
      go_loopw [30] (fun v wr => ∃ i : Nat, v = .int .i64 i ∧ i ≤ m ∧ Hid (Below w3.heap.size w3 wr))
        (fun v _ => t.seats.length - (intOf v).toNat)
      case atStart => exact ⟨0, rfl, Nat.zero_le _, Below.refl _ _⟩
      case round =>
        obtain ⟨i, rfl, hin, HB⟩ := hrel
        have ei : IntKind.i64.wrap ((i : Int) + 1) = (i : Int) + 1 := IntWalk.i64_in _ (by omega)
        have hlt : i < t.seats.length := by omega
        obtain ⟨y, hy⟩ : ∃ y, t.seats[i]? = some y := ⟨t.seats[i], List.getElem?_eq_getElem hlt⟩
        obtain ⟨_, _, hv, _, _, hx⟩ := HO.out
        obtain ⟨g, off, hpa, _, _, hat⟩ := hx.resolve_left (fun e => by rw [e] at hy; simp at hy)
        simp only [Value.slice.injEq] at hv
        obtain ⟨rfl, _, rfl⟩ := hv
        subst hpa
        obtain ⟨k0, k1, k2, k3⟩ := hat i y hy
        have k0 := cell_later HB.out k0
        have k1 := cell_later HB.out k1
        have k2 := cell_later HB.out k2
        have k3 := cell_later HB.out k3
        have hI1 : (i : Int) < ((t.seats.length : Nat) : Int) := by omega
        have hI2 : (0 : Int) ≤ (i : Int) := by omega
        have HB2 := Lib.hid (HB.out.trans ((below_alloc wr (.cells #[.int .i64 y.id, .int .i64 y.seq, .int .i64 y.err, .int .i64 y.n] 44)).mono HB.out.size))
        have s0 := (DC.alloc wr [.int .i64 y.id, .int .i64 y.seq, .int .i64 y.err, .int .i64 y.n] 44).cells 0 _ rfl
        have s1 := (DC.alloc wr [.int .i64 y.id, .int .i64 y.seq, .int .i64 y.err, .int .i64 y.n] 44).cells 1 _ rfl
        clear hat hx
        by_cases him : i = m
        · subst him
          rw [HS.out] at hy
          cases hy
          have ew : IntKind.i64.wrap (s.seq + 1) = s.seq + 1 := IntWalk.i64_in _ (by omega)
          rcases hnx with ⟨rfl, hq, rfl⟩ | ⟨rfl, hq⟩
          · subst hq
            have hpos : 0 < s.seq + 1 := by omega
            go_wp2_with fail
            go_fit (awake_any _)
            rintro e w4 ⟨rfl, hb⟩
            have HB4 := Lib.hid (HS3.out.below.trans ((HB2.out.trans (hb.mono HB2.out.size)).mono HS3.out.below.size))
            clear hb
            go_wp2_with fail
            go_ret
            exact ⟨rfl, HB4.out⟩
          · go_wp2_with fail
            go_fit (awake_any _)
            rintro e w4 ⟨rfl, hb⟩
            have HB4 := Lib.hid (HS3.out.below.trans ((HB2.out.trans (hb.mono HB2.out.size)).mono HS3.out.below.size))
            clear hb
            go_wp2_with fail
            go_ret
            exact ⟨rfl, HB4.out⟩
        · have hne := HN.out i y (by omega) hy
          clear hy
          go_wp2_with fail
          refine ⟨⟨i + 1, by simp, by omega, HB2⟩, by show t.seats.length - ((i : Int) + 1).toNat < t.seats.length - ((i : Int)).toNat; omega⟩
  · have g1 : ¬ ((ks.length : Nat) : Int) ≤ 500 := by omega
    clear hl HK
    go_enter Try.func5, Try.ntmps5
    go_wp2_with fail
    go_fit (awake_any _)
    rintro e w2 ⟨rfl, hb⟩
    have HB := Lib.hid hb
    clear hb
    go_wp2_with fail
    go_ret
    exact ⟨rfl, HB.out⟩
end Go.Proofs.Ytnfpobbdcjfcoaa
