/-
  The document's lists, walked: whether two are the same; what a key has; how many keys are less. (Written by genl.py.)
-/
import Derived.Test.YtcncggndpnooeaaLB
namespace Go.Proofs.Ytcncggndpnooeaa
set_option linter.unusedVariables false
set_option linter.unusedSimpArgs false
open Go.RowKit

set_option maxRecDepth 100000 in
set_option maxHeartbeats 3200000 in
theorem Same_any {w : World} {u v : Value} {xs ys : List Pr} (hu : PairsIn w u xs) (hv : PairsIn w v ys) (hb : xs.length ≤ 1073741824) :
    Calls Try.prog 25 #[u, v] w fun e w' => (e = .returned (.bool true) ∧ xs = ys ∨ e = .returned (.bool false) ∧ xs ≠ ys) ∧ Below w.heap.size w w' := by
  obtain ⟨a, c, rfl, ha⟩ := hu
  obtain ⟨b, d, rfl, hb'⟩ := hv
  by_cases hl : xs.length = ys.length
  · obtain ⟨n, hn⟩ : ∃ n, n = ys.length := ⟨_, rfl⟩
    have HA := Lib.hid ha
    have HB := Lib.hid hb'
    have Hx : Hid (xs.length = n) := by show _ = _; omega
    have Hy : Hid (ys.length = n) := hn.symm
    rw [hl] at hb ⊢
    rw [← hn] at hb ⊢
    clear hl hn ha hb'
    go_enter Try.func25, Try.ntmps25
    go_wp2_with fail
    go_loopw [13] (fun v wr => ∃ i : Nat, v = .int .i64 i ∧ i ≤ n ∧ Hid (xs.take i = ys.take i) ∧ Hid (Below w.heap.size w wr))
      (fun v _ => n - (intOf v).toNat)
    case atStart => exact ⟨0, rfl, Nat.zero_le _, rfl, Below.refl _ _⟩
    case round =>
      obtain ⟨i, rfl, hin, hT, hbw⟩ := hrel
      have ei : IntKind.i64.wrap ((i : Int) + 1) = (i : Int) + 1 := IntWalk.i64_in _ (by omega)
      by_cases hlt : i < n
      · obtain ⟨p, hp⟩ : ∃ p, xs[i]? = some p := ⟨xs[i]'(by rw [Hx.out]; exact hlt), List.getElem?_eq_getElem _⟩
        obtain ⟨q, hq⟩ : ∃ q, ys[i]? = some q := ⟨ys[i]'(by rw [Hy.out]; exact hlt), List.getElem?_eq_getElem _⟩
        obtain ⟨g, off, rfl, hx⟩ := HA.out.resolve_left (fun e => by rw [e] at hp; simp at hp)
        obtain ⟨g2, off2, rfl, hy⟩ := HB.out.resolve_left (fun e => by rw [e] at hq; simp at hq)
        obtain ⟨p0, p1⟩ := hx i p hp
        obtain ⟨q0, q1⟩ := hy i q hq
        have hlw : ∀ (P : Addr) (x : Value), w.cell? P = some x → wr.cell? P = some x := fun P x h => cell_later hbw.out h
        have p0 := hlw _ _ p0
        have q0 := hlw _ _ q0
        have p1 := hlw _ _ p1
        have q1 := hlw _ _ q1
        have hI1 : (i : Int) < (n : Int) := by omega
        have hI0 : (0 : Int) ≤ (i : Int) := by omega
        have hN := fun W => pairs_neq W p.1 p.2 q.1 q.2
        have Hp := Lib.hid hp
        have Hq := Lib.hid hq
        clear hx hy hlw hp hq HA HB
        by_cases hpq : p = q
        · have hd : decide (p = q) = true := by simp [hpq]
          have hd2 : (decide (p.1 = q.1) && decide (p.2 = q.2)) = true := by simp [hpq]
          simp only [hd2] at hN
          go_wp2_with fail
          go_quiet (fail)
          go_wp2_with fail
          exact ⟨⟨i + 1, by simp, hlt, take_step Hp.out Hq.out hT.out hpq, hbw.out.trans (below_drewN (Below.refl _ _) _)⟩, by show n - ((i : Int) + 1).toNat < n - ((i : Int)).toNat; omega⟩
        · have hd : decide (p = q) = false := by simp [hpq]
          have hd2 : (decide (p.1 = q.1) && decide (p.2 = q.2)) = false := by
            have : ¬ (p.1 = q.1 ∧ p.2 = q.2) := fun e => hpq (Prod.ext e.1 e.2)
            simpa using this
          simp only [hd2] at hN
          go_wp2_with fail
          go_quiet (fail)
          go_wp2_with fail
          go_ret
          refine ⟨.inr ⟨rfl, fun e => hpq ?_⟩, hbw.out.trans (below_drewN (Below.refl _ _) _)⟩
          have h1 := Hp.out
          rw [e, Hq.out] at h1
          exact (Option.some.inj h1).symm
      · obtain rfl : i = n := by omega
        go_wp2_with fail
        go_ret
        refine ⟨.inl ⟨rfl, ?_⟩, hbw.out⟩
        have h1 := hT.out
        rw [List.take_of_length_le (by rw [Hx.out]; exact Nat.le_refl _), List.take_of_length_le (by rw [Hy.out]; exact Nat.le_refl _)] at h1
        exact h1
  · have hne : ¬ xs = ys := fun e => hl (by rw [e])
    have hlI : ¬ ((xs.length : Nat) : Int) = ((ys.length : Nat) : Int) := by omega
    go_enter Try.func25, Try.ntmps25
    go_wp2_with fail
    go_ret
    exact ⟨.inr ⟨rfl, hne⟩, Below.refl _ _⟩


set_option maxRecDepth 100000 in
set_option maxHeartbeats 3200000 in
theorem RGet_any {w : World} {v : Value} {xs : List Pr} (k : ByteArray) (h : PairsIn w v xs) (hl : xs.length ≤ 1073741824) :
    Calls Try.prog 23 #[v, .string k] w (fun e w' => e = .returned (gotV (look xs k)) ∧ Below w.heap.size w w') := by
  obtain ⟨a, c, rfl, hx⟩ := h
  have HX := Lib.hid hx
  clear hx
  go_enter Try.func23, Try.ntmps23
  go_wp2_with fail
  go_loopw [10] (fun v wr => ∃ i : Nat, v = .int .i64 i ∧ i ≤ xs.length ∧ Hid (look (xs.take i) k = none) ∧ Hid (Below w.heap.size w wr))
    (fun v _ => xs.length - (intOf v).toNat)
  case atStart => exact ⟨0, rfl, Nat.zero_le _, rfl, Below.refl _ _⟩
  case round =>
    obtain ⟨i, rfl, hin, hn, hb⟩ := hrel
    have ei : IntKind.i64.wrap ((i : Int) + 1) = (i : Int) + 1 := IntWalk.i64_in _ (by omega)
    by_cases hlt : i < xs.length
    · obtain ⟨p, hp1⟩ : ∃ p, xs[i]? = some p := ⟨xs[i], List.getElem?_eq_getElem hlt⟩
      obtain ⟨g2, off2, rfl, hpa⟩ := HX.out.resolve_left (fun e => by rw [e] at hp1; simp at hp1)
      obtain ⟨k0, k1⟩ := hpa i p hp1
      have k0 := cell_later hb.out k0
      have k1 := cell_later hb.out k1
      have hI1p : (i : Int) < ((xs.length : Nat) : Int) := by omega
      have hI2p : (0 : Int) ≤ (i : Int) := by omega
      have HBp := Lib.hid (hb.out.trans ((below_alloc wr (Obj.cells #[Value.string p.1, .string p.2] 34)).mono hb.out.size))
      have Hp1 := Lib.hid hp1
      clear hpa hp1
      clear hb
      by_cases hk : p.1 = k
      · have he : (p.1.toList == k.toList) = true := by rw [ba_eq]; simp [hk]
        have HE : Hid (look xs k = some p.2) := look_done Hp1.out hn.out hk
        clear hk
        go_wp2_with fail
        go_ret2
        exact ⟨by rw [HE.out]; rfl, HBp.out⟩
      · have he : (p.1.toList == k.toList) = false := by rw [ba_eq]; simp [hk]
        have HE : Hid (look (xs.take (i + 1)) k = none) := look_step Hp1.out hn.out hk
        clear hk
        go_wp2_with fail
        exact ⟨⟨i + 1, by simp, hlt, HE, HBp⟩, by show xs.length - ((i : Int) + 1).toNat < xs.length - ((i : Int)).toNat; omega⟩
    · obtain rfl : i = xs.length := by omega
      have HE : Hid (look xs k = none) := by have := hn.out; rw [List.take_length] at this; exact this
      go_wp2_with fail
      go_ret2
      exact ⟨by rw [HE.out]; rfl, hb.out⟩

set_option maxRecDepth 100000 in
set_option maxHeartbeats 3200000 in
theorem RRank_any {w : World} {v : Value} {xs : List Pr} (k : ByteArray) (h : PairsIn w v xs) (hl : xs.length ≤ 1073741824) :
    Calls Try.prog 37 #[v, .string k] w (fun e w' => e = .returned (.int .i64 (cnt xs k : Nat)) ∧ Below w.heap.size w w') := by
  obtain ⟨a, c, rfl, hx⟩ := h
  have HX := Lib.hid hx
  clear hx
  go_enter Try.func37, Try.ntmps37
  go_wp2_with fail
  go_loopw [5, 10] (fun u v wr => ∃ i n : Nat, v = .int .i64 i ∧ u = .int .i64 n ∧ i ≤ xs.length ∧ n ≤ i ∧ Hid (n = cnt (xs.take i) k) ∧ Hid (Below w.heap.size w wr))
    (fun _ v _ => xs.length - (intOf v).toNat)
  case atStart => exact ⟨0, 0, rfl, rfl, Nat.zero_le _, Nat.le_refl _, rfl, Below.refl _ _⟩
  case round =>
    obtain ⟨i, n, rfl, rfl, hin, hni, hn, hb⟩ := hrel
    have ei : IntKind.i64.wrap ((i : Int) + 1) = (i : Int) + 1 := IntWalk.i64_in _ (by omega)
    have en : IntKind.i64.wrap ((n : Int) + 1) = (n : Int) + 1 := IntWalk.i64_in _ (by omega)
    by_cases hlt : i < xs.length
    · obtain ⟨p, hp1⟩ : ∃ p, xs[i]? = some p := ⟨xs[i], List.getElem?_eq_getElem hlt⟩
      obtain ⟨g2, off2, rfl, hpa⟩ := HX.out.resolve_left (fun e => by rw [e] at hp1; simp at hp1)
      obtain ⟨k0, k1⟩ := hpa i p hp1
      have k0 := cell_later hb.out k0
      have k1 := cell_later hb.out k1
      have hI1p : (i : Int) < ((xs.length : Nat) : Int) := by omega
      have hI2p : (0 : Int) ≤ (i : Int) := by omega
      have HBp := Lib.hid (hb.out.trans ((below_alloc wr (Obj.cells #[Value.string p.1, .string p.2] 34)).mono hb.out.size))
      have Hp1 := Lib.hid hp1
      clear hpa hp1
      clear hb
      by_cases hk : klt p.1 k = true
      · have he : Go.Op.bytesLess p.1.toList k.toList = true := hk
        have HE : Hid (n + 1 = cnt (xs.take (i + 1)) k) := by show _ = _; rw [cnt_step Hp1.out, if_pos hk, hn.out]
        clear hk
        go_wp2_with fail
        exact ⟨⟨i + 1, n + 1, by simp, by simp, hlt, by omega, HE, HBp⟩, by show xs.length - ((i : Int) + 1).toNat < xs.length - ((i : Int)).toNat; omega⟩
      · have he : Go.Op.bytesLess p.1.toList k.toList = false := by simpa [klt] using hk
        have HE : Hid (n = cnt (xs.take (i + 1)) k) := by show _ = _; rw [cnt_step Hp1.out, if_neg hk, hn.out]
        clear hk
        go_wp2_with fail
        exact ⟨⟨i + 1, n, by simp, rfl, hlt, by omega, HE, HBp⟩, by show xs.length - ((i : Int) + 1).toNat < xs.length - ((i : Int)).toNat; omega⟩
    · obtain rfl : i = xs.length := by omega
      have HE : Hid (n = cnt xs k) := by have := hn.out; rw [List.take_length] at this; exact this
      go_wp2_with fail
      go_ret
      exact ⟨by first | exact HE.out | (rw [← HE.out]; done) | (have := HE.out; simp [← this]), hb.out⟩

end Go.Proofs.Ytcncggndpnooeaa
