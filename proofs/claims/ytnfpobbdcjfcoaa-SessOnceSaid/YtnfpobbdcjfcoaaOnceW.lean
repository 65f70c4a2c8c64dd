/-
  SessOnce: the walk.
-/
import Derived.Test.YtnfpobbdcjfcoaaB8
import Derived.Laws.StructEq
namespace Go.Proofs.Ytnfpobbdcjfcoaa
set_option linter.unusedVariables false
set_option linter.unusedSimpArgs false
open Go.RowKit
variable {w : World} {B b : Nat} {L : List Nat} {t : Tb}

/-- A number that was kept. -/
structure Once (t : Tb) (k q err n : Int) : Prop where
  pos : 1 ≤ q
  old : k ≤ t.begun
  has : ∀ s ∈ t.seats, s.id = k → q < s.seq ∨ (s.seq = q ∧ s.err = err ∧ s.n = n)
theorem Once.ask {k q err n : Int} (h : Once t k q err n) : ask t.seats k q = ⟨0, 0, false, 90⟩ ∨ ask t.seats k q = ⟨0, 0, false, 91⟩ ∨ ask t.seats k q = ⟨err, n, false, 0⟩ := by
  cases hp : plc t.seats k with
  | none => exact .inl (ask_none q hp)
  | some i =>
    obtain ⟨s, hs, hk⟩ := plc_some hp
    rw [ask_some q hp hs]
    have hpos := h.pos
    right
    unfold Se.ask
    rcases h.has s (List.mem_of_getElem? hs) hk with h1 | ⟨h1, h2, h3⟩
    · left; rw [if_pos (.inl h1)]
    · right; rw [if_neg (by omega), if_pos h1.symm, h2, h3]
theorem Once.keep {N : Nat} {k q err n : Int} (ok : t.Ok N) (h : Once t k q err n) (k' q' e' n' : Int) : Once (t.keep k' q' e' n').2 k q err n := by
  unfold Tb.keep
  split
  · exact h
  · rename_i i hp
    split
    · exact h
    · rename_i he
      split
      · exact h
      · rename_i hf
        obtain ⟨s, hs, hk⟩ := plc_some hp
        have hm := List.mem_of_getElem? hs
        rw [ask_some q' hp hs] at he hf
        have hq := ask_fresh (Decidable.not_not.1 he) (by cases hx : (s.ask q').fresh with | true => rfl | false => exact absurd hx hf)
        refine ⟨h.pos, h.old, fun y hy hyk => ?_⟩
        rcases List.mem_or_eq_of_mem_set hy with hy | rfl
        · exact h.has y hy hyk
        · have := h.has s hm (hk.trans hyk)
          left; simp only; omega
theorem Once.does {N : Nat} {k q err n : Int} (ok : t.Ok N) (h : Once t k q err n) (c : Kd) : Once (t.does c).2 k q err n := by
  unfold Tb.does
  split
  · unfold Tb.opn
    split
    · exact h
    · split
      · exact h
      · have ho := h.old
        refine ⟨h.pos, by simp only; omega, fun s hs hk => ?_⟩
        rcases List.mem_append.1 hs with hs | hs
        · exact h.has s hs hk
        · simp at hs; subst hs; simp only at hk; omega
  · split
    · unfold Tb.close
      split
      · exact h
      · exact ⟨h.pos, h.old, fun s hs hk => h.has s ((List.eraseIdx_sublist _ _).subset hs) hk⟩
    · split
      · exact h
      · exact h.keep ok _ _ _ _
/-- What was just kept. -/
theorem kept_once {N : Nat} (ok : t.Ok N) {k q err n : Int} (h : (t.keep k q err n).1 = 0) : Once (t.keep k q err n).2 k q err n ∧ ask (t.keep k q err n).2.seats k q = ⟨err, n, false, 0⟩ := by
  unfold Tb.keep at h ⊢
  cases hp : plc t.seats k with
  | none => rw [hp] at h; simp at h
  | some i =>
    rw [hp] at h
    simp only at h ⊢
    by_cases he : (ask t.seats k q).e ≠ 0
    · rw [if_pos he] at h; exact absurd h he
    · rw [if_neg he] at h ⊢
      by_cases hf : (ask t.seats k q).fresh = false
      · rw [if_pos hf] at h; simp at h
      · rw [if_neg hf]
        obtain ⟨s, hs, hk⟩ := plc_some hp
        have hm := List.mem_of_getElem? hs
        have hid := ok.id s hm
        rw [ask_some q hp hs] at he hf
        have hq := ask_fresh (Decidable.not_not.1 he) (by cases hx : (s.ask q).fresh with | true => rfl | false => exact absurd hx hf)
        have hi := plc_lt hp
        have hup := set_up (x := ⟨k, q, err, n⟩) hs (by simp [hk]) ok.up
        have hsi : (t.seats.set i ⟨k, q, err, n⟩)[i]? = some ⟨k, q, err, n⟩ := List.getElem?_set_self hi
        refine ⟨⟨hq.2, by simp only; omega, fun y hy hyk => ?_⟩, ?_⟩
        · obtain ⟨j, hj⟩ := List.mem_iff_getElem?.1 hy
          by_cases hij : i = j
          · subst hij
            rw [hsi] at hj; cases hj
            exact .inr ⟨rfl, rfl, rfl⟩
          · exfalso
            obtain ⟨hj1, hj2⟩ := List.getElem?_eq_some_iff.1 hj
            obtain ⟨hi1, hi2⟩ := List.getElem?_eq_some_iff.1 hsi
            have hpw := List.pairwise_iff_getElem.1 hup
            rcases Nat.lt_or_gt_of_ne hij with hlt | hgt
            · have := hpw i j hi1 hj1 hlt; rw [hi2, hj2] at this; simp only at this; omega
            · have := hpw j i hj1 hi1 hgt; rw [hi2, hj2] at this; simp only at this; omega
        · have hp2 : plc (t.seats.set i ⟨k, q, err, n⟩) k = some i := by
            refine plc_hit _ _ _ _ hsi rfl fun j y hj hy => ?_
            obtain ⟨hj1, hj2⟩ := List.getElem?_eq_some_iff.1 hy
            obtain ⟨hi1, hi2⟩ := List.getElem?_eq_some_iff.1 hsi
            have := List.pairwise_iff_getElem.1 hup j i hj1 hi1 hj
            rw [hi2, hj2] at this; simp only at this; omega
          rw [ask_some q hp2 hsi]
          unfold Se.ask
          rw [if_neg (by simp only; omega), if_pos rfl]

set_option maxRecDepth 100000 in
set_option maxHeartbeats 6400000 in
theorem Once_any {v u : Value} {ks ms : List Kd} (hks : KdsIn w v ks) (hms : KdsIn w u ms) (k : Kd) :
    Calls Try.prog 4 #[v, u, .agg #[.int .i64 k.op, .int .i64 k.k, .int .i64 k.q, .int .i64 k.err, .int .i64 k.n]] w (Yes w) := by
  have HB0 := Lib.hid (below_alloc w (.cells #[.int .i64 k.op, .int .i64 k.k, .int .i64 k.q, .int .i64 k.err, .int .i64 k.n] 34))
  have HD0 := Lib.hid (DC.alloc w [.int .i64 k.op, .int .i64 k.k, .int .i64 k.q, .int .i64 k.err, .int .i64 k.n] 34)
  have HK := Lib.hid (hks.later HB0.out)
  have HMS := Lib.hid (hms.later HB0.out)
  obtain ⟨a, c, rfl, _⟩ := hks
  obtain ⟨a2, c2, rfl, _⟩ := hms
  by_cases hl : ks.length ≤ 500
  · by_cases hm : ms.length ≤ 500
    · have g1 : ((ks.length : Nat) : Int) ≤ 500 := by omega
      have g2 : ((ms.length : Nat) : Int) ≤ 500 := by omega
      have HM := Lib.hid (made_any HK.out hl)
      have HL := Lib.hid hl
      have HL2 := Lib.hid hm
      clear hl hm HK
      go_enter Try.func4, Try.ntmps4
      go_wp2_with fail
      generalize hW0 : w.alloc (.cells #[.int .i64 k.op, .int .i64 k.k, .int .i64 k.q, .int .i64 k.err, .int .i64 k.n] 34) = w0 at *
      go_fit HM.out
      rintro e w1 ⟨b, L1, rfl, hs⟩
      generalize dos T0 ks = t at hs
      have HS1 : Hid (Sk w0 w1 b L1 t 500) := hs.more HL.out
      clear hs HM
      have d1 := cell_later HS1.out.below (HD0.out.cells 1 _ rfl)
      have d2 := cell_later HS1.out.below (HD0.out.cells 2 _ rfl)
      have d3 := cell_later HS1.out.below (HD0.out.cells 3 _ rfl)
      have d4 := cell_later HS1.out.below (HD0.out.cells 4 _ rfl)
      have HC := Lib.hid (Keep_any k.k k.q k.err k.n HS1.out.tab HS1.out.ok (by omega))
      go_wp2_with fail
      go_fit HC.out
      rintro e w2 ⟨L2, rfl, hd, he⟩
      have HS2 : Hid (Sk w0 w2 b L2 (t.keep k.k k.q k.err k.n).2 501) := HS1.out.ext hd he (keep_ok HS1.out.ok _ _ _ _)
      clear hd he HC d1 d2 d3 d4
      by_cases hk0 : (t.keep k.k k.q k.err k.n).1 = 0
      · have HO := Lib.hid (kept_once HS1.out.ok hk0)
        rw [hk0]
        generalize (t.keep k.k k.q k.err k.n).2 = t2 at *
        clear HS1 hk0
        have d1 := cell_later HS2.out.below (HD0.out.cells 1 _ rfl)
        have d2 := cell_later HS2.out.below (HD0.out.cells 2 _ rfl)
        have d3 := cell_later HS2.out.below (HD0.out.cells 3 _ rfl)
        have d4 := cell_later HS2.out.below (HD0.out.cells 4 _ rfl)
        have hc := Ask_any k.k k.q HS2.out.tab (fun s hs => by have := HS2.out.ok.seq s hs; omega)
        rw [HO.out.2] at hc
        have HC := Lib.hid hc
        clear hc
        go_wp2_with fail
        go_fit HC.out
        rintro e w3 ⟨rfl, hb⟩
        have HS3 := Lib.hid ((HS2.out.later hb).later (below_alloc w3 (.cells #[.int .i64 k.err, .int .i64 k.n] 32)))
        have HR := DC.alloc w3 [.int .i64 k.err, .int .i64 k.n] 32
        have r0 := HR.cells 0 _ rfl
        have r1 := HR.cells 1 _ rfl
        have d1 := cell_later HS3.out.below (HD0.out.cells 1 _ rfl)
        have d2 := cell_later HS3.out.below (HD0.out.cells 2 _ rfl)
        have d3 := cell_later HS3.out.below (HD0.out.cells 3 _ rfl)
        have d4 := cell_later HS3.out.below (HD0.out.cells 4 _ rfl)
        clear hb HC HR
        have HO2 := Lib.hid HO.out.1
        go_wp2_with fail
        clear d1 d2 d3 d4 r0 r1
        have HS3' : Hid (Sk w0 (w3.alloc (.cells #[.int .i64 k.err, .int .i64 k.n] 32)) b L2 (dos t2 (ms.take 0)) (501 + 0)) := HS3.out
        have HO3' : Hid (Once (dos t2 (ms.take 0)) k.k k.q k.err k.n) := HO2.out
        clear HS3 HS2 HO HO2
        generalize w3.alloc (.cells #[.int .i64 k.err, .int .i64 k.n] 32) = W3 at *
        go_loopw [60] (fun v wr => ∃ (i : Nat) (L : List Nat), v = .int .i64 i ∧ i ≤ ms.length ∧ Hid (Sk w0 wr b L (dos t2 (ms.take i)) (501 + i)) ∧ Hid (Once (dos t2 (ms.take i)) k.k k.q k.err k.n))
          (fun v _ => ms.length - (intOf v).toNat)
        case atStart => exact ⟨0, _, rfl, Nat.zero_le _, HS3', HO3'⟩
        case round =>
          obtain ⟨i, L, rfl, hin, hst, hon⟩ := hrel
          by_cases hlt : i < ms.length
          · have ei : IntKind.i64.wrap ((i : Int) + 1) = (i : Int) + 1 := IntWalk.i64_in _ (by omega)
            obtain ⟨y, hy⟩ : ∃ y, ms[i]? = some y := ⟨ms[i], List.getElem?_eq_getElem hlt⟩
            obtain ⟨_, _, hv, hx⟩ := HMS.out
            obtain ⟨g2, off2, hpa, hat⟩ := hx.resolve_left (fun e => by rw [e] at hy; simp at hy)
            simp only [Value.slice.injEq] at hv
            obtain ⟨rfl, _, rfl⟩ := hv
            subst hpa
            obtain ⟨k0, k1, k2, k3, k4⟩ := hat i y hy
            have k0 := cell_later hst.out.below k0
            have k1 := cell_later hst.out.below k1
            have k2 := cell_later hst.out.below k2
            have k3 := cell_later hst.out.below k3
            have k4 := cell_later hst.out.below k4
            have hI1 : (i : Int) < ((ms.length : Nat) : Int) := by omega
            have hI2 : (0 : Int) ≤ (i : Int) := by omega
            have HSA := Lib.hid (hst.out.later (below_alloc wr (.cells #[.int .i64 y.op, .int .i64 y.k, .int .i64 y.q, .int .i64 y.err, .int .i64 y.n] 34)))
            have HY := Lib.hid hy
            clear hat hy hx hst
            go_wp2_with fail
            have HCC := Lib.hid (does_any y HSA.out.tab HSA.out.ok (by have := HL2.out; omega))
            go_fit HCC.out
            rintro e w4 ⟨L4, rfl, hd, he⟩
            have HO4 : Hid (Once (dos t2 (ms.take (i + 1))) k.k k.q k.err k.n) := by
              show Once _ _ _ _ _
              rw [dos_step HY.out]
              exact hon.out.does HSA.out.ok y
            have HS4 : Hid (Sk w0 w4 b L4 (dos t2 (ms.take (i + 1))) (501 + (i + 1))) := by
              show Sk _ _ _ _ _ _
              rw [dos_step HY.out]
              exact HSA.out.ext hd he (does_ok HSA.out.ok _)
            clear hd he k0 k1 k2 k3 k4 HSA HCC hon
            have d1 := cell_later HS4.out.below (HD0.out.cells 1 _ rfl)
            have d2 := cell_later HS4.out.below (HD0.out.cells 2 _ rfl)
            have hc := Ask_any k.k k.q HS4.out.tab (fun s hs => by have := HS4.out.ok.seq s hs; have := HL2.out; omega)
            rcases HO4.out.ask with ha | ha | ha
            · rw [ha] at hc
              have HC := Lib.hid hc
              clear hc ha
              go_wp2_with fail
              go_fit HC.out
              rintro e w5 ⟨rfl, hb⟩
              have HS5 := Lib.hid ((HS4.out.later hb).later (below_alloc w5 (.cells #[.int .i64 0, .int .i64 0] 32)))
              have HR := DC.alloc w5 [.int .i64 0, .int .i64 0] 32
              have r0 := HR.cells 0 _ rfl
              have r1 := HR.cells 1 _ rfl
              have d3 := cell_later HS5.out.below (HD0.out.cells 3 _ rfl)
              have d4 := cell_later HS5.out.below (HD0.out.cells 4 _ rfl)
              clear hb HC HR
              go_wp2_with fail
              exact ⟨⟨i + 1, L4, by simp, hlt, HS5, HO4⟩, by show ms.length - ((i : Int) + 1).toNat < ms.length - ((i : Int)).toNat; omega⟩
            · rw [ha] at hc
              have HC := Lib.hid hc
              clear hc ha
              go_wp2_with fail
              go_fit HC.out
              rintro e w5 ⟨rfl, hb⟩
              have HS5 := Lib.hid ((HS4.out.later hb).later (below_alloc w5 (.cells #[.int .i64 0, .int .i64 0] 32)))
              have HR := DC.alloc w5 [.int .i64 0, .int .i64 0] 32
              have r0 := HR.cells 0 _ rfl
              have r1 := HR.cells 1 _ rfl
              have d3 := cell_later HS5.out.below (HD0.out.cells 3 _ rfl)
              have d4 := cell_later HS5.out.below (HD0.out.cells 4 _ rfl)
              clear hb HC HR
              go_wp2_with fail
              exact ⟨⟨i + 1, L4, by simp, hlt, HS5, HO4⟩, by show ms.length - ((i : Int) + 1).toNat < ms.length - ((i : Int)).toNat; omega⟩
            · rw [ha] at hc
              have HC := Lib.hid hc
              clear hc ha
              go_wp2_with fail
              go_fit HC.out
              rintro e w5 ⟨rfl, hb⟩
              have HS5 := Lib.hid ((HS4.out.later hb).later (below_alloc w5 (.cells #[.int .i64 k.err, .int .i64 k.n] 32)))
              have HR := DC.alloc w5 [.int .i64 k.err, .int .i64 k.n] 32
              have r0 := HR.cells 0 _ rfl
              have r1 := HR.cells 1 _ rfl
              have d3 := cell_later HS5.out.below (HD0.out.cells 3 _ rfl)
              have d4 := cell_later HS5.out.below (HD0.out.cells 4 _ rfl)
              clear hb HC HR
              go_wp2_with fail
              exact ⟨⟨i + 1, L4, by simp, hlt, HS5, HO4⟩, by show ms.length - ((i : Int) + 1).toNat < ms.length - ((i : Int)).toNat; omega⟩
          · obtain rfl : i = ms.length := by omega
            have HB3 := Lib.hid (HB0.out.trans (hst.out.below.mono HB0.out.size))
            go_wp2_with fail
            go_fit (awake_any _)
            rintro e w4 ⟨rfl, hb⟩
            have HB := Lib.hid (HB3.out.trans (hb.mono HB3.out.size))
            clear hb
            go_wp2_with fail
            go_ret
            exact ⟨rfl, HB.out⟩
      · have hk1 : ((t.keep k.k k.q k.err k.n).1 == 0) = false := by simpa using hk0
        go_wp2_with fail
        go_fit (awake_any _)
        rintro e w3 ⟨rfl, hb⟩
        have HB := Lib.hid (HB0.out.trans ((HS2.out.below.trans (hb.mono HS2.out.below.size)).mono HB0.out.size))
        clear hb
        go_wp2_with fail
        go_ret
        exact ⟨rfl, HB.out⟩
    · have g1 : ((ks.length : Nat) : Int) ≤ 500 := by omega
      have g2 : ¬ ((ms.length : Nat) : Int) ≤ 500 := by omega
      clear HK HMS
      go_enter Try.func4, Try.ntmps4
      go_wp2_with fail
      go_fit (awake_any _)
      rintro e w3 ⟨rfl, hb⟩
      have HB := Lib.hid (HB0.out.trans (hb.mono HB0.out.size))
      clear hb
      go_wp2_with fail
      go_ret
      exact ⟨rfl, HB.out⟩
  · have g1 : ¬ ((ks.length : Nat) : Int) ≤ 500 := by omega
    clear HK HMS
    go_enter Try.func4, Try.ntmps4
    go_wp2_with fail
    go_fit (awake_any _)
    rintro e w3 ⟨rfl, hb⟩
    have HB := Lib.hid (HB0.out.trans (hb.mono HB0.out.size))
    clear hb
    go_wp2_with fail
    go_ret
    exact ⟨rfl, HB.out⟩
end Go.Proofs.Ytnfpobbdcjfcoaa
