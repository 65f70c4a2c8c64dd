/-
  FilterBounds walked. (Written by genbounds.py.)
-/
import Derived.Test.YtidjcfkolehdbaaFl
import Derived.Deep.RegionLaw
import Derived.Deep.AppendLies
namespace Go.Proofs.Ytidjcfkolehdbaa
set_option linter.unusedVariables false
set_option linter.unusedSimpArgs false
open Go.RowKit

def allF : Fl := .mk 0 ByteArray.empty ByteArray.empty []
def wideF (n : Nat) : Fl := .mk 6 ByteArray.empty ByteArray.empty (List.replicate n allF)
def notN : Nat → Fl → Fl
  | 0, f => f
  | n + 1, f => notF (notN n f)
theorem row_slice {w : World} {B n sz : Nat} {t : TypeId} {v : Value} {cs : List Value} (h : w.ownsRow B t sz v n cs) : ∃ a c, v = .slice a n c ∧ n ≤ c ∧ c ≤ 9223372036854775807 := by
  rcases h.2 with ⟨h0, h1⟩ | ⟨g', cap, cur, hv, _, _, hn, hm, _⟩
  · exact ⟨none, 0, by rw [h0, h1], by omega, by decide⟩
  · exact ⟨_, cap, hv, hn, by unfold maxLen at hm; exact hm⟩
theorem KidsIn.apart {w : World} {B : Nat} {v : Value} {ks : List Fl} (h : KidsIn w B v ks) (hB : B ≤ w.heap.size) : KidsS w (fun b => b < B) v ks := by
  induction h with
  | nul a c hc => exact .nul a c hc
  | more g off c ks us hg h0 hc1 hc2 hcell hk ih => exact .more g off c ks us hg (Nat.lt_of_lt_of_le hg hB) h0 hc1 hc2 hcell ih
theorem kidsS1_in {w : World} {S : Nat → Prop} {g : Nat} {f : Fl} {u : Value} (h : DC w g [.int .i64 f.kind, .string f.name, .string f.text, u]) (hS : S g) (hk : KidsS w S u f.kids) : KidsS w S (.slice (some ⟨g, 0, none⟩) 1 1) [f] := by
  refine .more g 0 1 [f] (fun _ => u) hS h.lt (by simp) (by simp) (by decide) ?_ ?_
  · intro i k hi
    match i with
    | 0 => simp only [List.getElem?_cons_zero, Option.some.injEq] at hi; subst hi; exact ⟨h.cells 0 _ rfl, h.cells 1 _ rfl, h.cells 2 _ rfl, h.cells 3 _ rfl⟩
    | n + 1 => simp at hi
  · intro i k hi
    match i with
    | 0 => simp only [List.getElem?_cons_zero, Option.some.injEq] at hi; subst hi; exact hk
    | n + 1 => simp at hi
theorem kidsS_ne {w : World} {b : Nat} {v : Value} {ks : List Fl} (o : Nat) (x : Value) (h : KidsS w (fun k => k ≠ b) v ks) : KidsS (w.setCell ⟨b, o, none⟩ x) (fun k => k ≠ b) v ks :=
  h.keep (by simp [World.setCell]) (fun k hk _ => Below.heap_setCell _ _ _ _ hk) (fun _ h _ => h)
def allV : FV := ⟨allF, .slice none 0 0, rfl⟩
theorem not_may : mayF 4 ByteArray.empty ByteArray.empty 1 = true := by decide +kernel
theorem not_ec (m : Nat) (f : Fl) (a : Nat) (h : a < 24) : (ec (m + 1) (notF f) a).2 = (ec m f (a + 1)).2 := by
  rw [ec_up (notF f) a h not_may]
  show ((ecs m [f] (a + 1))).2 = _
  unfold ecs
  simp
theorem deep_ck (f : Fl) : ckF (notN 6 f) = 51 := by
  unfold ckF
  show (ec 6 (notF (notF (notF (notF (notF (notF f)))))) 0).2 = 51
  rw [not_ec 5 _ 0 (by omega), not_ec 4 _ 1 (by omega), not_ec 3 _ 2 (by omega), not_ec 2 _ 3 (by omega), not_ec 1 _ 4 (by omega), not_ec 0 _ 5 (by omega)]
  rfl
theorem wide_ck (n : Nat) (h : n < 30) : ckF (wideF n) = if n < 24 then 0 else 51 := by
  have : ∀ n : Fin 30, ckF (wideF n) = if n.val < 24 then 0 else 51 := by decide +kernel
  exact this ⟨n, h⟩
theorem wide_light (n : Nat) (h : n < 30) : Light (wideF n) := .mk _ (by show 0 ≤ _; omega) (by show 0 ≤ _; omega) (by show (List.replicate n allF).length ≤ 1000; rw [List.length_replicate]; omega) (fun k hk => by
  obtain rfl := List.eq_of_mem_replicate hk
  exact .leaf (by decide) (by decide))
theorem notN_light {f : Fl} (h : Light f) : ∀ n, Light (notN n f)
  | 0 => h
  | n + 1 => not_light (notN_light h n)
set_option maxRecDepth 100000 in
set_option maxHeartbeats 6400000 in
theorem Bounds_any {w : World} {u : Value} (f : Fl) (hk : KidsIn w w.heap.size u f.kids) (hfit : Fits f) (n : Int) (hn : -9223372036854775808 ≤ n ∧ n ≤ 9223372036854775807) : Calls Try.prog 12 #[flV f u, .int .i64 n] w (HoldP true w) := by
  obtain ⟨a, cap, rfl, hc1, hc2⟩ := hk.slice
  have hb0 := lay_alloc w (.cells #[.int .i64 f.kind, .string f.name, .string f.text, .slice a f.kids.length cap] 24)
  have hD := DC.alloc w [.int .i64 f.kind, .string f.name, .string f.text, .slice a f.kids.length cap] 24
  have hk0 := hk.on hb0
  have HB0 := Lib.hid hb0
  have HF0 := Lib.hid hD
  have HL := Lib.hid (lightB_any f hfit hk0)
  have HK := Lib.hid hk0
  unfold flV at HL
  clear hk hfit hb0 hD hk0
  unfold flV
  go_enter Try.func12, Try.ntmps12
  go_wp2_with fail
  go_fit HL.out
  rintro e w1 ⟨rfl, hli, hb1⟩
  have HF1 := Lib.hid (HF0.out.below hb1)
  have z0 := HF1.out.cells 0 _ rfl
  have z1 := HF1.out.cells 1 _ rfl
  have z2 := HF1.out.cells 2 _ rfl
  have z3 := HF1.out.cells 3 _ rfl
  have HB1 := Lib.hid (HB0.out.trans (hb1.mono HB0.out.size))
  have HK1 := Lib.hid (HK.out.on hb1)
  have HLi := Lib.hid hli
  clear hli hb1 HK HL
  cases hlb : lightB f
  · clear hlb
    go_wp2_with fail
    go_fit (awake_any w1)
    rintro e w2 ⟨rfl, hb2⟩
    have HB2 := Lib.hid (HB1.out.trans (hb2.mono HB1.out.size))
    clear hb2
    go_wp2_with fail
    go_ret
    exact ⟨rfl, HB2.out⟩
  have HLL := Lib.hid (HLi.out hlb)
  have HC := Lib.hid (Check_any f HLL.out HK1.out)
  unfold flV at HC
  clear hlb HLi
  go_wp2_with fail
  go_fit HC.out
  rintro e w2 ⟨rfl, hb2⟩
  have HF2 := Lib.hid (HF1.out.below hb2)
  have HB2 := Lib.hid (HB1.out.trans (hb2.mono HB1.out.size))
  have HK2 := Lib.hid (HK1.out.on hb2)
  clear z0 z1 z2 z3 hb2 HC HF1 HB1 HK1
  have z0 := HF2.out.cells 0 _ rfl
  have z1 := HF2.out.cells 1 _ rfl
  have z2 := HF2.out.cells 2 _ rfl
  have z3 := HF2.out.cells 3 _ rfl
  by_cases h0 : ckF f = 0
  rotate_left
  · have hz : (ckF f != 0) = true := by simpa using h0
    have hz2 : (ckF f == 0) = false := by simpa using h0
    clear h0
    go_wp2_with fail
    go_fit (awake_any w2)
    rintro e w3 ⟨rfl, hb3⟩
    have HB3 := Lib.hid (HB2.out.trans (hb3.mono HB2.out.size))
    clear hb3
    go_wp2_with fail
    go_ret
    exact ⟨rfl, HB3.out⟩
  have hz : (ckF f != 0) = false := by simpa using h0
  have hz2 : (ckF f == 0) = true := by simpa using h0
  clear h0
  obtain ⟨N, hN, hN30⟩ : ∃ N : Nat, wrap64 ((IntKind.u64.wrap n).tmod 30) = (N : Int) ∧ N < 30 := by
    have h := wrap_u64_nonneg n
    generalize IntKind.u64.wrap n = x at *
    rw [Int.tmod_eq_emod_of_nonneg h]
    have h1 : 0 ≤ x % 30 := Int.emod_nonneg _ (by decide)
    have h2 : x % 30 < 30 := Int.emod_lt_of_pos _ (by decide)
    rw [IntWalk.wrap64_in _ (by omega)]
    exact ⟨(x % 30).toNat, by omega, by omega⟩
  go_wp2_with fail
  go_fit (kind_any 6 none 0 0 w2)
  rintro e w3 ⟨rfl, hb3⟩
  have HF3 := Lib.hid (HF2.out.below hb3)
  have HB3 := Lib.hid (HB2.out.trans (hb3.mono HB2.out.size))
  have HK3 := Lib.hid (HK2.out.on hb3)
  clear z0 z1 z2 z3 hb3 HF2 HB2 HK2
  have hal3 := lay_alloc w3 (.cells #[.int .i64 6, .string ByteArray.empty, .string ByteArray.empty, .slice none 0 0] 24)
  have HF4 := Lib.hid (HF3.out.below hal3)
  have HB4 := Lib.hid (HB3.out.trans (hal3.mono HB3.out.size))
  have HK4 := Lib.hid (HK3.out.later hal3)
  have hW4 := DC.alloc w3 [.int .i64 6, .string ByteArray.empty, .string ByteArray.empty, .slice none 0 0] 24
  have hwlt := hW4.lt
  have HW4 := Lib.hid hW4
  have HWB : Hid (w.heap.size < w3.heap.size) := HF3.out.lt
  obtain ⟨i0, hi, hz0, hz1, hz2⟩ := info_parts Try.infoF
  clear hal3 HF3 HB3 HK3 hW4
  go_wp2_with fail
  clear hN hn
  generalize w3.alloc (.cells #[.int .i64 6, .string ByteArray.empty, .string ByteArray.empty, .slice none 0 0] 24) = W4 at *
  generalize hwb : w3.heap.size = wb at *
  go_loopw [22] (fun iv wr => ∃ (i : Nat) (v : Value), iv = .int .i64 i ∧ i ≤ N ∧ Hid (wr.ownsRow W4.heap.size 24 4 v i (fvL.all (List.replicate i allV))) ∧ Hid (DC wr wb [.int .i64 6, .string ByteArray.empty, .string ByteArray.empty, v]) ∧ Hid (W4.grownBy wr (some wb)))
    (fun v _ => N - (intOf v).toNat)
  case atStart => exact ⟨0, .slice none 0 0, rfl, Nat.zero_le _, World.ownsRow_nil _ _ _ _, HW4.out, World.grownBy.refl _ _⟩
  case round =>
    obtain ⟨i, v, rfl, hin, hown, hdc, hgr⟩ := hrel
    by_cases hlt : i < N
    · have hI1 : (i : Int) < ((N : Nat) : Int) := by omega
      have ei : IntKind.i64.wrap ((i : Int) + 1) = (i : Int) + 1 := IntWalk.i64_in _ (by omega)
      obtain ⟨la, lc, rfl, _, _⟩ := row_slice hown.out
      have y3 := hdc.out.cells 3 _ rfl
      have z3 := hdc.out.fz 3
      have hsz : W4.heap.size ≤ wr.heap.size := hgr.out.size
      have HDr : Hid (DC wr.drew wb [.int .i64 6, .string ByteArray.empty, .string ByteArray.empty, .slice la i lc]) := hdc.out.below (lay_drew (Below.refl _ _))
      have HOr : Hid (wr.drew.ownsRow W4.heap.size 24 4 (.slice la i lc) i (fvL.all (List.replicate i allV))) := hown.out
      have HL1 : Hid (i + 1 ≤ maxLen) := by show _ ≤ _; unfold maxLen; omega
      have HL2 : Hid ((i + 1) * 64 ≤ 140737488355328) := by show _ ≤ _; omega
      have HGR := Lib.hid hgr.out
      clear hown hdc hgr
      go_wp2_with fail
      go_region_law (first
        | (go_simp; (with_reducible refine (kind_any 0 none 0 0 _).mono ?_); rintro e w5 ⟨rfl, hb5⟩; have HD5 := Lib.hid (HDr.out.below (hb5.trans ((lay_alloc w5 (.cells #[.int .i64 0, .string ByteArray.empty, .string ByteArray.empty, .slice none 0 0] 24)).mono hb5.size))); have y5 := (HDr.out.below hb5).cells 3 _ rfl; have y5a := HD5.out.cells 3 _ rfl; have y5n : wb ≠ w5.heap.size := Nat.ne_of_lt (HDr.out.below hb5).lt; have HO5 := Lib.hid (HOr.out.kept (row := none) (show wr.drew.grownBy (w5.alloc (.cells #[.int .i64 0, .string ByteArray.empty, .string ByteArray.empty, .slice none 0 0] 24)) none from grown_below (hb5.trans ((lay_alloc w5 (.cells #[.int .i64 0, .string ByteArray.empty, .string ByteArray.empty, .slice none 0 0] 24)).mono hb5.size)) none) (by cases (Value.slice la i lc).ownBlock <;> simp)); have HG5 : Hid (wr.heap.size ≤ (w5.alloc (.cells #[.int .i64 0, .string ByteArray.empty, .string ByteArray.empty, .slice none 0 0] 24)).heap.size ∧ ∀ k, k < wr.heap.size → (w5.alloc (.cells #[.int .i64 0, .string ByteArray.empty, .string ByteArray.empty, .slice none 0 0] 24)).heap[k]? = wr.heap[k]?) := ⟨(hb5.trans ((lay_alloc w5 (.cells #[.int .i64 0, .string ByteArray.empty, .string ByteArray.empty, .slice none 0 0] 24)).mono hb5.size)).size, fun k hk => (hb5.trans ((lay_alloc w5 (.cells #[.int .i64 0, .string ByteArray.empty, .string ByteArray.empty, .slice none 0 0] 24)).mono hb5.size)).block k hk⟩; have HS5 : Hid (w5.os = wr.os ∧ w5.tape = wr.tape ∧ w5.output = wr.output) := ⟨hb5.os, hb5.tape, hb5.output⟩; clear hb5)
        | (refine step_append_lies _ (by rfl) _ _ _ (by rfl) W4.heap.size 24 i0 _ 4 64 Try.underlying22 hi hz0 hz1 hz2 rfl (by omega) (.slice la i lc) i (fvL.all (List.replicate i allV)) (by rfl) HO5.out ⟨w5.heap.size, 0, none⟩ 1 1 [.int .i64 0, .string ByteArray.empty, .string ByteArray.empty, .slice none 0 0] (by rfl) (by rfl) (World.news_of_block (cs := #[.int .i64 0, .string ByteArray.empty, .string ByteArray.empty, .slice none 0 0]) (t := 24) (fr := (0, 0)) (heap_alloc_new w5 _)) (by simp [Value.oneCell']) (by omega) HL1.out HL2.out (by have := HG5.out.1; omega) (w5.heap.size + 1) (by simp) ?_; intro gg cap6 w6 hown6 hgrow6 hat6 hlt6; have HO6 := Lib.hid hown6; have hd6 := HD5.out.keep hgrow6.size (hgrow6.block wb HD5.out.lt (fun e => by have := (HO5.out.lt wb e.symm).1; omega)); have HD6 := Lib.hid hd6; have y6 := hd6.cells 3 _ rfl; have z6 := hd6.fz 3; have HG6 := Lib.hid hgrow6; clear hown6 hgrow6 hat6 hd6))
      all_goals
        have hgw : gg ≠ wb := fun e => by have := (HO6.out.lt gg rfl).1; omega
        have HRow : Hid ((w6.setCell ⟨wb, 3, none⟩ (.slice (some ⟨gg, 0, none⟩) (i + 1) cap6)).ownsRow W4.heap.size 24 4 (.slice (some ⟨gg, 0, none⟩) (i + 1) cap6) (i + 1) (fvL.all (List.replicate (i + 1) allV))) := by
          have h := HO6.out.kept (row := some wb) (grown_put w6 wb 3 (.slice (some ⟨gg, 0, none⟩) (i + 1) cap6)) (by simp [Value.ownBlock]; exact fun e => hgw e)
          show World.ownsRow _ _ _ _ _ _ _
          rw [List.replicate_succ', Lay.all_app, Lay.all_one]
          exact h
        have HDC := Lib.hid (HD6.out.set 3 (.slice (some ⟨gg, 0, none⟩) (i + 1) cap6) (by simp))
        have HGN : Hid (W4.grownBy (w6.setCell ⟨wb, 3, none⟩ (.slice (some ⟨gg, 0, none⟩) (i + 1) cap6)) (some wb)) := by
          have g1 := HGR.out
          have g6 := HG6.out
          obtain ⟨s1, s2, s3⟩ := HS5.out
          obtain ⟨z1, z2⟩ := HG5.out
          have g7 := grown_put w6 wb 3 (.slice (some ⟨gg, 0, none⟩) (i + 1) cap6)
          refine ⟨g7.os.trans (g6.os.trans (Eq.trans s1 g1.os)), g7.tape.trans (g6.tape.trans (Eq.trans s2 g1.tape)), g7.output.trans (g6.output.trans (Eq.trans s3 g1.output)), Nat.le_trans g1.size (Nat.le_trans z1 (Nat.le_trans g6.size g7.size)), fun k hk hn => ?_⟩
          have hk1 := Nat.lt_of_lt_of_le hk g1.size
          exact (g7.block k (Nat.lt_of_lt_of_le hk1 (Nat.le_trans z1 g6.size)) hn).trans ((g6.block k (Nat.lt_of_lt_of_le hk1 z1) (fun e => by have := (HO5.out.lt k e.symm).1; omega)).trans ((z2 k hk1).trans (g1.block k hk hn)))
        clear HO6 HD6 HG6 HO5 HD5 HG5 HS5 HGR HOr HDr y5 y5a y5n y6 z6
        go_wp2_with fail
        exact ⟨⟨i + 1, .slice (some ⟨gg, 0, none⟩) (i + 1) cap6, by simp, hlt, HRow, HDC, HGN⟩, by show N - ((i : Int) + 1).toNat < N - ((i : Int)).toNat; omega⟩
    · obtain rfl : i = N := by omega
      have HFv := Lib.hid (HF4.out.grown hgr.out (by have := HWB.out; omega))
      have HKv := Lib.hid (HK4.out.grown hgr.out (Nat.le_refl _) (Nat.le_of_lt HW4.out.lt))
      have HBv := Lib.hid (below_from HB4.out (Nat.le_of_lt HWB.out) hgr.out HB4.out.size)
      obtain ⟨la, lc, rfl, _, _⟩ := row_slice hown.out
      have HWv := Lib.hid hdc.out
      have HSv : Hid (wb < wr.heap.size) := hdc.out.lt
      have HKw : Hid (KidsIn wr wr.heap.size (.slice la i lc) (wideF i).kids) := by
        have hrk : Rk W4.heap.size wr (.slice la i lc) (List.replicate i allV) := by
          refine ⟨by rw [List.length_replicate]; exact hown.out, fun q hq => ?_, hgr.out.size⟩
          obtain rfl := List.eq_of_mem_replicate hq
          exact .nul none 0 (by decide)
        have h := hrk.told.told
        rw [List.map_replicate] at h
        exact h
      clear hown hdc hgr HF4 HK4 HB4 HW4 hwlt
      have f0 := HFv.out.cells 0 _ rfl
      have f1 := HFv.out.cells 1 _ rfl
      have f2 := HFv.out.cells 2 _ rfl
      have f3 := HFv.out.cells 3 _ rfl
      go_wp2_with fail
      clear f0 f1 f2 f3
      generalize wr = V0 at *
      have hal5 := lay_alloc V0 (.cells #[.int .i64 f.kind, .string f.name, .string f.text, .slice a f.kids.length cap] 24)
      have HD0 := Lib.hid (DC.alloc V0 [.int .i64 f.kind, .string f.name, .string f.text, .slice a f.kids.length cap] 24)
      have HS0 := Lib.hid (((HKv.out.apart (Nat.le_of_lt HSv.out)).later hal5).keep (w' := V0.alloc (.cells #[.int .i64 f.kind, .string f.name, .string f.text, .slice a f.kids.length cap] 24)) (S' := fun b => b ≠ V0.heap.size) (Nat.le_refl _) (fun _ _ _ => rfl) (fun b hb _ => Nat.ne_of_lt (Nat.lt_trans hb HSv.out)))
      have HW1 := Lib.hid (HWv.out.below hal5)
      have HKw1 := Lib.hid (HKw.out.later hal5)
      have HB1 := Lib.hid (HBv.out.trans (hal5.mono HBv.out.size))
      have HSd : Hid (w.heap.size ≤ V0.heap.size) := HBv.out.size
      clear hal5 HFv HKv HBv HWv HKw
      generalize V0.alloc (.cells #[.int .i64 f.kind, .string f.name, .string f.text, .slice a f.kids.length cap] 24) = V1 at *
      generalize hdb : V0.heap.size = db at *
      go_loopw [32] (fun iv wr => ∃ (j : Nat) (u : Value), iv = .int .i64 j ∧ j ≤ 6 ∧ Hid (DC wr db [.int .i64 (notN j f).kind, .string (notN j f).name, .string (notN j f).text, u]) ∧ Hid (KidsS wr (fun b => b ≠ db) u (notN j f).kids) ∧ Hid (V1.grownBy wr (some db)))
        (fun v _ => 6 - (intOf v).toNat)
      case atStart => exact ⟨0, .slice a f.kids.length cap, rfl, by omega, HD0.out, HS0.out, World.grownBy.refl _ _⟩
      case round =>
        obtain ⟨j, u, rfl, hj, hdc, hks, hgr⟩ := hrel
        by_cases hlt : j < 6
        · have ej : IntKind.i64.wrap ((j : Int) + 1) = (j : Int) + 1 := IntWalk.i64_in _ (by omega)
          have hj6 : (j : Int) < 6 := by omega
          have HNX : Hid (notN (j + 1) f = notF (notN j f)) := rfl
          generalize notN j f = q at *
          obtain ⟨ua, uc, rfl, _, _⟩ := hks.out.slice
          have x0 := hdc.out.cells 0 _ rfl
          have x1 := hdc.out.cells 1 _ rfl
          have x2 := hdc.out.cells 2 _ rfl
          have x3 := hdc.out.cells 3 _ rfl
          have hal := lay_alloc wr (.cells #[.int .i64 q.kind, .string q.name, .string q.text, .slice ua q.kids.length uc] 24)
          have hdl : db < wr.heap.size := hdc.out.lt
          have HAR := Lib.hid (DC.alloc wr [.int .i64 q.kind, .string q.name, .string q.text, .slice ua q.kids.length uc] 24)
          have HAL := Lib.hid hal
          clear hal
          go_wp2_with fail
          go_fit (kind_any 4 _ _ _ _)
          rintro e w5 ⟨rfl, hb5⟩
          have hbn := HAL.out.trans (hb5.mono HAL.out.size)
          have hd5 := hdc.out.below hbn
          have p0 := hd5.cells 0 _ rfl
          have p1 := hd5.cells 1 _ rfl
          have p2 := hd5.cells 2 _ rfl
          have p3 := hd5.cells 3 _ rfl
          have z0 := hd5.fz 0
          have z1 := hd5.fz 1
          have z2 := hd5.fz 2
          have z3 := hd5.fz 3
          have HD5 := Lib.hid hd5
          have HK5 := Lib.hid (kidsS1_in (S := fun b => b ≠ db) (f := q) (HAR.out.below hb5) (by show _ ≠ _; omega) (hks.out.later hbn))
          have HG5 := Lib.hid (grown_trans hgr.out (grown_below hbn (some db)))
          clear hbn hb5 hd5 hdc hks hgr HAR HAL x0 x1 x2 x3
          generalize wr.heap.size = ag at *
          go_wp2_with fail
          refine ⟨⟨j + 1, .slice (some ⟨ag, 0, none⟩) 1 1, by simp, hlt, ?_, ?_, ?_⟩, by show 6 - ((j : Int) + 1).toNat < 6 - ((j : Int)).toNat; omega⟩
          · show DC _ _ _
            rw [HNX.out]
            exact (((HD5.out.set 0 (.int .i64 4) (by simp)).set 1 (.string ByteArray.empty) (by simp)).set 2 (.string ByteArray.empty) (by simp)).set 3 (.slice (some ⟨ag, 0, none⟩) 1 1) (by simp)
          · show KidsS _ _ _ _
            rw [HNX.out]
            exact kidsS_ne _ _ (kidsS_ne _ _ (kidsS_ne _ _ (kidsS_ne _ _ HK5.out)))
          · exact grown_trans HG5.out (grown_trans (grown_put _ _ _ _) (grown_trans (grown_put _ _ _ _) (grown_trans (grown_put _ _ _ _) (grown_put _ _ _ _))))
        · obtain rfl : j = 6 := by omega
          have HWx := Lib.hid (HW1.out.grown hgr.out (by have := HSv.out; omega))
          have HKx := Lib.hid ((HKw1.out.grown hgr.out (Nat.le_refl _) (Nat.le_of_lt HD0.out.lt)).wider (Nat.le_trans (Nat.le_of_lt HD0.out.lt) hgr.out.size))
          have HBx := Lib.hid (below_from HB1.out HSd.out hgr.out HB1.out.size)
          obtain ⟨ua, uc, rfl, _, _⟩ := hks.out.slice
          have HKd := Lib.hid hks.out.told
          have HDx := Lib.hid hdc.out
          clear hdc hks hgr HW1 HKw1 HB1 HD0 HS0
          have HCK : Hid (ckF (notN 6 f) = 51) := deep_ck f
          have HLD := Lib.hid (notN_light HLL.out 6)
          generalize notN 6 f = d at *
          by_cases h24 : i < 24
          · have h24' : (i : Int) < 24 := by omega
            have hcw := Check_any (wideF i) (wide_light i hN30) HKx.out
            rw [wide_ck i hN30, if_pos h24] at hcw
            have e1 : flV (wideF i) (.slice la i lc) = .agg #[.int .i64 6, .string ByteArray.empty, .string ByteArray.empty, .slice la i lc] := rfl
            rw [e1] at hcw
            have HCW := Lib.hid hcw
            clear hcw e1
            have x0 := HWx.out.cells 0 _ rfl
            have x1 := HWx.out.cells 1 _ rfl
            have x2 := HWx.out.cells 2 _ rfl
            have x3 := HWx.out.cells 3 _ rfl
            go_wp2_with fail
            go_fit HCW.out
            rintro e w6 ⟨rfl, hb6⟩
            have hcd := Check_any d HLD.out (HKd.out.on hb6)
            rw [HCK.out] at hcd
            unfold flV at hcd
            have HCD := Lib.hid hcd
            have hd6 := HDx.out.below hb6
            have y0 := hd6.cells 0 _ rfl
            have y1 := hd6.cells 1 _ rfl
            have y2 := hd6.cells 2 _ rfl
            have y3 := hd6.cells 3 _ rfl
            have HB6 := Lib.hid (HBx.out.trans (hb6.mono HBx.out.size))
            clear x0 x1 x2 x3 hb6 hcd hd6 HCW
            go_wp2_with fail
            go_fit HCD.out
            rintro e w7 ⟨rfl, hb7⟩
            have HB7 := Lib.hid (HB6.out.trans (hb7.mono HB6.out.size))
            clear hb7 HCD y0 y1 y2 y3
            go_wp2_with fail
            go_fit (awake_any w7)
            rintro e w8 ⟨rfl, hb8⟩
            have HB8 := Lib.hid (HB7.out.trans (hb8.mono HB7.out.size))
            clear hb8
            go_wp2_with fail
            go_ret
            exact ⟨rfl, HB8.out⟩
          · have h24' : ¬ (i : Int) < 24 := by omega
            have h24b : decide ((i : Int) < 24) = false := decide_eq_false h24'
            have hcw := Check_any (wideF i) (wide_light i hN30) HKx.out
            rw [wide_ck i hN30, if_neg h24] at hcw
            have e1 : flV (wideF i) (.slice la i lc) = .agg #[.int .i64 6, .string ByteArray.empty, .string ByteArray.empty, .slice la i lc] := rfl
            rw [e1] at hcw
            have HCW := Lib.hid hcw
            clear hcw e1
            have x0 := HWx.out.cells 0 _ rfl
            have x1 := HWx.out.cells 1 _ rfl
            have x2 := HWx.out.cells 2 _ rfl
            have x3 := HWx.out.cells 3 _ rfl
            go_wp2_with fail
            go_fit HCW.out
            rintro e w6 ⟨rfl, hb6⟩
            have hcd := Check_any d HLD.out (HKd.out.on hb6)
            rw [HCK.out] at hcd
            unfold flV at hcd
            have HCD := Lib.hid hcd
            have hd6 := HDx.out.below hb6
            have y0 := hd6.cells 0 _ rfl
            have y1 := hd6.cells 1 _ rfl
            have y2 := hd6.cells 2 _ rfl
            have y3 := hd6.cells 3 _ rfl
            have HB6 := Lib.hid (HBx.out.trans (hb6.mono HBx.out.size))
            clear x0 x1 x2 x3 hb6 hcd hd6 HCW
            go_wp2_with fail
            go_fit HCD.out
            rintro e w7 ⟨rfl, hb7⟩
            have HB7 := Lib.hid (HB6.out.trans (hb7.mono HB6.out.size))
            clear hb7 HCD y0 y1 y2 y3
            go_wp2_with fail
            go_fit (awake_any w7)
            rintro e w8 ⟨rfl, hb8⟩
            have HB8 := Lib.hid (HB7.out.trans (hb8.mono HB7.out.size))
            clear hb8
            go_wp2_with fail
            go_ret
            (try rw [h24b])
            exact ⟨rfl, HB8.out⟩
end Go.Proofs.Ytidjcfkolehdbaa
