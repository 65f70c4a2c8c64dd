/-
  The walk of TreePlaces. (Written by genl.py.)
-/
import Derived.Test.YthbjociddcddiaaW1
namespace Go.Proofs.Ythbjociddcddiaa
set_option linter.unusedVariables false
set_option linter.unusedSimpArgs false
open Go.RowKit

set_option maxRecDepth 100000 in
set_option maxHeartbeats 3200000 in
theorem Places_any (vks : Value) (ks : List Dk) (w : World) (hks : DosIn w vks ks) (key : ByteArray) (n : Int) (hn : -9223372036854775808 ≤ n ∧ n ≤ 9223372036854775807) : Calls Try.prog 5 #[vks, .string key, .int .i64 n] w (Yes w) := by
  obtain ⟨aks, cks, rfl, haks⟩ := hks
  have hDks : DosIn w (.slice aks ks.length cks) ks := ⟨aks, cks, rfl, haks⟩
  have hA := below_alloc w (Obj.cells #[.slice aks ks.length cks] 22)
  have hL : ListsIn (w.alloc (Obj.cells #[.slice aks ks.length cks] 22)) (.slice (some ⟨w.heap.size, 0, none⟩) 1 1) [ks] := by
    refine ⟨_, 0, 1, rfl, fun i l hl => ?_⟩
    match i, hl with
    | 0, hl =>
      obtain rfl : ks = l := by simpa using hl
      exact ⟨_, by rw [World.cell?_alloc_at _ _ _ _ rfl]; rfl, hDks.later hA⟩
  have HN := Lib.hid hn
  have HDks := Lib.hid hDks
  clear hn
  clear haks hDks
  have hkkey : (0 : Int) ≤ ((key.size : Nat) : Int) := by omega
  go_enter Try.func5, Try.ntmps5
  go_wp2_with fail
  go_fit (short_any hL (by simp))
  rintro e w1 ⟨sb, rfl, hs, hb1⟩
  have HB1 := Lib.hid (hA.trans (hb1.mono hA.size))
  have Hs := Lib.hid hs
  clear hA hL hb1 hs
  cases sb with
  | false =>
    go_wp2_with fail
    go_fit (awake_any w1)
    rintro e w2 ⟨rfl, hb2⟩
    have HB2 := Lib.hid (HB1.out.trans (hb2.mono HB1.out.size))
    clear hb2
    go_wp2_with fail
    go_ret
    exact ⟨rfl, HB2.out⟩
  | true =>
    have hlenks : ks.length ≤ 300 := (Hs.out rfl).1 ks (by simp)
    by_cases hbig : (16384 : Int) < ((key.size : Nat) : Int)
    · go_wp2_with fail
      go_fit (awake_any w1)
      rintro e w2 ⟨rfl, hb2⟩
      have HB2 := Lib.hid (HB1.out.trans (hb2.mono HB1.out.size))
      clear hb2
      go_wp2_with fail
      go_ret
      exact ⟨rfl, HB2.out⟩
    have hsm : ((key.size : Nat) : Int) ≤ 16384 := by omega
    clear hbig
    have HEks := Lib.hid (HDks.out.later HB1.out)
    have HBB := HB1
    clear Hs HDks
    go_wp2_with fail
    go_fit (made_any HEks.out hlenks)
    rintro e w2 ⟨y, u, s, rfl, hst⟩
    have HST := Lib.hid (hst.more hlenks)
    clear hst HEks
    obtain ⟨a0, a1, a2, hav⟩ : ∃ a0 a1 a2, toldV (atI s n) = .tuple #[.agg #[.string a0, .string a1], .bool a2] := ⟨_, _, _, rfl⟩
    have Hav := Lib.hid hav
    clear hav
    have HC := Lib.hid (At_any n HST.out.tree (HST.out.good.more' (by omega)) HN.out)
    rw [Hav.out] at HC
    go_wp2_with fail
    go_fit HC.out
    rintro e w3 ⟨rfl, hb⟩
    have hA := below_alloc w3 (Obj.cells #[Value.string a0, .string a1] 34)
    have HX3 := Lib.hid (box_alloc w3 a0 a1 34)
    have hbA := hb.trans (hA.mono hb.size)
    have HST := Lib.hid (HST.out.later hbA)
    clear hb hA hbA HC
    go_wp2_with fail
    generalize w3.alloc (Obj.cells #[Value.string a0, Value.string a1] 34) = W3 at *
    have HC := Lib.hid (RAt_any n HST.out.list (by have := HST.out.length; omega))
    rw [show atL s.list n = atI s n from rfl, Hav.out] at HC
    go_wp2_with fail
    go_fit HC.out
    rintro e w4 ⟨rfl, hb⟩
    have hA := below_alloc w4 (Obj.cells #[Value.string a0, .string a1] 34)
    have HX4 := Lib.hid (box_alloc w4 a0 a1 34)
    have hbA := hb.trans (hA.mono hb.size)
    have HST := Lib.hid (HST.out.later hbA)
    have HX3 := Lib.hid (HX3.out.later hbA)
    clear hb hA hbA HC
    go_wp2_with fail
    generalize w4.alloc (Obj.cells #[Value.string a0, Value.string a1] 34) = W4 at *
    obtain ⟨f0, f1, f2, hfv⟩ : ∃ a0 a1 a2, toldV (flo s.list key) = .tuple #[.agg #[.string a0, .string a1], .bool a2] := ⟨_, _, _, rfl⟩
    have Hfv := Lib.hid hfv
    clear hfv
    have HC := Lib.hid (Floor_any key HST.out.tree (HST.out.good.more' (by omega)))
    rw [Hfv.out] at HC
    go_wp2_with fail
    go_fit HC.out
    rintro e w5 ⟨rfl, hb⟩
    have hA := below_alloc w5 (Obj.cells #[Value.string f0, .string f1] 34)
    have HX5 := Lib.hid (box_alloc w5 f0 f1 34)
    have hbA := hb.trans (hA.mono hb.size)
    have HST := Lib.hid (HST.out.later hbA)
    have HX3 := Lib.hid (HX3.out.later hbA)
    have HX4 := Lib.hid (HX4.out.later hbA)
    clear hb hA hbA HC
    go_wp2_with fail
    generalize w5.alloc (Obj.cells #[Value.string f0, Value.string f1] 34) = W5 at *
    have HC := Lib.hid (RFloor_any key HST.out.list (by have := HST.out.length; omega))
    rw [Hfv.out] at HC
    go_wp2_with fail
    go_fit HC.out
    rintro e w6 ⟨rfl, hb⟩
    have hA := below_alloc w6 (Obj.cells #[Value.string f0, .string f1] 34)
    have HX6 := Lib.hid (box_alloc w6 f0 f1 34)
    have hbA := hb.trans (hA.mono hb.size)
    have HST := Lib.hid (HST.out.later hbA)
    have HX3 := Lib.hid (HX3.out.later hbA)
    have HX4 := Lib.hid (HX4.out.later hbA)
    have HX5 := Lib.hid (HX5.out.later hbA)
    clear hb hA hbA HC
    go_wp2_with fail
    generalize w6.alloc (Obj.cells #[Value.string f0, Value.string f1] 34) = W6 at *
    obtain ⟨c0, c1, c2, hcv⟩ : ∃ a0 a1 a2, toldV (cei s.list key) = .tuple #[.agg #[.string a0, .string a1], .bool a2] := ⟨_, _, _, rfl⟩
    have Hcv := Lib.hid hcv
    clear hcv
    have HC := Lib.hid (Ceil_any key HST.out.tree (HST.out.good.more' (by omega)))
    rw [Hcv.out] at HC
    go_wp2_with fail
    go_fit HC.out
    rintro e w7 ⟨rfl, hb⟩
    have hA := below_alloc w7 (Obj.cells #[Value.string c0, .string c1] 34)
    have HX7 := Lib.hid (box_alloc w7 c0 c1 34)
    have hbA := hb.trans (hA.mono hb.size)
    have HST := Lib.hid (HST.out.later hbA)
    have HX3 := Lib.hid (HX3.out.later hbA)
    have HX4 := Lib.hid (HX4.out.later hbA)
    have HX5 := Lib.hid (HX5.out.later hbA)
    have HX6 := Lib.hid (HX6.out.later hbA)
    clear hb hA hbA HC
    go_wp2_with fail
    generalize w7.alloc (Obj.cells #[Value.string c0, Value.string c1] 34) = W7 at *
    have HC := Lib.hid (RCeil_any key HST.out.list (by have := HST.out.length; omega))
    rw [Hcv.out] at HC
    go_wp2_with fail
    go_fit HC.out
    rintro e w8 ⟨rfl, hb⟩
    have hA := below_alloc w8 (Obj.cells #[Value.string c0, .string c1] 34)
    have HX8 := Lib.hid (box_alloc w8 c0 c1 34)
    have hbA := hb.trans (hA.mono hb.size)
    have HST := Lib.hid (HST.out.later hbA)
    have HX3 := Lib.hid (HX3.out.later hbA)
    have HX4 := Lib.hid (HX4.out.later hbA)
    have HX5 := Lib.hid (HX5.out.later hbA)
    have HX6 := Lib.hid (HX6.out.later hbA)
    have HX7 := Lib.hid (HX7.out.later hbA)
    clear hb hA hbA HC
    go_wp2_with fail
    generalize w8.alloc (Obj.cells #[Value.string c0, Value.string c1] 34) = W8 at *
    go_fit (Rank_any key HST.out.tree (HST.out.good.more' (by omega)))
    rintro e w9 ⟨rfl, hb⟩
    have HST := Lib.hid (HST.out.later hb)
    have HX3 := Lib.hid (HX3.out.later hb)
    have HX4 := Lib.hid (HX4.out.later hb)
    have HX5 := Lib.hid (HX5.out.later hb)
    have HX6 := Lib.hid (HX6.out.later hb)
    have HX7 := Lib.hid (HX7.out.later hb)
    have HX8 := Lib.hid (HX8.out.later hb)
    clear hb
    go_wp2_with fail
    go_fit (RRank_any key HST.out.list (by have := HST.out.length; omega))
    rintro e w10 ⟨rfl, hb⟩
    have HST := Lib.hid (HST.out.later hb)
    have HX3 := Lib.hid (HX3.out.later hb)
    have HX4 := Lib.hid (HX4.out.later hb)
    have HX5 := Lib.hid (HX5.out.later hb)
    have HX6 := Lib.hid (HX6.out.later hb)
    have HX7 := Lib.hid (HX7.out.later hb)
    have HX8 := Lib.hid (HX8.out.later hb)
    clear hb
    have c0HX3 := HX3.out.c0
    have c1HX3 := HX3.out.c1
    have c0HX4 := HX4.out.c0
    have c1HX4 := HX4.out.c1
    have c0HX5 := HX5.out.c0
    have c1HX5 := HX5.out.c1
    have c0HX6 := HX6.out.c0
    have c1HX6 := HX6.out.c1
    have c0HX7 := HX7.out.c0
    have c1HX7 := HX7.out.c1
    have c0HX8 := HX8.out.c0
    have c1HX8 := HX8.out.c1
    have HEqa := fun W => pairs_eql W a0 a1 a0 a1
    have hEa : (decide (a0 = a0) && decide (a1 = a1)) = true := by simp
    simp only [hEa] at HEqa
    clear hEa
    have HEqf := fun W => pairs_eql W f0 f1 f0 f1
    have hEf : (decide (f0 = f0) && decide (f1 = f1)) = true := by simp
    simp only [hEf] at HEqf
    clear hEf
    have HEqc := fun W => pairs_eql W c0 c1 c0 c1
    have hEc : (decide (c0 = c0) && decide (c1 = c1)) = true := by simp
    simp only [hEc] at HEqc
    clear hEc
    clear HX3 HX4 HX5 HX6 HX7 HX8
    have HB5 := Lib.hid (HBB.out.trans (HST.out.below.mono HBB.out.size))
    go_wp2_with fail
    go_fit (awake_any _)
    rintro e wz ⟨rfl, hbz⟩
    have HZ := Lib.hid (HB5.out.trans (hbz.mono HB5.out.size))
    clear hbz
    go_wp2_with fail
    go_ret
    exact ⟨rfl, HZ.out⟩
end Go.Proofs.Ythbjociddcddiaa
