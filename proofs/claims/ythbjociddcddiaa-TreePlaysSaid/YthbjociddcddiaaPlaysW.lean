/-
  The walk of TreePlays. (Written by genl.py.)
-/
import Derived.Test.YthbjociddcddiaaW1
namespace Go.Proofs.Ythbjociddcddiaa
set_option linter.unusedVariables false
set_option linter.unusedSimpArgs false
open Go.RowKit

set_option maxRecDepth 100000 in
set_option maxHeartbeats 3200000 in
theorem Plays_any (vks : Value) (ks : List Dk) (w : World) (hks : DosIn w vks ks) : Calls Try.prog 3 #[vks] w (Yes w) := by
  obtain ⟨aks, cks, rfl, haks⟩ := hks
  have hDks : DosIn w (.slice aks ks.length cks) ks := ⟨aks, cks, rfl, haks⟩
  have hA := below_alloc w (Obj.cells #[.slice aks ks.length cks] 22)
  have hL : ListsIn (w.alloc (Obj.cells #[.slice aks ks.length cks] 22)) (.slice (some ⟨w.heap.size, 0, none⟩) 1 1) [ks] := by
    refine ⟨_, 0, 1, rfl, fun i l hl => ?_⟩
    match i, hl with
    | 0, hl =>
      obtain rfl : ks = l := by simpa using hl
      exact ⟨_, by rw [World.cell?_alloc_at _ _ _ _ rfl]; rfl, hDks.later hA⟩
  have HDks := Lib.hid hDks
  clear haks hDks
  go_enter Try.func3, Try.ntmps3
  go_wp2_with fail
  go_fit (short_any hL (by simp))
  rintro e w1 ⟨sb, rfl, hs, hb1⟩
  have HB1 := Lib.hid (hA.trans (hb1.mono hA.size))
  have Hs := Lib.hid hs
  clear hA hL hb1 hs
  cases sb with
  | false =>
    go_wp2_with fail
    go_fit (awake_any w1)
    rintro e w2 ⟨rfl, hb2⟩
    have HB2 := Lib.hid (HB1.out.trans (hb2.mono HB1.out.size))
    clear hb2
    go_wp2_with fail
    go_ret
    exact ⟨rfl, HB2.out⟩
  | true =>
    have hlenks : ks.length ≤ 300 := (Hs.out rfl).1 ks (by simp)
    have HEks := Lib.hid (HDks.out.later HB1.out)
    have HBB := HB1
    clear Hs HDks
    obtain ⟨aq, cq, hq, ha⟩ := HEks.out
    simp only [Value.slice.injEq] at hq
    obtain ⟨rfl, _, rfl⟩ := hq
    have HD := Lib.hid ha
    clear ha HEks
    go_wp2_with fail
    go_fit (New_any w1)
    rintro e w2 ⟨vt, t, rfl, rfl, ht, hb2⟩
    have HS0 : Hid (St w1 w2 .nil 0 vt (.slice none 0 0)) := ⟨⟨trivial, trivial, Nat.le_refl _⟩, ht, ⟨none, 0, rfl, .inl rfl⟩, hb2⟩
    clear ht hb2
    go_wp2_with fail
    go_loopw [3, 4, 19] (fun u x v wr => ∃ (i : Nat) (y : Option Addr) (s : T), v = .int .i64 i ∧ u = .pointer y ∧ i ≤ ks.length ∧ Hid (St w1 wr s i y x))
      (fun _ _ v _ => ks.length - (intOf v).toNat)
    case atStart => exact ⟨0, vt, .nil, rfl, rfl, Nat.zero_le _, HS0⟩
    case round =>
      obtain ⟨i, y, s, rfl, rfl, hin, hst⟩ := hrel
      have ei : IntKind.i64.wrap ((i : Int) + 1) = (i : Int) + 1 := IntWalk.i64_in _ (by omega)
      by_cases hlt : i < ks.length
      · obtain ⟨k, hk1⟩ : ∃ k, ks[i]? = some k := ⟨ks[i], List.getElem?_eq_getElem hlt⟩
        obtain ⟨g2, off2, rfl, hat⟩ := HD.out.resolve_left (fun e => by rw [e] at hk1; simp at hk1)
        obtain ⟨k0, k1, k2⟩ := hat i k hk1
        have k0 := cell_later hst.out.below k0
        have k1 := cell_later hst.out.below k1
        have k2 := cell_later hst.out.below k2
        have hI1 : (i : Int) < ((ks.length : Nat) : Int) := by omega
        have hI2 : (0 : Int) ≤ (i : Int) := by omega
        have HSA := Lib.hid (hst.out.later (below_alloc wr (Obj.cells #[Value.int .i64 k.op, .string k.key, .string k.val] 30)))
        have HKB := Lib.hid (kbox_cells wr k 30)
        have HG5 := Lib.hid (hst.out.good.more' (show i ≤ 500000000 by omega))
        clear hat hk1 hst
        by_cases hp : bits BinOp.and IntKind.i64 k.op 7 < 6
        · have HP : Hid (isPut k.op = true) := by show _ = _; unfold isPut; simpa using hp
          go_wp2_with fail
          go_fit (does_any k HSA.out.tree HG5.out)
          rintro e w3 ⟨y3, s3, rfl, hd, hr, hb3⟩
          have HL : Hid (s3.list = wi s.list (k.key, k.val)) := by show _ = _; rw [hd.list HSA.out.good.sorted, HP.out]; rfl
          have HG6 := Lib.hid (hd.good HSA.out.good)
          have HR := Lib.hid hr
          have HS3 := Lib.hid (HSA.out.later hb3)
          have b0 := cell_later hb3 HKB.out.1
          have b1 := cell_later hb3 HKB.out.2.1
          have b2 := cell_later hb3 HKB.out.2.2
          clear hd hr hb3 k0 k1 k2 HSA HKB
          go_wp2_with fail
          go_fit (pair_any _ k.key k.val)
          rintro e wp ⟨rfl, hbp⟩
          have HS3 := Lib.hid (HS3.out.later hbp)
          have HR := Lib.hid (HR.out.all hbp)
          have b0 := cell_later hbp b0
          have b1 := cell_later hbp b1
          have b2 := cell_later hbp b2
          clear hbp
          go_wp2_with fail
          go_fit (With_any (k.key, k.val) HS3.out.list HS3.out.good.sorted (by have := HS3.out.length; omega))
          rintro e w4 ⟨u4, rfl, hp4, hb4⟩
          have HST4 : Hid (St w1 w4 s3 (i + 1) y3 u4) := ⟨HG6.out, HR.out.all hb4, by rw [HL.out]; exact hp4, HS3.out.below.trans (hb4.mono HS3.out.below.size)⟩
          have b0 := cell_later hb4 b0
          have b1 := cell_later hb4 b1
          have b2 := cell_later hb4 b2
          clear hp4 hb4 HG6 HR HS3 HL
          obtain ⟨gv, gb, hgv⟩ : ∃ g b, gotV (look s3.list k.key) = .tuple #[.string g, .bool b] := ⟨_, _, rfl⟩
          have HGet := Lib.hid (Get_any k.key HST4.out.tree HST4.out.good.sorted)
          rw [hgv] at HGet
          have HGV := Lib.hid hgv
          clear hgv
          go_wp2_with fail
          go_fit HGet.out
          rintro e w5 ⟨rfl, hb5⟩
          have HST5 := Lib.hid (HST4.out.later hb5)
          have b1 := cell_later hb5 b1
          have HGe2 := Lib.hid (RGet_any k.key HST5.out.list (by have := HST5.out.length; omega))
          rw [HGV.out] at HGe2
          clear hb5 HST4 HGet
          go_wp2_with fail
          go_fit HGe2.out
          rintro e w6 ⟨rfl, hb6⟩
          have HST6 := Lib.hid (HST5.out.later hb6)
          clear hb6 HST5 HGe2
          obtain ⟨ua, uc, hu, _⟩ := HST6.out.list
          rw [T.size_list] at hu
          subst hu
          go_wp2_with fail
          go_fit (Len_any HST6.out.tree)
          rintro e w' ⟨rfl, rfl⟩
          go_wp2_with fail
          exact ⟨⟨i + 1, y3, s3, by simp, rfl, hlt, HST6⟩, by show ks.length - ((i : Int) + 1).toNat < ks.length - ((i : Int)).toNat; omega⟩
        · have HP : Hid (isPut k.op = false) := by show _ = _; unfold isPut; simpa using hp
          go_wp2_with fail
          go_fit (does_any k HSA.out.tree HG5.out)
          rintro e w3 ⟨y3, s3, rfl, hd, hr, hb3⟩
          have HL : Hid (s3.list = wo s.list k.key) := by show _ = _; rw [hd.list HSA.out.good.sorted, HP.out]; rfl
          have HG6 := Lib.hid (hd.good HSA.out.good)
          have HR := Lib.hid hr
          have HS3 := Lib.hid (HSA.out.later hb3)
          have b0 := cell_later hb3 HKB.out.1
          have b1 := cell_later hb3 HKB.out.2.1
          have b2 := cell_later hb3 HKB.out.2.2
          clear hd hr hb3 k0 k1 k2 HSA HKB
          go_wp2_with fail
          go_fit (Without_any k.key HS3.out.list (by have := HS3.out.length; omega))
          rintro e w4 hsc
          obtain ⟨u4, rfl, hp4, hb4⟩ := hsc.lists
          clear hsc
          have HST4 : Hid (St w1 w4 s3 (i + 1) y3 u4) := ⟨HG6.out, HR.out.all hb4, by rw [HL.out]; exact hp4, HS3.out.below.trans (hb4.mono HS3.out.below.size)⟩
          have b0 := cell_later hb4 b0
          have b1 := cell_later hb4 b1
          have b2 := cell_later hb4 b2
          clear hp4 hb4 HG6 HR HS3 HL
          obtain ⟨gv, gb, hgv⟩ : ∃ g b, gotV (look s3.list k.key) = .tuple #[.string g, .bool b] := ⟨_, _, rfl⟩
          have HGet := Lib.hid (Get_any k.key HST4.out.tree HST4.out.good.sorted)
          rw [hgv] at HGet
          have HGV := Lib.hid hgv
          clear hgv
          go_wp2_with fail
          go_fit HGet.out
          rintro e w5 ⟨rfl, hb5⟩
          have HST5 := Lib.hid (HST4.out.later hb5)
          have b1 := cell_later hb5 b1
          have HGe2 := Lib.hid (RGet_any k.key HST5.out.list (by have := HST5.out.length; omega))
          rw [HGV.out] at HGe2
          clear hb5 HST4 HGet
          go_wp2_with fail
          go_fit HGe2.out
          rintro e w6 ⟨rfl, hb6⟩
          have HST6 := Lib.hid (HST5.out.later hb6)
          clear hb6 HST5 HGe2
          obtain ⟨ua, uc, hu, _⟩ := HST6.out.list
          rw [T.size_list] at hu
          subst hu
          go_wp2_with fail
          go_fit (Len_any HST6.out.tree)
          rintro e w' ⟨rfl, rfl⟩
          go_wp2_with fail
          exact ⟨⟨i + 1, y3, s3, by simp, rfl, hlt, HST6⟩, by show ks.length - ((i : Int) + 1).toNat < ks.length - ((i : Int)).toNat; omega⟩
      · obtain rfl : i = ks.length := by omega
        go_wp2_with fail
        go_fit (All_any hst.out.tree (hst.out.good.more' (by omega)))
        rintro e w4 hsc
        obtain ⟨u4, rfl, hp4, hb4⟩ := hsc.lists
        have HST4 := Lib.hid (hst.out.later hb4)
        have HP4 := Lib.hid hp4
        clear hsc hp4 hb4
        go_wp2_with fail
        go_fit (Same_true HP4.out HST4.out.list (by have := HST4.out.length; omega))
        rintro e w5 ⟨rfl, hb5⟩
        have HB5 := Lib.hid (HBB.out.trans ((HST4.out.later hb5).below.mono HBB.out.size))
        clear hb5
        go_wp2_with fail
        go_fit (awake_any _)
        rintro e wz ⟨rfl, hbz⟩
        have HZ := Lib.hid (HB5.out.trans (hbz.mono HB5.out.size))
        clear hbz
        go_wp2_with fail
        go_ret
        exact ⟨rfl, HZ.out⟩
end Go.Proofs.Ythbjociddcddiaa
