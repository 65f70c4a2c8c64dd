/-
  The walk of TreeTurns. (Written by genl.py.)
-/
import Derived.Test.YthbjociddcddiaaW3
namespace Go.Proofs.Ythbjociddcddiaa
set_option linter.unusedVariables false
set_option linter.unusedSimpArgs false
open Go.RowKit

set_option maxRecDepth 100000 in
set_option maxHeartbeats 3200000 in
theorem Turns_any (vks : Value) (ks : List Dk) (w : World) (hks : DosIn w vks ks) (hsz : ∀ k ∈ ks, k.key.size ≤ 140737488355328) : Calls Try.prog 13 #[vks] w (Yes w) := by
  obtain ⟨aks, cks, rfl, haks⟩ := hks
  have hDks : DosIn w (.slice aks ks.length cks) ks := ⟨aks, cks, rfl, haks⟩
  have hA := below_alloc w (Obj.cells #[.slice aks ks.length cks] 22)
  have hL : ListsIn (w.alloc (Obj.cells #[.slice aks ks.length cks] 22)) (.slice (some ⟨w.heap.size, 0, none⟩) 1 1) [ks] := by
    refine ⟨_, 0, 1, rfl, fun i l hl => ?_⟩
    match i, hl with
    | 0, hl =>
      obtain rfl : ks = l := by simpa using hl
      exact ⟨_, by rw [World.cell?_alloc_at _ _ _ _ rfl]; rfl, hDks.later hA⟩
  have HSZ := Lib.hid hsz
  have HDks := Lib.hid hDks
  clear hsz
  clear haks hDks
  go_enter Try.func13, Try.ntmps13
  go_wp2_with fail
  go_fit (short_any hL (by simp))
  rintro e w1 ⟨sb, rfl, hs, hb1⟩
  have HB1 := Lib.hid (hA.trans (hb1.mono hA.size))
  have Hs := Lib.hid hs
  clear hA hL hb1 hs
  cases sb with
  | false =>
    go_wp2_with fail
    go_fit (awake_any w1)
    rintro e w2 ⟨rfl, hb2⟩
    have HB2 := Lib.hid (HB1.out.trans (hb2.mono HB1.out.size))
    clear hb2
    go_wp2_with fail
    go_ret
    exact ⟨rfl, HB2.out⟩
  | true =>
    have hlenks : ks.length ≤ 300 := (Hs.out rfl).1 ks (by simp)
    have HEks := Lib.hid (HDks.out.later HB1.out)
    have HBB := HB1
    clear Hs HDks
    go_wp2_with fail
    go_fit (madeK_any HEks.out hlenks)
    rintro e w2 ⟨y, u, s, rfl, hst, hkn⟩
    have HT := Lib.hid (hst.tl.more hlenks)
    have HBS := Lib.hid (HBB.out.trans (hst.below.mono HBB.out.size))
    have HKS : Hid (∀ q ∈ s.list, q.1.size ≤ 140737488355328) := by
      intro q hq
      obtain ⟨k, hk, e⟩ := hkn q hq
      rw [← e]; exact HSZ.out k hk
    obtain ⟨ua, uc, hu, _⟩ := hst.list
    subst hu
    have hll := HT.out.length
    clear hst hkn HEks HSZ
    go_wp2_with fail
    go_fit (Len_tl HT.out)
    rintro e w' ⟨rfl, rfl⟩
    obtain ⟨n, hn⟩ : ∃ n, n = s.list.length := ⟨_, rfl⟩
    have HN : Hid (s.list.length = n) := hn.symm
    rw [← hn] at hll ⊢
    clear hn
    go_wp2_with fail
    go_loopw [22] (fun v wr => ∃ i : Nat, v = .int .i64 i ∧ i ≤ n ∧ Hid (Tl wr s.list 300 y s) ∧ Hid (Below w.heap.size w wr))
      (fun v _ => n - (intOf v).toNat)
    case atStart => exact ⟨0, rfl, Nat.zero_le _, HT, HBS⟩
    case round =>
      obtain ⟨i, rfl, hin, ht, hb⟩ := hrel
      have ei : IntKind.i64.wrap ((i : Int) + 1) = (i : Int) + 1 := IntWalk.i64_in _ (by omega)
      by_cases hlt : i < n
      · obtain ⟨p, hp⟩ : ∃ p, s.list[i]? = some p := ⟨s.list[i]'(by rw [HN.out]; exact hlt), List.getElem?_eq_getElem _⟩
        have HAt : Hid (toldV (atI s (i : Int)) = .tuple #[.agg #[.string p.1, .string p.2], .bool true]) := by
          show _ = _
          rw [atI_list]; unfold atL; rw [if_neg (by omega), Int.toNat_natCast, hp]; rfl
        have HGet : Hid (gotV (look s.list p.1) = .tuple #[.string p.2, .bool true]) := by
          show _ = _
          rw [look_mem ht.out.sorted (List.mem_of_getElem? hp)]; rfl
        have HC1 := Lib.hid (cnt_at ht.out.sorted hp)
        have HC2 := Lib.hid (cnt_nxt ht.out.sorted hp)
        have hps := HKS.out p (List.mem_of_getElem? hp)
        have hps1 : ¬ (9223372036854775807 : Int) < ((p.1.size + 1 : Nat) : Int) := by omega
        have HI1 : (i : Int) < ((n : Nat) : Int) := by omega
        clear hp
        have HA := Lib.hid (At_any (i : Int) ht.out.tree (ht.out.good.more' (by omega)) (by omega))
        rw [HAt.out] at HA
        go_wp2_with fail
        go_fit HA.out
        rintro e w3 ⟨rfl, hb3⟩
        have hA3 := below_alloc w3 (Obj.cells #[Value.string p.1, .string p.2] 34)
        have HX := Lib.hid (box_alloc w3 p.1 p.2 34)
        have HT3 := Lib.hid ((ht.out.later hb3).later hA3)
        have hb3' := hb.out.trans (hb3.mono hb.out.size)
        have HB3 := Lib.hid (hb3'.trans (hA3.mono hb3'.size))
        clear ht hb hb3 hA3 hb3' HA HAt
        go_wp2_with fail
        generalize w3.alloc (Obj.cells #[Value.string p.1, Value.string p.2] 34) = W3 at *
        have x0 := HX.out.c0
        have x1 := HX.out.c1
        go_wp2_with fail
        have HG := Lib.hid (Get_any p.1 HT3.out.tree HT3.out.good.sorted)
        rw [HT3.out.list, HGet.out] at HG
        go_fit HG.out
        rintro e w4 ⟨rfl, hb4⟩
        have HT4 := Lib.hid (HT3.out.later hb4)
        have HX4 := Lib.hid (HX.out.later hb4)
        have HB4 := Lib.hid (HB3.out.trans (hb4.mono HB3.out.size))
        clear hb4 HT3 HX HB3 HG HGet x0 x1
        have x0 := HX4.out.c0
        have x1 := HX4.out.c1
        have HR := Lib.hid (Rank_any p.1 HT4.out.tree (HT4.out.good.more' (by omega)))
        rw [HT4.out.list, HC1.out] at HR
        go_wp2_with fail
        go_fit HR.out
        rintro e w5 ⟨rfl, hb5⟩
        have HT5 := Lib.hid (HT4.out.later hb5)
        have HX5 := Lib.hid (HX4.out.later hb5)
        have HB5 := Lib.hid (HB4.out.trans (hb5.mono HB4.out.size))
        clear hb5 HT4 HX4 HB4 HR HC1 x0 x1
        have x0 := HX5.out.c0
        have x1 := HX5.out.c1
        have HR := Lib.hid (Rank_any (nxt p.1) HT5.out.tree (HT5.out.good.more' (by omega)))
        rw [HT5.out.list, HC2.out] at HR
        have HR' : Hid (Calls Try.prog 36 #[.pointer y, .string (p.1 ++ { data := #[0] })] w5 (fun e w' => e = .returned (.int .i64 ((i + 1 : Nat) : Int)) ∧ Below w5.heap.size w5 w')) := HR.out
        clear HR HC2
        go_wp2_with fail
        go_fit HR'.out
        rintro e w6 ⟨rfl, hb6⟩
        have HT6 := Lib.hid (HT5.out.later hb6)
        have HB6 := Lib.hid (HB5.out.trans (hb6.mono HB5.out.size))
        clear hb6 HT5 HX5 HB5 HR' x0 x1
        go_wp2_with fail
        exact ⟨⟨i + 1, by simp, hlt, HT6, HB6⟩, by show n - ((i : Int) + 1).toNat < n - ((i : Int)).toNat; omega⟩
      · obtain rfl : i = n := by omega
        go_wp2_with fail
        go_fit (awake_any _)
        rintro e wz ⟨rfl, hbz⟩
        have HZ := Lib.hid (hb.out.trans (hbz.mono hb.out.size))
        clear hbz
        go_wp2_with fail
        go_ret
        exact ⟨rfl, HZ.out⟩
end Go.Proofs.Ythbjociddcddiaa
