/-
  The walk of TreeDiffs. (Written by genl.py.)
-/
import Derived.Test.YthbjociddcddiaaW2
namespace Go.Proofs.Ythbjociddcddiaa
set_option linter.unusedVariables false
set_option linter.unusedSimpArgs false
open Go.RowKit

theorem Diff_tl {w : World} {L M : List Pr} {m n : Nat} {u v : Option Addr} {a b : T} (h : Tl w L m u a) (h2 : Tl w M n v b) (hm : m ≤ 500000000) (hn : n ≤ 500000000) : Calls Try.prog 51 #[.pointer u, .pointer v] w (Events (di L M (un L M)) w) :=
  (Diff_any h.tree h2.tree (h.good.more' hm) (h2.good.more' hn)).mono fun e w' ⟨x, ds, he, hd, _, hown, hg, _⟩ => by
    have e1 := hd.list h.good.sorted h2.good.sorted
    rw [h.list, h2.list] at e1
    rw [List.nil_append] at hown
    exact ⟨x, he, by rw [show di L M (un L M) = ds from e1.symm]; exact events_row hown rfl, grown_below hg⟩
theorem ebox_cells (w : World) (e : Ev) (t : TypeId) : (w.alloc (Obj.cells #[Value.int .i64 0, .string e.key, .bool e.had, .string e.old, .bool e.has, .string e.now] t)).cell? ⟨w.heap.size, 1, none⟩ = some (.string e.key) ∧ (w.alloc (Obj.cells #[Value.int .i64 0, .string e.key, .bool e.had, .string e.old, .bool e.has, .string e.now] t)).cell? ⟨w.heap.size, 4, none⟩ = some (.bool e.has) ∧ (w.alloc (Obj.cells #[Value.int .i64 0, .string e.key, .bool e.had, .string e.old, .bool e.has, .string e.now] t)).cell? ⟨w.heap.size, 5, none⟩ = some (.string e.now) := by
  refine ⟨?_, ?_, ?_⟩
  all_goals rw [World.cell?_alloc_at _ _ _ _ rfl]; rfl
theorem di_un_len (L M : List Pr) : (di L M (un L M)).length ≤ L.length + M.length := Nat.le_trans (di_len _ _ _) (un_len _ _)

set_option maxRecDepth 100000 in
set_option maxHeartbeats 3200000 in
theorem Diffs_any (vls : Value) (ls : List Dk) (vms : Value) (ms : List Dk) (vks : Value) (ks : List Dk) (w : World) (hls : DosIn w vls ls) (hms : DosIn w vms ms) (hks : DosIn w vks ks) : Calls Try.prog 10 #[vls, vms, vks] w (Yes w) := by
  obtain ⟨als, cls, rfl, hals⟩ := hls
  have hDls : DosIn w (.slice als ls.length cls) ls := ⟨als, cls, rfl, hals⟩
  obtain ⟨ams, cms, rfl, hams⟩ := hms
  have hDms : DosIn w (.slice ams ms.length cms) ms := ⟨ams, cms, rfl, hams⟩
  obtain ⟨aks, cks, rfl, haks⟩ := hks
  have hDks : DosIn w (.slice aks ks.length cks) ks := ⟨aks, cks, rfl, haks⟩
  have hA := below_alloc w (Obj.cells #[.slice als ls.length cls, .slice ams ms.length cms, .slice aks ks.length cks] 22)
  have hL : ListsIn (w.alloc (Obj.cells #[.slice als ls.length cls, .slice ams ms.length cms, .slice aks ks.length cks] 22)) (.slice (some ⟨w.heap.size, 0, none⟩) 3 3) [ls, ms, ks] := by
    refine ⟨_, 0, 3, rfl, fun i l hl => ?_⟩
    match i, hl with
    | 0, hl =>
      obtain rfl : ls = l := by simpa using hl
      exact ⟨_, by rw [World.cell?_alloc_at _ _ _ _ rfl]; rfl, hDls.later hA⟩
    | 1, hl =>
      obtain rfl : ms = l := by simpa using hl
      exact ⟨_, by rw [World.cell?_alloc_at _ _ _ _ rfl]; rfl, hDms.later hA⟩
    | 2, hl =>
      obtain rfl : ks = l := by simpa using hl
      exact ⟨_, by rw [World.cell?_alloc_at _ _ _ _ rfl]; rfl, hDks.later hA⟩
  have HDls := Lib.hid hDls
  clear hals hDls
  have HDms := Lib.hid hDms
  clear hams hDms
  have HDks := Lib.hid hDks
  clear haks hDks
  go_enter Try.func10, Try.ntmps10
  go_wp2_with fail
  go_fit (short_any hL (by simp))
  rintro e w1 ⟨sb, rfl, hs, hb1⟩
  have HB1 := Lib.hid (hA.trans (hb1.mono hA.size))
  have Hs := Lib.hid hs
  clear hA hL hb1 hs
  cases sb with
  | false =>
    go_wp2_with fail
    go_fit (awake_any w1)
    rintro e w2 ⟨rfl, hb2⟩
    have HB2 := Lib.hid (HB1.out.trans (hb2.mono HB1.out.size))
    clear hb2
    go_wp2_with fail
    go_ret
    exact ⟨rfl, HB2.out⟩
  | true =>
    have hlenls : ls.length ≤ 300 := (Hs.out rfl).1 ls (by simp)
    have hlenms : ms.length ≤ 300 := (Hs.out rfl).1 ms (by simp)
    have hlenks : ks.length ≤ 300 := (Hs.out rfl).1 ks (by simp)
    have HEls := Lib.hid (HDls.out.later HB1.out)
    have HEms := Lib.hid (HDms.out.later HB1.out)
    have HEks := Lib.hid (HDks.out.later HB1.out)
    have HBB := HB1
    clear Hs HDls HDms HDks
    go_wp2_with fail
    go_fit (made_any HEls.out hlenls)
    rintro e w2 ⟨y, u, s, rfl, hst⟩
    have HST := Lib.hid (hst.more hlenls)
    have HEms := Lib.hid (HEms.out.later hst.below)
    have HEks := Lib.hid (HEks.out.later hst.below)
    clear hst HEls
    go_wp2_with fail
    go_fit (made_any HEms.out hlenms)
    rintro e wq ⟨z, v, q, rfl, hst⟩
    have HSQ := Lib.hid (hst.more hlenms)
    have HST := Lib.hid (HST.out.later hst.below)
    have HEks := Lib.hid (HEks.out.later hst.below)
    clear hst HEms
    obtain ⟨aq, cq, hq, ha⟩ := HEks.out
    simp only [Value.slice.injEq] at hq
    obtain ⟨rfl, _, rfl⟩ := hq
    have HD := Lib.hid ha
    clear ha HEks
    have HTa := Lib.hid HST.out.tl
    have HTb := Lib.hid HSQ.out.tl
    have HC0 : Hid (St wq wq s 300 y u) := ⟨HST.out.good, HST.out.tree, HST.out.list, Below.refl _ _⟩
    have HXa := Lib.hid HST.out.list
    have HXb := Lib.hid HSQ.out.list
    have HB3 := Lib.hid (HBB.out.trans (HST.out.below.mono HBB.out.size))
    clear HST HSQ
    go_wp2_with fail
    go_loopw [11, 12, 39] (fun u' x v wr => ∃ (i : Nat) (y' : Option Addr) (s' : T), v = .int .i64 i ∧ u' = .pointer y' ∧ i ≤ ks.length ∧ Hid (St wq wr s' (300 + i) y' x))
      (fun _ _ v _ => ks.length - (intOf v).toNat)
    case atStart => exact ⟨0, y, s, rfl, rfl, Nat.zero_le _, HC0⟩
    case round =>
      obtain ⟨i, y', s', rfl, rfl, hin, hst⟩ := hrel
      have ei : IntKind.i64.wrap ((i : Int) + 1) = (i : Int) + 1 := IntWalk.i64_in _ (by omega)
      by_cases hlt : i < ks.length
      · obtain ⟨k, hk1⟩ : ∃ k, ks[i]? = some k := ⟨ks[i], List.getElem?_eq_getElem hlt⟩
        obtain ⟨g2, off2, rfl, hat⟩ := HD.out.resolve_left (fun e => by rw [e] at hk1; simp at hk1)
        obtain ⟨k0, k1, k2⟩ := hat i k hk1
        have k0 := cell_later hst.out.below k0
        have k1 := cell_later hst.out.below k1
        have k2 := cell_later hst.out.below k2
        have hI1 : (i : Int) < ((ks.length : Nat) : Int) := by omega
        have hI2 : (0 : Int) ≤ (i : Int) := by omega
        have HSA := Lib.hid (hst.out.later (below_alloc wr (Obj.cells #[Value.int .i64 k.op, .string k.key, .string k.val] 30)))
        have HKB := Lib.hid (kbox_cells wr k 30)
        have HG5 := Lib.hid (hst.out.good.more' (show 300 + i ≤ 500000000 by omega))
        clear hat hk1 hst
        by_cases hp : bits BinOp.and IntKind.i64 k.op 7 < 6
        · have HP : Hid (isPut k.op = true) := by show _ = _; unfold isPut; simpa using hp
          go_wp2_with fail
          go_fit (does_any k HSA.out.tree HG5.out)
          rintro e w3 ⟨y3, s3, rfl, hd, hr, hb3⟩
          have HL : Hid (s3.list = wi s'.list (k.key, k.val)) := by show _ = _; rw [hd.list HSA.out.good.sorted, HP.out]; rfl
          have HG6 := Lib.hid (hd.good HSA.out.good)
          have HR := Lib.hid hr
          have HS3 := Lib.hid (HSA.out.later hb3)
          have b0 := cell_later hb3 HKB.out.1
          have b1 := cell_later hb3 HKB.out.2.1
          have b2 := cell_later hb3 HKB.out.2.2
          clear hd hr hb3 k0 k1 k2 HSA HKB
          go_wp2_with fail
          go_fit (pair_any _ k.key k.val)
          rintro e wp ⟨rfl, hbp⟩
          have HS3 := Lib.hid (HS3.out.later hbp)
          have HR := Lib.hid (HR.out.all hbp)
          have b0 := cell_later hbp b0
          have b1 := cell_later hbp b1
          have b2 := cell_later hbp b2
          clear hbp
          go_wp2_with fail
          go_fit (With_any (k.key, k.val) HS3.out.list HS3.out.good.sorted (by have := HS3.out.length; omega))
          rintro e w4 ⟨u4, rfl, hp4, hb4⟩
          have HST4 : Hid (St wq w4 s3 (300 + i + 1) y3 u4) := ⟨HG6.out, HR.out.all hb4, by rw [HL.out]; exact hp4, HS3.out.below.trans (hb4.mono HS3.out.below.size)⟩
          have b0 := cell_later hb4 b0
          have b1 := cell_later hb4 b1
          have b2 := cell_later hb4 b2
          clear hp4 hb4 HG6 HR HS3 HL
          go_wp2_with fail
          exact ⟨⟨i + 1, y3, s3, by simp, rfl, hlt, HST4⟩, by show ks.length - ((i : Int) + 1).toNat < ks.length - ((i : Int)).toNat; omega⟩
        · have HP : Hid (isPut k.op = false) := by show _ = _; unfold isPut; simpa using hp
          go_wp2_with fail
          go_fit (does_any k HSA.out.tree HG5.out)
          rintro e w3 ⟨y3, s3, rfl, hd, hr, hb3⟩
          have HL : Hid (s3.list = wo s'.list k.key) := by show _ = _; rw [hd.list HSA.out.good.sorted, HP.out]; rfl
          have HG6 := Lib.hid (hd.good HSA.out.good)
          have HR := Lib.hid hr
          have HS3 := Lib.hid (HSA.out.later hb3)
          have b0 := cell_later hb3 HKB.out.1
          have b1 := cell_later hb3 HKB.out.2.1
          have b2 := cell_later hb3 HKB.out.2.2
          clear hd hr hb3 k0 k1 k2 HSA HKB
          go_wp2_with fail
          go_fit (Without_any k.key HS3.out.list (by have := HS3.out.length; omega))
          rintro e w4 hsc
          obtain ⟨u4, rfl, hp4, hb4⟩ := hsc.lists
          clear hsc
          have HST4 : Hid (St wq w4 s3 (300 + i + 1) y3 u4) := ⟨HG6.out, HR.out.all hb4, by rw [HL.out]; exact hp4, HS3.out.below.trans (hb4.mono HS3.out.below.size)⟩
          have b0 := cell_later hb4 b0
          have b1 := cell_later hb4 b1
          have b2 := cell_later hb4 b2
          clear hp4 hb4 HG6 HR HS3 HL
          go_wp2_with fail
          exact ⟨⟨i + 1, y3, s3, by simp, rfl, hlt, HST4⟩, by show ks.length - ((i : Int) + 1).toNat < ks.length - ((i : Int)).toNat; omega⟩
      · obtain rfl : i = ks.length := by omega
        have HTa := Lib.hid (HTa.out.later hst.out.below)
        have HTb := Lib.hid (HTb.out.later hst.out.below)
        have HXa := Lib.hid (HXa.out.later hst.out.below)
        have HXb := Lib.hid (HXb.out.later hst.out.below)
        have HC : Hid (St wq wr s' 600 y' _) := hst.out.more (by omega)
        have HTc := Lib.hid HC.out.tl
        have HXc := Lib.hid HC.out.list
        clear hst
        have hla : s.list.length ≤ 300 := HTa.out.length
        have hlb : q.list.length ≤ 300 := HTb.out.length
        have hlc : s'.list.length ≤ 600 := HTc.out.length
        go_wp2_with fail
        go_fit (Diff_tl HTa.out HTb.out (by omega) (by omega))
        rintro e wd1 ⟨ud1, rfl, hpd, hb⟩
        have HED1 := Lib.hid hpd
        have HTa := Lib.hid (HTa.out.later hb)
        have HTb := Lib.hid (HTb.out.later hb)
        have HTc := Lib.hid (HTc.out.later hb)
        have HXa := Lib.hid (HXa.out.later hb)
        have HXb := Lib.hid (HXb.out.later hb)
        have HXc := Lib.hid (HXc.out.later hb)
        have HC := Lib.hid (HC.out.later hb)
        clear hpd hb
        go_wp2_with fail
        go_fit (RDiff_any HXa.out HXb.out HTa.out.sorted (by omega))
        rintro e wr1 ⟨ur1, rfl, hpr, hb⟩
        have HER := Lib.hid hpr
        have HTa := Lib.hid (HTa.out.later hb)
        have HTb := Lib.hid (HTb.out.later hb)
        have HTc := Lib.hid (HTc.out.later hb)
        have HXa := Lib.hid (HXa.out.later hb)
        have HXb := Lib.hid (HXb.out.later hb)
        have HXc := Lib.hid (HXc.out.later hb)
        have HC := Lib.hid (HC.out.later hb)
        have HED1 := Lib.hid (HED1.out.later hb)
        clear hpr hb
        go_wp2_with fail
        go_fit (EqualE_true HED1.out HER.out (by have := di_un_len s.list q.list; omega))
        rintro e we1 ⟨rfl, hb⟩
        have HTa := Lib.hid (HTa.out.later hb)
        have HTb := Lib.hid (HTb.out.later hb)
        have HTc := Lib.hid (HTc.out.later hb)
        have HXa := Lib.hid (HXa.out.later hb)
        have HXb := Lib.hid (HXb.out.later hb)
        have HXc := Lib.hid (HXc.out.later hb)
        have HC := Lib.hid (HC.out.later hb)
        have HED1 := Lib.hid (HED1.out.later hb)
        clear hb HER
        go_wp2_with fail
        go_fit (Diff_tl HTa.out HTc.out (by omega) (by omega))
        rintro e wd2 ⟨ud2, rfl, hpd, hb⟩
        have HED2 := Lib.hid hpd
        have HTa := Lib.hid (HTa.out.later hb)
        have HTb := Lib.hid (HTb.out.later hb)
        have HTc := Lib.hid (HTc.out.later hb)
        have HXa := Lib.hid (HXa.out.later hb)
        have HXb := Lib.hid (HXb.out.later hb)
        have HXc := Lib.hid (HXc.out.later hb)
        have HC := Lib.hid (HC.out.later hb)
        have HED1 := Lib.hid (HED1.out.later hb)
        clear hpd hb
        go_wp2_with fail
        go_fit (RDiff_any HXa.out HXc.out HTa.out.sorted (by omega))
        rintro e wr2 ⟨ur2, rfl, hpr, hb⟩
        have HER := Lib.hid hpr
        have HTa := Lib.hid (HTa.out.later hb)
        have HTb := Lib.hid (HTb.out.later hb)
        have HTc := Lib.hid (HTc.out.later hb)
        have HXa := Lib.hid (HXa.out.later hb)
        have HXb := Lib.hid (HXb.out.later hb)
        have HXc := Lib.hid (HXc.out.later hb)
        have HC := Lib.hid (HC.out.later hb)
        have HED1 := Lib.hid (HED1.out.later hb)
        have HED2 := Lib.hid (HED2.out.later hb)
        clear hpr hb
        go_wp2_with fail
        go_fit (EqualE_true HED2.out HER.out (by have := di_un_len s.list s'.list; omega))
        rintro e we2 ⟨rfl, hb⟩
        have HTa := Lib.hid (HTa.out.later hb)
        have HTb := Lib.hid (HTb.out.later hb)
        have HTc := Lib.hid (HTc.out.later hb)
        have HXa := Lib.hid (HXa.out.later hb)
        have HXb := Lib.hid (HXb.out.later hb)
        have HXc := Lib.hid (HXc.out.later hb)
        have HC := Lib.hid (HC.out.later hb)
        have HED1 := Lib.hid (HED1.out.later hb)
        have HED2 := Lib.hid (HED2.out.later hb)
        clear hb HER
        go_wp2_with fail
        have HDD := Lib.hid (Diff_tl HTa.out HTa.out (by omega) (by omega))
        rw [di_same] at HDD
        go_fit HDD.out
        rintro e w9 ⟨ud9, rfl, hpd, hb⟩
        have HTa := Lib.hid (HTa.out.later hb)
        have HTb := Lib.hid (HTb.out.later hb)
        have HTc := Lib.hid (HTc.out.later hb)
        have HXa := Lib.hid (HXa.out.later hb)
        have HXb := Lib.hid (HXb.out.later hb)
        have HXc := Lib.hid (HXc.out.later hb)
        have HC := Lib.hid (HC.out.later hb)
        have HED1 := Lib.hid (HED1.out.later hb)
        obtain ⟨a9, c9, rfl, _⟩ := hpd
        clear hb HDD
        obtain ⟨ds, hds⟩ : ∃ ds, ds = di s.list q.list (un s.list q.list) := ⟨_, rfl⟩
        have HDS := Lib.hid hds
        have hdl := di_un_len s.list q.list
        rw [← hds] at HED1 hdl
        clear hds
        obtain ⟨a1, c1, rfl, hx1⟩ := HED1.out
        have HX1 := Lib.hid hx1
        have HB9 := Lib.hid (HB3.out.trans (HC.out.below.mono HB3.out.size))
        clear hx1 HED1 HED2 HC HTc HXc HXa
        go_wp2_with fail
        have HA0 : Hid (Tl w9 (ap s.list (ds.take 0)) 300 y s) := HTa.out
        go_loopw [7, 90] (fun u' v wr => ∃ (i : Nat) (y2 : Option Addr) (s2 : T), v = .int .i64 i ∧ u' = .pointer y2 ∧ i ≤ ds.length ∧ Hid (Tl wr (ap s.list (ds.take i)) (300 + i) y2 s2) ∧ Hid (Below w9.heap.size w9 wr))
          (fun _ v _ => ds.length - (intOf v).toNat)
        case atStart => exact ⟨0, y, s, rfl, rfl, Nat.zero_le _, HA0, Below.refl _ _⟩
        case round =>
          obtain ⟨i, y2, s2, rfl, rfl, hin2, ht, hb⟩ := hrel
          have ei2 : IntKind.i64.wrap ((i : Int) + 1) = (i : Int) + 1 := IntWalk.i64_in _ (by omega)
          by_cases hlt2 : i < ds.length
          · obtain ⟨e1, he1⟩ : ∃ e, ds[i]? = some e := ⟨ds[i], List.getElem?_eq_getElem hlt2⟩
            obtain ⟨g3, off3, rfl, hea⟩ := HX1.out.resolve_left (fun e => by rw [e] at he1; simp at he1)
            obtain ⟨m0, m1, m2, m3, m4, m5⟩ := hea i e1 he1
            have m0 := cell_later hb.out m0
            have m1 := cell_later hb.out m1
            have m2 := cell_later hb.out m2
            have m3 := cell_later hb.out m3
            have m4 := cell_later hb.out m4
            have m5 := cell_later hb.out m5
            have hI1 : (i : Int) < ((ds.length : Nat) : Int) := by omega
            have hI2 : (0 : Int) ≤ (i : Int) := by omega
            have hA := below_alloc wr (Obj.cells #[Value.int .i64 0, .string e1.key, .bool e1.had, .string e1.old, .bool e1.has, .string e1.now] 72)
            have HT1 := Lib.hid (ht.out.later hA)
            have HB1' := Lib.hid (hb.out.trans (hA.mono hb.out.size))
            have HAP := Lib.hid (ap_step s.list he1)
            clear hea he1 ht hb hA
            cases hh : e1.has
            · rw [hh] at m4 HT1 HB1'
              have HAP2 : Hid (ap s.list (ds.take (i + 1)) = wo (ap s.list (ds.take i)) e1.key) := by show _ = _; rw [HAP.out]; unfold ap1; rw [hh]; rfl
              clear hh HAP
              go_wp2_with fail
              go_fit (Drop_any e1.key HT1.out.tree (HT1.out.good.more' (by omega)))
              rintro e w10 ⟨y4, s4, rfl, hd, htr, hb4⟩
              have HT2 : Hid (Tl w10 (ap s.list (ds.take (i + 1))) (300 + (i + 1)) y4 s4) := ⟨⟨hd.bal, hd.sorted, by have := hd.size; have := HT1.out.good.size; omega⟩, by rw [HAP2.out, hd.list HT1.out.good.sorted, HT1.out.list], htr⟩
              have HB2' := Lib.hid (HB1'.out.trans (hb4.mono HB1'.out.size))
              clear hd htr hb4
              go_wp2_with fail
              exact ⟨⟨i + 1, y4, s4, by simp, rfl, hlt2, HT2, HB2'⟩, by show ds.length - ((i : Int) + 1).toNat < ds.length - ((i : Int)).toNat; omega⟩
            · rw [hh] at m4 HT1 HB1'
              have HAP2 : Hid (ap s.list (ds.take (i + 1)) = wi (ap s.list (ds.take i)) (e1.key, e1.now)) := by show _ = _; rw [HAP.out]; unfold ap1; rw [hh]; rfl
              clear hh HAP
              go_wp2_with fail
              go_fit (Put_any e1.key e1.now HT1.out.tree (HT1.out.good.more' (by omega)))
              rintro e w10 ⟨y4, s4, rfl, hd, htr, hb4⟩
              have HT2 : Hid (Tl w10 (ap s.list (ds.take (i + 1))) (300 + (i + 1)) y4 s4) := ⟨⟨hd.bal, hd.sorted, by have := hd.size; have := HT1.out.good.size; omega⟩, by rw [HAP2.out, hd.list HT1.out.good.sorted, HT1.out.list], htr⟩
              have HB2' := Lib.hid (HB1'.out.trans (hb4.mono HB1'.out.size))
              clear hd htr hb4
              go_wp2_with fail
              exact ⟨⟨i + 1, y4, s4, by simp, rfl, hlt2, HT2, HB2'⟩, by show ds.length - ((i : Int) + 1).toNat < ds.length - ((i : Int)).toNat; omega⟩
          · obtain rfl : i = ds.length := by omega
            have h2 := ht.out.more (show 300 + ds.length ≤ 900 by omega)
            rw [List.take_length, HDS.out, ap_di HTa.out.sorted HTb.out.sorted] at h2
            have HT2 : Hid (Tl wr q.list 900 y2 s2) := h2
            have HXb2 := Lib.hid (HXb.out.later hb.out)
            have HBz := Lib.hid (HB9.out.trans (hb.out.mono HB9.out.size))
            clear h2 ht hb
            go_wp2_with fail
            go_fit (All_tl HT2.out (by omega))
            rintro e wa ⟨ua, rfl, hpa, hb⟩
            have HPA := Lib.hid hpa
            have HXb3 := Lib.hid (HXb2.out.later hb)
            have HBz := Lib.hid (HBz.out.trans (hb.mono HBz.out.size))
            clear hpa hb
            go_wp2_with fail
            go_fit (Same_true HPA.out HXb3.out (by omega))
            rintro e ws ⟨rfl, hb⟩
            have HBz := Lib.hid (HBz.out.trans (hb.mono HBz.out.size))
            clear hb HPA
            go_wp2_with fail
            go_fit (awake_any _)
            rintro e wz ⟨rfl, hbz⟩
            have HZ := Lib.hid (HBz.out.trans (hbz.mono HBz.out.size))
            clear hbz
            go_wp2_with fail
            go_ret
            exact ⟨rfl, HZ.out⟩
end Go.Proofs.Ythbjociddcddiaa
