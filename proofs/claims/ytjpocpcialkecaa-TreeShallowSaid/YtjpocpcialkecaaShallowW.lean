/-
  The walk of TreeShallow.
-/
import Derived.Test.YtjpocpcialkecaaB25
namespace Go.Proofs.Ytjpocpcialkecaa
set_option linter.unusedVariables false
set_option linter.unusedSimpArgs false
open Go.RowKit

theorem Good.more {t : T} {m n : Nat} (g : Good t m) (h : m ≤ n) : Good t n := ⟨g.bal, g.sorted, Nat.le_trans g.size h⟩

set_option maxRecDepth 100000 in
set_option maxHeartbeats 6400000 in
theorem Shallow_any (v : Value) (ks : List Dk) (w : World) (h : DosIn w v ks) : Calls Try.prog 12 #[v] w (Yes w) := by
  obtain ⟨a, c, rfl, ha⟩ := h
  have hD : DosIn w (.slice a ks.length c) ks := ⟨a, c, rfl, ha⟩
  have hA := below_alloc w (Obj.cells #[.slice a ks.length c] 22)
  have hL : ListsIn (w.alloc (Obj.cells #[.slice a ks.length c] 22)) (.slice (some ⟨w.heap.size, 0, none⟩) 1 1) [ks] := by
    refine ⟨_, 0, 1, rfl, fun i l hl => ?_⟩
    match i, hl with
    | 0, hl =>
      obtain rfl : ks = l := by simpa using hl
      exact ⟨_, by rw [World.cell?_alloc_at _ _ _ _ rfl]; rfl, hD.later hA⟩
  have HD := Lib.hid ha
  clear ha hD
  go_enter Try.func12, Try.ntmps12
  go_wp2_with fail
  go_fit (short_any hL (by simp))
  rintro e w1 ⟨sb, rfl, hs, hb1⟩
  have HB1 := Lib.hid (hA.trans (hb1.mono hA.size))
  have Hs := Lib.hid hs
  clear hA hL hb1 hs
  cases sb with
  | false =>
    go_wp2_with fail
    go_fit (awake_any w1)
    rintro e w2 ⟨rfl, hb2⟩
    have HB2 := Lib.hid (HB1.out.trans (hb2.mono HB1.out.size))
    clear hb2
    go_wp2_with fail
    go_ret
    exact ⟨rfl, HB2.out⟩
  | true =>
    have hlen : ks.length ≤ 300 := (Hs.out rfl).1 ks (by simp)
    go_wp2_with fail
    go_fit (New_any w1)
    rintro e w2 ⟨vt, t, rfl, rfl, ht, hb2⟩
    have HB2 := Lib.hid (HB1.out.trans (hb2.mono HB1.out.size))
    have HT := Lib.hid ht
    clear ht hb2
    go_wp2_with fail
    go_loopw [3, 18] (fun u v wr => ∃ (i : Nat) (x : Option Addr) (s : T), v = .int .i64 i ∧ u = .pointer x ∧ i ≤ ks.length ∧ Hid (Good s i) ∧ Hid (Tr wr wr.heap.size s x) ∧ Hid (Below w.heap.size w wr))
      (fun _ v _ => ks.length - (intOf v).toNat)
    case atStart => exact ⟨0, vt, .nil, rfl, rfl, Nat.zero_le _, ⟨trivial, trivial, Nat.le_refl _⟩, HT.out, HB2.out⟩
    case round =>
      obtain ⟨i, x, s, rfl, rfl, hin, hg, ht, hb⟩ := hrel
      have ei : IntKind.i64.wrap ((i : Int) + 1) = (i : Int) + 1 := IntWalk.i64_in _ (by omega)
      have HG5 := Lib.hid (hg.out.more (show i ≤ 500000000 by omega))
      by_cases hlt : i < ks.length
      · obtain ⟨k, hk1⟩ : ∃ k, ks[i]? = some k := ⟨ks[i], List.getElem?_eq_getElem hlt⟩
        obtain ⟨g2, off2, rfl, hat⟩ := HD.out.resolve_left (fun e => by rw [e] at hk1; simp at hk1)
        obtain ⟨k0, k1, k2⟩ := hat i k hk1
        have k0 := cell_later hb.out k0
        have k1 := cell_later hb.out k1
        have k2 := cell_later hb.out k2
        have hI1 : (i : Int) < ((ks.length : Nat) : Int) := by omega
        have hI2 : (0 : Int) ≤ (i : Int) := by omega
        have hA := below_alloc wr (Obj.cells #[Value.int .i64 k.op, .string k.key, .string k.val] 30)
        have hta := Lib.hid (ht.out.all hA)
        have hba := Lib.hid (hb.out.trans (hA.mono hb.out.size))
        clear hat hk1 hA
        go_wp2_with fail
        go_fit (does_any k hta.out HG5.out)
        rintro e w3 ⟨x3, s3, rfl, hd, hr, hb3⟩
        have HG6 := Lib.hid (hd.good hg.out)
        have HB3 := Lib.hid (hba.out.trans (hb3.mono hba.out.size))
        have HR := Lib.hid hr
        clear hd hr hb3 k0 k1 k2
        go_wp2_with fail
        go_fit (shallow_any HR.out (HG6.out.more (by omega)))
        rintro e w4 ⟨rfl, hb4⟩
        have HB4 := Lib.hid (HB3.out.trans (hb4.mono HB3.out.size))
        have HR4 := Lib.hid (HR.out.all hb4)
        clear hb4
        go_wp2_with fail
        exact ⟨⟨i + 1, x3, s3, by simp, rfl, hlt, HG6, HR4, HB4⟩, by show ks.length - ((i : Int) + 1).toNat < ks.length - ((i : Int)).toNat; omega⟩
      · obtain rfl : i = ks.length := by omega
        go_wp2_with fail
        go_fit (Split_any _ ht.out HG5.out)
        rintro e w3 ⟨va, vb, sa, sh, sb, rfl, hP, hta, htb, hb3⟩
        have HGa := Lib.hid (hP.good_left HG5.out)
        have HGb := Lib.hid (hP.good_right HG5.out)
        have HB3 := Lib.hid (hb.out.trans (hb3.mono hb.out.size))
        have HTa := Lib.hid hta
        have HTb := Lib.hid htb
        clear hP hta htb hb3
        go_wp2_with fail
        go_fit (shallow_any HTa.out HGa.out)
        rintro e w4 ⟨rfl, hb4⟩
        have HB4 := Lib.hid (HB3.out.trans (hb4.mono HB3.out.size))
        have HTb4 := Lib.hid (HTb.out.all hb4)
        clear hb4
        go_wp2_with fail
        go_fit (shallow_any HTb4.out HGb.out)
        rintro e w5 ⟨rfl, hb5⟩
        have HB5 := Lib.hid (HB4.out.trans (hb5.mono HB4.out.size))
        clear hb5
        go_wp2_with fail
        go_fit (awake_any w5)
        rintro e w6 ⟨rfl, hb6⟩
        have HB6 := Lib.hid (HB5.out.trans (hb6.mono HB5.out.size))
        clear hb6
        go_wp2_with fail
        go_ret
        exact ⟨rfl, HB6.out⟩
end Go.Proofs.Ytjpocpcialkecaa
