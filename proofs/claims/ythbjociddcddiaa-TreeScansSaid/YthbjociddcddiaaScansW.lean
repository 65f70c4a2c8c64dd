/-
  The walk of TreeScans. (Written by genl.py.)
-/
import Derived.Test.YthbjociddcddiaaW2
namespace Go.Proofs.Ythbjociddcddiaa
set_option linter.unusedVariables false
set_option linter.unusedSimpArgs false
open Go.RowKit

/-- The keys of a row that may be written over. -/
def KeysIn (w : World) (v : Value) (n : Nat) : Prop := ∃ a c, v = .slice a n c ∧ ∀ i : Nat, i < n → ∃ g, a = some ⟨g, 0, none⟩ ∧ (∃ s, w.cell? ⟨g, i * 2, none⟩ = some (.string s)) ∧ w.frozen? ⟨g, i * 2, none⟩ = false
theorem KeysIn.later {w w' : World} {v : Value} {n : Nat} (h : KeysIn w v n) (hb : Below w.heap.size w w') : KeysIn w' v n := by
  obtain ⟨a, c, hv, h⟩ := h
  refine ⟨a, c, hv, fun i hi => ?_⟩
  obtain ⟨g, ha, ⟨s, hs⟩, hf⟩ := h i hi
  exact ⟨g, ha, ⟨s, cell_later hb hs⟩, (hb.frozen (p := ⟨g, i * 2, none⟩) (World.block_lt_of_cell? w _ hs)).trans hf⟩
theorem KeysIn.set {w : World} {g n c : Nat} (h : KeysIn w (.slice (some ⟨g, 0, none⟩) n c) n) (j : Nat) (x : ByteArray) : KeysIn (w.setCell ⟨g, j * 2, none⟩ (.string x)) (.slice (some ⟨g, 0, none⟩) n c) n := by
  obtain ⟨a, c', hv, h⟩ := h
  simp only [Value.slice.injEq] at hv
  obtain ⟨rfl, _, rfl⟩ := hv
  refine ⟨_, c, rfl, fun i hi => ?_⟩
  obtain ⟨g', ha, ⟨s, hs⟩, hf⟩ := h i hi
  simp only [Option.some.injEq, Addr.mk.injEq, and_true] at ha
  subst ha
  refine ⟨g, rfl, ?_, (World.frozen?_setCell _ _ _ _).trans hf⟩
  by_cases e : i = j
  · subst e; exact ⟨x, World.cell?_setCell_same _ _ _ hs⟩
  · exact ⟨s, (World.cell?_setCell_other _ _ _ _ (by simp <;> omega)).trans hs⟩
theorem keys_row {w : World} {B n : Nat} {v : Value} {xs : List Pr} (h : w.ownsRow B 34 2 v n (prs xs)) (hn : n = xs.length) : KeysIn w v n := by
  rcases h.2 with ⟨rfl, h0⟩ | ⟨g, cap, cur, rfl, _⟩
  · exact ⟨none, 0, by rw [h0], fun i hi => by omega⟩
  · have hp := pairs_of_row h
    refine ⟨_, cap, rfl, fun i hi => ⟨g, rfl, ⟨(xs[i]'(by omega)).1, ?_⟩, hp.fz _⟩⟩
    have := (hp.pairs i (xs[i]'(by omega)) (List.getElem?_eq_getElem _)).1
    rwa [Nat.zero_add] at this
theorem below_set {w wr : World} {g o : Nat} {x : Value} (h : Below w.heap.size w wr) (hg : w.heap.size ≤ g) : Below w.heap.size w (wr.setCell ⟨g, o, none⟩ x) :=
  h.trans ⟨rfl, rfl, rfl, by simp [World.setCell], fun k hk => Below.heap_setCell _ _ _ _ (by simp only; omega)⟩

set_option maxRecDepth 100000 in
set_option maxHeartbeats 3200000 in
theorem Scans_any (vks : Value) (ks : List Dk) (w : World) (hks : DosIn w vks ks) (ka kb : ByteArray) (m : Int) (hm : -9223372036854775808 ≤ m ∧ m ≤ 9223372036854775807) : Calls Try.prog 6 #[vks, .string ka, .string kb, .int .i64 m] w (Yes w) := by
  obtain ⟨aks, cks, rfl, haks⟩ := hks
  have hDks : DosIn w (.slice aks ks.length cks) ks := ⟨aks, cks, rfl, haks⟩
  have hA := below_alloc w (Obj.cells #[.slice aks ks.length cks] 22)
  have hL : ListsIn (w.alloc (Obj.cells #[.slice aks ks.length cks] 22)) (.slice (some ⟨w.heap.size, 0, none⟩) 1 1) [ks] := by
    refine ⟨_, 0, 1, rfl, fun i l hl => ?_⟩
    match i, hl with
    | 0, hl =>
      obtain rfl : ks = l := by simpa using hl
      exact ⟨_, by rw [World.cell?_alloc_at _ _ _ _ rfl]; rfl, hDks.later hA⟩
  have HDks := Lib.hid hDks
  clear haks hDks
  have hkka : (0 : Int) ≤ ((ka.size : Nat) : Int) := by omega
  have hkkb : (0 : Int) ≤ ((kb.size : Nat) : Int) := by omega
  go_enter Try.func6, Try.ntmps6
  go_wp2_with fail
  go_fit (short_any hL (by simp))
  rintro e w1 ⟨sb, rfl, hs, hb1⟩
  have HB1 := Lib.hid (hA.trans (hb1.mono hA.size))
  have Hs := Lib.hid hs
  clear hA hL hb1 hs
  cases sb with
  | false =>
    go_wp2_with fail
    go_fit (awake_any w1)
    rintro e w2 ⟨rfl, hb2⟩
    have HB2 := Lib.hid (HB1.out.trans (hb2.mono HB1.out.size))
    clear hb2
    go_wp2_with fail
    go_ret
    exact ⟨rfl, HB2.out⟩
  | true =>
    have hlenks : ks.length ≤ 300 := (Hs.out rfl).1 ks (by simp)
    by_cases hbig : (16384 : Int) < ((ka.size : Nat) : Int)
    · go_wp2_with fail
      go_fit (awake_any w1)
      rintro e w2 ⟨rfl, hb2⟩
      have HB2 := Lib.hid (HB1.out.trans (hb2.mono HB1.out.size))
      clear hb2
      go_wp2_with fail
      go_ret
      exact ⟨rfl, HB2.out⟩
    have hsm : ((ka.size : Nat) : Int) ≤ 16384 := by omega
    clear hbig
    by_cases hbig : (16384 : Int) < ((kb.size : Nat) : Int)
    · go_wp2_with fail
      go_fit (awake_any w1)
      rintro e w2 ⟨rfl, hb2⟩
      have HB2 := Lib.hid (HB1.out.trans (hb2.mono HB1.out.size))
      clear hb2
      go_wp2_with fail
      go_ret
      exact ⟨rfl, HB2.out⟩
    have hsm2 : ((kb.size : Nat) : Int) ≤ 16384 := by omega
    clear hbig
    have HEks := Lib.hid (HDks.out.later HB1.out)
    have HBB := HB1
    clear Hs HDks
    go_wp2_with fail
    go_fit (made_any HEks.out hlenks)
    rintro e w2 ⟨y, u, s, rfl, hst⟩
    have HST := Lib.hid (hst.more hlenks)
    clear hst HEks
    go_wp2_with fail
    go_fit (Scan_any ka kb m HST.out.tree (HST.out.good.more' (by omega)))
    rintro e w3 ⟨v3, rfl, hown, hg, hnew⟩
    have HLn : Hid ((scn s.list ka kb m.toNat).length ≤ 300) := by
      show _ ≤ _
      have h1 := HST.out.length
      have h2 := scn_length s.list ka kb m.toNat
      omega
    have HSc := Lib.hid (RScan_any ka kb m (HST.out.later (grown_below hg)).list (by have := HST.out.length; omega))
    generalize scn s.list ka kb m.toNat = xs at *
    have HS3 := Lib.hid (HST.out.later (grown_below hg))
    have HP3 := Lib.hid (pairs_row hown rfl)
    have HK3 := Lib.hid (keys_row hown rfl)
    have HN3 : Hid (∀ g, v3.ownBlock = some g → w2.heap.size ≤ g) := by
      intro g hg'
      rcases hnew with e | e
      · rw [e] at hg'; cases hg'
      · exact e g hg'
    have HG3 := Lib.hid (grown_below hg)
    clear hown hg hnew
    go_wp2_with fail
    go_fit HSc.out
    rintro e w4 ⟨u4, rfl, hp4, hb⟩
    have HP4 := Lib.hid hp4
    have HG3 := Lib.hid (HG3.out.trans (hb.mono HG3.out.size))
    have HP3 := Lib.hid (HP3.out.later hb)
    have HK3 := Lib.hid (HK3.out.later hb)
    clear hp4 hb HSc HS3
    go_wp2_with fail
    go_fit (Same_true HP3.out HP4.out (by have := HLn.out; omega))
    rintro e w5 ⟨rfl, hb⟩
    have HG3 := Lib.hid (HG3.out.trans (hb.mono HG3.out.size))
    have HK3 := Lib.hid (HK3.out.later hb)
    clear hb HP3 HP4
    have hln := HLn.out
    generalize hn : xs.length = n at *
    clear hn
    obtain ⟨a3, c3, rfl, _⟩ := HK3.out
    go_wp2_with fail
    go_loopw [48] (fun v wr => ∃ i : Nat, v = .int .i64 i ∧ i ≤ n ∧ Hid (KeysIn wr (.slice a3 n c3) n) ∧ Hid (Below w2.heap.size w2 wr))
      (fun v _ => n - (intOf v).toNat)
    case atStart => exact ⟨0, rfl, Nat.zero_le _, HK3, HG3⟩
    case round =>
      obtain ⟨i, rfl, hin, hk, hb⟩ := hrel
      have ei : IntKind.i64.wrap ((i : Int) + 1) = (i : Int) + 1 := IntWalk.i64_in _ (by omega)
      by_cases hlt : i < n
      · obtain ⟨a', c', hv, hkk⟩ := hk.out
        simp only [Value.slice.injEq] at hv
        obtain ⟨rfl, _, rfl⟩ := hv
        obtain ⟨g, rfl, ⟨x, hx⟩, hf⟩ := hkk i hlt
        have hx' : wr.cell? ⟨g, 0 + i * 2, none⟩ = some (.string x) := by rw [Nat.zero_add]; exact hx
        have hf' : wr.frozen? ⟨g, 0 + i * 2, none⟩ = false := by rw [Nat.zero_add]; exact hf
        have HK4 := Lib.hid (hk.out.set i ⟨#[63]⟩)
        have HB4 := Lib.hid (below_set (o := i * 2) (x := .string ⟨#[63]⟩) hb.out (HN3.out g rfl))
        have hI1 : (i : Int) < ((n : Nat) : Int) := by omega
        have hI2 : (0 : Int) ≤ (i : Int) := by omega
        clear hkk hk hb
        go_wp2_with fail
        exact ⟨⟨i + 1, by simp, hlt, HK4, HB4⟩, by show n - ((i : Int) + 1).toNat < n - ((i : Int)).toNat; omega⟩
      · obtain rfl : i = n := by omega
        have HST := Lib.hid (HST.out.later hb.out)
        have HTL := Lib.hid HST.out.tl
        clear hk hb
        go_wp2_with fail
        go_fit (All_tl HTL.out (by omega))
        rintro e wa1 ⟨ua1, rfl, hpa, hb⟩
        have HST := Lib.hid (HST.out.later hb)
        have HTL := Lib.hid (HTL.out.later hb)
        have HPA := Lib.hid hpa
        clear hpa hb
        go_wp2_with fail
        go_fit (Same_true HPA.out HST.out.list (by have := HTL.out.length; omega))
        rintro e ws1 ⟨rfl, hb⟩
        have HST := Lib.hid (HST.out.later hb)
        have HTL := Lib.hid (HTL.out.later hb)
        clear hb HPA
        go_wp2_with fail
        have HB5 := Lib.hid (HBB.out.trans (HST.out.below.mono HBB.out.size))
        go_fit (awake_any _)
        rintro e wz ⟨rfl, hbz⟩
        have HZ := Lib.hid (HB5.out.trans (hbz.mono HB5.out.size))
        clear hbz
        go_wp2_with fail
        go_ret
        exact ⟨rfl, HZ.out⟩
end Go.Proofs.Ythbjociddcddiaa
