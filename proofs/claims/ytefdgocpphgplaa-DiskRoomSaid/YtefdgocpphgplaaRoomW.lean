/-
  DiskRoom: the walk. (Written by gendl.py.)
-/
import Derived.Test.YtefdgocpphgplaaG16
namespace Go.Proofs.Ytefdgocpphgplaa
set_option linter.unusedVariables false
set_option linter.unusedSimpArgs false
open Go.RowKit

theorem u64_room (room : Int) : ∃ r : Int, IntKind.i64.wrap (1 + wrap64 ((IntKind.u64.wrap room).tmod 5000)) = r ∧ 0 < r ∧ r ≤ 5000 := by
  have h0 : 0 ≤ IntKind.u64.wrap room := by
    simp only [IntKind.wrap, IntKind.signed, IntKind.bits]
    simp
    omega
  have h1 : 0 ≤ (IntKind.u64.wrap room).tmod 5000 := Int.tmod_nonneg _ h0
  have h2 : (IntKind.u64.wrap room).tmod 5000 < 5000 := Int.tmod_lt_of_pos _ (by omega)
  generalize (IntKind.u64.wrap room).tmod 5000 = q at *
  rw [IntWalk.wrap64_in q (by omega), IntWalk.i64_in _ (by omega)]
  exact ⟨_, rfl, by omega, by omega⟩
def FacedAt (L : List Nat) (f : Fc) (o : Bool) (w : World) (e : Ending) (w' : World) : Prop :=
  ∃ a0 c0 a1 c1 a2 c2, e = .returned (.tuple #[.agg #[.slice a0 f.s0.length c0, .slice a1 f.s1.length c1, .slice a2 f.tp.length c2], .bool o]) ∧
    Byt w' L (.slice a0 f.s0.length c0) f.s0 ∧ Byt w' L (.slice a1 f.s1.length c1) f.s1 ∧ Byt w' L (.slice a2 f.tp.length c2) f.tp ∧ Below w.heap.size w w'

set_option maxRecDepth 100000 in
set_option maxHeartbeats 6400000 in
theorem Room_any {w : World} (room : Int) (hroom : -9223372036854775808 ≤ room ∧ room ≤ 9223372036854775807) (v : Value) (ks : List Kd) (hks : KdsIn w v ks) (hki : ∀ k ∈ ks, k.i ≤ 9223372036854775807) :
    Calls Try.prog 7 #[.int .i64 room, v] w (Yes w) := by
  have HK := Lib.hid hks
  have HKi := Lib.hid hki
  clear hks hki hroom
  go_enter Try.func7, Try.ntmps7
  go_wp2_with fail
  go_fit (short_any HK.out)
  rintro e w1 ⟨sb, rfl, hsb, rfl⟩
  cases sb
  · clear hsb
    go_wp2_with fail
    go_fit (awake_any _)
    rintro e w2 ⟨rfl, hb⟩
    have HB := Lib.hid hb
    clear hb
    go_wp2_with fail
    go_ret
    exact ⟨rfl, HB.out⟩
  · obtain ⟨hl1, hl2⟩ := hsb rfl
    have HL1 := Lib.hid hl1
    have HL2 := Lib.hid hl2
    clear hsb hl1 hl2
    obtain ⟨r, hr, hr1, hr2⟩ := u64_room room
    have HR := Lib.hid (show 0 < r ∧ r ≤ 16777216 by omega)
    go_wp2_with fail
    go_fit (New_room r HR.out w)
    rintro e w2 ⟨rfl, hd, hb2⟩
    have HS0 : Hid (Sk w w2 w.heap.size [w.heap.size] (dos (Ds.new r) (ks.take 0)) 0) := ⟨hd, Ds.new_few r, hb2⟩
    clear hd hb2 hr hr1 hr2
    obtain ⟨a, c, rfl, ha⟩ := HK.out
    have HD := Lib.hid ha
    clear ha HK
    go_wp2_with fail
    go_loopw [30] (fun v wr => ∃ (i : Nat) (L : List Nat), v = .int .i64 i ∧ i ≤ ks.length ∧ Hid (Sk w wr w.heap.size L (dos (Ds.new r) (ks.take i)) i))
      (fun v _ => ks.length - (intOf v).toNat)
    case atStart => exact ⟨0, _, rfl, Nat.zero_le _, HS0⟩
    case round =>
      obtain ⟨i, L, rfl, hin, hst⟩ := hrel
      have ei : IntKind.i64.wrap ((i : Int) + 1) = (i : Int) + 1 := IntWalk.i64_in _ (by have := HL1.out; omega)
      by_cases hlt : i < ks.length
      · obtain ⟨k, hk1⟩ : ∃ k, ks[i]? = some k := ⟨ks[i], List.getElem?_eq_getElem hlt⟩
        obtain ⟨g2, off2, rfl, hat⟩ := HD.out.resolve_left (fun e => by rw [e] at hk1; simp at hk1)
        obtain ⟨k0, k1, k2, k3, x, k4, hx⟩ := hat i k hk1
        have k0 := cell_later hst.out.below k0
        have k1 := cell_later hst.out.below k1
        have k2 := cell_later hst.out.below k2
        have k3 := cell_later hst.out.below k3
        have k4 := cell_later hst.out.below k4
        have hx := hx.below hst.out.below
        obtain ⟨xa, xc, rfl, _, _⟩ := hx.slice
        have hI1 : (i : Int) < ((ks.length : Nat) : Int) := by omega
        have hI2 : (0 : Int) ≤ (i : Int) := by omega
        have hba := below_alloc wr (Obj.cells #[Value.int .i64 k.op, .int .i64 k.i, .int .i64 k.keep, .int .i64 k.tear, .slice xa k.b.length xc] 34)
        have HSA := Lib.hid (hst.out.later hba)
        have hbx : Bx (wr.alloc (.cells #[Value.int .i64 k.op, .int .i64 k.i, .int .i64 k.keep, .int .i64 k.tear, .slice xa k.b.length xc] 34)) L wr.heap.size [Value.int .i64 k.op, .int .i64 k.i, .int .i64 k.keep, .int .i64 k.tear, .slice xa k.b.length xc] := Bx.new wr hst.out.disk.llt [Value.int .i64 k.op, .int .i64 k.i, .int .i64 k.keep, .int .i64 k.tear, .slice xa k.b.length xc] _
        have HKX := Lib.hid hbx
        have HX := Lib.hid (hx.below hba)
        have HKo := Lib.hid (⟨by have := HL2.out k (List.mem_of_getElem? hk1); omega, HKi.out k (List.mem_of_getElem? hk1)⟩ : k.Ok)
        have HK1 := Lib.hid hk1
        have HRoom : Hid ((dos (Ds.new r) (ks.take i)).room = r) := dos_room (ks.take i) (Ds.new r)
        have HStep : Hid (dos (Ds.new r) (ks.take (i + 1)) = ((dos (Ds.new r) (ks.take i)).does k.op k.i k.keep k.tear k.b).2) := dos_step hk1 (Ds.new r)
        generalize hdd : dos (Ds.new r) (ks.take i) = d at HSA HRoom HStep
        clear hat hk1 hst hx hba hbx hdd
        have HI : Hid (i ≤ 200) := by show _ ≤ _; have := HL1.out; omega
        generalize hff : d.face = f
        generalize hoo : d.on = o
        have HFO := Lib.hid (show d.face = f ∧ d.on = o from ⟨hff, hoo⟩)
        have HF : Hid (Calls Try.prog 36 #[.pointer (some ⟨w.heap.size, 0, none⟩)] (wr.alloc (Obj.cells #[Value.int .i64 k.op, .int .i64 k.i, .int .i64 k.keep, .int .i64 k.tear, .slice xa k.b.length xc] 34)) (FacedAt L f o (wr.alloc (Obj.cells #[Value.int .i64 k.op, .int .i64 k.i, .int .i64 k.keep, .int .i64 k.tear, .slice xa k.b.length xc] 34)))) := by
          show Calls _ _ _ _ _
          subst hff hoo
          exact face_any HSA.out.disk
        clear hff hoo
        go_wp2_with fail
        go_fit HF.out
        rintro e w3 ⟨pa0, pc0, pa1, pc1, pa2, pc2, rfl, hy0, hy1, hy2, hb⟩
        have hba := below_alloc w3 (.cells #[.slice pa0 f.s0.length pc0, .slice pa1 f.s1.length pc1, .slice pa2 f.tp.length pc2] 50)
        have hbb := hb.trans (hba.mono hb.size)
        have HS3 := Lib.hid (HSA.out.later hbb)
        have hbx : Bx (w3.alloc (.cells #[.slice pa0 f.s0.length pc0, .slice pa1 f.s1.length pc1, .slice pa2 f.tp.length pc2] 50)) L w3.heap.size [.slice pa0 f.s0.length pc0, .slice pa1 f.s1.length pc1, .slice pa2 f.tp.length pc2] := Bx.new w3 (HSA.out.disk.below hb).llt [.slice pa0 f.s0.length pc0, .slice pa1 f.s1.length pc1, .slice pa2 f.tp.length pc2] _
        have pX := Lib.hid hbx
        have pY0 := Lib.hid (hy0.below hba)
        have pY1 := Lib.hid (hy1.below hba)
        have pY2 := Lib.hid (hy2.below hba)
        replace HKX := Lib.hid (HKX.out.below hbb)
        replace HX := Lib.hid (HX.out.below hbb)
        have j0 := HKX.out.1.cells 0 _ rfl
        have j1 := HKX.out.1.cells 1 _ rfl
        have j2 := HKX.out.1.cells 2 _ rfl
        have j3 := HKX.out.1.cells 3 _ rfl
        have j4 := HKX.out.1.cells 4 _ rfl
        clear hba hbb hbx hb hy0 hy1 hy2 HF HSA k0 k1 k2 k3 k4
        by_cases he7 : (d.does k.op k.i k.keep k.tear k.b).1 = 7
        · have HE : Hid ((d.does k.op k.i k.keep k.tear k.b).2 = d) := Ds.does_full d _ _ _ _ _ he7
          have hc := does_any k.op k.i k.keep k.tear HS3.out.disk HX.out HKo.out.1 (HS3.out.few.more (by have := HI.out; omega))
          rw [he7, HE.out] at hc
          have HC := Lib.hid hc
          clear hc
          go_wp2_with fail
          go_fit HC.out
          rintro e w4 ⟨L4, rfl, hd, he⟩
          have HS4 : Hid (Sk w w4 w.heap.size L4 d (i + 1)) := HS3.out.ext hd he (HS3.out.few.more (by omega))
          replace pX := Lib.hid (pX.out.ext he)
          replace pY0 := Lib.hid (pY0.out.ext he)
          replace pY1 := Lib.hid (pY1.out.ext he)
          replace pY2 := Lib.hid (pY2.out.ext he)
          clear hd he HC HS3 j0 j1 j2 j3 j4 HKX HX
          have HF : Hid (Calls Try.prog 36 #[.pointer (some ⟨w.heap.size, 0, none⟩)] w4 (FacedAt L4 f o w4)) := by
            have h := face_any HS4.out.disk
            unfold Faced at h
            rw [HFO.out.1, HFO.out.2] at h
            exact h
          go_wp2_with fail
          go_fit HF.out
          rintro e w5 ⟨qa0, qc0, qa1, qc1, qa2, qc2, rfl, hy0, hy1, hy2, hb⟩
          have hba := below_alloc w5 (.cells #[.slice qa0 f.s0.length qc0, .slice qa1 f.s1.length qc1, .slice qa2 f.tp.length qc2] 50)
          have hbb := hb.trans (hba.mono hb.size)
          have HS5 := Lib.hid (HS4.out.later hbb)
          replace pX := Lib.hid (pX.out.below hbb)
          replace pY0 := Lib.hid (pY0.out.below hbb)
          replace pY1 := Lib.hid (pY1.out.below hbb)
          replace pY2 := Lib.hid (pY2.out.below hbb)
          have qX := Lib.hid (DC.alloc w5 [.slice qa0 f.s0.length qc0, .slice qa1 f.s1.length qc1, .slice qa2 f.tp.length qc2] 50)
          have qY0 := Lib.hid (hy0.below hba)
          have qY1 := Lib.hid (hy1.below hba)
          have qY2 := Lib.hid (hy2.below hba)
          have HU := Lib.hid (Used_any HS5.out.disk)
          have hle : ¬ r < (d.told.size : Int) := by have := HS5.out.disk.size; rw [HRoom.out] at this; omega
          clear hba hbb hb hy0 hy1 hy2 HF HS4
          go_wp2_with fail
          go_fit HU.out
          rintro e w6 ⟨rfl, hb⟩
          have HS6 := Lib.hid (HS5.out.later hb)
          have x0 := (pX.out.below hb).1.cells 0 _ rfl
          have x1 := (pX.out.below hb).1.cells 1 _ rfl
          have x2 := (pX.out.below hb).1.cells 2 _ rfl
          have z0 := (qX.out.below hb).cells 0 _ rfl
          have z1 := (qX.out.below hb).cells 1 _ rfl
          have z2 := (qX.out.below hb).cells 2 _ rfl
          have HQ := Lib.hid (same_any (pY0.out.below hb) (pY1.out.below hb) (pY2.out.below hb) (qY0.out.below hb) (qY1.out.below hb) (qY2.out.below hb))
          clear hb HU HS5 pX pY0 pY1 pY2 qX qY0 qY1 qY2
          go_wp2_with fail
          go_fit HQ.out
          rintro e w7 ⟨rfl, hb⟩
          have HS7 : Hid (Sk w w7 w.heap.size L4 (dos (Ds.new r) (ks.take (i + 1))) (i + 1)) := by
            show Sk _ _ _ _ _ _
            rw [HStep.out, HE.out]
            exact HS6.out.later hb
          clear hb HQ HS6 x0 x1 x2 z0 z1 z2
          go_wp2_with fail
          exact ⟨⟨i + 1, L4, by simp, hlt, HS7⟩, by show ks.length - ((i : Int) + 1).toNat < ks.length - ((i : Int)).toNat; omega⟩
        · have HC := Lib.hid (does_any k.op k.i k.keep k.tear HS3.out.disk HX.out HKo.out.1 (HS3.out.few.more (by have := HI.out; omega)))
          have HN := Lib.hid (Ds.does_few HS3.out.few k.op k.i k.keep k.tear k.b HKo.out.2)
          have HR2 : Hid ((d.does k.op k.i k.keep k.tear k.b).2.room = r) := (Ds.does_room d _ _ _ _ _).trans HRoom.out
          generalize (d.does k.op k.i k.keep k.tear k.b).1 = e1 at he7 HC
          generalize (d.does k.op k.i k.keep k.tear k.b).2 = d1 at HC HN HR2 HStep
          go_wp2_with fail
          go_fit HC.out
          rintro e w4 ⟨L4, rfl, hd, he⟩
          have HS4 : Hid (Sk w w4 w.heap.size L4 d1 (i + 1)) := HS3.out.ext hd he HN.out
          clear hd he HC HS3 j0 j1 j2 j3 j4 HKX HX pX pY0 pY1 pY2
          go_wp2_with fail
          go_fit (face_any HS4.out.disk)
          rintro e w5 ⟨qa0, qc0, qa1, qc1, qa2, qc2, rfl, hy0, hy1, hy2, hb⟩
          have hba := below_alloc w5 (.cells #[.slice qa0 d1.face.s0.length qc0, .slice qa1 d1.face.s1.length qc1, .slice qa2 d1.face.tp.length qc2] 50)
          have hbb := hb.trans (hba.mono hb.size)
          have HS5 := Lib.hid (HS4.out.later hbb)
          have HU := Lib.hid (Used_any HS5.out.disk)
          have hle : ¬ r < (d1.told.size : Int) := by have := HS5.out.disk.size; rw [HR2.out] at this; omega
          clear hba hbb hb hy0 hy1 hy2 HS4
          go_wp2_with fail
          go_fit HU.out
          rintro e w6 ⟨rfl, hb⟩
          have HS6 : Hid (Sk w w6 w.heap.size L4 (dos (Ds.new r) (ks.take (i + 1))) (i + 1)) := by
            show Sk _ _ _ _ _ _
            rw [HStep.out]
            exact HS5.out.later hb
          clear hb HU HS5
          go_wp2_with fail
          exact ⟨⟨i + 1, L4, by simp, hlt, HS6⟩, by show ks.length - ((i : Int) + 1).toNat < ks.length - ((i : Int)).toNat; omega⟩
      · obtain rfl : i = ks.length := by omega
        have HB := Lib.hid hst.out.below
        clear hst
        go_wp2_with fail
        go_fit (awake_any _)
        rintro e w2 ⟨rfl, hb⟩
        have HB2 := Lib.hid (HB.out.trans (hb.mono HB.out.size))
        clear hb
        go_wp2_with fail
        go_ret
        exact ⟨rfl, HB2.out⟩
end Go.Proofs.Ytefdgocpphgplaa
