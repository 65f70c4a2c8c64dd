/-
  May calls be gone through; what a disk tells; whether two tell the same.
-/
import Derived.Test.YtlfknldgfeicmaaG13
import Derived.Laws.ResultCell
namespace Go.Proofs.Ytlfknldgfeicmaa
set_option linter.unusedVariables false
set_option linter.unusedSimpArgs false
open Go.RowKit
variable {w : World} {B b : Nat} {L : List Nat} {d : Ds}

def kw (k : Kd) : Nat := min k.b.length 32769
def kws (ks : List Kd) : Nat := (ks.map kw).sum
theorem kws_step {ks : List Kd} {i : Nat} {k : Kd} (h : ks[i]? = some k) : kws (ks.take (i + 1)) = kws (ks.take i) + kw k := by
  rw [List.take_add_one, h]; simp [kws]
theorem kws_mem : ∀ {ks : List Kd} {k : Kd}, k ∈ ks → kw k ≤ kws ks
  | x :: ks, k, h => by
    simp only [kws, List.map_cons, List.sum_cons]
    rcases List.mem_cons.1 h with rfl | h
    · omega
    · have := kws_mem h; simp only [kws] at this; omega
/-- What short tells. -/
def Shorts (ks : List Kd) (w : World) (e : Ending) (w' : World) : Prop := ∃ b : Bool, e = .returned (.bool b) ∧ (b = true → ks.length ≤ 200 ∧ ∀ k ∈ ks, k.b.length ≤ 32768) ∧ w = w'
theorem shorts_no (ks : List Kd) (w : World) : Shorts ks w (.returned (.bool false)) w := ⟨false, rfl, (fun h => by cases h), rfl⟩

set_option maxRecDepth 100000 in
set_option maxHeartbeats 3200000 in
theorem short_any {v : Value} {ks : List Kd} (hv : KdsIn w v ks) : Calls Try.prog 14 #[v] w (Shorts ks w) := by
  obtain ⟨a, c, rfl, ha⟩ := hv
  have HD := Lib.hid ha
  clear ha
  go_enter Try.func14, Try.ntmps14
  go_wp2_with fail
  go_loopw [3, 4] (fun u v wr => ∃ (i n : Nat), u = .int .i64 n ∧ v = .int .i64 i ∧ i ≤ ks.length ∧ i ≤ 201 ∧ n ≤ 65537 ∧ Hid (n = kws (ks.take i)) ∧ w = wr)
    (fun _ v _ => ks.length - (intOf v).toNat)
  case atStart => exact ⟨0, 0, rfl, rfl, Nat.zero_le _, by omega, by omega, rfl, by trivial⟩
  case round =>
    obtain ⟨i, n, rfl, rfl, hin, hi2, hn, hw, rfl⟩ := hrel
    have ei : IntKind.i64.wrap ((i : Int) + 1) = (i : Int) + 1 := IntWalk.i64_in _ (by omega)
    by_cases hlt : i < ks.length
    · by_cases hi3 : i ≤ 200
      · by_cases hn2 : n ≤ 32768
        · obtain ⟨k, hk1⟩ : ∃ k, ks[i]? = some k := ⟨ks[i], List.getElem?_eq_getElem hlt⟩
          obtain ⟨g2, off2, rfl, hat⟩ := HD.out.resolve_left (fun e => by rw [e] at hk1; simp at hk1)
          obtain ⟨_, _, _, _, x, k4, hx⟩ := hat i k hk1
          obtain ⟨xa, xc, rfl, _, _⟩ := hx.slice
          have hI1 : (i : Int) < ((ks.length : Nat) : Int) := by omega
          have hI2 : (0 : Int) ≤ (i : Int) := by omega
          have hI3 : (i : Int) ≤ 200 := by omega
          have hI4 : (n : Int) ≤ 32768 := by omega
          have hkw : kw k ≤ 32769 := by unfold kw; omega
          have e2 : IntKind.i64.wrap ((n : Int) + min (k.b.length : Int) 32769) = (n : Int) + min (k.b.length : Int) 32769 := IntWalk.i64_in _ (by omega)
          have HK1 := Lib.hid hk1
          clear hat hk1 hx hi3 hn2
          go_wp2_with fail
          refine ⟨⟨i + 1, n + kw k, by simp only [kw]; congr 1; omega, by simp, hlt, by omega, by omega, ?_, by trivial⟩, by show ks.length - ((i : Int) + 1).toNat < ks.length - ((i : Int)).toNat; omega⟩
          show _ = _
          rw [kws_step HK1.out, hw.out]
        · have hI1 : (i : Int) < ((ks.length : Nat) : Int) := by omega
          have hI3 : (i : Int) ≤ 200 := by omega
          have hI4 : ¬ (n : Int) ≤ 32768 := by omega
          by_cases hlen2 : ks.length ≤ 200
          · have hI5 : ((ks.length : Nat) : Int) ≤ 200 := by omega
            go_wp2_with fail
            go_ret
            exact shorts_no ks _
          · have hI5 : ¬ ((ks.length : Nat) : Int) ≤ 200 := by omega
            go_wp2_with fail
            go_ret
            exact shorts_no ks _
      · have hI1 : (i : Int) < ((ks.length : Nat) : Int) := by omega
        have hI3 : ¬ (i : Int) ≤ 200 := by omega
        have hI5 : ¬ ((ks.length : Nat) : Int) ≤ 200 := by omega
        go_wp2_with fail
        go_ret
        exact shorts_no ks _
    · obtain rfl : i = ks.length := by omega
      by_cases hlen2 : ks.length ≤ 200
      · have hI5 : ((ks.length : Nat) : Int) ≤ 200 := by omega
        by_cases hn2 : n ≤ 32768
        · have hI4 : (n : Int) ≤ 32768 := by omega
          have HW := Lib.hid (show ∀ k ∈ ks, k.b.length ≤ 32768 from fun k hk => by
            have h1 := hw.out
            rw [List.take_length] at h1
            have h2 := kws_mem hk
            unfold kw at h2
            omega)
          go_wp2_with fail
          go_ret
          exact ⟨true, rfl, fun _ => ⟨hlen2, HW.out⟩, rfl⟩
        · have hI4 : ¬ (n : Int) ≤ 32768 := by omega
          go_wp2_with fail
          go_ret
          exact shorts_no ks _
      · have hI5 : ¬ ((ks.length : Nat) : Int) ≤ 200 := by omega
        go_wp2_with fail
        go_ret
        exact shorts_no ks _

/-- What a disk tells. -/
def Ds.face (d : Ds) : Fc := if d.on = true then d.told else ⟨[], [], []⟩
def Faced (L : List Nat) (d : Ds) (w : World) (e : Ending) (w' : World) : Prop :=
  ∃ a0 c0 a1 c1 a2 c2, e = .returned (.tuple #[.agg #[.slice a0 d.face.s0.length c0, .slice a1 d.face.s1.length c1, .slice a2 d.face.tp.length c2], .bool d.on]) ∧
    Byt w' L (.slice a0 d.face.s0.length c0) d.face.s0 ∧ Byt w' L (.slice a1 d.face.s1.length c1) d.face.s1 ∧ Byt w' L (.slice a2 d.face.tp.length c2) d.face.tp ∧ Below w.heap.size w w'

set_option maxRecDepth 100000 in
set_option maxHeartbeats 3200000 in
theorem face_any (h : Dk w B b L d) : Calls Try.prog 36 #[.pointer (some ⟨b, 0, none⟩)] w (Faced L d w) := by
  have HB0 : Hid (Below w.heap.size w (w.alloc (.cells #[.slice none 0 0, .slice none 0 0, .slice none 0 0] 50))) := (Below.refl _ _).alloc (Nat.le_refl _) _
  have HDC : Hid (DC (w.alloc (.cells #[.slice none 0 0, .slice none 0 0, .slice none 0 0] 50)) w.heap.size [.slice none 0 0, .slice none 0 0, .slice none 0 0]) := DC.alloc w [.slice none 0 0, .slice none 0 0, .slice none 0 0] _
  have HC : Hid ((w.alloc (.cells #[.slice none 0 0, .slice none 0 0, .slice none 0 0] 50)).cell? ⟨w.heap.size, 0, none⟩ = some (.slice none 0 0)) := HDC.out.cells 0 _ rfl
  have HZ : Hid ((w.alloc (.cells #[.slice none 0 0, .slice none 0 0, .slice none 0 0] 50)).frozen? ⟨w.heap.size, 0, none⟩ = false) := HDC.out.fz 0
  have HD := Lib.hid (h.below HB0.out)
  have HLL : Hid (∀ k ∈ w.heap.size :: L, k < (w.alloc (.cells #[.slice none 0 0, .slice none 0 0, .slice none 0 0] 50)).heap.size) := fun k hk => by
    rcases List.mem_cons.1 hk with rfl | hk
    · simp
    · have := h.llt k hk; simp; omega
  clear h
  cases hon : d.on
  · have HF : Hid (d.face = ⟨[], [], []⟩) := by show _ = _; unfold Ds.face; rw [if_neg (by rw [hon]; simp)]
    have E0 : d.look 0 = (([] : List Int), 30) := by unfold Ds.look; rw [if_pos hon]
    have E1 : d.look 1 = (([] : List Int), 30) := by unfold Ds.look; rw [if_pos hon]
    have E2 : d.tape = (([] : List Int), 30) := by unfold Ds.tape; rw [if_pos hon]
    have HO := Lib.hid hon
    clear hon
    have h0 := Look_any 0 HD.out
    rw [E0] at h0
    have H0 := Lib.hid h0
    clear h0
    go_enter Try.func36, Try.ntmps36
    go_wp2_with fail
    go_fit H0.out
    rintro e w1 ⟨v0, rfl, ho0, hb1⟩
    have hy0 := Copied.byt ho0 HLL.out
    have HLL1 := Lib.hid (fun k hk => Nat.lt_of_lt_of_le (HLL.out k hk) hb1.size)
    obtain ⟨a0, c0, rfl, _, _⟩ := hy0.slice
    have HY0 := Lib.hid hy0
    have HD1 := Lib.hid (HD.out.below hb1)
    have HB1 := Lib.hid (HB0.out.trans (hb1.mono HB0.out.size))
    have g := cell_later hb1 HC.out
    have f := (World.frozen?_of_block (a := ⟨w.heap.size, 0, none⟩) (hb1.block w.heap.size (by simp))).trans HZ.out
    clear ho0 hy0 H0
    have h1 := Look_any 1 HD1.out
    rw [E1] at h1
    have H1 := Lib.hid h1
    clear h1
    go_wp2_with fail
    go_fit H1.out
    rintro e w2 ⟨v1, rfl, ho1, hb2⟩
    have hy1 := Copied.byt ho1 HLL1.out
    have HLL2 := Lib.hid (fun k hk => Nat.lt_of_lt_of_le (HLL1.out k hk) hb2.size)
    obtain ⟨a1, c1, rfl, _, _⟩ := hy1.slice
    have HY1 := Lib.hid hy1
    have HY0 := Lib.hid (HY0.out.below hb2)
    have HD2 := Lib.hid (HD1.out.below hb2)
    have HB2 := Lib.hid (HB1.out.trans (hb2.mono HB1.out.size))
    clear ho1 hy1 H1
    have h2 := Tape_any HD2.out
    rw [E2] at h2
    have H2 := Lib.hid h2
    clear h2
    go_wp2_with fail
    go_fit H2.out
    rintro e w3 ⟨v2, rfl, ho2, hb3⟩
    have hy2 := Copied.byt ho2 HLL2.out
    obtain ⟨a2, c2, rfl, _, _⟩ := hy2.slice
    have hc3 : DC w3 w.heap.size [.slice none 0 0, .slice none 0 0, .slice none 0 0] := HDC.out.below ((hb1.trans (hb2.mono hb1.size)).trans (hb3.mono (hb1.trans (hb2.mono hb1.size)).size))
    have HDC3 := Lib.hid hc3
    have x0 := hc3.cells 0 _ rfl
    have x1 := hc3.cells 1 _ rfl
    have x2 := hc3.cells 2 _ rfl
    have z0 := hc3.fz 0
    have z1 := hc3.fz 1
    have z2 := hc3.fz 2
    have HY2 := Lib.hid hy2
    have HY1 := Lib.hid (HY1.out.below hb3)
    have HY0 := Lib.hid (HY0.out.below hb3)
    have HB3 := Lib.hid (HB2.out.trans (hb3.mono HB2.out.size))
    clear ho2 hy2 H2 hb1 hb2 hb3 hc3 g f E0 E1 E2
    go_wp2_with fail
    (try simp only [Exit.inBlock, Exit.then])
    have hm : w.heap.size ∈ w.heap.size :: L := by simp
    refine bodyPost_ret (v := .tuple #[.agg #[.slice a0 (([] : List Int)).length c0, .slice a1 (([] : List Int)).length c1, .slice a2 (([] : List Int)).length c2], .bool false]) ?_ rfl ⟨a0, c0, a1, c1, a2, c2, by rw [HF.out, HO.out], ?_, ?_, ?_, ?_⟩
    · rw [results_cell_tmp rfl]
      go_simp
    · rw [HF.out]; exact (((HY0.out.put hm).put hm).put hm).sub (fun k hk => by simp [hk])
    · rw [HF.out]; exact (((HY1.out.put hm).put hm).put hm).sub (fun k hk => by simp [hk])
    · rw [HF.out]; exact (((HY2.out.put hm).put hm).put hm).sub (fun k hk => by simp [hk])
    · exact HB3.out.trans (((below_put (Nat.le_refl _)).trans (below_put (Nat.le_refl _))).trans (below_put (Nat.le_refl _)))
  · have HF : Hid (d.face = d.told) := by show _ = _; unfold Ds.face; rw [if_pos hon]
    have E0 : d.look 0 = (d.told.s0, 0) := by unfold Ds.look; rw [if_neg (by rw [hon]; simp)]; rw [if_neg (by omega)]; first | rfl | (simp)
    have E1 : d.look 1 = (d.told.s1, 0) := by unfold Ds.look; rw [if_neg (by rw [hon]; simp)]; rw [if_neg (by omega)]; first | rfl | (simp)
    have E2 : d.tape = (d.told.tp, 0) := by unfold Ds.tape; rw [if_neg (by rw [hon]; simp)]
    have HO := Lib.hid hon
    clear hon
    have h0 := Look_any 0 HD.out
    rw [E0] at h0
    have H0 := Lib.hid h0
    clear h0
    go_enter Try.func36, Try.ntmps36
    go_wp2_with fail
    go_fit H0.out
    rintro e w1 ⟨v0, rfl, ho0, hb1⟩
    have hy0 := Copied.byt ho0 HLL.out
    have HLL1 := Lib.hid (fun k hk => Nat.lt_of_lt_of_le (HLL.out k hk) hb1.size)
    obtain ⟨a0, c0, rfl, _, _⟩ := hy0.slice
    have HY0 := Lib.hid hy0
    have HD1 := Lib.hid (HD.out.below hb1)
    have HB1 := Lib.hid (HB0.out.trans (hb1.mono HB0.out.size))
    have g := cell_later hb1 HC.out
    have f := (World.frozen?_of_block (a := ⟨w.heap.size, 0, none⟩) (hb1.block w.heap.size (by simp))).trans HZ.out
    clear ho0 hy0 H0
    have h1 := Look_any 1 HD1.out
    rw [E1] at h1
    have H1 := Lib.hid h1
    clear h1
    go_wp2_with fail
    go_fit H1.out
    rintro e w2 ⟨v1, rfl, ho1, hb2⟩
    have hy1 := Copied.byt ho1 HLL1.out
    have HLL2 := Lib.hid (fun k hk => Nat.lt_of_lt_of_le (HLL1.out k hk) hb2.size)
    obtain ⟨a1, c1, rfl, _, _⟩ := hy1.slice
    have HY1 := Lib.hid hy1
    have HY0 := Lib.hid (HY0.out.below hb2)
    have HD2 := Lib.hid (HD1.out.below hb2)
    have HB2 := Lib.hid (HB1.out.trans (hb2.mono HB1.out.size))
    clear ho1 hy1 H1
    have h2 := Tape_any HD2.out
    rw [E2] at h2
    have H2 := Lib.hid h2
    clear h2
    go_wp2_with fail
    go_fit H2.out
    rintro e w3 ⟨v2, rfl, ho2, hb3⟩
    have hy2 := Copied.byt ho2 HLL2.out
    obtain ⟨a2, c2, rfl, _, _⟩ := hy2.slice
    have hc3 : DC w3 w.heap.size [.slice none 0 0, .slice none 0 0, .slice none 0 0] := HDC.out.below ((hb1.trans (hb2.mono hb1.size)).trans (hb3.mono (hb1.trans (hb2.mono hb1.size)).size))
    have HDC3 := Lib.hid hc3
    have x0 := hc3.cells 0 _ rfl
    have x1 := hc3.cells 1 _ rfl
    have x2 := hc3.cells 2 _ rfl
    have z0 := hc3.fz 0
    have z1 := hc3.fz 1
    have z2 := hc3.fz 2
    have HY2 := Lib.hid hy2
    have HY1 := Lib.hid (HY1.out.below hb3)
    have HY0 := Lib.hid (HY0.out.below hb3)
    have HB3 := Lib.hid (HB2.out.trans (hb3.mono HB2.out.size))
    clear ho2 hy2 H2 hb1 hb2 hb3 hc3 g f E0 E1 E2
    go_wp2_with fail
    (try simp only [Exit.inBlock, Exit.then])
    have hm : w.heap.size ∈ w.heap.size :: L := by simp
    refine bodyPost_ret (v := .tuple #[.agg #[.slice a0 (d.told.s0).length c0, .slice a1 (d.told.s1).length c1, .slice a2 (d.told.tp).length c2], .bool true]) ?_ rfl ⟨a0, c0, a1, c1, a2, c2, by rw [HF.out, HO.out], ?_, ?_, ?_, ?_⟩
    · rw [results_cell_tmp rfl]
      go_simp
    · rw [HF.out]; exact (((HY0.out.put hm).put hm).put hm).sub (fun k hk => by simp [hk])
    · rw [HF.out]; exact (((HY1.out.put hm).put hm).put hm).sub (fun k hk => by simp [hk])
    · rw [HF.out]; exact (((HY2.out.put hm).put hm).put hm).sub (fun k hk => by simp [hk])
    · exact HB3.out.trans (((below_put (Nat.le_refl _)).trans (below_put (Nat.le_refl _))).trans (below_put (Nat.le_refl _)))
theorem Byt.bytesIn {a : Option Addr} {n c : Nat} {xs : List Int} (h : Byt w L (.slice a n c) xs) : xs.length = n ∧ Lib.BytesIn w a n xs := by
  obtain ⟨a', c', hv, _, _, h⟩ := h
  simp only [Value.slice.injEq] at hv
  obtain ⟨rfl, rfl, rfl⟩ := hv
  refine ⟨rfl, ?_⟩
  rcases h with rfl | ⟨p, rfl, _, _, hr⟩
  · exact Lib.BytesIn.nil _ _ _
  · exact Lib.BytesIn.of_cells (fun i hi => hr.at hi)
theorem equal_byt {L' : List Nat} {a a' : Option Addr} {n m c c' : Nat} {xs ys : List Int} (h : Byt w L (.slice a n c) xs) (h' : Byt w L' (.slice a' m c') ys) (he : xs = ys) :
    Calls Try.prog 29 #[.slice a n c, .slice a' m c'] w fun e w' => e = .returned (.bool true) ∧ w = w' := by
  subst he
  exact (Try.bytes_Equal_all a a' n c m c' xs xs w h.bytesIn.1 h'.bytesIn.1 h.bytesIn.2 h'.bytesIn.2).mono fun e w' ⟨h1, h2⟩ => ⟨by rw [h1]; simp, h2.symm⟩

set_option maxRecDepth 100000 in
set_option maxHeartbeats 3200000 in
theorem same_any {L' : List Nat} {f : Fc} {a0 a1 a2 b0 b1 b2 : Option Addr} {n0 n1 n2 m0 m1 m2 c0 c1 c2 e0 e1 e2 : Nat} (h0 : Byt w L (.slice a0 n0 c0) f.s0) (h1 : Byt w L (.slice a1 n1 c1) f.s1) (h2 : Byt w L (.slice a2 n2 c2) f.tp)
    (k0 : Byt w L' (.slice b0 m0 e0) f.s0) (k1 : Byt w L' (.slice b1 m1 e1) f.s1) (k2 : Byt w L' (.slice b2 m2 e2) f.tp) :
    Calls Try.prog 39 #[.agg #[.slice a0 n0 c0, .slice a1 n1 c1, .slice a2 n2 c2], .agg #[.slice b0 m0 e0, .slice b1 m1 e1, .slice b2 m2 e2]] w (Yes w) := by
  have hb : Below w.heap.size w ((w.alloc (.cells #[.slice a0 n0 c0, .slice a1 n1 c1, .slice a2 n2 c2] 50)).alloc (.cells #[.slice b0 m0 e0, .slice b1 m1 e1, .slice b2 m2 e2] 50)) := ((Below.refl _ _).alloc (Nat.le_refl _) _).alloc (by simp) _
  have HB := Lib.hid hb
  have H0 := Lib.hid (equal_byt (h0.below hb) (k0.below hb) rfl)
  have H1 := Lib.hid (equal_byt (h1.below hb) (k1.below hb) rfl)
  have H2 := Lib.hid (equal_byt (h2.below hb) (k2.below hb) rfl)
  clear hb h0 h1 h2 k0 k1 k2
  go_enter Try.func39, Try.ntmps39
  go_wp2_with fail
  go_fit H0.out
  rintro e w1 ⟨rfl, rfl⟩
  go_wp2_with fail
  go_fit H1.out
  rintro e w1 ⟨rfl, rfl⟩
  go_wp2_with fail
  go_fit H2.out
  rintro e w1 ⟨rfl, rfl⟩
  go_wp2_with fail
  go_ret
  exact ⟨rfl, HB.out⟩
end Go.Proofs.Ytlfknldgfeicmaa
