/-
  KvBytes walked. (Written by genkbytes.py.)
-/
import Derived.Test.YtdfjnpnkfjcpcaaKRC
import Derived.Test.YtdfjnpnkfjcpcaaK14
import Derived.Test.YtdfjnpnkfjcpcaaK11
import Derived.Test.YtdfjnpnkfjcpcaaLc
import Derived.Deep.CutRange
import Derived.Shelf.Bytes.SlEqualAll
namespace Go.Proofs.Ytdfjnpnkfjcpcaa
set_option linter.unusedVariables false
set_option linter.unusedSimpArgs false
open Go.RowKit

theorem EqB_any (p : Option Addr) (n c : Nat) (q : Option Addr) (m d : Nat) (xs : List Int) (w : World) (hx : xs.length = n) (hy : xs.length = m) (h1 : Lib.BytesIn w p n xs) (h2 : Lib.BytesIn w q m xs) :
    Calls Try.prog 39 #[.slice p n c, .slice q m d] w fun e w' => e = .returned (.bool true) ∧ w = w' :=
  (Try.bytes_Equal_all p q n c m d xs xs w hx hy h1 h2).mono fun _ _ ⟨h, e⟩ => ⟨by rw [h]; simp, e.symm⟩
def u8L : Lay Int := ⟨fun x => [.int .u8 x], 1, fun _ => rfl, by intro x u hu; simp at hu; subst hu; rfl⟩
theorem u8_all : ∀ l : List Int, u8L.all l = l.map (Value.int .u8)
  | [] => rfl
  | x :: l => by
    have e : u8L.all (x :: l) = u8L.enc x ++ u8L.all l := rfl
    rw [e, u8_all l]; rfl
theorem u8_in {w : World} {p : Option Addr} {n c : Nat} {xs : List Int} (hx : xs.length = n) (hb : Lib.BytesIn w p n xs) (hc : n ≤ c ∧ c ≤ 9223372036854775807) : u8L.In w (.slice p n c) xs := by
  refine ⟨p, c, by rw [hx], by omega, hc.2, ?_⟩
  by_cases hn : n = 0
  · exact .inl (List.eq_nil_of_length_eq_zero (by omega))
  · obtain ⟨b, o, rfl, hcell⟩ := hb (by omega)
    refine .inr ⟨b, o, rfl, World.block_lt_of_cell? w _ (hcell 0 (by omega)), fun i x hi j v hv => ?_⟩
    have hil : i < xs.length := (List.getElem?_eq_some_iff.1 hi).1
    match j, hv with
    | 0, hv =>
      obtain rfl : Value.int .u8 x = v := by simpa [u8L] using hv
      have h := hcell i (by omega)
      have hxi : xs.getD i 0 = x := by rw [List.getD_eq_getElem?_getD, hi]; rfl
      simpa [u8L, hxi, hi] using h
theorem light_of {l : List Kop} (h : wgh l ≤ 32768) : l.length ≤ 32768 ∧ Light l ∧ Small l := by
  obtain ⟨h1, h2⟩ := wghGo_ok l 0 h
  exact ⟨by omega, h2, (wgh_ok h).2⟩
theorem rest_both (xs : List Int) (n : Nat) (most : Int) (hr : ∀ x ∈ xs, 0 ≤ x ∧ x < 256) (hl : xs.length = n) : ∃ (Z i0 : Nat) (e0 : Int) (l : List Kop) (i' : Nat) (e' : Int),
    Wi.RC 72 (fun q => #[q, .int .i64 0, .int .i64 most]) (.int .i64 (Z : Nat)) n xs 0 0 i0 e0 ∧
    Wi.XC 75 (fun q => #[q, .int .i64 0, .int .i64 most]) (.int .i64 (Z : Nat)) n xs 0 0 i0 e0 ∧ Z ≤ 9223372036854775807 ∧ (e0 ≠ 0 → Z = 0) ∧ Rest (OpR n xs) Z i0 e0 l i' e' ∧ Rest (OpX n xs) Z i0 e0 l i' e' ∧ l.length ≤ n + 1 := by
  obtain ⟨Z, i0, e0, h1, h2, h3, h4, h5⟩ := within_step xs n 0 most hr hl (Nat.zero_le _)
  by_cases he : e0 = 0
  · subst he
    obtain ⟨l, i', e', r, x, _, hlen⟩ := reads_both xs n hr hl Z i0 h3
    exact ⟨Z, i0, 0, l, i', e', h1, h2, h4, h5, Rest.of r, Rest.of x, by omega⟩
  · exact ⟨Z, i0, e0, [], i0, e0, h1, h2, h4, h5, .inl ⟨rfl, rfl, rfl, .inr he⟩, .inl ⟨rfl, rfl, rfl, .inr he⟩, by simp⟩
theorem put_pos2 (l : List Kop) : Hid (0 < ([] ++ Wi.num l.length ++ opsB l).length) := by
  show _ < _
  have : 0 < (Wi.num l.length).length := by unfold Wi.num; simp
  simp only [List.length_append, List.length_nil]
  omega
theorem opsB_byte : ∀ l : List Kop, Light l → ∀ x ∈ opsB l, 0 ≤ x ∧ x < 256
  | [], _, x, hx => by simp [opsB] at hx
  | o :: l, h, x, hx => by
    have e : opsB (o :: l) = opB o ++ opsB l := by simp [opsB]
    have ho := h o (by simp)
    rw [e] at hx
    rcases List.mem_append.1 hx with hx | hx
    · unfold opB at hx
      simp only [List.mem_append] at hx
      have hs : ∀ s : ByteArray, x ∈ Wi.sb s → 0 ≤ x ∧ x < 256 := fun s hs => by
        unfold Wi.sb at hs
        obtain ⟨b, _, rfl⟩ := List.mem_map.1 hs
        have := b.toNat_lt
        omega
      rcases hx with (((hx | hx) | hx) | hx) | hx
      · exact Wi.num_byte _ (by omega) x hx
      · exact hs _ hx
      · exact Wi.num_byte _ (by split <;> omega) x hx
      · exact Wi.num_byte _ (by omega) x hx
      · exact hs _ hx
    · exact opsB_byte l (fun y hy => h y (by simp [hy])) x hx
set_option maxRecDepth 100000 in
set_option maxHeartbeats 12800000 in
theorem Bytes_any {w : World} (l : List Kop) {v0 : Value} (h0 : opL.In w v0 l) {p : Option Addr} {n c : Nat} {xs : List Int} (hx : xs.length = n) (hb : Lib.BytesIn w p n xs) (hp : p = none → n = 0 ∧ c = 0) (hc : n ≤ c ∧ c ≤ 9223372036854775807) (hr : ∀ x ∈ xs, 0 ≤ x ∧ x < 256) (hpb : ∀ ad, p = some ad → ad.block < w.heap.size) (most : Int) :
    Calls Try.prog 10 #[v0, .slice p n c, .int .i64 most] w (Yes w) := by
  obtain ⟨a0, c0, rfl, _, _⟩ := h0.slice
  have HK0 := Lib.hid h0
  have HX := Lib.hid hx
  have HBy := Lib.hid hb
  have HP := Lib.hid hp
  have HCa := Lib.hid hc
  have HRg := Lib.hid hr
  have HPb := Lib.hid hpb
  have HW := Lib.hid (weigh_any h0)
  have HLi := Lib.hid (fun h => light_of (l := l) h)
  unfold WghP at HW
  clear h0 hx hb hp hc hr hpb
  generalize wgh l = G at *
  go_enter Try.func10, Try.ntmps10
  go_wp2_with fail
  go_fit HW.out
  rintro e w1 ⟨rfl, hq⟩
  have HB1 : Hid (Below w.heap.size w w1) := by obtain ⟨m, rfl⟩ := hq; exact below_drewN (Below.refl _ _) _
  clear hq HW
  by_cases hG : G ≤ 32768
  rotate_left
  · have gA : (32768 : Int) < ((G : Nat) : Int) := by omega
    go_wp2_with fail
    go_fit (awake_any _)
    rintro e wz ⟨rfl, hbz⟩
    have HZ := Lib.hid (below_of HB1.out hbz)
    clear hbz
    go_wp2_with fail
    go_ret
    exact ⟨rfl, HZ.out⟩
  have gA : ¬ (32768 : Int) < ((G : Nat) : Int) := by omega
  by_cases hn : n ≤ 32768
  rotate_left
  · have gB : (32768 : Int) < ((n : Nat) : Int) := by omega
    go_wp2_with fail
    go_fit (awake_any _)
    rintro e wz ⟨rfl, hbz⟩
    have HZ := Lib.hid (below_of HB1.out hbz)
    clear hbz
    go_wp2_with fail
    go_ret
    exact ⟨rfl, HZ.out⟩
  have gB : ¬ (32768 : Int) < ((n : Nat) : Int) := by omega
  obtain ⟨hl1, hl2, hl3⟩ := HLi.out hG
  have HLt := Lib.hid hl2
  have HSm := Lib.hid hl3
  have HP1 := Lib.hid (KPut_any HX.out (Wi.later HBy.out HB1.out) HP.out (by omega) (HK0.out.later HB1.out) hl2 hl1)
  clear hl2 hl3 HLi hG
  go_wp2_with fail
  go_fit HP1.out
  rintro e w2 ⟨g2, n2, c2, rfl, hown2, hb2⟩
  have HO2 := Lib.hid hown2
  have HB2 := Lib.hid (below_of HB1.out hb2)
  have HP2 := Lib.hid (RPut_any HX.out (Wi.later HBy.out HB2.out) HP.out (by omega) (HK0.out.later HB2.out) HLt.out hl1)
  clear hown2 hb2 HP1
  go_wp2_with fail
  go_fit HP2.out
  rintro e w3 ⟨g3, n3, c3, rfl, hown3, hb3⟩
  have HEq := Lib.hid (EqB_any (some ⟨g2, 0, none⟩) n2 c2 (some ⟨g3, 0, none⟩) n3 c3 _ w3 (Wi.owns_len HO2.out) (Wi.owns_len hown3) (Wi.later (Wi.owns_in HO2.out) hb3) (Wi.owns_in hown3))
  have HB3 := Lib.hid (below_of HB2.out hb3)
  clear hown3 hb3 HP2 HO2
  go_wp2_with fail
  go_fit HEq.out
  rintro e w' ⟨rfl, rfl⟩
  clear HEq
  go_upto_region 6 with fail
  go_cut [37] from 12 to 84 (fun s37 wx => s37 = .bool (decide (l.length < 20) && decide (mayE l = 0)) ∧ Hid (Below w3.heap.size w3 wx))
  case first =>
    as_aux_lemma =>
      have HR := Lib.hid (rRight_any (HK0.out.later HB3.out) HSm.out (by omega))
      unfold MayP at HR
      generalize mayE l = M at *
      by_cases h20 : l.length < 20
      · have gI : ((l.length : Nat) : Int) < 20 := by omega
        go_wp2_with fail
        go_fit HR.out
        rintro e w4 ⟨rfl, hb4⟩
        have HB4 := Lib.hid hb4
        clear hb4 HR
        by_cases hM0 : M = 0
        · subst hM0
          go_wp2_with fail
          go_meet
          exact ⟨by simp [h20], HB4⟩
        · have hm : (M == 0) = false := by simpa using hM0
          go_wp2_with fail
          go_meet
          exact ⟨by simp [h20, hM0], HB4⟩
      · have gI : ¬ ((l.length : Nat) : Int) < 20 := by omega
        go_wp2_with fail
        go_meet
        exact ⟨by simp [h20], Below.refl _ _⟩
  case rest =>
    obtain ⟨rfl, hb4⟩ := hcut
    have HB4 := Lib.hid (below_of HB3.out hb4.out)
    clear hb4 HB3 HB2 HB1
    generalize wc = w4 at *
    generalize hBt : (decide (l.length < 20) && decide (mayE l = 0)) = Bt
    have HBt := Lib.hid hBt
    clear hBt
    go_upto_if 37 with fail
    go_cut [] from 12 to 84 (fun wx => Hid (Below w4.heap.size w4 wx))
    case first =>
      as_aux_lemma =>
        cases Bt with
        | false =>
          go_wp2_with fail
          go_meet
          exact Below.refl _ _
        | true =>
          obtain ⟨h20, hM⟩ : l.length < 20 ∧ mayE l = 0 := by have h := HBt.out; simpa using h
          have HSz := Lib.hid (right_sizes hM)
          have HPn := Lib.hid (KPut_any (p := none) (n := 0) (c := 0) (xs := []) rfl (fun h => absurd h (by omega)) (fun _ => ⟨rfl, rfl⟩) (by omega) (HK0.out.later HB4.out) HLt.out hl1)
          clear HBt hM
          go_wp2_with fail
          go_fit HPn.out
          rintro e w5 ⟨g5, n5, c5, rfl, hown5, hb5⟩
          have e5 := Wi.owns_len hown5
          subst e5
          have hle := opsB_le l HLt.out
          have hnl := Wi.num_le l.length (by omega)
          have HUb : Hid (u8L.In w5 (.slice p n c) xs) := u8_in HX.out (Wi.later HBy.out (below_of HB4.out hb5)) HCa.out
          have HO5 : Hid (w5.ownsRow w4.heap.size 5 u8L.sz (.slice (some ⟨g5, 0, none⟩) ([] ++ Wi.num l.length ++ opsB l).length c5) ([] ++ Wi.num l.length ++ opsB l).length (u8L.all ([] ++ Wi.num l.length ++ opsB l))) := by show World.ownsRow _ _ _ _ _ _ _; rw [u8_all]; exact hown5
          have HLn : Hid (([] ++ Wi.num l.length ++ opsB l).length + xs.length ≤ 1073741825) := by show _ ≤ _; rw [HX.out]; simp only [List.length_append, List.length_nil]; omega
          have HLz : Hid (([] ++ Wi.num l.length ++ opsB l).length + xs.length ≤ 140737488355328) := Nat.le_trans HLn.out (by decide)
          have HB5 := Lib.hid hb5
          have HPos : Hid (0 < ([] ++ Wi.num l.length ++ opsB l).length) := put_pos2 l
          have HRz : Hid (∀ x ∈ ([] ++ Wi.num l.length ++ opsB l) ++ xs, 0 ≤ x ∧ x < 256) := fun x hx => by
            simp only [List.mem_append, List.not_mem_nil, false_or] at hx
            rcases hx with (hx | hx) | hx
            · exact Wi.num_byte _ (by omega) x hx
            · exact opsB_byte l HLt.out x hx
            · exact HRg.out x hx
          clear hown5 hb5 hle hnl HPn
          have HYs : Hid (([] ++ Wi.num l.length ++ opsB l) = Wi.num l.length ++ opsB l) := by show _ = _; simp
          generalize [] ++ Wi.num l.length ++ opsB l = ys at *
          go_wp2_with (at_builtin; go_loud (refine wpList_catI (I := u8L) rfl _ _ 61 5 rfl Try.underlying61 Wi.Try.infoU8 rfl (by decide) (by decide) HO5.out HUb.out HLn.out HB5.out.size rfl rfl ?_; intro v6 w6 hown hgrow; have HO6 := Lib.hid (show w6.ownsRow w4.heap.size 5 1 v6 (ys ++ xs).length ((ys ++ xs).map (Value.int .u8)) from by rw [← u8_all]; exact hown); have HG6 := Lib.hid hgrow; clear hown hgrow))
          obtain ⟨g6, c6, hv6⟩ := Wi.owns_open HO6.out (fun e => by
            rcases HO6.out.2 with ⟨_, h⟩ | ⟨g, cap, cur, h, _⟩
            · rw [List.length_append] at h; have := HPos.out; omega
            · rw [e] at h; simp at h)
          subst hv6
          have HB6 : Hid (Below w4.heap.size w4 w6) := ⟨HG6.out.os.trans HB5.out.os, HG6.out.tape.trans HB5.out.tape, HG6.out.output.trans HB5.out.output, Nat.le_trans HB5.out.size HG6.out.size, fun j hj => (HG6.out.block j (Nat.lt_of_lt_of_le hj HB5.out.size) (fun e => by have := (HO5.out.lt j e.symm).1; omega)).trans (HB5.out.block j hj)⟩
          have HRd := Lib.hid (Wi.Read_any (some ⟨g6, 0, none⟩) (ys ++ xs).length c6 (ys ++ xs) w6 rfl (Wi.owns_in HO6.out) (fun e => by cases e) HRz.out (by rw [List.length_append]; exact HLz.out))
          clear HO5 HG6 HUb
          go_fit HRd.out
          rintro e w7 ⟨rb, rg, rcap, rfl, hrs, hb7, hrb⟩
          have hd0 : (ys ++ xs).drop 0 = Wi.num l.length ++ (opsB l ++ xs) := by rw [List.drop_zero, HYs.out, List.append_assoc]
          have HGt := Lib.hid (Get_walk (most := 20) hrs (within_put rfl hd0 (by omega) (by omega)) (by omega) (Rest.of (reads_put rfl l _ xs (drop_app hd0) HSz.out)) (fun e => absurd rfl e) (by omega))
          have HB7 := Lib.hid (below_of HB6.out hb7)
          have HRb : Hid (w4.heap.size ≤ rb) := Nat.le_trans HB6.out.size hrb
          have HEnd : Hid ((((ys ++ xs).length - (0 + (Wi.num l.length).length + (opsB l).length) : Nat) : Int) = ((n : Nat) : Int)) := by show _ = _; rw [List.length_append, HYs.out, List.length_append, HX.out]; omega
          clear hrs hb7 hrb hd0 HRd HSz
          unfold GotP at HGt
          generalize (0 + (Wi.num l.length).length + (opsB l).length) = pe at *
          go_wp2_with fail
          go_fit HGt.out
          rintro e w8 ⟨v8, rfl, hown8, hrs8, hg8⟩
          obtain ⟨v8a, v8c, hv8⟩ := row_slice1 hown8
          subst hv8
          have HB8 := Lib.hid (grown_below1 hg8 HB7.out HRb.out)
          have HQ := Lib.hid (EqualO (Lay.in_own (I := opL) hown8 rfl) (HK0.out.later (below_of HB4.out HB8.out)))
          have HRS := Lib.hid hrs8
          clear hown8 hrs8 hg8 HGt
          go_wp2_with fail
          go_fit HQ.out
          rintro e w9 ⟨rfl, hb9⟩
          have HB9 := Lib.hid (below_of HB8.out hb9)
          have HRS9 := Lib.hid (rs_kept (row := none) HRS.out (grown_of_below hb9 _) (by simp) (fun _ => by simp))
          have HEr := Lib.hid (Wi.Err_rs HRS9.out)
          have HLf := Lib.hid (Wi.Left_rs HRS9.out)
          rw [HEnd.out] at HLf
          have hnn : (((n : Nat) : Int) != ((n : Nat) : Int)) = false := by simp
          clear hb9 HQ HRS
          go_wp2_with fail
          go_fit HEr.out
          rintro e w' ⟨rfl, rfl⟩
          go_wp2_with fail
          go_fit HLf.out
          rintro e w10 ⟨rfl, hq⟩
          have HB10 : Hid (Below w4.heap.size w4 w10) := by obtain ⟨q, rfl⟩ := hq; exact below_drewN HB9.out _
          clear hq
          go_wp2_with fail
          go_meet
          exact HB10
    case rest =>
      have HB5 := Lib.hid (below_of HB4.out hcut.out)
      clear hcut HB4
      generalize wc = w5 at *
      have HRd := Lib.hid (Wi.Read_any p n c xs w5 HX.out (Wi.later HBy.out HB5.out) HP.out HRg.out (by omega))
      obtain ⟨Z, i0, e0, L, i', e', hRC, hXC, hZ, hz0, hRR, hRX, hLl⟩ := rest_both xs n most HRg.out HX.out
      have HLl := Lib.hid hLl
      have HG0 := Lib.hid (fun (W : World) (rb g cap : Nat) (h : Wi.RS W rb g n cap xs 0 0) => Get_walk h hRC hZ hRR hz0 (by omega))
      have HT0 := Lib.hid (fun (W : World) (xb : Nat) (h : Wi.XS W xb p n c xs 0 0) => RTake_walk h hXC hZ hRX (by omega))
      clear hRC hXC hZ hz0 hRR hRX hLl
      unfold GotP at HG0
      unfold GotX at HT0
      go_wp2_with fail
      go_fit HRd.out
      rintro e w6 ⟨rb, rg, rcap, rfl, hrs, hb6, hrb⟩
      have hA := lay_alloc w6 (.cells #[.slice p n c, .int .i64 0, .int .i64 0] 70)
      have HRS := Lib.hid (rs_kept (row := none) hrs (grown_of_below hA _) (by simp) (fun _ => by simp))
      have HXS : Hid (Wi.XS (w6.alloc (.cells #[.slice p n c, .int .i64 0, .int .i64 0] 70)) w6.heap.size p n c xs 0 0) := ⟨kd_boxS w6 _ _ 0 _ rfl, kd_boxS w6 _ _ 1 _ rfl, kd_boxS w6 _ _ 2 _ rfl, frozen_of_row _ _ _ _ _ (Go.heap_alloc_new w6 _), frozen_of_row _ _ _ _ _ (Go.heap_alloc_new w6 _), Wi.later HBy.out (below_of (below_of HB5.out hb6) hA), HX.out, HCa.out.1, Nat.zero_le _, HP.out, fun ad h => by have := HPb.out ad h; have := (below_of HB5.out hb6).size; omega, HRg.out, by omega⟩
      have HB7 := Lib.hid (below_of (below_of HB5.out hb6) hA)
      have HRb : Hid (w.heap.size ≤ rb) := Nat.le_trans HB5.out.size hrb
      have HXb : Hid (w.heap.size ≤ w6.heap.size) := (below_of HB5.out hb6).size
      have HNe : Hid (rb ≠ w6.heap.size) := by show _ ≠ _; have := rs_lt hrs; omega
      have HNg : Hid (0 < n → rg ≠ w6.heap.size) := fun hn => by have := rs_glt hrs hn; omega
      have HNp : Hid (0 < n → ∀ b o, p = some ⟨b, o, none⟩ → b ≠ rb) := fun hn b o h => by have := HPb.out _ h; have := HRb.out; simp only at *; omega
      clear hA hrs hb6 hrb HRd
      go_wp2_with fail
      generalize w6.alloc (.cells #[.slice p n c, .int .i64 0, .int .i64 0] 70) = w7 at *
      generalize w6.heap.size = xb at *
      have D0 : Below w7.heap.size w7 w7.drew := lay_drew (Below.refl _ _)
      have HRS7 := Lib.hid (rs_kept (row := none) HRS.out (grown_of_below D0 _) (by simp) (fun _ => by simp))
      have HXS7 := Lib.hid (xs_kept (row := none) HXS.out (grown_of_below D0 _) (by simp) (fun _ b o _ => by simp))
      have HB7d := Lib.hid (lay_drew HB7.out)
      have HG1 := Lib.hid (HG0.out w7.drew rb rg rcap HRS7.out)
      have HT1 := Lib.hid (HT0.out w7.drew xb HXS7.out)
      have hee : (e' == e') = true := by simp
      clear D0 HRS HXS
      go_region_with (first
          | (go_at_call 43; (with_reducible refine HG1.out.mono ?_); rintro e w8 ⟨v8, rfl, hown8, hrs8, hg8⟩; have HT2 := Lib.hid (HT0.out w8 xb (xs_kept HXS7.out hg8 (by have := HNe.out; simp; omega) (fun hn b o h => by have := HNp.out hn b o h; simpa using this))); have HO8 := Lib.hid hown8; have HS8 := Lib.hid hrs8; have HB8 := Lib.hid (grown_below1 hg8 HB7d.out HRb.out); have HX8 : Hid (xb < w7.drew.heap.size) := xs_lt HXS7.out; obtain ⟨v8a, v8c, hv8⟩ := row_slice1 hown8; subst hv8; clear hown8 hrs8 hg8)
          | (go_at_call 46; (with_reducible refine HT1.out.mono ?_); rintro e w8 ⟨u8, rfl, hown8, hxs8, hg8⟩; have HG2 := Lib.hid (HG0.out w8 rb rg rcap (rs_kept HRS7.out hg8 (by have := HNe.out; simp; omega) (fun hn => by have := HNg.out hn; simpa using this))); have HO8 := Lib.hid hown8; have HS8 := Lib.hid hxs8; have HB8 := Lib.hid (grown_below1 hg8 HB7d.out HXb.out); have HX8 : Hid (rb < w7.drew.heap.size) := rs_lt HRS7.out; obtain ⟨u8a, u8c, hu8⟩ := row_slice1 hown8; subst hu8; clear hown8 hxs8 hg8)
          | (go_at_call 46; (with_reducible refine HT2.out.mono ?_); rintro e w9 ⟨u8, rfl, hown9, hxs9, hg9⟩; have HL1 := Lib.hid (Lay.in_own (I := opL) (row_grown HO8.out hg9 HX8.out) rfl); have HL2 := Lib.hid (Lay.in_own (I := opL) hown9 rfl); have HX9 := Lib.hid hxs9; have HR9 := Lib.hid (rs_kept HS8.out hg9 (by have := HNe.out; simp; omega) (fun hn => by have := HNg.out hn; simpa using this)); have HB9 := Lib.hid (grown_below1 hg9 HB8.out HXb.out); obtain ⟨u8a, u8c, hu8⟩ := row_slice1 hown9; subst hu8; have HQ9 := Lib.hid (EqualO HL1.out HL2.out); clear hown9 hxs9 hg9)
          | (go_at_call 43; (with_reducible refine HG2.out.mono ?_); rintro e w9 ⟨v8, rfl, hown9, hrs9, hg9⟩; have HL2 := Lib.hid (Lay.in_own (I := opL) (row_grown HO8.out hg9 HX8.out) rfl); have HL1 := Lib.hid (Lay.in_own (I := opL) hown9 rfl); have HR9 := Lib.hid hrs9; have HX9 := Lib.hid (xs_kept HS8.out hg9 (by have := HNe.out; simp; omega) (fun hn b o h => by have := HNp.out hn b o h; simpa using this)); have HB9 := Lib.hid (grown_below1 hg9 HB8.out HRb.out); obtain ⟨v8a, v8c, hv8⟩ := row_slice1 hown9; subst hv8; have HQ9 := Lib.hid (EqualO HL1.out HL2.out); clear hown9 hrs9 hg9)
          | (go_at_call 21; (with_reducible refine HQ9.out.mono ?_); rintro e w10 ⟨rfl, hb10⟩; have HB10 := Lib.hid (below_of HB9.out hb10); have HE10 := Lib.hid (Wi.Err_rs (rs_kept (row := none) HR9.out (grown_of_below hb10 _) (by simp) (fun _ => by simp))); have q10 := lay_later hb10 HX9.out.c2; have HAw := Lib.hid (awake_any w10); clear hb10)
          | (go_at_call 44; (with_reducible refine HE10.out.mono ?_); rintro e w' ⟨rfl, rfl⟩)
          | (go_at_call 14; (with_reducible refine HAw.out.mono ?_); rintro e w11 ⟨rfl, hb11⟩; have HB11 := Lib.hid (below_of HB10.out hb11); clear hb11))
      all_goals
        go_wp2_with fail
        go_ret
        exact ⟨rfl, HB11.out⟩
end Go.Proofs.Ytdfjnpnkfjcpcaa
