/-
  SessGets: the walk.
-/
import Derived.Test.YtnfpobbdcjfcoaaGq
import Derived.Test.YtnfpobbdcjfcoaaB8
namespace Go.Proofs.Ytnfpobbdcjfcoaa
set_option linter.unusedVariables false
set_option linter.unusedSimpArgs false
open Go.RowKit
variable {w : World}

theorem in_take {w : World} {p : Option Addr} {n : Nat} {xs : List Int} (h : Lib.BytesIn w p n xs) (k : Nat) (hk : k ≤ n) : Lib.BytesIn w p k (xs.take k) := by
  intro hk0
  obtain ⟨b, o, hp, hc⟩ := h.at (by omega)
  refine ⟨b, o, hp, fun i hi => ?_⟩
  rw [hc i (by omega), List.getD_eq_getElem?_getD, List.getD_eq_getElem?_getD, List.getElem?_take, if_pos hi]

theorem conv_own2 {w : World} {g n cap B : Nat} {xs : List Int} (h : w.ownsRow B 5 1 (.slice (some ⟨g, 0, none⟩) n cap) n (xs.map (Value.int .u8))) :
    (convert 52 9 (.slice (some ⟨g, 0, none⟩) n cap)).run Try.prog w = .ok (.string (strOfNums xs)) w :=
  (owns_in h).convert (owns_len h) cap _ _ _ Try.underlying52 Try.underlying5 Try.underlying9
theorem Gv.seb {B b : Nat} {L : List Nat} {tl : List Value} {bg : Int} {l : List Se} {v : Value} (h : Gv w B b L tl bg l v) : SeB w [] v l := by
  rcases h.at_ with ⟨_, rfl, e⟩ | ⟨g, c, _, hg, rfl, h1, h2⟩
  · rw [e]; exact SeB.nil _ _
  · exact ⟨_, c, rfl, h1, h2, .inr ⟨g, 0, rfl, by simp, (h.own.lt g rfl).2, row_at h.own⟩⟩
structure RL (w : World) (rb g n cap : Nat) (xs : List Int) (i : Nat) (err : Int) : Prop where
  rs : RS w rb g n cap xs i err
  l1 : rb < w.heap.size
  l2 : g < w.heap.size
theorem RL.below {w' : World} {rb g n cap : Nat} {xs : List Int} {i : Nat} {err : Int} (h : RL w rb g n cap xs i err) (hb : Below w.heap.size w w') : RL w' rb g n cap xs i err :=
  ⟨h.rs.below h.l1 h.l2 hb, Nat.lt_of_lt_of_le h.l1 hb.size, Nat.lt_of_lt_of_le h.l2 hb.size⟩

set_option maxRecDepth 100000 in
set_option maxHeartbeats 12800000 in
theorem Gets_any {p : Option Addr} {n c : Nat} {xs : List Int} (hx : xs.length = n) (hb : Lib.BytesIn w p n xs) (hp : p = none → n = 0 ∧ c = 0) (hpb : ∀ ad, p = some ad → ad.block < w.heap.size) (hr : ∀ x ∈ xs, 0 ≤ x ∧ x < 256) (hnc : n ≤ c) :
    Calls Try.prog 9 #[.slice p n c] w (Yes w) := by
  by_cases hl : n ≤ 8192
  · have g1 : ((n : Nat) : Int) ≤ 8192 := by omega
    have HR := Lib.hid (Read_any2 p n c xs hx hb hp hr (by omega))
    have HX := Lib.hid hx
    have HB := Lib.hid hb
    have HP := Lib.hid hp
    have HPB := Lib.hid hpb
    have HRG := Lib.hid hr
    have HAL := Lib.hid (all_alike hr)
    clear hx hb hp hpb hr
    go_enter Try.func9, Try.ntmps9
    go_wp2_with fail
    go_fit HR.out
    rintro e w1 ⟨rb, g, cap, rfl, hrs, hb1, hrb, hrl, hgl⟩
    have hba := below_alloc w1 (.cells #[.slice p n c, .int .i64 0, .int .i64 0] 63)
    have HRS := Lib.hid (hrs.below hrl hgl hba)
    have hd := DC.alloc w1 [.slice p n c, .int .i64 0, .int .i64 0] 63
    have HB2 := Lib.hid (hb1.trans (hba.mono hb1.size))
    have hpb1 : ∀ ad, p = some ad → ad.block ≠ w1.heap.size := fun ad h => by have := HPB.out ad h; have := hb1.size; omega
    have HXS : Hid (XS (w1.alloc (.cells #[.slice p n c, .int .i64 0, .int .i64 0] 63)) w1.heap.size p n c xs 0 0) := ⟨hd.cells 0 _ rfl, hd.cells 1 _ rfl, hd.cells 2 _ rfl, hd.fz 1, hd.fz 2, later HB.out HB2.out, HX.out, hnc, Nat.zero_le _, HP.out, hpb1, HRG.out, by omega⟩
    have hrl2 : rb < (w1.alloc (.cells #[.slice p n c, .int .i64 0, .int .i64 0] 63)).heap.size := Nat.lt_of_lt_of_le hrl hba.size
    have hgl2 : g < (w1.alloc (.cells #[.slice p n c, .int .i64 0, .int .i64 0] 63)).heap.size := Nat.lt_of_lt_of_le hgl hba.size
    have hxl2 := hd.lt
    have hxr : w1.heap.size ≠ rb := by omega
    have hxg : w1.heap.size ≠ g := by omega
    have hwx : w.heap.size ≤ w1.heap.size := hb1.size
    have HPL := Lib.hid (fun ad h => Nat.lt_of_lt_of_le (HPB.out ad h) HB2.out.size)
    clear hrs hb1 hba hd hpb1 HR hrl hgl
    go_wp2_with fail
    generalize w1.alloc (.cells #[.slice p n c, .int .i64 0, .int .i64 0] 63) = W2 at *
    generalize w1.heap.size = xb at *
    go_fit (Get_any HRS.out hrl2 hgl2)
    rintro e w3 ⟨hrs3, hex3, hres⟩
    have hpr : ∀ ad, p = some ad → ad.block ≠ rb := fun ad h => by have := HPB.out ad h; omega
    have hxs3 := HXS.out.ext hxl2 hex3 (by simpa using hxr) (fun ad h => ⟨HPL.out ad h, by simpa using hpr ad h⟩)
    have HE3 := Lib.hid (HB2.out.trans (hex3.below HB2.out.size (fun k hk => by simp at hk; omega)))
    have HRS3 := Lib.hid hrs3
    have HXS3 := Lib.hid hxs3
    have hsz := hex3.size
    have HT := Lib.hid (Take_any hxs3 (Nat.lt_of_lt_of_le hxl2 hsz) (fun ad h => Nat.lt_of_lt_of_le (HPL.out ad h) hsz))
    have hrl3 := Nat.lt_of_lt_of_le hrl2 hsz
    have hgl3 := Nat.lt_of_lt_of_le hgl2 hsz
    clear hrs3 hex3 hxs3 hpr hsz
    rcases hres with ⟨hne, rfl⟩ | ⟨heq, b, L, rfl, htk⟩
    · rcases HAL.out with ⟨h, _⟩ | ⟨_, hal⟩
      · exact absurd h hne
      · go_wp2_with fail
        go_fit HT.out
        rintro e w4 ⟨_, hex4, hres⟩
        rcases hres with ⟨_, rfl⟩ | ⟨h1, h2, _⟩
        · have HE4 := Lib.hid (HE3.out.trans (hex4.below HE3.out.size (fun k hk => by simp at hk; omega)))
          go_wp2_with fail
          go_fit (awake_any w4)
          rintro e w5 ⟨rfl, hb5⟩
          have HE5 := Lib.hid (HE4.out.trans (hb5.mono HE4.out.size))
          clear hb5
          go_wp2_with fail
          go_ret
          exact ⟨rfl, HE5.out⟩
        · rcases hal with h | h
          · exact absurd h1 h
          · rw [h] at h2; cases h2
    · rcases HAL.out with ⟨_, hal⟩ | ⟨h, _⟩
      · have hxr3 : rb ≠ xb := fun e => hxr e.symm
        have hxg3 : g ≠ xb := fun e => hxg e.symm
        have hbL : xb ∉ L := fun hm => by have := htk.low xb hm; omega
        have HBB : Hid (∀ k ∈ L, w.heap.size ≤ k) := fun k hk => by have := htk.low k hk; have := HB2.out.size; omega
        go_wp2_with fail
        go_fit HT.out
        rintro e w4 ⟨hxs4, hex4, hres⟩
        rw [hal] at hxs4 hres
        simp only at hxs4 hres
        rcases hres with ⟨h | h, _⟩ | ⟨_, _, b2, L2, v2, rfl, hgv⟩
        · exact absurd heq h
        · cases h
        have HE4 := Lib.hid (HE3.out.trans (hex4.below HE3.out.size (fun k hk => by simp at hk; omega)))
        have hsz4 := hex4.size
        have HRS4 := Lib.hid (HRS3.out.ext hrl3 hgl3 hex4 (by simpa using hxr3) (by simpa using hxg3))
        have HXS4 := Lib.hid hxs4
        have HTK4 := Lib.hid (htk.apart hbL hex4)
        have HGV := Lib.hid hgv
        clear hxs4 hex4 htk hgv HT HRS3 HXS3 HE3 hal
        have htake := gAll_take HRG.out heq
        have hfit := gAll_fit xs 0 0
        have hlen := gAll_len xs 0 0
        have hgi := HXS4.out.ile
        have hzero : (gAll xs 0 0).2.1 ≠ 0 := by
          intro h
          rw [h, List.take_zero] at htake
          have := congrArg List.length htake
          simp [tput, nums, num] at this
          try omega
        obtain ⟨b0, o0, hpe, _⟩ := HB.out (by omega)
        subst hpe
        generalize gAll xs 0 0 = G at *
        obtain ⟨l, gi, ge⟩ := G
        simp only at *
        generalize gBg xs 0 0 = bg at *
        have HTA := Lib.hid htake
        have HFIT := Lib.hid hfit
        have HLEN := Lib.hid hlen
        have hm : ∃ m : Nat, n - gi = m ∧ IntKind.i64.wrap ((n : Int) - (m : Int)) = (gi : Int) := ⟨n - gi, rfl, by rw [IntWalk.i64_in _ (by omega)]; omega⟩
        obtain ⟨m, hm1, em⟩ := hm
        have HM := Lib.hid hm1
        have hcB : ∀ W : World, Below w.heap.size w W → (convert 52 9 (.slice (some ⟨b0, o0, none⟩) gi c)).run Try.prog W = .ok (.string (strOfNums (xs.take gi))) W := fun W hW =>
          Lib.BytesIn.convert (w := W) (later (in_take HB.out gi hgi) hW) (by have := HX.out; simp; omega) c _ _ _ Try.underlying52 Try.underlying5 Try.underlying9
        rw [htake] at hcB
        have HCB := Lib.hid hcB
        clear hcB htake hfit hlen hm1
        have hdr : Below w4.heap.size w4 w4.drew := ⟨rfl, rfl, rfl, Nat.le_refl _, fun _ _ => rfl⟩
        have HE5 := Lib.hid (HE4.out.trans (hdr.mono HE4.out.size))
        have HRS5 : Hid (RL w4.drew rb g n cap xs gi ge) := ⟨HRS4.out.drewN 1, Nat.lt_of_lt_of_le hrl3 hsz4, Nat.lt_of_lt_of_le hgl3 hsz4⟩
        have HXS5 : Hid (XS w4.drew xb (some ⟨b0, o0, none⟩) n c xs gi ge) := HXS4.out.drewN 1
        have HTK5 := Lib.hid (HTK4.out.below hdr)
        have HGV5 := Lib.hid (HGV.out.below hdr)
        have HL1 := Left_rs HRS5.out.rs
        rw [HM.out] at HL1
        have HLa := Lib.hid HL1
        have i0 : (0 : Int) ≤ (gi : Int) := by omega
        have i1 : (gi : Int) ≤ (n : Int) := by omega
        have i2 : (gi : Int) ≤ (c : Int) := by omega
        clear hdr HRS4 HXS4 HTK4 HGV HE4 HL1
        go_wp2_with fail
        go_region_with (first
          | (go_at_call 32; (with_reducible refine HLa.out.mono ?_); rintro e w5 ⟨rfl, q, hq⟩; have hb : Below w4.drew.heap.size w4.drew w5 := (by subst hq; exact ⟨rfl, rfl, rfl, Nat.le_refl _, fun _ _ => rfl⟩); have HE6 := Lib.hid (HE5.out.trans (hb.mono HE5.out.size)); have HRS6 := Lib.hid (HRS5.out.below hb); have HX6 : Hid (XS w5 xb (some ⟨b0, o0, none⟩) n c xs gi ge) := (by subst hq; exact HXS5.out.drewN q); have HTK6 := Lib.hid (HTK5.out.below hb); have HGV6 := Lib.hid (HGV5.out.below hb); have hl2 := XLeft HX6.out; rw [HM.out] at hl2; have HLb := Lib.hid hl2; clear hq hb hl2)
          | (go_at_call 34; (with_reducible refine HLb.out.mono ?_); rintro e w6 ⟨rfl, q, hq⟩; have hb : Below w5.heap.size w5 w6 := (by subst hq; exact ⟨rfl, rfl, rfl, Nat.le_refl _, fun _ _ => rfl⟩); have HE7 := Lib.hid (HE6.out.trans (hb.mono HE6.out.size)); have HRS7 := Lib.hid (HRS6.out.below hb); have HTK7 := Lib.hid (HTK6.out.below hb); have HGV7 := Lib.hid (HGV6.out.below hb); have u1 := HGV7.out.cells.cells 1 _ rfl; have HLi := Lib.hid (List_any HTK7.out (show l.length ≤ 100000 by have := HLEN.out; omega)); clear hq hb)
          | (go_at_call 21; (with_reducible refine HLi.out.mono ?_); rintro e w7 ⟨lv, rfl, ho, hb⟩; have HE8 := Lib.hid (HE7.out.trans (hb.mono HE7.out.size)); have HRS8 := Lib.hid (HRS7.out.below hb); have HTK8 := Lib.hid (HTK7.out.below hb); have HGV8 := Lib.hid (HGV7.out.below hb); have u2 := HGV8.out.cells.cells 1 _ rfl; have HSM := Lib.hid (same_any (ho.seb (L := []) (fun k hk => by cases hk)) HGV8.out.seb); clear ho hb)
          | (go_at_call 22; (with_reducible refine HSM.out.mono ?_); rintro e w8 ⟨rfl, hb⟩; have HE9 := Lib.hid (HE8.out.trans (hb.mono HE8.out.size)); have HRS9 := Lib.hid (HRS8.out.below hb); have HTK9 := Lib.hid (HTK8.out.below hb); have HPU := Lib.hid (Put_any (p := none) (n := 0) (c := 0) (xs := []) HTK9.out HFIT.out HLEN.out rfl (Lib.BytesIn.nil _ _ _) (fun _ => ⟨rfl, rfl⟩) (by omega)); clear hb)
          | (go_at_call 28; (with_reducible refine HPU.out.mono ?_); rintro e w9 ⟨pg, pn, pc, rfl, ho, hb⟩; have HE10 := Lib.hid (HE9.out.trans (hb.mono HE9.out.size)); have HRS10 := Lib.hid (HRS9.out.below hb); have cv1 := conv_own2 ho; have HO10 := Lib.hid ho; have hl3 := Left_rs HRS10.out.rs; rw [HM.out] at hl3; have HLc := Lib.hid hl3; clear ho hb hl3)
          | (go_at_call 32; (with_reducible refine HLc.out.mono ?_); rintro e w10 ⟨rfl, q, hq⟩; have hb : Below w9.heap.size w9 w10 := (by subst hq; exact ⟨rfl, rfl, rfl, Nat.le_refl _, fun _ _ => rfl⟩); have HE11 := Lib.hid (HE10.out.trans (hb.mono HE10.out.size)); have cv2 := conv_own2 (w := w10) (by subst hq; exact HO10.out); have cv3 := HCB.out w10 HE11.out; have HAW := Lib.hid (awake_any w10); clear hq hb)
          | (go_at_call 11; (with_reducible refine HAW.out.mono ?_); rintro e w11 ⟨rfl, hb⟩; have HE12 := Lib.hid (HE11.out.trans (hb.mono HE11.out.size)); clear hb))
        all_goals
          go_wp2_with fail
          go_ret
          exact ⟨rfl, HE12.out⟩
      · exact absurd heq h
  · have g1 : 8192 < ((n : Nat) : Int) := by omega
    go_enter Try.func9, Try.ntmps9
    go_wp2_with fail
    go_fit (awake_any w)
    rintro e w1 ⟨rfl, hb1⟩
    have HE := Lib.hid hb1
    clear hb1
    go_wp2_with fail
    go_ret
    exact ⟨rfl, HE.out⟩
end Go.Proofs.Ytnfpobbdcjfcoaa
