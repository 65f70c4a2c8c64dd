/-
  Walks: a filter is read.
-/
import Derived.Test.YtdeknkfhlmkabaaF18
import Derived.Deep.RegionLaw
namespace Go.Proofs.Ytdeknkfhlmkabaa
set_option linter.unusedVariables false
set_option linter.unusedSimpArgs false
open Go.RowKit

theorem nm_nat (xs : List Int) (p : Nat × Int) : ∃ N : Nat, (nmF xs p).1 = (N : Int) := by
  unfold nmF
  split
  · exact ⟨0, rfl⟩
  · split
    · exact ⟨_, rfl⟩
    · exact ⟨0, rfl⟩
theorem nm_bound {w : World} {rb g n cap : Nat} {xs : List Int} {i : Nat} {err : Int} (h : Wi.RS w rb g n cap xs i err) : (nmF xs (i, err)).1 ≤ 9223372036854775807 := by
  unfold nmF
  split
  · simp
  · split
    · rename_i h1
      have := (Wi.numAt_size h (Wi.numAt (xs.drop i)).1 (Wi.numAt (xs.drop i)).2.1 (by rw [← h1])).2
      simp only
      omega
    · simp
theorem _root_.Go.Proofs.Ytdeknkfhlmkabaa.Wi.RS.rbl {w : World} {rb g n cap : Nat} {xs : List Int} {i : Nat} {err : Int} (h : Wi.RS w rb g n cap xs i err) : rb < w.heap.size := World.block_lt_of_cell? w _ h.c0
set_option maxRecDepth 100000 in
set_option maxHeartbeats 1600000 in
theorem take_no (m : Nat) (w : World) (rb wb g n cap : Nat) (xs : List Int) (i : Nat) (err : Int) (ah dp : Nat) (hE : ∀ W, DC W wb [.int .i64 (ah : Nat)] → Calls Try.prog 59 #[.pointer (some ⟨wb, 0, none⟩), .int .i64 (dp : Nat)] W (EntP false wb ah W)) (hd : DC w wb [.int .i64 (ah : Nat)]) (hno : (tk xs m (i, err) ah).ok = false) (hne1 : rb ≠ wb) (hne2 : g ≠ wb) :
    Calls Try.prog 47 #[.pointer (some ⟨wb, 0, none⟩), .pointer (some ⟨rb, 0, none⟩), .int .i64 (dp : Nat)] w (TkP (tk xs m (i, err) ah) rb wb g n cap xs w) := by
  have hal := lay_alloc w (.cells #[.int .i64 0, .string ByteArray.empty, .string ByteArray.empty, .slice none 0 0] 24)
  have HD := Lib.hid (hd.below hal)
  have HK0 := Lib.hid (Kept2.below hal : Kept2 w _ rb wb)
  have HX := Lib.hid (DC.alloc w [.int .i64 0, .string ByteArray.empty, .string ByteArray.empty, .slice none 0 0] 24)
  have hxb2 : w.heap.size ≠ wb := by have := hd.lt; omega
  have HE := Lib.hid hE
  have HNO := Lib.hid hno
  clear hal hd hE hno
  go_enter Try.func47, Try.ntmps47
  go_wp2_with fail
  go_fit (HE.out _ HD.out)
  rintro e w1 ⟨rfl, hd1, hg1⟩
  have HK1 := Lib.hid (HK0.out.trans (Kept2.wb hg1))
  have HX1 := HX.out.grown hg1 hxb2
  have x0 := HX1.cells 0 _ rfl
  have x1 := HX1.cells 1 _ rfl
  have x2 := HX1.cells 2 _ rfl
  have x3 := HX1.cells 3 _ rfl
  have v0 := HX1.fz 0
  have v1 := HX1.fz 1
  have v2 := HX1.fz 2
  have v3 := HX1.fz 3
  clear hd1 hg1 HX1
  go_wp2_with fail
  (try simp only [Exit.inBlock, Exit.then])
  refine bodyPost_ret (v := .tuple #[flV noF (.slice none 0 0), .bool false]) ?_ rfl ⟨?_, .inr ⟨HNO.out, noF, none, 0, 0, rfl⟩⟩
  · rw [results_cell_tmp rfl]
    go_simp
    rfl
  · exact (((HK1.out.putx (Nat.le_refl _)).putx (Nat.le_refl _)).putx (Nat.le_refl _)).putx (Nat.le_refl _)
set_option maxRecDepth 100000 in
set_option maxHeartbeats 6400000 in
theorem take_step (m : Nat) (IH : TkOk m) : TkOk (m + 1) := by
  intro w rb wb g n cap xs i err ah h hrl hgl hd hne1 hne2 hah hm
  have hdm : 6 - m = 6 - (m + 1) + 1 := by omega
  have hdp : 6 - (m + 1) < 6 := by omega
  have hwb := hd.lt
  by_cases hno : 24 ≤ ah
  · have HEn := Lib.hid (fun W (hW : DC W wb [.int .i64 (ah : Nat)]) => enter_no (w := W) (6 - (m + 1)) ah hW (.inr hno) (by omega))
    exact take_no m.succ w rb wb g n cap xs i err ah (6 - (m + 1)) HEn.out hd (by simp [tk, hno]) hne1 hne2
  have HEy := Lib.hid (fun W (hW : DC W wb [.int .i64 (ah : Nat)]) => enter_yes (w := W) (6 - (m + 1)) ah hW hdp (by omega))
  generalize hdp : 6 - (m + 1) = dp at *
  have hal := lay_alloc w (.cells #[.int .i64 0, .string ByteArray.empty, .string ByteArray.empty, .slice none 0 0] 24)
  have HD := Lib.hid (hd.below hal)
  have HR0 := Lib.hid (RS_block h (hal.block rb hrl) (hal.block g hgl))
  have HK0 := Lib.hid (Kept2.below hal : Kept2 w _ rb wb)
  have HX := Lib.hid (DC.alloc w [.int .i64 0, .string ByteArray.empty, .string ByteArray.empty, .slice none 0 0] 24)
  have hxb1 : w.heap.size ≠ rb := by omega
  have hxb2 : w.heap.size ≠ wb := by omega
  clear hal h hd
  go_enter Try.func47, Try.ntmps47
  go_wp2_with fail
  go_fit (HEy.out _ HD.out)
  rintro e w1 ⟨rfl, hd1, hg1⟩
  have HK1 := Lib.hid (HK0.out.trans (Kept2.wb hg1))
  have HR1 := Lib.hid (RS_block HR0.out (hg1.block rb (Nat.lt_of_lt_of_le hrl HK0.out.size) (by simpa using hne1)) (hg1.block g (Nat.lt_of_lt_of_le hgl HK0.out.size) (by simpa using hne2)))
  have HD1 := Lib.hid hd1
  have HX1 := Lib.hid (HX.out.grown hg1 hxb2)
  have HC1 := Lib.hid (Number_nm HR1.out)
  have HA1 : Hid (rd1 xs (i, err) = nmF xs (i, err)) := rfl
  have HA2 : Hid (rd2 xs (i, err) = txF xs 192 ((rd1 xs (i, err)).2.1, (rd1 xs (i, err)).2.2)) := rfl
  have HA3 : Hid (rd3 xs (i, err) = txF xs 192 ((rd2 xs (i, err)).2.1, (rd2 xs (i, err)).2.2)) := rfl
  have HA4 : Hid (rd4 xs (i, err) = nmF xs ((rd3 xs (i, err)).2.1, (rd3 xs (i, err)).2.2)) := rfl
  rw [← HA1.out] at HC1
  clear hd1 hg1 HD HR0 HK0 HX
  go_wp2_with fail
  go_fit HC1.out
  rintro e w2 ⟨rfl, hr2, hg2⟩
  have HK2 := Lib.hid (HK1.out.trans (Kept2.rb hg2))
  have HR2 := Lib.hid hr2
  have HD2 := Lib.hid (HD1.out.grown hg2 (fun e => hne1 e.symm))
  have HX2 := Lib.hid (HX1.out.grown hg2 hxb1)
  have HC2 := Lib.hid (Text_tx HR2.out 192 (by decide))
  rw [← HA2.out] at HC2
  clear hr2 hg2 HC1 HR1 HD1 HX1 HK1
  go_wp2_with fail
  go_fit HC2.out
  rintro e w3 ⟨rfl, hr3, hg3⟩
  have HK3 := Lib.hid (HK2.out.trans (Kept2.rb hg3))
  have HR3 := Lib.hid hr3
  have HD3 := Lib.hid (HD2.out.grown hg3 (fun e => hne1 e.symm))
  have HX3 := Lib.hid (HX2.out.grown hg3 hxb1)
  have HC3 := Lib.hid (Text_tx HR3.out 192 (by decide))
  rw [← HA3.out] at HC3
  clear hr3 hg3 HC2 HR2 HD2 HX2 HK2
  go_wp2_with fail
  go_fit HC3.out
  rintro e w4 ⟨rfl, hr4, hg4⟩
  have HK4 := Lib.hid (HK3.out.trans (Kept2.rb hg4))
  have HR4 := Lib.hid hr4
  have HD4 := Lib.hid (HD3.out.grown hg4 (fun e => hne1 e.symm))
  have HX4 := Lib.hid (HX3.out.grown hg4 hxb1)
  clear hr4 hg4 HC3 HR3 HD3 HX3 HK3
  have hal4 := lay_alloc w4 (.cells #[.int .i64 (rd1 xs (i, err)).1, .string (rd2 xs (i, err)).1, .string (rd3 xs (i, err)).1, .slice none 0 0] 24)
  have hrl4 := HR4.out.rbl
  have hgl4 : g < w4.heap.size := Nat.lt_of_lt_of_le hgl HK4.out.size
  have HR4a := Lib.hid (RS_block HR4.out (hal4.block rb hrl4) (hal4.block g hgl4))
  have HD4a := Lib.hid (HD4.out.below hal4)
  have HX4a := Lib.hid (HX4.out.below hal4)
  have HK4a := Lib.hid (HK4.out.trans (Kept2.below hal4))
  have HF4 := Lib.hid (DC.alloc w4 [.int .i64 (rd1 xs (i, err)).1, .string (rd2 xs (i, err)).1, .string (rd3 xs (i, err)).1, .slice none 0 0] 24)
  have hfb1 : w4.heap.size ≠ rb := by omega
  have hfb2 : w4.heap.size ≠ wb := by have := HK4.out.size; omega
  have hfb3 : w4.heap.size ≠ w.heap.size := by have := HX4.out.lt; omega
  have hfbw : w.heap.size ≤ w4.heap.size := HK4.out.size
  have HC4 := Lib.hid (Number_nm HR4a.out)
  rw [← HA4.out] at HC4
  obtain ⟨N, hN⟩ : ∃ N : Nat, (rd4 xs (i, err)).1 = (N : Int) := nm_nat xs _
  have hNb : N ≤ 9223372036854775807 := by have := nm_bound HR4a.out; rw [← HA4.out, hN] at this; omega
  rw [hN] at HC4
  have HNN := Lib.hid hN
  generalize hfbk : w4.heap.size = fb at *
  clear hal4 HR4 HD4 HX4 HK4 hN
  go_wp2_with fail
  go_fit HC4.out
  rintro e w5 ⟨rfl, hr5, hg5⟩
  have HK5 := Lib.hid (HK4a.out.trans (Kept2.rb hg5))
  have HR5 := Lib.hid hr5
  have HD5 := Lib.hid (HD4a.out.grown hg5 (fun e => hne1 e.symm))
  have HX5 := Lib.hid (HX4a.out.grown hg5 hxb1)
  have HF5 := Lib.hid (HF4.out.grown hg5 hfb1)
  clear hr5 hg5 HC4 HR4a HD4a HX4a HK4a HF4 HA1 HA2 HA3 HA4
  generalize hz1 : rd1 xs (i, err) = z1 at *
  generalize hz2 : rd2 xs (i, err) = z2 at *
  generalize hz3 : rd3 xs (i, err) = z3 at *
  generalize hz4 : rd4 xs (i, err) = z4 at *
  have HZ := Lib.hid (And.intro hz1 (And.intro hz2 (And.intro hz3 hz4)))
  clear hz1 hz2 hz3 hz4
  have hB5 : w.heap.size ≤ w5.heap.size := HK5.out.size
  have hfb5 : fb < w5.heap.size := HF5.out.lt
  have hrb5 : rb < w5.heap.size := by omega
  have hwb5 : wb < w5.heap.size := by omega
  have hgl5 : g < w5.heap.size := by omega
  have HIH := Lib.hid IH
  clear IH
  go_wp2_with fail
  go_loopw [25] (fun iv wr => ∃ (j : Nat) (l : List FV) (lv : Value), iv = .int .i64 j ∧ j ≤ N ∧ Hid ((tks (tk xs m) j z4.2 (ah + 1)).ok = true) ∧ Hid (Wi.RS wr rb g n cap xs (tks (tk xs m) j z4.2 (ah + 1)).st.1 (tks (tk xs m) j z4.2 (ah + 1)).st.2) ∧ Hid (DC wr wb [.int .i64 ((tks (tk xs m) j z4.2 (ah + 1)).ah : Nat)]) ∧ Hid ((tks (tk xs m) j z4.2 (ah + 1)).ah ≤ 24) ∧ Hid (DC wr fb [.int .i64 z1.1, .string z2.1, .string z3.1, lv]) ∧ Hid (DC wr w.heap.size [.int .i64 0, .string ByteArray.empty, .string ByteArray.empty, .slice none 0 0]) ∧ Hid (Rk w5.heap.size wr lv l) ∧ Hid (l.map FV.f = (tks (tk xs m) j z4.2 (ah + 1)).ks) ∧ Hid (Kept2 w wr rb wb) ∧ w5.heap.size ≤ wr.heap.size)
    (fun v _ => N - (intOf v).toNat)
  case atStart => exact ⟨0, [], .slice none 0 0, rfl, Nat.zero_le _, rfl, HR5.out, HD5.out, (by show _ ≤ _; simp only [tks]; omega), HF5.out, HX5.out, Rk.nil _ _ (Nat.le_refl _), rfl, HK5.out, Nat.le_refl _⟩
  case round =>
    clear HR5 HD5 HX5 HF5 HK5
    obtain ⟨j, l, lv, rfl, hjn, hok, hrs, hdc, hah2, hfc, hxc, hrk, hlm, hkp, hsz⟩ := hrel
    generalize hT : tks (tk xs m) j z4.2 (ah + 1) = T at *
    by_cases hlt : j < N
    · have hI1 : (j : Int) < (N : Int) := by omega
      have ej : IntKind.i64.wrap ((j : Int) + 1) = (j : Int) + 1 := IntWalk.i64_in _ (by omega)
      have HNX := Lib.hid (tks_next hT hok.out)
      have HBAD := Lib.hid (tks_bad (tk xs m) z4.2 (ah + 1) (j + 1))
      have HTA := Lib.hid (tks_ah (tk xs m) (tk_ah xs m) j z4.2 (ah + 1) (by omega) (by rw [hT]; exact hok.out))
      have HRA := Lib.hid (tk_ah xs m T.st T.ah hah2.out)
      have hC := HIH.out wr rb wb g n cap xs T.st.1 T.st.2 T.ah hrs.out (by omega) (by omega) hdc.out hne1 hne2 hah2.out (by omega)
      rw [hdm] at hC
      have HC := Lib.hid hC
      have hdp1 : IntKind.i64.wrap ((dp : Int) + 1) = ((dp + 1 : Nat) : Int) := by rw [IntWalk.i64_in _ (by omega)]; omega
      have HT := Lib.hid hT
      clear hC hT
      go_wp2_with fail
      go_fit HC.out
      rintro e w7 ⟨hk7, hv7⟩
      have HK7 := Lib.hid (hkp.out.trans hk7)
      have HF7 := Lib.hid (hfc.out.keep hk7.size (hk7.block fb hfc.out.lt hfb1 hfb2))
      have HX7 := Lib.hid (hxc.out.keep hk7.size (hk7.block w.heap.size hxc.out.lt hxb1 hxb2))
      have HRk7 := Lib.hid (hrk.out.keep hk7.size (fun k h1 h2 => hk7.block k h2 (by omega) (by omega)))
      have hs7 := hk7.size
      rcases hv7 with ⟨hok7, u, rfl, hks, hr7, hd7⟩ | ⟨hok7, f', ua, un, uc, rfl⟩
      · obtain ⟨ua, uc, rfl, _, _⟩ := hks.slice
        have HKS := Lib.hid hks
        have HR7 := Lib.hid hr7
        have HD7 := Lib.hid hd7
        have HOK := Lib.hid hok7
        generalize hr : tk xs m (T.st.1, T.st.2) T.ah = r at *
        have hal7 := lay_alloc w7 (.cells #[.int .i64 r.f.kind, .string r.f.name, .string r.f.text, .slice ua r.f.kids.length uc] 24)
        have HA7 := Lib.hid hal7
        have HF8 := Lib.hid (HF7.out.below hal7)
        have HX8 := Lib.hid (HX7.out.below hal7)
        have HK8 := Lib.hid (HK7.out.trans (Kept2.below hal7))
        have HRk8 := Lib.hid (HRk7.out.keep hal7.size (fun k _ h2 => hal7.block k h2))
        have HR8 := Lib.hid (RS_block HR7.out (hal7.block rb HR7.out.rbl) (hal7.block g (by omega)))
        have HD8 := Lib.hid (HD7.out.below hal7)
        have HKS8 := Lib.hid (HKS.out.later hal7)
        have HQ8 := Lib.hid (DC.alloc w7 [.int .i64 r.f.kind, .string r.f.name, .string r.f.text, .slice ua r.f.kids.length uc] 24)
        have hs8 := hal7.size
        obtain ⟨la, lc, hlv⟩ : ∃ la lc, lv = .slice la l.length lc := by
          rcases hrk.out.own.2 with ⟨h0, h1⟩ | ⟨g', cap', cur, hv, _⟩
          · exact ⟨none, 0, by rw [h0, h1]⟩
          · exact ⟨_, cap', hv⟩
        subst hlv
        have hown8 := HRk8.out.own
        have HLen : Hid (l.length + 1 ≤ 1073741825) := by
          show _ ≤ _
          have h1 := hlm.out
          have h2 := HTA.out
          rw [HT.out] at h2
          have h3 := congrArg List.length h1
          rw [List.length_map] at h3
          omega
        have HOW := Lib.hid HRk8.out.own.lt
        have HB58 : Hid (w5.heap.size ≤ (w7.alloc (.cells #[.int .i64 r.f.kind, .string r.f.name, .string r.f.text, .slice ua r.f.kids.length uc] 24)).heap.size) := by show _ ≤ _; omega
        have HKX : Hid (KidsS (w7.alloc (.cells #[.int .i64 r.f.kind, .string r.f.name, .string r.f.text, .slice ua r.f.kids.length uc] 24)) (fun b => w5.heap.size ≤ b ∧ some b ≠ (Value.slice la l.length lc).ownBlock) (.slice ua r.f.kids.length uc) r.f.kids) := HKS8.out.keep (Nat.le_refl _) (fun _ _ _ => rfl) (fun b hb _ => ⟨Nat.le_trans hsz hb, fun e => by have := (hrk.out.own.lt b e.symm).2; omega⟩)
        clear hown8
        have f3 := HF8.out.cells 3 _ rfl
        have q0 := HQ8.out.cells 0 _ rfl
        have q1 := HQ8.out.cells 1 _ rfl
        have q2 := HQ8.out.cells 2 _ rfl
        have q3 := HQ8.out.cells 3 _ rfl
        have hz3 := HF8.out.fz 3
        have hfl8 := HF8.out.lt
        clear hk7 hks hr7 hd7 hok7 HC hrs hdc hfc hxc hrk hkp hal7 HF7 HX7 HK7 HRk7 HR7 HD7 HKS
        unfold flV
        generalize hW8 : w7.alloc (.cells #[.int .i64 r.f.kind, .string r.f.name, .string r.f.text, .slice ua r.f.kids.length uc] 24) = W8 at *
        go_wp2_with (at_builtin; refine wpList_pushI rfl _ _ 22 24 _ 4 64 rfl Try.underlying22 Try.infoF rfl (by decide) w5.heap.size l.length _ (fvL.all l) rfl HRk8.out.own #[.int .i64 r.f.kind, .string r.f.name, .string r.f.text, .slice ua r.f.kids.length uc] rfl (fvL.one ⟨r.f, .slice ua r.f.kids.length uc, rfl⟩) rfl HLen.out (by decide) HB58.out ?_; intro g9 c9 w9 hown9 hgrow9 hat9 hlt9; have HRk9 := Lib.hid (HRk8.out.push ⟨r.f, .slice ua r.f.kids.length uc, rfl⟩ HKX.out hown9 hgrow9 hat9); have HG9 := Lib.hid hgrow9; have hf9 := HF8.out.keep hgrow9.size (hgrow9.block fb hfl8 (fun e => by have := (HOW.out fb e.symm).1; omega)); have HF9 := Lib.hid hf9; have f3 := hf9.cells 3 _ rfl; have z9 := hf9.fz 3; clear hown9 hgrow9 hat9 hlt9 hf9)
        have hNX : tks (tk xs m) (j + 1) z4.2 (ah + 1) = ⟨true, T.ks ++ [r.f], r.st, r.ah⟩ := by
          rw [HNX.out, if_pos HOK.out]
        have hRA : r.ah ≤ 24 := by
          exact (HRA.out HOK.out).2
        have hbl : ∀ k, k < w5.heap.size → k ≠ fb → (w9.setCell ⟨fb, 3, none⟩ (.slice (some ⟨g9, 0, none⟩) (l.length + 1) c9)).heap[k]? = W8.heap[k]? := fun k hk hn =>
          (Below.heap_setCell _ _ _ _ hn).trans (HG9.out.block k (by have := HB58.out; omega) (fun e => by have := (HOW.out k e.symm).1; omega))
        have hsz9 : W8.heap.size ≤ (w9.setCell ⟨fb, 3, none⟩ (.slice (some ⟨g9, 0, none⟩) (l.length + 1) c9)).heap.size := by have := HG9.out.size; simpa [World.setCell] using this
        refine ⟨⟨j + 1, l ++ [⟨r.f, .slice ua r.f.kids.length uc, rfl⟩], .slice (some ⟨g9, 0, none⟩) (l.length + 1) c9, by simp, hlt, ?_, ?_, ?_, ?_, ?_, ?_, ?_, ?_, ?_, ?_⟩, by show N - ((j : Int) + 1).toNat < N - ((j : Int)).toNat; omega⟩
        · show _ = _
          rw [hNX]
        · show Wi.RS _ _ _ _ _ _ _ _
          rw [hNX]
          exact RS_block HR8.out (hbl rb hrb5 (by omega)) (hbl g hgl5 (by omega))
        · show DC _ _ _
          rw [hNX]
          exact HD8.out.keep hsz9 (hbl wb hwb5 (by omega))
        · show _ ≤ _
          rw [hNX]; exact hRA
        · exact HF9.out.set 3 (.slice (some ⟨g9, 0, none⟩) (l.length + 1) c9) (by simp)
        · exact HX8.out.keep hsz9 (hbl w.heap.size (by omega) (by omega))
        · exact HRk9.out.keep (by simp [World.setCell]) (fun k h1 h2 => Below.heap_setCell _ _ _ _ (by simp only; omega))
        · show _ = _
          rw [hNX, List.map_append, hlm.out]; rfl
        · exact ⟨HG9.out.os.trans HK8.out.os, HG9.out.tape.trans HK8.out.tape, HG9.out.output.trans HK8.out.output, Nat.le_trans HK8.out.size hsz9, fun k hk n1 n2 => (hbl k (by omega) (by omega)).trans (HK8.out.block k hk n1 n2)⟩
        · have := HB58.out; omega
      · have hal7 := lay_alloc w7 (.cells #[.int .i64 f'.kind, .string f'.name, .string f'.text, .slice ua un uc] 24)
        have HX8 := Lib.hid (HX7.out.below hal7)
        have HK8 := Lib.hid (HK7.out.trans (Kept2.below hal7))
        have HOK := Lib.hid hok7
        have x0 := HX8.out.cells 0 _ rfl
        have x1 := HX8.out.cells 1 _ rfl
        have x2 := HX8.out.cells 2 _ rfl
        have x3 := HX8.out.cells 3 _ rfl
        have v0 := HX8.out.fz 0
        have v1 := HX8.out.fz 1
        have v2 := HX8.out.fz 2
        have v3 := HX8.out.fz 3
        clear hk7 HC hal7 hok7 HX7 HK7
        have HNO : Hid ((tk xs (m + 1) (i, err) ah).ok = false) := by
          show _ = _
          have h1 : (tks (tk xs m) (j + 1) z4.2 (ah + 1)).ok = false := by rw [HNX.out, if_neg (by rw [show (tk xs m T.st T.ah).ok = false from HOK.out]; simp)]
          have h2 := HBAD.out h1 N hlt
          obtain ⟨a1, a2, a3, a4⟩ := HZ.out
          simp only [tk]
          rw [if_neg hno, a4, HNN.out]
          rw [if_neg (by simp only [Int.toNat_natCast]; rw [h2]; simp)]
        unfold flV
        go_wp2_with fail
        (try simp only [Exit.inBlock, Exit.then])
        refine bodyPost_ret (v := .tuple #[flV noF (.slice none 0 0), .bool false]) ?_ rfl ⟨?_, .inr ⟨HNO.out, noF, none, 0, 0, rfl⟩⟩
        · rw [results_cell_tmp rfl]
          go_simp
          rfl
        · exact (((HK8.out.putx (Nat.le_refl _)).putx (Nat.le_refl _)).putx (Nat.le_refl _)).putx (Nat.le_refl _)
    · obtain rfl : j = N := by omega
      obtain ⟨la, lc, hlv⟩ : ∃ la lc, lv = .slice la l.length lc := by
        rcases hrk.out.own.2 with ⟨h0, h1⟩ | ⟨g', cap', cur, hv, _⟩
        · exact ⟨none, 0, by rw [h0, h1]⟩
        · exact ⟨_, cap', hv⟩
      subst hlv
      have HER := Lib.hid (Wi.Err_rs (show Wi.RS wr.drew rb g n cap xs T.st.1 T.st.2 from hrs.out.drewN 1))
      have f0 := hfc.out.cells 0 _ rfl
      have f1 := hfc.out.cells 1 _ rfl
      have f2 := hfc.out.cells 2 _ rfl
      have f3 := hfc.out.cells 3 _ rfl
      have x0 := hxc.out.cells 0 _ rfl
      have x1 := hxc.out.cells 1 _ rfl
      have x2 := hxc.out.cells 2 _ rfl
      have x3 := hxc.out.cells 3 _ rfl
      have v0 := hxc.out.fz 0
      have v1 := hxc.out.fz 1
      have v2 := hxc.out.fz 2
      have v3 := hxc.out.fz 3
      have HTT := Lib.hid hT
      have HRES : Hid (tk xs (m + 1) (i, err) ah = ⟨decide (T.st.2 = 0), .mk z1.1 z2.1 z3.1 T.ks, T.st, T.ah⟩) := by
        show _ = _
        obtain ⟨a1, a2, a3, a4⟩ := HZ.out
        simp only [tk]
        rw [if_neg hno, a1, a2, a3, a4, HNN.out]
        simp only [Int.toNat_natCast, HTT.out, hok.out, if_true]
      have HBK : Hid (∀ (k : Nat), k ≠ w.heap.size → (((((wr.setCell ⟨w.heap.size, 0, none⟩ (.int .i64 z1.1)).setCell ⟨w.heap.size, 1, none⟩ (.string z2.1)).setCell ⟨w.heap.size, 2, none⟩ (.string z3.1)).setCell ⟨w.heap.size, 3, none⟩ (.slice la l.length lc)).drew).heap[k]? = wr.heap[k]?) := fun k hk => by
        show ((((wr.setCell ⟨w.heap.size, 0, none⟩ (.int .i64 z1.1)).setCell ⟨w.heap.size, 1, none⟩ (.string z2.1)).setCell ⟨w.heap.size, 2, none⟩ (.string z3.1)).setCell ⟨w.heap.size, 3, none⟩ (.slice la l.length lc)).heap[k]? = _
        rw [Below.heap_setCell _ _ _ _ hk, Below.heap_setCell _ _ _ _ hk, Below.heap_setCell _ _ _ _ hk, Below.heap_setCell _ _ _ _ hk]
      have HSK : Hid (wr.heap.size ≤ (((((wr.setCell ⟨w.heap.size, 0, none⟩ (.int .i64 z1.1)).setCell ⟨w.heap.size, 1, none⟩ (.string z2.1)).setCell ⟨w.heap.size, 2, none⟩ (.string z3.1)).setCell ⟨w.heap.size, 3, none⟩ (.slice la l.length lc)).drew).heap.size) := by
        show wr.heap.size ≤ ((((wr.setCell ⟨w.heap.size, 0, none⟩ (.int .i64 z1.1)).setCell ⟨w.heap.size, 1, none⟩ (.string z2.1)).setCell ⟨w.heap.size, 2, none⟩ (.string z3.1)).setCell ⟨w.heap.size, 3, none⟩ (.slice la l.length lc)).heap.size
        simp [World.setCell]
      have HXF : Hid (DC (((((wr.setCell ⟨w.heap.size, 0, none⟩ (.int .i64 z1.1)).setCell ⟨w.heap.size, 1, none⟩ (.string z2.1)).setCell ⟨w.heap.size, 2, none⟩ (.string z3.1)).setCell ⟨w.heap.size, 3, none⟩ (.slice la l.length lc)).drew) w.heap.size [.int .i64 z1.1, .string z2.1, .string z3.1, .slice la l.length lc]) := by
        have h := (((hxc.out.set 0 (.int .i64 z1.1) (by simp)).set 1 (.string z2.1) (by simp)).set 2 (.string z3.1) (by simp)).set 3 (.slice la l.length lc) (by simp)
        exact ⟨h.cells, h.fz, h.lt⟩
      have HKF : Hid (Kept2 w (((((wr.setCell ⟨w.heap.size, 0, none⟩ (.int .i64 z1.1)).setCell ⟨w.heap.size, 1, none⟩ (.string z2.1)).setCell ⟨w.heap.size, 2, none⟩ (.string z3.1)).setCell ⟨w.heap.size, 3, none⟩ (.slice la l.length lc)).drew) rb wb) := by
        have h := (((hkp.out.putx (k := w.heap.size) (o := 0) (x := .int .i64 z1.1) (Nat.le_refl _)).putx (k := w.heap.size) (o := 1) (x := .string z2.1) (Nat.le_refl _)).putx (k := w.heap.size) (o := 2) (x := .string z3.1) (Nat.le_refl _)).putx (k := w.heap.size) (o := 3) (x := .slice la l.length lc) (Nat.le_refl _)
        exact ⟨h.os, h.tape, h.output, h.size, h.block⟩
      clear hT
      go_wp2_with fail
      go_region_with (go_at_call 58; (with_reducible refine HER.out.mono ?_); rintro e' w8 ⟨rfl, rfl⟩)
      clear f0 f1 f2 f3 x0 x1 x2 x3 v0 v1 v2 v3
      all_goals
        generalize ((((wr.setCell ⟨w.heap.size, 0, none⟩ (.int .i64 z1.1)).setCell ⟨w.heap.size, 1, none⟩ (.string z2.1)).setCell ⟨w.heap.size, 2, none⟩ (.string z3.1)).setCell ⟨w.heap.size, 3, none⟩ (.slice la l.length lc)).drew = WF at *
        have x0 := HXF.out.cells 0 _ rfl
        have x1 := HXF.out.cells 1 _ rfl
        have x2 := HXF.out.cells 2 _ rfl
        have x3 := HXF.out.cells 3 _ rfl
        go_wp2_with fail
        (try simp only [Exit.inBlock, Exit.then])
        refine bodyPost_ret (v := .tuple #[flV (.mk z1.1 z2.1 z3.1 T.ks) (.slice la l.length lc), .bool (T.st.2 == 0)]) ?_ rfl ⟨HKF.out, ?_⟩
        · rw [results_cell_tmp rfl]
          go_simp
          rfl
        · rw [HRES.out]
          by_cases h0 : T.st.2 = 0
          · have hk := hrk.out.told
            rw [hlm.out] at hk
            have hlen : l.length = T.ks.length := by rw [← hlm.out, List.length_map]
            refine .inl ⟨by simp [h0], .slice la l.length lc, by simp [h0], ?_, RS_block hrs.out (HBK.out rb (fun e => hxb1 e.symm)) (HBK.out g (by omega)), hdc.out.keep HSK.out (HBK.out wb (fun e => hxb2 e.symm))⟩
            exact hk.keep HSK.out (fun k h1 _ => HBK.out k (by omega)) (fun k h1 _ => by omega)
          · exact .inr ⟨by simp [h0], .mk z1.1 z2.1 z3.1 T.ks, la, l.length, lc, by simp [h0]⟩
theorem take_any : ∀ m, TkOk m
  | 0 => fun w rb wb g n cap xs i err ah h hrl hgl hd hne1 hne2 hah hm => take_no 0 w rb wb g n cap xs i err ah 6 (fun W hW => enter_no (w := W) 6 ah hW (.inl (Nat.le_refl _)) (by omega)) hd (by simp [tk]) hne1 hne2
  | m + 1 => take_step m (take_any m)
end Go.Proofs.Ytdeknkfhlmkabaa
