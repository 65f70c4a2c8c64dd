/-
  The walk of TextMade.
-/
import Derived.Test.YthmibccjnhmegaaDoorMadeH
namespace Go.Proofs.YthmibccjnhmegaaDoor
set_option linter.unusedVariables false
set_option linter.unusedSimpArgs false
open Go.RowKit Go.Maps

set_option maxRecDepth 100000 in
set_option maxHeartbeats 8000000 in
theorem Made_none (a1 a2 : Option Addr) (len1 cap1 len2 cap2 : Nat) (other : ByteArray) (w : World) (ho : other.size ≤ 9223372036854775807)
    (hmin : ∀ (ts : Array TypeId) (t : TypeId) (W : World), (Builtin.min_ ts t #[.int .i64 len1, .int .i64 len2, .int .i64 50]).run Tryd.prog W = .ok (.int .i64 0) W) (hT : TabIn w) :
    Calls Tryd.prog 9 #[.slice a1 len1 cap1, .slice a2 len2 cap2, .string other] w (Yes w) := by
  have HT := Lib.hid hT
  clear hT
  have hmm := @run_makeMap Tryd.prog
  have hJ : ∀ W, Calls Tryd.prog 30 #[.slice none 0 0, .string ⟨#[32]⟩] W fun e w' => e = .returned (.string (allText [])) ∧ Below W.heap.size W w' := fun W => JoinAll [] 0 0 _ W rfl (by decide) (by simp) (by simp [valSum]) (World.ownsRow_nil _ _ _ _)
  have HJ0 := Lib.hid hJ
  clear hJ
  go_enter Tryd.func9, Tryd.ntmps9
  go_wp2_with fail
  refine wp_loop_rounds 1 ?_
  rw [rounds_succ]
  go_wp2_with fail
  go_fit (HJ0.out _)
  rintro e w1 ⟨rfl, hb1⟩
  have Hb1 := Lib.hid (((Below.refl w.heap.size w).alloc (Nat.le_refl _) (.map #[] 0)).trans (hb1.mono (by simp)))
  have Hh1 := Lib.hid (Had.later (had_new w) hb1)
  have Hsz : Hid ((allText []).size ≤ 140737488355328) := by show _ ≤ _; decide +kernel
  have Hpl : Hid ((partsOf (allText []) 32).length ≤ 1000000) := parts_few Took.nil (by decide)
  have Hoth : Hid (fieldOf other (partsOf (allText []) 32) = (ByteArray.empty, false)) := field_all [] (by simp) other
  have hemp : ByteArray.empty.toList.isEmpty = true := by decide +kernel
  clear hb1 HJ0
  generalize allText [] = all at *
  go_wp2_with fail
  refine wp_loop_rounds 1 ?_
  rw [rounds_succ]
  go_wp2_with fail
  have HF : Hid (∀ W, TabIn W → Calls Tryd.prog 24 #[.string all, .string other] W fun e w' => e = .returned (.tuple #[.string ByteArray.empty, .bool false]) ∧ Below W.heap.size W w') := fun W h => (Field_big all other _ Hsz.out Hpl.out h).mono fun e w' ⟨h1, h2⟩ => ⟨by rw [h1, Hoth.out], h2⟩
  go_fit (HF.out _ (HT.out.later Hb1.out))
  rintro e w3 ⟨rfl, hb3⟩
  have Hb4 := Lib.hid (Hb1.out.trans (hb3.mono Hb1.out.size))
  have Hh4 := Lib.hid (Had.later Hh1.out hb3)
  clear hb3 Hb1 Hh1 HF Hoth
  cases hbo : madeB other 1 8 letterB with
  | false =>
    go_wp2_with fail
    go_fit (Name_big other false 22 hbo rfl _ ho)
    rintro e w5 ⟨rfl, hb5⟩
    have Hb5 := Lib.hid (Hb4.out.trans (hb5.mono Hb4.out.size))
    clear hb5
    go_wp2_with fail
    go_fit (awake_any _ (HT.out.later Hb5.out))
    rintro e w7 ⟨rfl, hb7⟩
    have H7 := Lib.hid (Hb5.out.trans (hb7.mono Hb5.out.size))
    clear hb7
    go_wp2_with fail
    go_ret
    exact ⟨rfl, H7.out⟩
  | true =>
    have Hlk := Lib.hid (fun (W : World) (hb : Below w3.heap.size w3 W) => had_look (Had.later Hh4.out hb) other ho)
    go_wp2_with fail
    go_fit (Name_big other true 0 hbo rfl _ ho)
    rintro e w5 ⟨rfl, hb5⟩
    have Hb5 := Lib.hid (Hb4.out.trans (hb5.mono Hb4.out.size))
    have hlk : (Instr.lookup 38 (.map (some w.heap.size)) (.string other) false).run Tryd.prog w5 = .ok (.bool false) w5 := by rw [Hlk.out w5 hb5]; simp
    clear hb5
    go_wp2_with fail
    go_fit (awake_any _ (HT.out.later Hb5.out))
    rintro e w7 ⟨rfl, hb7⟩
    have H7 := Lib.hid (Hb5.out.trans (hb7.mono Hb5.out.size))
    clear hb7
    go_wp2_with fail
    go_ret
    exact ⟨rfl, H7.out⟩

set_option maxRecDepth 100000 in
set_option maxHeartbeats 16000000 in
theorem Made_some (b1 o1 b2 o2 : Nat) (len1 cap1 len2 cap2 n : Nat) (xs ys : List ByteArray) (other : ByteArray) (w : World) (hx : StrsIn w (some ⟨b1, o1, none⟩) len1 xs) (hy : StrsIn w (some ⟨b2, o2, none⟩) len2 ys) (ho : other.size ≤ 9223372036854775807)
    (hl1 : len1 ≤ 9223372036854775807) (hl2 : len2 ≤ 9223372036854775807) (hn0 : 0 < n) (hn1 : n ≤ len1) (hn2 : n ≤ len2) (hn50 : n ≤ 50)
    (hmin : ∀ (ts : Array TypeId) (t : TypeId) (W : World), (Builtin.min_ ts t #[.int .i64 len1, .int .i64 len2, .int .i64 50]).run Tryd.prog W = .ok (.int .i64 n) W) (hT : TabIn w) :
    Calls Tryd.prog 9 #[.slice (some ⟨b1, o1, none⟩) len1 cap1, .slice (some ⟨b2, o2, none⟩) len2 cap2, .string other] w (Yes w) := by
  have HT := Lib.hid hT
  have Hcx : Hid (∀ W, Below w.heap.size w W → ∀ i, i < len1 → W.cell? ⟨b1, o1 + i, none⟩ = some (.string (xs.getD i ByteArray.empty))) := fun W hb i hi => hx.cell (by omega) hb i hi
  have Hcy : Hid (∀ W, Below w.heap.size w W → ∀ i, i < len2 → W.cell? ⟨b2, o2 + i, none⟩ = some (.string (ys.getD i ByteArray.empty))) := fun W hb i hi => hy.cell (by omega) hb i hi
  have Hly : Hid (∀ W, Below w.heap.size w W → b2 < W.heap.size) := fun W hb => Nat.lt_of_lt_of_le (hy.lt (by omega)) hb.size
  have Hlx : Hid (∀ W, Below w.heap.size w W → b1 < W.heap.size) := fun W hb => Nat.lt_of_lt_of_le (hx.lt (by omega)) hb.size
  have Hne1 : Hid (b1 ≠ w.heap.size) := Nat.ne_of_lt (hx.lt (by omega))
  have Hzx : Hid (∀ i, i < len1 → (xs.getD i ByteArray.empty).size ≤ 140737488351232) := fun i hi => hx.size_at i hi
  have Hzy : Hid (∀ i, i < len2 → (ys.getD i ByteArray.empty).size ≤ 140737488351232) := fun i hi => hy.size_at i hi
  clear hT hx hy
  have hmm := @run_makeMap Tryd.prog
  go_enter Tryd.func9, Tryd.ntmps9
  go_wp2_with fail
  go_loopw [7, 9, 24] (fun vp vn vi wr => ∃ (k S c : Nat) (a : Option Addr), k ≤ n ∧ S ≤ 16384 ∧ vp = .slice a k c ∧ vn = .int .i64 S ∧ vi = .int .i64 k ∧ Hid (Took (pairsOf xs ys k)) ∧ Hid (valSum (pairsOf xs ys k) ≤ S ∨ (S = 16384 ∧ valSum (pairsOf xs ys k) ≤ 140737488351232)) ∧ Hid (wr.ownsRow (w.heap.size + 1) 9 1 vp k (strVals ((pairsOf xs ys k).map fieldText))) ∧ Hid (Had wr w.heap.size k ((pairsOf xs ys k).map (Prod.fst : ByteArray × ByteArray → ByteArray))) ∧ Hid (Below w.heap.size w wr) ∧ w.heap.size + 1 ≤ wr.heap.size)
    (fun _ _ vi _ => n - (intOf vi).toNat)
  case atStart => exact ⟨0, 0, 0, none, Nat.zero_le _, Nat.zero_le _, rfl, rfl, rfl, Took.nil, .inl (Nat.le_refl 0), World.ownsRow_nil _ _ _ _, had_new w, (Below.refl _ _).alloc (Nat.le_refl _) _, by simp⟩
  case round =>
    obtain ⟨k, S, c, a, hk, hS, rfl, rfl, rfl, htk, hvs, hown, hhad, hbel, hsz⟩ := hrel
    by_cases hlt : k < n
    · have hcx := Hcx.out _ hbel.out k (by omega)
      have hcy := Hcy.out _ hbel.out k (by omega)
      have hzx := Hzx.out k (by omega)
      have hzy := Hzy.out k (by omega)
      have Hpk := Lib.hid (pairs_succ xs ys k)
      generalize xs.getD k ByteArray.empty = x at *
      generalize ys.getD k ByteArray.empty = y at *
      obtain ⟨q, hq⟩ : ∃ q : Nat, q = min y.size 16384 := ⟨_, rfl⟩
      have hq16 : q ≤ 16384 := by omega
      have hm2 : ∀ (ts : Array TypeId) (t : TypeId) (W : World), (Builtin.min_ ts t #[.int .i64 y.size, .int .i64 16384]).run Tryd.prog W = .ok (.int .i64 q) W := fun ts t W => min2_nat ts t W _ _ (by omega)
      have Hq := Lib.hid hq
      clear hq
      cases hbo : madeB x 1 8 letterB with
      | false =>
        have HN := Lib.hid (fun W => Name_big x false 22 hbo rfl W (by omega))
        clear hbo htk hvs hown hhad
        go_wp2_with fail
        go_fit (HN.out _)
        rintro e w1 ⟨rfl, hb1⟩
        have Hb1 := Lib.hid (hbel.out.trans (hb1.mono hbel.out.size))
        clear hb1
        go_wp2_with fail
        go_fit (awake_any _ (HT.out.later Hb1.out))
        rintro e w7 ⟨rfl, hb7⟩
        have H7 := Lib.hid (Hb1.out.trans (hb7.mono Hb1.out.size))
        clear hb7
        go_wp2_with fail
        go_ret
        exact ⟨rfl, H7.out⟩
      | true =>
        have HN := Lib.hid (fun W => Name_big x true 0 hbo rfl W (by omega))
        have hx8 := name_size hbo
        by_cases hin : x ∈ (pairsOf xs ys k).map (Prod.fst : ByteArray × ByteArray → ByteArray)
        · have Hlk : Hid (∀ W, Below _ _ W → (Instr.lookup 38 (.map (some w.heap.size)) (.string x) false).run Tryd.prog W = .ok (.bool true) W) := fun W hb => by rw [had_look (Had.later hhad.out hb) x (by omega), decide_eq_true hin]
          clear hbo hin htk hvs hown hhad
          go_wp2_with fail
          go_fit (HN.out _)
          rintro e w1 ⟨rfl, hb1⟩
          have Hb1 := Lib.hid (hbel.out.trans (hb1.mono hbel.out.size))
          have hlk := Hlk.out w1 hb1
          have hcx1 := (hb1.cell (Hlx.out _ hbel.out)).trans hcx
          clear hb1
          go_wp2_with fail
          go_fit (awake_any _ (HT.out.later Hb1.out))
          rintro e w7 ⟨rfl, hb7⟩
          have H7 := Lib.hid (Hb1.out.trans (hb7.mono Hb1.out.size))
          clear hb7
          go_wp2_with fail
          go_ret
          exact ⟨rfl, H7.out⟩
        · have Hlk : Hid (∀ W, Below _ _ W → (Instr.lookup 38 (.map (some w.heap.size)) (.string x) false).run Tryd.prog W = .ok (.bool false) W) := fun W hb => by rw [had_look (Had.later hhad.out hb) x (by omega), decide_eq_false hin]
          by_cases h32 : (32 : UInt8) ∈ y.data.toList
          · obtain ⟨i, hi⟩ : ∃ i : Nat, Lib.indexByte y.data.toList 32 = (i : Int) := ⟨_, (Int.toNat_of_nonneg ((index_none _ _).2 h32)).symm⟩
            have HI := Lib.hid (fun W => IndexByte_any y W)
            rw [hi] at HI
            clear hbo hin htk hvs hown hhad hi h32
            go_wp2_with fail
            go_fit (HN.out _)
            rintro e w1 ⟨rfl, hb1⟩
            have Hb1 := Lib.hid (hbel.out.trans (hb1.mono hbel.out.size))
            have hlk := Hlk.out w1 hb1
            have hcx1 := (hb1.cell (Hlx.out _ hbel.out)).trans hcx
            clear hb1
            go_wp2_with fail
            go_fit (HI.out _)
            rintro e w2 ⟨rfl, rfl⟩
            go_wp2_with fail
            go_fit (awake_any _ (HT.out.later Hb1.out))
            rintro e w7 ⟨rfl, hb7⟩
            have H7 := Lib.hid (Hb1.out.trans (hb7.mono Hb1.out.size))
            clear hb7
            go_wp2_with fail
            go_ret
            exact ⟨rfl, H7.out⟩
          · have HI : Hid (∀ W, Calls Tryd.prog 31 #[.string y, .int .u8 32] W fun e w' => e = .returned (.int .i64 (-1)) ∧ W = w') := fun W => (IndexByte_any y W).mono fun e w' ⟨h1, h2⟩ => ⟨by rw [h1, index_minus h32], h2⟩
            by_cases hov : S + q ≤ 16384
            · have Htk : Hid (Took (pairsOf xs ys (k + 1))) := by
                show Took _
                rw [Hpk.out]
                exact htk.out.more hbo hin h32
              have Hvs : Hid (valSum (pairsOf xs ys (k + 1)) ≤ S + q ∨ (S + q = 16384 ∧ valSum (pairsOf xs ys (k + 1)) ≤ 140737488351232)) := by
                show _ ∨ _
                rw [Hpk.out, valSum_snoc]
                have := Hq.out
                rcases hvs.out with h | h <;> omega
              clear hbo hin h32 htk hvs
              go_wp2_with fail
              go_fit (HN.out _)
              rintro e w1 ⟨rfl, hb1⟩
              have Hb1 := Lib.hid (hbel.out.trans (hb1.mono hbel.out.size))
              have hlk := Hlk.out w1 hb1
              have hcx1 := (hb1.cell (Hlx.out _ hbel.out)).trans hcx
              have Hown := Lib.hid (owns_later hown.out hb1)
              have Hhad := Lib.hid (Had.later hhad.out hb1)
              have hsz1 : w.heap.size + 1 ≤ w1.heap.size := Nat.le_trans hsz hb1.size
              clear hb1 hown hhad Hlk
              go_wp2_with fail
              go_fit (HI.out _)
              rintro e w2 ⟨rfl, rfl⟩
              go_wp2_with (first
                | (at_mapUpdate; refine wpList_mapUpdate_own _ rfl _ _ _ 38 rfl 9 4 keyS Tryd.underlying38 _ w.heap.size k _ rfl Hhad.out (by unfold maxLen; omega) _ _ (.string x.data.toList) rfl rfl (WideMaps.keyOf_string_mk Tryd.underlying9 (by unfold maxLen; omega)) (.lit (.bool true)) [] (plainElem_bool Tryd.underlying4 true) ?_; intro w3 hm3 hg3; have Hm3 := Lib.hid (had_put hm3); have Hb3 := Lib.hid (below_map Hb1.out hg3); have Hown3 := Lib.hid (owns_map Hown.out hg3); have hcx3 := map_cell hg3 hcx1 Hne1.out; have hsz3 : w.heap.size + 1 ≤ w3.heap.size := Nat.le_trans hsz1 hg3.size; clear hm3 hg3 Hhad)
                | (at_builtin; (refine wpList_push1g rfl _ _ 27 9 (.string ByteArray.empty) 16 rfl Tryd.underlying27 Tryd.infoStr rfl (w.heap.size + 1) k _ (strVals ((pairsOf xs ys k).map fieldText)) rfl Hown3.out _ rfl rfl (by omega) (by decide) (by omega) ?_; intro g4 c4 w4 hown4 hgr4 hsz4; have Hown4 := Lib.hid hown4; have Hb4 := Lib.hid (below_grown Hb3.out Hown3.out hgr4 (by omega) (by omega)); have Hm4 := Lib.hid (had_row Hm3.out Hown3.out hgr4); clear hown4 hgr4)))
              go_roundw
              case rel =>
                refine ⟨k + 1, S + q, c4, _, by omega, by omega, rfl, by go_num, by go_num, Htk, Hvs, ?_, ?_, Hb4, by omega⟩
                · show World.ownsRow _ _ _ _ _ _ _
                  rw [Hpk.out, List.map_append, ← strVals_snoc']; exact Hown4.out
                · show Had _ _ _ _
                  rw [Hpk.out, List.map_append]; exact Hm4.out
              case measure => simp [intOf]; omega
            · clear hbo hin htk hvs hown hhad h32
              go_wp2_with fail
              go_fit (HN.out _)
              rintro e w1 ⟨rfl, hb1⟩
              have Hb1 := Lib.hid (hbel.out.trans (hb1.mono hbel.out.size))
              have hlk := Hlk.out w1 hb1
              have hcx1 := (hb1.cell (Hlx.out _ hbel.out)).trans hcx
              clear hb1
              go_wp2_with fail
              go_fit (HI.out _)
              rintro e w2 ⟨rfl, rfl⟩
              go_wp2_with fail
              go_fit (awake_any _ (HT.out.later Hb1.out))
              rintro e w7 ⟨rfl, hb7⟩
              have H7 := Lib.hid (Hb1.out.trans (hb7.mono Hb1.out.size))
              clear hb7
              go_wp2_with fail
              go_ret
              exact ⟨rfl, H7.out⟩
    · obtain rfl : k = n := by omega
      have hlen := pairs_length xs ys k
      have hv47 : valSum (pairsOf xs ys k) ≤ 140737488351232 := by rcases hvs.out with h | h <;> omega
      have Hsz : Hid ((allText (pairsOf xs ys k)).size ≤ 140737488355328) := by
        have := allText_size (pairsOf xs ys k) fun x hx => (htk.out.small x hx)
        show _ ≤ _
        omega
      have Hpl : Hid ((partsOf (allText (pairsOf xs ys k)) 32).length ≤ 1000000) := parts_few htk.out (by omega)
      have Hlook : Hid (∀ i, i < k → fieldOf (xs.getD i ByteArray.empty) (partsOf (allText (pairsOf xs ys k)) 32) = (ys.getD i ByteArray.empty, true)) := fun i hi => by
        rw [field_all _ htk.out.clean]
        exact among_at _ i _ htk.out.apart (pairs_at xs ys k i hi)
      have Hoth : Hid (fieldOf other (partsOf (allText (pairsOf xs ys k)) 32) = among other (pairsOf xs ys k)) := field_all _ htk.out.clean other
      have HJ := Lib.hid (JoinAll (pairsOf xs ys k) (w.heap.size + 1) k _ _ hlen.symm hn50 htk.out.small hv47 hown.out)
      have HB := hbel
      have HH := hhad

      clear htk hvs hown hhad hbel
      go_wp2_with fail
      go_fit HJ.out
      rintro e w1 ⟨rfl, hb1⟩
      have Hb1 := Lib.hid (HB.out.trans (hb1.mono HB.out.size))
      have Hh1 := Lib.hid (Had.later HH.out hb1)
      clear hb1 HJ HB HH
      generalize allText (pairsOf xs ys k) = all at *
      go_wp2_with fail
      go_loopw [80] (fun i wx => ∃ j : Nat, j ≤ k ∧ i = .int .i64 j ∧ Hid (Below w1.heap.size w1 wx)) (fun i _ => k - (intOf i).toNat)
      case atStart => exact ⟨0, Nat.zero_le _, rfl, Below.refl _ _⟩
      case round =>
        obtain ⟨j, hj, rfl, hb⟩ := hrel
        by_cases hlt : j < k
        · have hbx := Hb1.out.trans (hb.out.mono Hb1.out.size)
          have hcx := Hcx.out _ hbx j (by omega)
          have hcy := Hcy.out _ hbx j (by omega)
          have Hf := Lib.hid (Hlook.out j hlt)
          have hbX := Lib.hid hbx
          clear hbx
          generalize xs.getD j ByteArray.empty = x at *
          generalize ys.getD j ByteArray.empty = y at *
          have hq : (y.toList == y.toList) = true := by rw [← beq_toListBytes, beq_bytes, decide_eq_true rfl]
          have HF : Hid (Calls Tryd.prog 24 #[.string all, .string x] _ fun e w' => e = .returned (.tuple #[.string y, .bool true]) ∧ Below _ _ w') := (Field_big all x _ Hsz.out Hpl.out (HT.out.later hbX.out)).mono fun e w' ⟨h1, h2⟩ => ⟨by rw [h1, Hf.out], h2⟩
          go_wp2_with fail
          go_fit HF.out
          rintro e w2 ⟨rfl, hb2⟩
          have Hb2 := Lib.hid (hb.out.trans (hb2.mono hb.out.size))
          have hcy2 := (hb2.cell (Hly.out _ hbX.out)).trans hcy
          clear hb2
          go_wp2_with fail
          go_roundw
          case rel => exact ⟨j + 1, by omega, by go_num, Hb2⟩
          case measure => simp [intOf]; omega
        · have Hb3 := Lib.hid (Hb1.out.trans (hb.out.mono Hb1.out.size))
          have Hh3 := Lib.hid (Had.later Hh1.out hb.out)
          clear hb Hb1 Hh1
          go_wp2_with fail
          go_fit (Field_big all other _ Hsz.out Hpl.out (HT.out.later Hb3.out))
          rintro e w3 ⟨rfl, hb3⟩
          have Hb4 := Lib.hid (Hb3.out.trans (hb3.mono Hb3.out.size))
          have Hh4 := Lib.hid (Had.later Hh3.out hb3)
          have hoth := Hoth.out
          have hamo := among_ok other (pairsOf xs ys k)
          have hemp : ByteArray.empty.toList.isEmpty = true := by decide +kernel
          clear hb3 Hb3 Hh3 Hlook
          rw [hoth]
          cases hbo : madeB other 1 8 letterB with
          | false =>
            rcases hfo : among other (pairsOf xs ys k) with ⟨v, ok⟩
            rw [hfo] at hamo
            obtain ⟨ha1, ha2⟩ := hamo
            cases ok with
            | false =>
              obtain rfl : v = ByteArray.empty := ha2 rfl
              clear hoth hfo ha1 ha2
              go_wp2_with fail
              go_fit (Name_big other false 22 hbo rfl _ ho)
              rintro e w5 ⟨rfl, hb5⟩
              have Hb5 := Lib.hid (Hb4.out.trans (hb5.mono Hb4.out.size))
              clear hb5
              go_wp2_with fail
              go_fit (awake_any _ (HT.out.later Hb5.out))
              rintro e w7 ⟨rfl, hb7⟩
              have H7 := Lib.hid (Hb5.out.trans (hb7.mono Hb5.out.size))
              clear hb7
              go_wp2_with fail
              go_ret
              exact ⟨rfl, H7.out⟩
            | true =>
              clear hoth hfo ha1 ha2
              go_wp2_with fail
              go_fit (Name_big other false 22 hbo rfl _ ho)
              rintro e w5 ⟨rfl, hb5⟩
              have Hb5 := Lib.hid (Hb4.out.trans (hb5.mono Hb4.out.size))
              clear hb5
              go_wp2_with fail
              go_fit (awake_any _ (HT.out.later Hb5.out))
              rintro e w7 ⟨rfl, hb7⟩
              have H7 := Lib.hid (Hb5.out.trans (hb7.mono Hb5.out.size))
              clear hb7
              go_wp2_with fail
              go_ret
              exact ⟨rfl, H7.out⟩
          | true =>
            rcases hfo : among other (pairsOf xs ys k) with ⟨v, ok⟩
            rw [hfo] at hamo
            obtain ⟨ha1, ha2⟩ := hamo
            have hlk := fun (W : World) (hb : Below w3.heap.size w3 W) => had_look (Had.later Hh4.out hb) other ho
            rw [← ha1] at hlk
            have Hlk := Lib.hid hlk
            clear hlk
            cases ok with
            | false =>
              obtain rfl : v = ByteArray.empty := ha2 rfl
              clear hoth hfo ha1 ha2
              go_wp2_with fail
              go_fit (Name_big other true 0 hbo rfl _ ho)
              rintro e w5 ⟨rfl, hb5⟩
              have Hb5 := Lib.hid (Hb4.out.trans (hb5.mono Hb4.out.size))
              have hlk := Hlk.out w5 hb5
              clear hb5
              go_wp2_with fail
              go_fit (awake_any _ (HT.out.later Hb5.out))
              rintro e w7 ⟨rfl, hb7⟩
              have H7 := Lib.hid (Hb5.out.trans (hb7.mono Hb5.out.size))
              clear hb7
              go_wp2_with fail
              go_ret
              exact ⟨rfl, H7.out⟩
            | true =>
              clear hoth hfo ha1 ha2
              go_wp2_with fail
              go_fit (Name_big other true 0 hbo rfl _ ho)
              rintro e w5 ⟨rfl, hb5⟩
              have Hb5 := Lib.hid (Hb4.out.trans (hb5.mono Hb4.out.size))
              have hlk := Hlk.out w5 hb5
              clear hb5
              go_wp2_with fail
              go_fit (awake_any _ (HT.out.later Hb5.out))
              rintro e w7 ⟨rfl, hb7⟩
              have H7 := Lib.hid (Hb5.out.trans (hb7.mono Hb5.out.size))
              clear hb7
              go_wp2_with fail
              go_ret
              exact ⟨rfl, H7.out⟩


end Go.Proofs.YthmibccjnhmegaaDoor
