/-
  Parts and Field of texts of any length that have few parts.
-/
import Derived.Test.YthmibccjnhmegaaDoorB8
namespace Go.Proofs.YthmibccjnhmegaaDoor
set_option linter.unusedVariables false
set_option linter.unusedSimpArgs false
open Go.RowKit

set_option maxHeartbeats 1000000 in
theorem Parts_big (s : ByteArray) (r : Int) (w : World) (hs : s.size ≤ 140737488355328) (hpl : (partsOf s r).length ≤ 1000000) (hr0 : -2147483648 ≤ r) (hr1 : r ≤ 2147483647) (hT : TabIn w) :
    Calls Tryd.prog 22 #[.string s, .int .i32 r] w (StrsMade (partsOf s r) w) := by
  have HT := Lib.hid hT
  have HPL := Lib.hid hpl
  clear hT hpl
  go_enter Tryd.func22, Tryd.ntmps22
  go_wp2
  go_loopw [5, 6] (fun v fr wr => ∃ (pos b a n : Nat) (acc : List ByteArray), wr.heap[w.heap.size]? = some (.stringIter s pos) ∧ fr = .int .i64 a ∧ Hid (acc ++ partsFrom s r b a pos = partsOf s r) ∧ Hid (acc.length = n) ∧ n ≤ pos ∧ a ≤ pos ∧ Hid (wr.ownsRow (w.heap.size + 1) 9 1 v n (strVals acc)) ∧ Hid (Below w.heap.size w wr) ∧ s.size ≤ pos + b ∧ pos ≤ s.size ∧ w.heap.size + 1 ≤ wr.heap.size)
    (fun _ _ wr => s.size - wr.iterPos w.heap.size)
  case atStart => exact ⟨0, s.size, 0, 0, [], World.iter_heap _ _ _, rfl, rfl, rfl, Nat.le_refl _, Nat.le_refl _, World.ownsRow_nil _ _ _ _, (Below.refl _ _).alloc (Nat.le_refl _) _, by omega, Nat.zero_le _, by simp [World.iter]⟩
  case round =>
    obtain ⟨pos, b, a, n, acc, hit, rfl, hst, hn, hnp, hap, hown, hbel, hb, hps, hsz⟩ := hrel
    have hnP : n ≤ 1000000 := by
      have h1 := congrArg List.length hst.out
      rw [List.length_append, hn.out] at h1
      have := HPL.out
      omega
    by_cases hlt : pos < s.size
    · have hnx : ∀ ty, (Instr.next (.pointer (some ⟨w.heap.size, 0, none⟩)) true ty).run Tryd.prog wr = _ := fun ty => Lib.run_next_any_at wr w.heap.size s pos ty hit hlt
      have hd := decode_le s pos
      have hw := dec_pos s pos hlt
      have hi := dec_in s pos hlt
      obtain ⟨b, rfl⟩ : ∃ c, b = c + 1 := ⟨b - 1, by omega⟩
      have Hdec := Lib.hid (fun W hT => decodeRune_at s pos W hlt hT)
      by_cases hr : ((Utf8.decode s pos).1 : Int) = r
      · have Hst : Hid ((acc ++ [s.extract a pos]) ++ partsFrom s r b (pos + (Utf8.decode s pos).2) (pos + (Utf8.decode s pos).2) = partsOf s r) := by
          have := hst.out
          rw [partsFrom_hit s r b a pos hlt hr] at this
          show _ = _
          rw [← this]; simp
        generalize (Utf8.decode s pos).1 = x at *
        generalize (Utf8.decode s pos).2 = wd at *
        subst hr
        have Hit := Lib.hid (Lib.iterAt_heap wr w.heap.size s pos (pos + wd) hit)
        have Hown := Lib.hid (ownsRow_iterAt hown.out (k := w.heap.size) (by omega) s (pos + wd))
        have Hbel := Lib.hid (Lib.below_iterAt hbel.out (Nat.le_refl _) s (pos + wd))
        have Hp := Lib.hid (iterPos_of hit)
        have hsz' : w.heap.size + 1 ≤ (wr.iterAt w.heap.size s (pos + wd)).heap.size := by rw [Lib.iterAt_size]; exact hsz
        generalize hW : wr.iterAt w.heap.size s (pos + wd) = W at *
        clear hW hit hown hbel hst
        go_wp2_with (at_builtin; (refine wpList_push1 rfl _ _ 27 9 (.string ByteArray.empty) 16 rfl Tryd.underlying27 Tryd.infoStr rfl (w.heap.size + 1) n _ (strVals acc) rfl Hown.out (.string (s.extract a pos)) rfl rfl (by omega) (by decide) (by omega) ?_; intro g1 c1 w1 hown1 hbel1 hsz1))
        have H1 := Lib.hid hown1
        have H2 := Lib.hid (Hbel.out.trans (hbel1.mono (Nat.le_succ _)))
        have H3 := Lib.hid (iter_later Hit.out hbel1 (Nat.lt_succ_self _))
        have Hc := Lib.hid (Hdec.out w1 (HT.out.later H2.out))
        clear hown1 hbel1 Hdec
        go_wp2_with fail
        go_fit Hc.out
        rintro e w2 ⟨rfl, hb2⟩
        have H4 := Lib.hid (owns_later H1.out hb2)
        have H5 := Lib.hid (H2.out.trans (hb2.mono H2.out.size))
        have H6 := Lib.hid (iter_later H3.out hb2 (by omega))
        have hsz2 := hb2.size
        clear hb2 H1 H2 H3
        go_wp2_with fail
        go_roundw
        case rel =>
          refine ⟨pos + wd, b, pos + wd, n + 1, _, H6.out, by go_num, Hst, by have := hn.out; simp [Hid, this], by omega, by omega, ?_, H5, by omega, by omega, by omega⟩
          rw [← strVals_snoc]; exact H4.out
        case measure => rw [Hp.out, iterPos_of H6.out]; omega
      · have Hst : Hid (acc ++ partsFrom s r b a (pos + (Utf8.decode s pos).2) = partsOf s r) := by
          have := hst.out
          rw [partsFrom_miss s r b a pos hlt hr] at this
          exact this
        generalize (Utf8.decode s pos).1 = x at *
        generalize (Utf8.decode s pos).2 = wd at *
        have Hit := Lib.hid (Lib.iterAt_heap wr w.heap.size s pos (pos + wd) hit)
        have Hown := Lib.hid (ownsRow_iterAt hown.out (k := w.heap.size) (by omega) s (pos + wd))
        have Hbel := Lib.hid (Lib.below_iterAt hbel.out (Nat.le_refl _) s (pos + wd))
        have Hp := Lib.hid (iterPos_of hit)
        have hsz' : w.heap.size + 1 ≤ (wr.iterAt w.heap.size s (pos + wd)).heap.size := by rw [Lib.iterAt_size]; exact hsz
        generalize hW : wr.iterAt w.heap.size s (pos + wd) = W at *
        clear hW hit hown hbel hst Hdec
        go_wp2_with fail
        go_roundw
        case rel => exact ⟨pos + wd, b, a, n, _, Hit.out, rfl, Hst, hn, by omega, by omega, Hown, Hbel, by omega, by omega, by omega⟩
        case measure => rw [Hp.out, iterPos_of Hit.out]; omega
    · have hnx : ∀ ty, (Instr.next (.pointer (some ⟨w.heap.size, 0, none⟩)) true ty).run Tryd.prog wr = _ := fun ty => Lib.run_next_end_at wr w.heap.size s pos ty hit hlt
      have E : Hid (acc ++ [s.extract a s.size] = partsOf s r) := by
        have := hst.out
        rw [partsFrom_end s r b a pos hlt] at this
        exact this
      clear hst hit
      go_wp2_with (at_builtin; (refine wpList_push1 rfl _ _ 27 9 (.string ByteArray.empty) 16 rfl Tryd.underlying27 Tryd.infoStr rfl (w.heap.size + 1) n _ (strVals acc) rfl hown.out (.string (s.extract a s.size)) rfl rfl (by omega) (by decide) (by omega) ?_; intro g1 c1 w1 hown1 hbel1 hsz1))
      have H1 := Lib.hid hown1
      have H2 := Lib.hid (hbel.out.trans (hbel1.mono (Nat.le_succ _)))
      clear hown1 hbel1
      go_wp2_with fail
      go_ret
      refine ⟨g1, n + 1, c1, rfl, ?_, ?_, H2.out⟩
      · rw [← E.out, List.length_append, hn.out]; rfl
      · rw [← E.out, ← strVals_snoc]; exact H1.out

theorem Cut_yesB (p : ByteArray) (w : World) (hs : p.size ≤ 140737488355328) (h : colonB p = true) :
    Calls Tryd.prog 40 #[.string p, .string ⟨#[58]⟩] w fun e w' => e = .returned (.tuple #[.string (frontB p), .string (restB p), .bool true]) ∧ Below w.heap.size w w' := by
  have hf := front_fits p h
  have hx : Lib.indexByte p.data.toList 58 = ((frontB p).size : Int) := by
    rw [indexByte_one, if_pos ((colonB_iff p).1 h), ← frontB_list, ← Lib.size_eq]
  have e1 : Hid (p.extract 0 (frontB p).size = frontB p) := by
    apply toList_inj
    rw [extract_list, frontB_list, List.drop_zero, Nat.sub_zero]
    have := head_take 58 p.data.toList
    rw [← frontB_list, ← Lib.size_eq] at this
    rw [← this, frontB_list]
  have e2 : Hid (p.extract ((frontB p).size + 1) p.size = restB p) := rfl
  have hi := Tryd.stringslite_Index_one p 58 w
  rw [hx] at hi
  have Hi : Hid (Calls Tryd.prog 63 #[.string p, .string ⟨#[58]⟩] w fun e w' => e = .returned (.int .i64 ((frontB p).size : Int)) ∧ w = w') := hi.mono fun _ _ ⟨a, b⟩ => ⟨a, b.symm⟩
  clear hi hx
  generalize hq : frontB p = fr at *
  clear hq
  obtain ⟨q, hq⟩ : ∃ q, q = fr.size := ⟨_, rfl⟩
  rw [← hq] at hf e1 e2 Hi
  clear hq
  have Hc : Hid (Calls Tryd.prog 54 #[.string p, .string ⟨#[58]⟩] w fun e w' => e = .returned (.tuple #[.string fr, .string (restB p), .bool true]) ∧ Below w.heap.size w w') := by
    show Calls _ _ _ _ _
    go_enter Tryd.func54, Tryd.ntmps54
    go_wp2_with fail
    go_fit Hi.out
    rintro e w' ⟨rfl, rfl⟩
    go_wp2_with fail
    go_quiet (fail)
    go_wp2_with fail
    go_ret3
    rw [← e1.out, ← e2.out]
    exact ⟨rfl, below_drewN' _⟩
  go_enter Tryd.func40, Tryd.ntmps40
  go_wp2_with fail
  go_fit Hc.out
  rintro e w' ⟨rfl, hb⟩
  go_wp2_with fail
  go_ret3
  exact ⟨rfl, hb⟩
theorem Cut_noB (p : ByteArray) (w : World) (hs : p.size ≤ 140737488355328) (h : colonB p = false) :
    Calls Tryd.prog 40 #[.string p, .string ⟨#[58]⟩] w fun e w' => e = .returned (.tuple #[.string p, .string ByteArray.empty, .bool false]) ∧ Below w.heap.size w w' := by
  have hx : Lib.indexByte p.data.toList 58 = -1 := by
    rw [indexByte_one, if_neg (by rw [← colonB_iff, h]; decide)]
  have hi := Tryd.stringslite_Index_one p 58 w
  rw [hx] at hi
  have Hi : Hid (Calls Tryd.prog 63 #[.string p, .string ⟨#[58]⟩] w fun e w' => e = .returned (.int .i64 (-1)) ∧ w = w') := hi.mono fun _ _ ⟨a, b⟩ => ⟨a, b.symm⟩
  clear hi hx
  have Hc : Hid (Calls Tryd.prog 54 #[.string p, .string ⟨#[58]⟩] w fun e w' => e = .returned (.tuple #[.string p, .string ByteArray.empty, .bool false]) ∧ w = w') := by
    show Calls _ _ _ _ _
    go_enter Tryd.func54, Tryd.ntmps54
    go_wp2_with fail
    go_fit Hi.out
    rintro e w' ⟨rfl, rfl⟩
    go_wp2_with fail
    go_ret3
    exact ⟨rfl, rfl⟩
  go_enter Tryd.func40, Tryd.ntmps40
  go_wp2_with fail
  go_fit Hc.out
  rintro e w' ⟨rfl, rfl⟩
  go_wp2_with fail
  go_ret3
  exact ⟨rfl, Below.refl _ _⟩

set_option maxHeartbeats 1000000 in
theorem Field_big (s name : ByteArray) (w : World) (hs : s.size ≤ 140737488355328) (hpl : (partsOf s 32).length ≤ 1000000) (hT : TabIn w) :
    Calls Tryd.prog 24 #[.string s, .string name] w (FieldP (partsOf s 32) name w) := by
  have hP : Hid (Calls Tryd.prog 22 #[.string s, .int .i32 32] w (StrsMade (partsOf s 32) w)) := Parts_big s 32 w hs hpl (by omega) (by omega) hT
  have hlen := (partsFrom_length s 32 s.size 0 0)
  have Hlen : Hid (1 ≤ (partsOf s 32).length ∧ (partsOf s 32).length ≤ s.size + 1) := hlen
  clear hT hlen
  go_enter Tryd.func24, Tryd.ntmps24
  go_wp2_with fail
  go_fit hP.out
  rintro e w1 ⟨g, n, c, rfl, hn, hown, hbel⟩
  have Hsz : Hid (∀ k, k < n → ((partsOf s 32).getD k ByteArray.empty).size ≤ s.size) := fun k hk => parts_size s 32 k (by omega)
  have Hcell : Hid (∀ W, Below w1.heap.size w1 W → ∀ k, k < n → W.cell? ⟨g, k, none⟩ = some (.string ((partsOf s 32).getD k ByteArray.empty))) := fun W hb k hk => by
    rw [owns_cell (owns_later hown hb) k hk, str_cell _ _ (by omega)]
  have Hbel := Lib.hid hbel
  have hnb : n ≤ s.size + 1 := by have := Hlen.out; omega
  have Hn := Lib.hid hn
  have Hhit : Hid (∀ k, k < n → colonB ((partsOf s 32).getD k ByteArray.empty) = true → frontB ((partsOf s 32).getD k ByteArray.empty) = name → fieldOf name ((partsOf s 32).drop k) = (restB ((partsOf s 32).getD k ByteArray.empty), true)) := fun k hk a b => field_hit name _ k (by omega) a b
  have Hmiss : Hid (∀ k, k < n → hitB ((partsOf s 32).getD k ByteArray.empty) name = false → fieldOf name ((partsOf s 32).drop k) = fieldOf name ((partsOf s 32).drop (k + 1))) := fun k hk a => field_miss name _ k (by omega) a
  have Hend : Hid (fieldOf name ((partsOf s 32).drop n) = (ByteArray.empty, false)) := field_end name _ n (by omega)
  clear hown hbel hn hP Hlen
  go_wp2_with fail
  go_loopw [14] (fun i wr => ∃ k : Nat, k ≤ n ∧ i = .int .i64 k ∧ Hid (Below w1.heap.size w1 wr) ∧ Hid (fieldOf name ((partsOf s 32).drop k) = fieldOf name (partsOf s 32)))
    (fun i _ => n - (intOf i).toNat)
  case atStart => exact ⟨0, Nat.zero_le _, rfl, Below.refl _ _, rfl⟩
  case round =>
    obtain ⟨k, hk, rfl, hb, hf⟩ := hrel
    by_cases hlt : k < n
    · have hcell := Hcell.out wr hb.out k hlt
      have hz := Hsz.out k hlt
      have H1 := Lib.hid (Hhit.out k hlt)
      have H2 := Lib.hid (Hmiss.out k hlt)
      generalize (partsOf s 32).getD k ByteArray.empty = p at *
      cases hc : colonB p with
      | true =>
        have HC := Lib.hid (Cut_yesB p wr (by omega) hc)
        by_cases hfr : frontB p = name
        · have hq : ((frontB p).toList == name.toList) = true := by rw [← beq_toListBytes, beq_bytes, decide_eq_true hfr]
          have HE := Lib.hid (H1.out hc hfr)
          clear hc hfr H1 H2
          generalize frontB p = fr at *
          generalize restB p = re at *
          go_wp2_with fail
          go_fit HC.out
          rintro e w2 ⟨rfl, hb2⟩
          have Hb2 := Lib.hid (Hbel.out.trans ((hb.out.trans (hb2.mono hb.out.size)).mono Hbel.out.size))
          clear hb2
          go_wp2_with fail
          go_ret2
          refine ⟨?_, Hb2.out⟩
          rw [← hf.out, HE.out]
          rfl
        · have hq : ((frontB p).toList == name.toList) = false := by rw [← beq_toListBytes, beq_bytes, decide_eq_false hfr]
          have HE := Lib.hid (H2.out (by unfold hitB; rw [decide_eq_false hfr, Bool.and_false]))
          clear hc hfr H1 H2
          generalize frontB p = fr at *
          generalize restB p = re at *
          go_wp2_with fail
          go_fit HC.out
          rintro e w2 ⟨rfl, hb2⟩
          have Hb2 := Lib.hid (hb.out.trans (hb2.mono hb.out.size))
          clear hb2
          go_wp2_with fail
          go_roundw
          case rel => exact ⟨k + 1, by omega, by go_num, Hb2, HE.out.symm.trans hf.out⟩
          case measure => simp [intOf]; omega
      | false =>
        have HC := Lib.hid (Cut_noB p wr (by omega) hc)
        have HE := Lib.hid (H2.out (by unfold hitB; rw [hc]; rfl))
        clear hc H1 H2
        go_wp2_with fail
        go_fit HC.out
        rintro e w2 ⟨rfl, hb2⟩
        have Hb2 := Lib.hid (hb.out.trans (hb2.mono hb.out.size))
        clear hb2
        go_wp2_with fail
        go_roundw
        case rel => exact ⟨k + 1, by omega, by go_num, Hb2, HE.out.symm.trans hf.out⟩
        case measure => simp [intOf]; omega
    · have e : k = n := by omega
      have HE : Hid (fieldOf name (partsOf s 32) = (ByteArray.empty, false)) := by rw [← hf.out, e]; exact Hend.out
      clear e
      go_wp2_with fail
      go_ret2
      refine ⟨?_, Hbel.out.trans (hb.out.mono Hbel.out.size)⟩
      rw [HE.out]; rfl

theorem Name_big (s : ByteArray) (b : Bool) (n : Int) (h : madeB s 1 8 letterB = b) (hn : errOf b 22 = n) (w : World) (hs : s.size ≤ 9223372036854775807) :
    Calls Tryd.prog 19 #[.string s] w fun e w' => e = .returned (.int .i64 n) ∧ Below w.heap.size w w' := by
  subst hn
  have hc : Hid (Calls Tryd.prog 35 #[.string s, .int .i64 1, .int .i64 8, .func (.func 38) #[] #[]] w fun e w' => e = .returned (.bool (madeB s 1 8 letterB)) ∧ Below w.heap.size w w') := madeOf_letter s 1 8 w (by omega) (by omega) (by omega)
  rw [h] at hc
  clear h
  cases b
  all_goals
    go_enter Tryd.func19, Tryd.ntmps19
    go_wp2_with fail
    go_fit hc.out
    rintro e w1 ⟨rfl, hb1⟩
    have Hb := Lib.hid hb1
    clear hb1
    go_wp2_with fail
    go_ret
    exact ⟨rfl, Hb.out⟩

end Go.Proofs.YthmibccjnhmegaaDoor
