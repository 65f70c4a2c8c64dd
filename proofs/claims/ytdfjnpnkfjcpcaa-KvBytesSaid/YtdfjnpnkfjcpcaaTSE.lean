/-
  TS8 TS9 TS11 TS12 in one text.
-/
import Derived.Test.YtdfjnpnkfjcpcaaTS6
import Derived.Test.YtdfjnpnkfjcpcaaTBE
import Derived.Test.YtdfjnpnkfjcpcaaTM5

/- TS8 -/
namespace Go.Proofs.Ytdfjnpnkfjcpcaa.Ts
open Go.Proofs.Ytdfjnpnkfjcpcaa
set_option linter.unusedVariables false
set_option linter.unusedSimpArgs false
open Go.RowKit

theorem insertion_tail {w : World} {g c N a : Nat} {F xs : List Pr} (hr : PRow w g (F ++ xs)) (hgl : g < w.heap.size) (hF : F.length = a) (hn : a + xs.length = N) (hc : N ≤ c) (hnb : N ≤ 1073741824) :
    Calls Try.prog 112 #[.slice (some ⟨g, 0, none⟩) N c, .int .i64 a, .int .i64 N, .func (.func 83) #[] #[]] w fun e w' => e = .returned (.tuple #[]) ∧ Sorts g (F ++ isort xs) w w' := by
  by_cases h : xs = []
  · subst h
    obtain rfl : a = N := by simpa using hn
    exact (insertion_nil (by omega)).mono fun e w' ⟨he, hw⟩ => ⟨he, by rw [← hw]; exact ⟨by simpa [isort] using hr, grown_refl _ _⟩⟩
  · have hl := List.length_pos_iff.2 h
    refine (insertion_seg (F := F) (xs := xs) (E := []) (n := N) (by simpa using hr) hgl hF hn (by omega) (Nat.le_refl _) hc hnb).mono fun e w' ⟨he, hs⟩ => ⟨he, by simpa using hs⟩

set_option maxRecDepth 100000 in
set_option maxHeartbeats 12800000 in
theorem stable_big {w : World} {g c n : Nat} {xs : List Pr} (hr : PRow w g xs) (hgl : g < w.heap.size) (hn : xs.length = n) (hc : n ≤ c) (hnb : n ≤ 1000000) :
    Calls Try.prog 101 #[.slice (some ⟨g, 0, none⟩) n c, .int .i64 n, .func (.func 83) #[] #[]] w fun e w' => e = .returned (.tuple #[]) ∧ Sorts g (isort xs) w w' := by
  have HR := Lib.hid hr
  have Hgl := Lib.hid hgl
  have Hn := Lib.hid hn
  clear hr hgl hn
  go_enter Try.func101, Try.ntmps101
  go_wp2_with fail
  go_loopw [7, 8] (fun u v wr => ∃ (a b : Nat) (T U : List Pr), u = .int .i64 a ∧ v = .int .i64 b ∧ b ≤ n + 20 ∧ Hid (b = a + 20) ∧ a ≤ n ∧ Hid (Front 20 T) ∧ Hid (T.length = a) ∧ Hid (a + U.length = n) ∧ Hid (∀ k, kf k (T ++ U) = kf k xs) ∧ Hid (PRow wr g (T ++ U)) ∧ Hid (w.grownBy wr (some g)))
    (fun u _ _ => n - (intOf u).toNat)
  case atStart => exact ⟨0, 20, [], xs, rfl, rfl, by omega, rfl, by omega, Front.nil _, rfl, (by show 0 + xs.length = n; rw [Hn.out]; omega), fun _ => rfl, HR, grown_refl _ _⟩
  case round =>
    obtain ⟨a, b, T, U, rfl, rfl, hbn, hb, han, hF, hT, hU, hk, hrow, hgr⟩ := hrel
    have eb : IntKind.i64.wrap ((b : Int) + 20) = (b : Int) + 20 := IntWalk.i64_in _ (by omega)
    by_cases hle : b ≤ n
    · have hbI : (b : Int) ≤ (n : Int) := by omega
      obtain ⟨l, U', rfl, hll⟩ : ∃ l U', U = l ++ U' ∧ l.length = 20 := ⟨U.take 20, U.drop 20, (List.take_append_drop _ _).symm, by rw [List.length_take]; have := hU.out; have := hb.out; omega⟩
      have HC := Lib.hid (insertion_seg (w := wr) (c := c) (N := n) (F := T) (xs := l) (E := U') (a := a) (n := b) hrow.out (Nat.lt_of_lt_of_le Hgl.out hgr.out.size) hT.out (by have := hb.out; omega) (by have := hb.out; omega) hle hc (by omega))
      have Hll := Lib.hid hll
      clear hll
      go_wp2_with fail
      go_fit HC.out
      rintro e w2 ⟨rfl, hs⟩
      have HS := Lib.hid hs
      clear hs HC
      have H1 : Hid (Front 20 (T ++ isort l)) := hF.out.more (by rw [isort_length]; exact Hll.out) (isort_sortedW l)
      have H2 : Hid ((T ++ isort l).length = b) := by show _ = _; rw [List.length_append, isort_length, hT.out, Hll.out]; exact hb.out.symm
      have H3 : Hid (b + U'.length = n) := by show _ = _; have := hU.out; rw [List.length_append, Hll.out] at this; have := hb.out; omega
      have H4 : Hid (∀ k, kf k ((T ++ isort l) ++ U') = kf k xs) := fun k => by rw [← hk.out k, List.append_assoc, kf_mid]
      have H5 : Hid (PRow w2 g ((T ++ isort l) ++ U')) := by show PRow _ _ _; rw [List.append_assoc]; exact HS.out.1
      have H6 : Hid (w.grownBy w2 (some g)) := grown_seq hgr.out HS.out.2 (.inl rfl)
      clear HS hF hU hk hrow hgr hT
      go_wp2_with fail
      refine ⟨⟨b, b + 20, T ++ isort l, U', rfl, by simp, by omega, rfl, hle, H1, H2, H3, H4, H5, H6⟩, ?_⟩
      have := hb.out
      show n - ((b : Int)).toNat < n - ((a : Int)).toNat
      omega
    · have hbI : ¬ (b : Int) ≤ (n : Int) := by omega
      have HC := Lib.hid (insertion_tail (w := wr) (c := c) (N := n) (F := T) (xs := U) (a := a) hrow.out (Nat.lt_of_lt_of_le Hgl.out hgr.out.size) hT.out hU.out hc (by omega))
      go_wp2_with fail
      go_fit HC.out
      rintro e w2 ⟨rfl, hs⟩
      have HRow := Lib.hid hs.1
      have HG : Hid (w.grownBy w2 (some g)) := grown_seq hgr.out hs.2 (.inl rfl)
      have HCh : Hid (Ch 20 (T ++ isort U)) := hF.out _ (.last _ (by rw [isort_length]; have := hU.out; have := hb.out; omega) (isort_sortedW U))
      have HLn : Hid ((T ++ isort U).length = n) := by show _ = _; rw [List.length_append, isort_length, hT.out]; exact hU.out
      have HKf : Hid (∀ k, kf k (T ++ isort U) = kf k xs) := fun k => by rw [← hk.out k, kf_app, isort_kf, kf_app]
      generalize T ++ isort U = ys at *
      clear hs HC hF hT hU hk hrow hgr hb hbI hle hbn eb han
      go_wp2_with fail
      go_loopw [6, 7, 8, 9] (fun u6 u7 u8 u9 wr => ∃ (k : Nat) (ys : List Pr), u6 = .int .i64 k ∧ 20 ≤ k ∧ k ≤ 2 * n + 20 ∧ Hid (Ch k ys) ∧ Hid (ys.length = n) ∧ Hid (∀ q, kf q ys = kf q xs) ∧ Hid (PRow wr g ys) ∧ Hid (w.grownBy wr (some g)))
        (fun u6 _ _ _ _ => n - (intOf u6).toNat)
      case atStart => exact ⟨20, ys, rfl, by omega, by omega, HCh, HLn, HKf, HRow, HG⟩
      case round =>
        obtain ⟨k, zs, rfl, hk20, hkn, hCh, hLn, hKf, hrow, hgr⟩ := hrel
        clear HCh HLn HKf HRow HG
        have e2k : IntKind.i64.wrap (2 * (k : Int)) = 2 * (k : Int) := IntWalk.i64_in _ (by omega)
        have ek2 : IntKind.i64.wrap ((k : Int) * 2) = (k : Int) * 2 := IntWalk.i64_in _ (by omega)
        by_cases hlt : k < n
        · have hkI : (k : Int) < (n : Int) := by omega
          go_wp2_with fail
          go_loopw [7, 8] (fun u v wr2 => ∃ (a b : Nat) (T U : List Pr), u = .int .i64 a ∧ v = .int .i64 b ∧ b ≤ n + 2 * k ∧ Hid (b = a + 2 * k) ∧ a ≤ n ∧ Hid (Front (2 * k) T) ∧ Hid (T.length = a) ∧ Hid (a + U.length = n) ∧ Hid (Ch k U) ∧ Hid (∀ q, kf q (T ++ U) = kf q xs) ∧ Hid (PRow wr2 g (T ++ U)) ∧ Hid (w.grownBy wr2 (some g)))
            (fun u _ _ => n - (intOf u).toNat)
          case atStart => exact ⟨0, 2 * k, [], zs, rfl, by simp, by omega, (by show 2 * k = 0 + 2 * k; omega), by omega, Front.nil _, rfl, (by show 0 + zs.length = n; rw [hLn.out]; omega), hCh, hKf, hrow, hgr⟩
          case round =>
            obtain ⟨a, b, T, U, rfl, rfl, hbn, hb, han, hF, hT, hU, hCU, hk, hrw, hg2⟩ := hrel
            clear hCh hLn hKf hrow hgr
            have eb : IntKind.i64.wrap ((b : Int) + 2 * (k : Int)) = (b : Int) + 2 * (k : Int) := IntWalk.i64_in _ (by omega)
            have hgW := Lib.hid (Nat.lt_of_lt_of_le Hgl.out hg2.out.size)
            by_cases hle : b ≤ n
            · have hbI : (b : Int) ≤ (n : Int) := by omega
              obtain ⟨l, m, U', rfl, hl1, hl2, hs1, hs2, hC2⟩ := hCU.out.two (by omega) (by have := hU.out; have := hb.out; omega)
              have hsym := sym_any (w := wr) (c := c) (N := n) (A := T) (L := l) (R := m) (B := U') (a := a) (m := a + k) (b := b) (fun e => by subst e; simp at hl1; omega) (fun e => by subst e; simp at hl2; omega) hrw.out hgW.out hT.out (by rw [hl1]) (by rw [hl2]; have := hb.out; omega) (by rw [List.length_append, hT.out]; exact hU.out) hc (by omega) hs1 hs2
              rw [show ((a + k : Nat) : Int) = (a : Int) + (k : Int) by omega] at hsym
              have HC := Lib.hid hsym
              have Hl1 : Hid ((l ++ m).length = 2 * k) := by show _ = _; rw [List.length_append, hl1, hl2]; omega
              have HC2 := Lib.hid hC2
              have eak : IntKind.i64.wrap ((a : Int) + (k : Int)) = (a : Int) + (k : Int) := IntWalk.i64_in _ (by omega)
              clear hsym hl1 hl2 hs1 hs2 hC2 hCU
              go_wp2_with fail
              go_fit HC.out
              rintro e w2 ⟨rfl, hs⟩
              have HS := Lib.hid hs
              clear hs HC
              have H1 : Hid (Front (2 * k) (T ++ isort (l ++ m))) := hF.out.more (by rw [isort_length]; exact Hl1.out) (isort_sortedW _)
              have H2 : Hid ((T ++ isort (l ++ m)).length = b) := by show _ = _; rw [List.length_append, isort_length, hT.out, Hl1.out]; exact hb.out.symm
              have H3 : Hid (b + U'.length = n) := by show _ = _; have := hU.out; rw [← List.append_assoc, List.length_append, Hl1.out] at this; have := hb.out; omega
              have H4 : Hid (∀ q, kf q ((T ++ isort (l ++ m)) ++ U') = kf q xs) := fun q => by rw [← hk.out q, List.append_assoc, kf_mid, List.append_assoc l]
              have H5 : Hid (PRow w2 g ((T ++ isort (l ++ m)) ++ U')) := by show PRow _ _ _; rw [List.append_assoc]; exact HS.out.1
              have H6 : Hid (w.grownBy w2 (some g)) := grown_seq hg2.out HS.out.2 (.inl rfl)
              clear HS hF hU hk hrw hg2 hT
              go_wp2_with fail
              refine ⟨⟨b, b + 2 * k, T ++ isort (l ++ m), U', rfl, by simp, by omega, rfl, hle, H1, H2, H3, HC2, H4, H5, H6⟩, ?_⟩
              have := hb.out
              show n - ((b : Int)).toNat < n - ((a : Int)).toNat
              omega
            · have hbI : ¬ (b : Int) ≤ (n : Int) := by omega
              have eak : IntKind.i64.wrap ((a : Int) + (k : Int)) = (a : Int) + (k : Int) := IntWalk.i64_in _ (by omega)
              by_cases hm : a + k < n
              · have hmI : (a : Int) + (k : Int) < (n : Int) := by omega
                obtain ⟨l, r, rfl, hl1, hs1, hC2⟩ := hCU.out.take (by have := hU.out; omega)
                have hrl : r.length + k + a = n := by have := hU.out; rw [List.length_append, hl1] at this; omega
                have hs2 := hC2.sorted (by have := hb.out; omega)
                have hsym := sym_any (w := wr) (c := c) (N := n) (A := T) (L := l) (R := r) (B := []) (a := a) (m := a + k) (b := n) (fun e => by subst e; simp at hl1; omega) (fun e => by subst e; simp at hrl; omega) (by simpa using hrw.out) hgW.out hT.out (by rw [hl1]) (by omega) (by rw [List.append_nil, List.length_append, hT.out]; exact hU.out) hc (by omega) hs1 hs2
                rw [show ((a + k : Nat) : Int) = (a : Int) + (k : Int) by omega] at hsym
                have HC := Lib.hid hsym
                have Hl1 : Hid ((l ++ r).length ≤ 2 * k) := by show _ ≤ _; rw [List.length_append, hl1]; have := hb.out; omega
                clear hsym hl1 hs1 hs2 hC2 hCU hrl
                go_wp2_with fail
                go_fit HC.out
                rintro e w2 ⟨rfl, hs⟩
                have HS := Lib.hid hs
                clear hs HC
                have H1 : Hid (Ch (2 * k) (T ++ isort (l ++ r))) := hF.out _ (.last _ (by rw [isort_length]; exact Hl1.out) (isort_sortedW _))
                have H2 : Hid ((T ++ isort (l ++ r)).length = n) := by show _ = _; rw [List.length_append, isort_length, hT.out]; exact hU.out
                have H4 : Hid (∀ q, kf q (T ++ isort (l ++ r)) = kf q xs) := fun q => by rw [← hk.out q, kf_app, isort_kf, kf_app q T]
                have H5 : Hid (PRow w2 g (T ++ isort (l ++ r))) := by show PRow _ _ _; have h := HS.out.1; rw [List.append_nil] at h; exact h
                have H6 : Hid (w.grownBy w2 (some g)) := grown_seq hg2.out HS.out.2 (.inl rfl)
                clear HS hF hU hk hrw hg2 hT
                go_wp2_with fail
                refine ⟨⟨2 * k, _, by congr 1; omega, by omega, by omega, H1, H2, H4, H5, H6⟩, ?_⟩
                show n - ((k : Int) * 2).toNat < n - ((k : Int)).toNat
                omega
              · have hmI : ¬ (a : Int) + (k : Int) < (n : Int) := by omega
                have H1 : Hid (Ch (2 * k) (T ++ U)) := hF.out _ (.last _ (by have := hU.out; omega) (hCU.out.sorted (by have := hU.out; omega)))
                have H2 : Hid ((T ++ U).length = n) := by show _ = _; rw [List.length_append, hT.out]; exact hU.out
                clear hF hU hT hCU
                go_wp2_with fail
                refine ⟨⟨2 * k, _, by congr 1; omega, by omega, by omega, H1, H2, hk, hrw, hg2⟩, ?_⟩
                show n - ((k : Int) * 2).toNat < n - ((k : Int)).toNat
                omega
        · have hkI : ¬ (k : Int) < (n : Int) := by omega
          have HF : Hid (PRow wr g (isort xs)) := by
            show PRow _ _ _
            rw [← isort_of (hCh.out.sorted (by rw [hLn.out]; omega)) hKf.out]
            exact hrow.out
          clear hCh hLn hKf hrow
          go_wp2_with fail
          go_end0
          exact ⟨rfl, HF.out, hgr.out⟩

set_option maxRecDepth 100000 in
set_option maxHeartbeats 3200000 in
theorem SortStable_big {w : World} {g c n : Nat} {xs : List Pr} (hr : PRow w g xs) (hgl : g < w.heap.size) (hn : xs.length = n) (hc : n ≤ c) (hnb : n ≤ 1000000) :
    Calls Try.prog 82 #[.slice (some ⟨g, 0, none⟩) n c, .func (.func 83) #[] #[]] w fun e w' => e = .returned (.tuple #[]) ∧ Sorts g (isort xs) w w' := by
  have HI := Lib.hid (stable_big hr hgl hn hc hnb)
  clear hr hgl hn hc hnb
  go_enter Try.func82, Try.ntmps82
  go_wp2_with fail
  go_fit HI.out
  rintro e w1 ⟨rfl, hs⟩
  have HS := Lib.hid hs
  clear hs
  go_wp2_with fail
  go_end0
  exact ⟨rfl, HS.out⟩
end Go.Proofs.Ytdfjnpnkfjcpcaa.Ts

/- TS9 -/
namespace Go.Proofs.Ytdfjnpnkfjcpcaa.Ts
open Go.Proofs.Ytdfjnpnkfjcpcaa
set_option linter.unusedVariables false
set_option linter.unusedSimpArgs false
open Go.RowKit

set_option maxRecDepth 100000 in
set_option maxHeartbeats 6400000 in
theorem Of_big {w : World} {g n c : Nat} {xs : List Pr} (hr : PairsAt w g 0 xs) (hn : xs.length = n) (hn1 : 1 ≤ n) (hn2 : n ≤ 1000000) :
    Calls Try.prog 55 #[.slice (some ⟨g, 0, none⟩) n c] w (Grows w (Built (dd (isort xs)))) := by
  have HC := Lib.hid (Clone_some (c := c) hr hn hn1 (by omega))
  clear hr
  go_enter Try.func55, Try.ntmps55
  go_wp2_with fail
  go_fit HC.out
  rintro e w1 ⟨v1, rfl, hown, hb1⟩
  obtain ⟨g1, c1, rfl⟩ : ∃ g1 c1, v1 = .slice (some ⟨g1, 0, none⟩) n c1 := by
    rcases hown.2 with ⟨_, h0⟩ | ⟨g1, cap, cur, rfl, _⟩
    · omega
    · exact ⟨g1, cap, rfl⟩
  have hrow := pairs_of_row hown
  obtain ⟨hg1, hg1'⟩ := hown.lt g1 rfl
  have hc1 : n ≤ c1 ∧ c1 ≤ maxLen := by
    obtain ⟨a, c', hv, h1, h2⟩ := row_slice hown
    simp only [Value.slice.injEq] at hv
    rw [hv.2.2]; exact ⟨h1, h2⟩
  have HS := Lib.hid (SortStable_big (c := c1) hrow hg1' hn hc1.1 (by omega))
  have HB1 := Lib.hid hb1
  have Hc1 := Lib.hid hc1.1
  have Hg1 := Lib.hid hg1
  have Hg1' := Lib.hid hg1'
  clear HC hown hrow hg1 hg1' hc1 hb1
  go_wp2_with fail
  go_fit HS.out
  rintro e w2 ⟨rfl, hs⟩
  have HS2 := Lib.hid hs.1
  have HG2 := Lib.hid hs.2
  have Hsl : Hid ((isort xs).length = n) := by show _ = _; rw [isort_length, hn]
  clear hs HS
  generalize isort xs = ys at *
  go_wp2_with fail
  have hg0 : g1 < w2.heap.size := Nat.lt_of_lt_of_le Hg1'.out HG2.out.size
  have Hg0 := Lib.hid hg0
  have hnb : n ≤ 1073741824 := by omega
  clear hg0 hn2
  go_loopw [4, 13] (fun u v wr => ∃ (i m : Nat) (D J : List Pr), v = .int .i64 i ∧ u = .int .i64 m ∧ i ≤ n ∧ Hid (D = dd (ys.take i)) ∧ D.length = m ∧ D.length + J.length = i ∧ Hid (PRow wr g1 (D ++ (J ++ ys.drop i))) ∧ Hid (w2.grownBy wr (some g1)))
    (fun _ v _ => n - (intOf v).toNat)
  case atStart => exact ⟨0, 0, [], [], rfl, rfl, Nat.zero_le _, rfl, rfl, rfl, HS2, grown_refl _ _⟩
  case round =>
    obtain ⟨i, m, D, J, rfl, rfl, hin, hD, hDl, hDJ, hrow, hgr⟩ := hrel
    have ei : IntKind.i64.wrap ((i : Int) + 1) = (i : Int) + 1 := IntWalk.i64_in _ (by omega)
    by_cases hlt : i < n
    · obtain ⟨p, hp⟩ : ∃ p, ys[i]? = some p := ⟨ys[i]'(by rw [Hsl.out]; exact hlt), List.getElem?_eq_getElem _⟩
      have hdr : ys.drop i = p :: ys.drop (i + 1) := by have := List.getElem?_eq_some_iff.1 hp; rw [← this.2]; exact List.drop_eq_getElem_cons this.1
      have hstep : Hid (dd (ys.take (i + 1)) = dd1 D p) := by show _ = _; rw [dd_step ys hp, ← hD.out]
      obtain ⟨R, hR⟩ : ∃ R, R = ys.drop (i + 1) := ⟨_, rfl⟩
      have HRR := Lib.hid hR
      rw [hdr, ← hR] at hrow
      have hr1 : PRow wr g1 ((D ++ J) ++ p :: R) := by simpa using hrow.out
      obtain ⟨p0, p1⟩ := hr1.at
      rw [List.length_append, hDJ] at p0 p1
      have hI1 : (i : Int) < (n : Int) := by omega
      have hI2 : (0 : Int) ≤ (i : Int) := by omega
      have Hrow := Lib.hid hrow.out
      have HDJ := Lib.hid hDJ
      have HDl := Lib.hid hDl
      have hg3 : Hid (g1 < wr.heap.size) := Nat.lt_of_lt_of_le Hg0.out hgr.out.size
      have hA := below_alloc wr (Obj.cells #[Value.string p.fst, Value.string p.snd] 87)
      have hx := box_alloc wr p.1 p.2 87
      clear hrow hr1 hdr hD hDl hDJ hR hp
      go_wp2_with fail
      have HX := Lib.hid hx
      have HRow := Lib.hid (Hrow.out.later hg3.out hA)
      have hgW : Hid (w2.grownBy (wr.alloc (Obj.cells #[Value.string p.fst, Value.string p.snd] 87)) (some g1)) := grown_of_below hgr.out hA
      have hbx : wr.heap.size ≠ g1 := by have := hg3.out; omega
      have x0 := hx.c0
      have x1 := hx.c1
      clear hx hA hgr Hrow p0 p1 hg3
      generalize wr.alloc (Obj.cells #[Value.string p.fst, Value.string p.snd] 87) = W at *
      have hend : Hid (∀ (q : Nat) (E Y : List Pr) (y : Pr), PRow W g1 (E ++ y :: (Y ++ R)) → dd1 D p = E ++ [p] → E.length + 1 + Y.length = i + 1 →
          ∃ (i' m' : Nat) (D J : List Pr), Value.int .i64 ((i : Int) + 1) = .int .i64 i' ∧ Value.int .i64 ((E.length : Int) + 1) = .int .i64 m' ∧ i' ≤ n ∧ Hid (D = dd (ys.take i')) ∧ D.length = m' ∧ D.length + J.length = i' ∧ Hid (PRow (putPair (W.drewN q) g1 E.length p) g1 (D ++ (J ++ ys.drop i'))) ∧ Hid (w2.grownBy (putPair (W.drewN q) g1 E.length p) (some g1))) := fun q E Y y h1 h2 h3 => by
        refine ⟨i + 1, E.length + 1, E ++ [p], Y, by simp, by simp, hlt, ?_, by simp, by simp; omega, ?_, grown_seq (grown_of_below hgW.out (below_drewN (Below.refl _ _) q)) (grown_put _ _ _ _) (.inl rfl)⟩
        · show _ = _; rw [hstep.out, h2]
        · show PRow _ g1 _
          have := (h1.drewN q).put p
          rw [← HRR.out]
          simpa using this
      by_cases hm0 : m = 0
      · subst hm0
        obtain rfl : D = [] := List.eq_nil_of_length_eq_zero HDl.out
        obtain ⟨y, Y, hy⟩ : ∃ y Y, J ++ [p] = y :: Y := by cases J with
          | nil => exact ⟨p, [], rfl⟩
          | cons a l => exact ⟨a, l ++ [p], rfl⟩
        have hyl := congrArg List.length hy
        simp at hyl
        have h1 : PRow W g1 ([] ++ y :: (Y ++ R)) := by
          have := HRow.out
          rw [List.nil_append] at this
          rw [List.nil_append, ← List.cons_append, ← hy]
          simpa using this
        have HE := Lib.hid (fun q => hend.out q [] Y y h1 rfl (by have := HDJ.out; simp at this; simp; omega))
        have c0 := h1.at.1
        have c1 := h1.at.2
        simp only [List.length_nil, Nat.zero_mul, Nat.zero_add] at c0 c1
        have z0 := h1.fz 0
        have z1 := h1.fz 1
        have hn0 : (0 : Int) < (n : Int) := by omega
        clear h1 hend HRow
        rw [show ((0 : Nat) : Int) = 0 from rfl]
        go_wp2_with fail
        go_quiet (fail)
        go_wp2_with fail
        exact ⟨HE.out _, by show n - ((i : Int) + 1).toNat < n - ((i : Int)).toNat; omega⟩
      · obtain ⟨k, rfl⟩ : ∃ k, m = k + 1 := ⟨m - 1, by omega⟩
        obtain ⟨D', q, rfl⟩ : ∃ D' q, D = D' ++ [q] := ⟨D.dropLast, D.getLast (fun e => hm0 (by rw [← HDl.out, e]; rfl)), (List.dropLast_concat_getLast _).symm⟩
        have hDl : D'.length = k := by have := HDl.out; simp at this; omega
        have hDJ := HDJ.out
        rw [HDl.out] at hDJ
        have ek : IntKind.i64.wrap (k : Int) = (k : Int) := IntWalk.i64_in _ (by omega)
        have ek1 : IntKind.i64.wrap ((k : Int) + 1) = (k : Int) + 1 := IntWalk.i64_in _ (by omega)
        have ek2 : IntKind.i64.wrap ((k : Int) + 1 + 1) = (k : Int) + 1 + 1 := IntWalk.i64_in _ (by omega)
        have hkn : k < n := by omega
        have hkI : (k : Int) < (n : Int) := by omega
        have hkI1 : (k : Int) + 1 < (n : Int) := by omega
        have hkI0 : (0 : Int) ≤ (k : Int) + 1 := by omega
        have hkT : ((k : Int) + 1).toNat = k + 1 := by omega
        have hrq : PRow W g1 (D' ++ q :: (J ++ p :: R)) := by simpa using HRow.out
        obtain ⟨q0, q1⟩ := hrq.at
        rw [hDl] at q0 q1
        have z0 := hrq.fz (k * 2)
        have z1 := hrq.fz (k * 2 + 1)
        have z2 := hrq.fz ((k + 1) * 2)
        have z3 := hrq.fz ((k + 1) * 2 + 1)
        have hgl : (D' ++ [q]).getLast? = some q := by simp
        by_cases hqp : q.1 = p.1
        · have h1 : PRow W g1 (D' ++ q :: ((J ++ [p]) ++ R)) := by simpa using hrq
          have HE := Lib.hid (fun r => hend.out r D' (J ++ [p]) q h1 (by simp [dd1, hqp]) (by simp; omega))
          rw [hDl] at HE
          have heq : (q.1.toList == p.1.toList) = true := by rw [ba_eq]; simp [hqp]
          clear h1 hend HRow hrq hDl hDJ HDJ HDl hm0 hgl
          go_wp2_with fail
          go_quiet (fail)
          go_wp2_with fail
          exact ⟨HE.out _, by show n - ((i : Int) + 1).toNat < n - ((i : Int)).toNat; omega⟩
        · obtain ⟨y, Y, hy⟩ : ∃ y Y, J ++ [p] = y :: Y := by cases J with
            | nil => exact ⟨p, [], rfl⟩
            | cons a l => exact ⟨a, l ++ [p], rfl⟩
          have hyl := congrArg List.length hy
          simp at hyl
          have h1 : PRow W g1 ((D' ++ [q]) ++ y :: (Y ++ R)) := by
            have := HRow.out
            rw [← List.cons_append, ← hy]
            simpa using this
          have HE := Lib.hid (fun r => hend.out r (D' ++ [q]) Y y h1 (by simp [dd1, hqp]) (by rw [HDl.out]; omega))
          rw [HDl.out] at HE
          obtain ⟨y0, y1⟩ := h1.at
          rw [HDl.out] at y0 y1
          have heq : (q.1.toList == p.1.toList) = false := by rw [ba_eq]; simp [hqp]
          clear h1 hend HRow hrq hDl hDJ HDJ HDl hm0 hgl hy hyl
          go_wp2_with fail
          go_quiet (fail)
          go_wp2_with fail
          exact ⟨HE.out _, by show n - ((i : Int) + 1).toNat < n - ((i : Int)).toNat; omega⟩
    · obtain rfl : i = n := by omega
      have hmc : m ≤ c1 := by have := Hc1.out; omega
      have hmb : m ≤ 1073741824 := by omega
      have HDD : Hid (D = dd ys) := by show _ = _; rw [hD.out, ← Hsl.out, List.take_length]
      subst hDl
      have HT := Lib.hid (build_any D.length (Nat.le_refl _) wr g1 0 c1 hmc hmb hrow.out.pairs.left)
      have hw : w.heap.size ≤ wr.heap.size ∧ Below w.heap.size w wr := by
        have g12 := grown_seq HG2.out hgr.out (.inl rfl)
        have hb := HB1.out.grown g12 HB1.out.size (fun k hk => by simp at hk; have := Hg1.out; omega)
        exact ⟨hb.size, hb⟩
      have HW := Lib.hid hw
      clear hrow hgr hmb hw hD hDJ hin hlt
      go_wp2_with fail
      go_fit HT.out
      rintro e w3 ⟨v3, t3, rfl, hq, hk3, hb3⟩
      have HE : Hid (Grows w (Built (dd ys)) (.returned (.pointer (some ⟨w3.heap.size, 0, none⟩))) (w3.alloc (.cells #[.pointer v3] 104))) := ⟨_, t3, rfl, by rw [← HDD.out]; exact hq, tree_made hk3, HW.out.2.trans ((hb3.trans ((below_alloc w3 _).mono hb3.size)).mono HW.out.1)⟩
      clear hq hk3 hb3
      go_wp2_with fail
      go_ret
      exact HE.out
end Go.Proofs.Ytdfjnpnkfjcpcaa.Ts

/- TS11 -/
namespace Go.Proofs.Ytdfjnpnkfjcpcaa.Ts
open Go.Proofs.Ytdfjnpnkfjcpcaa
set_option linter.unusedVariables false
set_option linter.unusedSimpArgs false
open Go.RowKit

/-! no pairs at all -/
set_option maxHeartbeats 1600000 in
theorem insertion_none (w : World) : Calls Try.prog 112 #[.slice none 0 0, .int .i64 0, .int .i64 0, .func (.func 83) #[] #[]] w fun e w' => e = .returned (.tuple #[]) ∧ w = w' := by
  go_enter Try.func112, Try.ntmps112
  go_wp2_with fail
  refine wp_loop_rounds 1 ?_
  rw [rounds_succ]
  go_wp2_with fail
  go_end0
  exact ⟨rfl, rfl⟩
set_option maxHeartbeats 1600000 in
theorem stable_none (w : World) : Calls Try.prog 101 #[.slice none 0 0, .int .i64 0, .func (.func 83) #[] #[]] w fun e w' => e = .returned (.tuple #[]) ∧ w = w' := by
  go_enter Try.func101, Try.ntmps101
  go_wp2_with fail
  refine wp_loop_rounds 1 ?_
  rw [rounds_succ]
  go_wp2_with fail
  go_fit (insertion_none w)
  rintro e w1 ⟨rfl, rfl⟩
  go_wp2_with fail
  refine wp_loop_rounds 1 ?_
  rw [rounds_succ]
  go_wp2_with fail
  go_end0
  exact ⟨rfl, rfl⟩
set_option maxHeartbeats 1600000 in
theorem SortStable_none (w : World) : Calls Try.prog 82 #[.slice none 0 0, .func (.func 83) #[] #[]] w fun e w' => e = .returned (.tuple #[]) ∧ w = w' := by
  go_enter Try.func82, Try.ntmps82
  go_wp2_with fail
  go_fit (stable_none w)
  rintro e w1 ⟨rfl, rfl⟩
  go_wp2_with fail
  go_end0
  exact ⟨rfl, rfl⟩
set_option maxHeartbeats 1600000 in
theorem Clone_none (w : World) : Calls Try.prog 81 #[.slice none 0 0] w fun e w' => e = .returned (.slice none 0 0) ∧ w = w' := by
  have hnil : (binOp .eql 85 (.slice none 0 0) (.slice none 0 0)).run Try.prog w = .ok (.bool true) w := by
    simp only [binOp]
    have h : ∀ d : Nat, (Op.equalIn (d + 1) 85 (.slice none 0 0) (.slice none 0 0)).run Try.prog w = .ok true w := fun d => by simp [Op.equalIn, run_underlying Try.underlying85]
    simp [Op.equal, Op.maxDepth, h 9999]
  go_enter Try.func81, Try.ntmps81
  go_wp2_with fail
  go_ret
  exact ⟨rfl, rfl⟩
set_option maxRecDepth 100000 in
set_option maxHeartbeats 3200000 in
theorem Of_none (w : World) : Calls Try.prog 55 #[.slice none 0 0] w (Grows w (Built [])) := by
  go_enter Try.func55, Try.ntmps55
  go_wp2_with fail
  go_fit (Clone_none w)
  rintro e w1 ⟨rfl, rfl⟩
  go_wp2_with fail
  go_fit (SortStable_none w)
  rintro e w1 ⟨rfl, rfl⟩
  go_wp2_with fail
  refine wp_loop_rounds 1 ?_
  rw [rounds_succ]
  go_wp2_with fail
  go_fit (build_none none 0 w)
  rintro e w3 ⟨v3, t3, rfl, hq, hk3, hb3⟩
  have HE : Hid (Grows w (Built []) (.returned (.pointer (some ⟨w3.heap.size, 0, none⟩))) (w3.alloc (.cells #[.pointer v3] 104))) := ⟨_, t3, rfl, hq, tree_made hk3, hb3.trans ((below_alloc w3 _).mono hb3.size)⟩
  clear hq hk3 hb3
  go_wp2_with fail
  go_ret
  exact HE.out

end Go.Proofs.Ytdfjnpnkfjcpcaa.Ts

/- TS12 -/
namespace Go.Proofs.Ytdfjnpnkfjcpcaa.Ts
open Go.Proofs.Ytdfjnpnkfjcpcaa
set_option linter.unusedVariables false
set_option linter.unusedSimpArgs false
open Go.RowKit

/-! pairs sorted, of one key the last one: what With makes of them one by one -/
/-- What the last pair of a key has. -/
def lv (l : List Pr) (k : ByteArray) : Option ByteArray := (kf k l).getLast?.map (·.2)
theorem lv_snoc (l : List Pr) (p : Pr) (k : ByteArray) : lv (l ++ [p]) k = if k = p.1 then some p.2 else lv l k := by
  unfold lv
  rw [kf_app, kf_cons]
  by_cases h : p.1 = k
  · rw [if_pos h, if_pos h.symm]
    have : kf k [] = [] := rfl
    rw [this]; simp
  · rw [if_neg h, if_neg (fun e => h e.symm)]
    have : kf k [] = [] := rfl
    rw [this]; simp
theorem un_lv (l : List Pr) (k : ByteArray) : look (un [] l) k = lv l k := by
  have h : ∀ n, ∀ l : List Pr, l.length = n → look (un [] l) k = lv l k := by
    intro n
    induction n with
    | zero =>
      intro l hl
      obtain rfl := List.eq_nil_of_length_eq_zero hl
      rfl
    | succ n ih =>
      intro l hl
      obtain ⟨m, p, rfl⟩ : ∃ m p, l = m ++ [p] := ⟨l.dropLast, l.getLast (fun e => by rw [e] at hl; simp at hl), (List.dropLast_concat_getLast _).symm⟩
      have e : un [] (m ++ [p]) = wi (un [] m) p := by simp [un, List.foldl_append]
      rw [e, wi_look (un_sorted m (a := []) trivial), lv_snoc, ih m (by simpa using hl)]
  exact h _ l rfl
theorem dd_facts (n : Nat) : ∀ l : List Pr, l.length = n → SortedW l → Sorted (dd l) ∧ (∀ k, look (dd l) k = lv l k) ∧ (dd l).getLast?.map (·.1) = l.getLast?.map (·.1) := by
  induction n with
  | zero =>
    intro l hl _
    obtain rfl := List.eq_nil_of_length_eq_zero hl
    exact ⟨trivial, fun _ => rfl, rfl⟩
  | succ n ih =>
    intro l hl hs
    obtain ⟨m, p, rfl⟩ : ∃ m p, l = m ++ [p] := ⟨l.dropLast, l.getLast (fun e => by rw [e] at hl; simp at hl), (List.dropLast_concat_getLast _).symm⟩
    obtain ⟨s1, _, s3⟩ := sortedW_app.1 hs
    obtain ⟨h1, h2, h3⟩ := ih m (by simpa using hl) s1
    have e : dd (m ++ [p]) = dd1 (dd m) p := by simp [dd, List.foldl_append]
    rw [e]
    unfold dd1
    cases hD : (dd m).getLast? with
    | none =>
      have hdm : dd m = [] := List.getLast?_eq_none_iff.1 hD
      rw [hD] at h3
      have hm : m = [] := by
        cases hm : m.getLast? with
        | none => exact List.getLast?_eq_none_iff.1 hm
        | some q => rw [hm] at h3; simp at h3
      subst hm
      refine ⟨⟨(fun q hq => by simp at hq), trivial⟩, fun k => ?_, by simp⟩
      rw [lv_snoc]
      show look [p] k = _
      unfold look
      by_cases hk : p.1 = k
      · rw [if_pos hk, if_pos hk.symm]
      · rw [if_neg hk, if_neg (fun e => hk e.symm)]; rfl
    | some q =>
      obtain ⟨D, hDq⟩ : ∃ D, dd m = D ++ [q] := ⟨(dd m).dropLast, by
        have hne : dd m ≠ [] := fun e => by rw [e] at hD; simp at hD
        have := List.dropLast_concat_getLast hne
        rw [List.getLast?_eq_some_getLast hne] at hD
        rw [← Option.some.inj hD]; exact this.symm⟩
      obtain ⟨q', hq', hqm⟩ : ∃ q', m.getLast? = some q' ∧ q'.1 = q.1 := by
        rw [hD] at h3
        cases hm : m.getLast? with
        | none => rw [hm] at h3; simp at h3
        | some q' => rw [hm] at h3; exact ⟨q', rfl, by simpa using h3.symm⟩
      have hle : klt p.1 q.1 = false := by rw [← hqm]; exact s3 q' (List.mem_of_getLast? hq') p (by simp)
      rw [hDq] at h1 h2 ⊢
      obtain ⟨g1, _, g3, _⟩ := (sorted_mid D q []).1 h1
      by_cases hqp : q.1 = p.1
      · simp only [hqp, if_true, List.dropLast_concat]
        refine ⟨(sorted_mid D p []).2 ⟨g1, trivial, by rw [← hqp]; exact g3, (fun x hx => by simp at hx)⟩, fun k => ?_, by simp⟩
        rw [lv_snoc, ← h2 k, look_app, look_app]
        by_cases hk : k = p.1
        · rw [if_pos hk, look_under (by rw [← hqp] at *; exact g3) (by rw [hk, hqp]; exact klt_irr _)]
          simp [look, hk]
        · rw [if_neg hk]
          have e1 : look [p] k = none := look_none (fun x hx => by simp at hx; rw [hx]; exact fun e => hk e.symm)
          have e2 : look [q] k = none := look_none (fun x hx => by simp at hx; rw [hx, hqp]; exact fun e => hk e.symm)
          rw [e1, e2]
      · have hlt : klt q.1 p.1 = true := by
          rcases klt_tri q.1 p.1 with h | h | h
          · exact h
          · exact absurd h hqp
          · rw [hle] at h; cases h
        simp only [hqp, if_false]
        have hU : Under (D ++ [q]) p.1 := fun x hx => by
          rcases List.mem_append.1 hx with hx | hx
          · exact klt_trans (g3 x hx) hlt
          · simp at hx; rw [hx]; exact hlt
        refine ⟨(sorted_mid (D ++ [q]) p []).2 ⟨h1, trivial, hU, (fun x hx => by simp at hx)⟩, fun k => ?_, by simp⟩
        rw [lv_snoc, look_app]
        by_cases hk : k = p.1
        · rw [if_pos hk, look_under hU (by rw [hk]; exact klt_irr _)]
          simp [look, hk]
        · rw [if_neg hk, h2 k]
          have e1 : look [p] k = none := look_none (fun x hx => by simp at hx; rw [hx]; exact fun e => hk e.symm)
          rw [e1]; simp
theorem dd_un (l : List Pr) : dd (isort l) = un [] l := by
  obtain ⟨h1, h2, _⟩ := dd_facts _ (isort l) rfl (isort_sortedW l)
  refine sorted_ext h1 (un_sorted l (a := []) trivial) (fun k => ?_)
  rw [h2, un_lv]
  unfold lv
  rw [isort_kf]
end Go.Proofs.Ytdfjnpnkfjcpcaa.Ts
