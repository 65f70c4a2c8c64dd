/-
  Walks: pairs sorted, those of one key in the order in which they came, whatever their number.
-/
import Derived.Test.YtdgnjalbpiciiaaS6
namespace Go.Proofs.Ytdgnjalbpiciiaa
set_option linter.unusedVariables false
set_option linter.unusedSimpArgs false
open Go.RowKit
variable {κ : Env}

theorem insertion_tail {w : World} {g c N a : Nat} {F xs : List Pl} (hr : PRow κ w g (F ++ xs)) (hgl : g < w.heap.size) (hF : F.length = a) (hn : a + xs.length = N) (hc : N ≤ c) (hnb : N ≤ 1073741824) :
    Calls Try.prog 115 #[.slice (some ⟨g, 0, none⟩) N c, .int .i64 a, .int .i64 N, .func (.func 80) #[] #[.pointer (some ⟨κ.bx, 0, none⟩)]] w fun e w' => e = .returned (.tuple #[]) ∧ Sorts κ g (F ++ isort xs) w w' := by
  by_cases h : xs = []
  · subst h
    obtain rfl : a = N := by simpa using hn
    exact (insertion_nil (by omega)).mono fun e w' ⟨he, hw⟩ => ⟨he, by rw [← hw]; exact ⟨by simpa [isort] using hr, grown_refl _ _⟩⟩
  · have hl := List.length_pos_iff.2 h
    refine (insertion_seg (F := F) (xs := xs) (E := []) (n := N) (by simpa using hr) hgl hF hn (by omega) (Nat.le_refl _) hc hnb).mono fun e w' ⟨he, hs⟩ => ⟨he, by simpa using hs⟩

set_option maxRecDepth 100000 in
set_option maxHeartbeats 12800000 in
theorem stable_big {w : World} {g c n : Nat} {xs : List Pl} (hr : PRow κ w g xs) (hgl : g < w.heap.size) (hn : xs.length = n) (hc : n ≤ c) (hnb : n ≤ 1000000) :
    Calls Try.prog 94 #[.slice (some ⟨g, 0, none⟩) n c, .int .i64 n, .func (.func 80) #[] #[.pointer (some ⟨κ.bx, 0, none⟩)]] w fun e w' => e = .returned (.tuple #[]) ∧ Sorts κ g (isort xs) w w' := by
  have HR := Lib.hid hr
  have Hgl := Lib.hid hgl
  have Hn := Lib.hid hn
  clear hr hgl hn
  go_enter Try.func94, Try.ntmps94
  go_wp2_with fail
  go_loopw [7, 8] (fun u v wr => ∃ (a b : Nat) (T U : List Pl), u = .int .i64 a ∧ v = .int .i64 b ∧ b ≤ n + 20 ∧ Hid (b = a + 20) ∧ a ≤ n ∧ Hid (Front 20 T) ∧ Hid (T.length = a) ∧ Hid (a + U.length = n) ∧ Hid (∀ k, kf k (T ++ U) = kf k xs) ∧ Hid (PRow κ wr g (T ++ U)) ∧ Hid (w.grownBy wr (some g)))
    (fun u _ _ => n - (intOf u).toNat)
  case atStart => exact ⟨0, 20, [], xs, rfl, rfl, by omega, rfl, by omega, Front.nil _, rfl, (by show 0 + xs.length = n; rw [Hn.out]; omega), fun _ => rfl, HR, grown_refl _ _⟩
  case round =>
    obtain ⟨a, b, T, U, rfl, rfl, hbn, hb, han, hF, hT, hU, hk, hrow, hgr⟩ := hrel
    have eb : IntKind.i64.wrap ((b : Int) + 20) = (b : Int) + 20 := IntWalk.i64_in _ (by omega)
    by_cases hle : b ≤ n
    · have hbI : (b : Int) ≤ (n : Int) := by omega
      obtain ⟨l, U', rfl, hll⟩ : ∃ l U', U = l ++ U' ∧ l.length = 20 := ⟨U.take 20, U.drop 20, (List.take_append_drop _ _).symm, by rw [List.length_take]; have := hU.out; have := hb.out; omega⟩
      have HC := Lib.hid (insertion_seg (w := wr) (c := c) (N := n) (F := T) (xs := l) (E := U') (a := a) (n := b) hrow.out (Nat.lt_of_lt_of_le Hgl.out hgr.out.size) hT.out (by have := hb.out; omega) (by have := hb.out; omega) hle hc (by omega))
      have Hll := Lib.hid hll
      clear hll
      go_wp2_with fail
      go_fit HC.out
      rintro e w2 ⟨rfl, hs⟩
      have HS := Lib.hid hs
      clear hs HC
      have H1 : Hid (Front 20 (T ++ isort l)) := hF.out.more (by rw [isort_length]; exact Hll.out) (isort_sortedW l)
      have H2 : Hid ((T ++ isort l).length = b) := by show _ = _; rw [List.length_append, isort_length, hT.out, Hll.out]; exact hb.out.symm
      have H3 : Hid (b + U'.length = n) := by show _ = _; have := hU.out; rw [List.length_append, Hll.out] at this; have := hb.out; omega
      have H4 : Hid (∀ k, kf k ((T ++ isort l) ++ U') = kf k xs) := fun k => by rw [← hk.out k, List.append_assoc, kf_mid]
      have H5 : Hid (PRow κ w2 g ((T ++ isort l) ++ U')) := by show PRow κ _ _ _; rw [List.append_assoc]; exact HS.out.1
      have H6 : Hid (w.grownBy w2 (some g)) := grown_seq hgr.out HS.out.2 (.inl rfl)
      clear HS hF hU hk hrow hgr hT
      go_wp2_with fail
      refine ⟨⟨b, b + 20, T ++ isort l, U', rfl, by simp, by omega, rfl, hle, H1, H2, H3, H4, H5, H6⟩, ?_⟩
      have := hb.out
      show n - ((b : Int)).toNat < n - ((a : Int)).toNat
      omega
    · have hbI : ¬ (b : Int) ≤ (n : Int) := by omega
      have HC := Lib.hid (insertion_tail (w := wr) (c := c) (N := n) (F := T) (xs := U) (a := a) hrow.out (Nat.lt_of_lt_of_le Hgl.out hgr.out.size) hT.out hU.out hc (by omega))
      go_wp2_with fail
      go_fit HC.out
      rintro e w2 ⟨rfl, hs⟩
      have HRow := Lib.hid hs.1
      have HG : Hid (w.grownBy w2 (some g)) := grown_seq hgr.out hs.2 (.inl rfl)
      have HCh : Hid (Ch 20 (T ++ isort U)) := hF.out _ (.last _ (by rw [isort_length]; have := hU.out; have := hb.out; omega) (isort_sortedW U))
      have HLn : Hid ((T ++ isort U).length = n) := by show _ = _; rw [List.length_append, isort_length, hT.out]; exact hU.out
      have HKf : Hid (∀ k, kf k (T ++ isort U) = kf k xs) := fun k => by rw [← hk.out k, kf_app, isort_kf, kf_app]
      generalize T ++ isort U = ys at *
      clear hs HC hF hT hU hk hrow hgr hb hbI hle hbn eb han
      go_wp2_with fail
      go_loopw [6, 7, 8, 9] (fun u6 u7 u8 u9 wr => ∃ (k : Nat) (ys : List Pl), u6 = .int .i64 k ∧ 20 ≤ k ∧ k ≤ 2 * n + 20 ∧ Hid (Ch k ys) ∧ Hid (ys.length = n) ∧ Hid (∀ q, kf q ys = kf q xs) ∧ Hid (PRow κ wr g ys) ∧ Hid (w.grownBy wr (some g)))
        (fun u6 _ _ _ _ => n - (intOf u6).toNat)
      case atStart => exact ⟨20, ys, rfl, by omega, by omega, HCh, HLn, HKf, HRow, HG⟩
      case round =>
        obtain ⟨k, zs, rfl, hk20, hkn, hCh, hLn, hKf, hrow, hgr⟩ := hrel
        clear HCh HLn HKf HRow HG
        have e2k : IntKind.i64.wrap (2 * (k : Int)) = 2 * (k : Int) := IntWalk.i64_in _ (by omega)
        have ek2 : IntKind.i64.wrap ((k : Int) * 2) = (k : Int) * 2 := IntWalk.i64_in _ (by omega)
        by_cases hlt : k < n
        · have hkI : (k : Int) < (n : Int) := by omega
          go_wp2_with fail
          go_loopw [7, 8] (fun u v wr2 => ∃ (a b : Nat) (T U : List Pl), u = .int .i64 a ∧ v = .int .i64 b ∧ b ≤ n + 2 * k ∧ Hid (b = a + 2 * k) ∧ a ≤ n ∧ Hid (Front (2 * k) T) ∧ Hid (T.length = a) ∧ Hid (a + U.length = n) ∧ Hid (Ch k U) ∧ Hid (∀ q, kf q (T ++ U) = kf q xs) ∧ Hid (PRow κ wr2 g (T ++ U)) ∧ Hid (w.grownBy wr2 (some g)))
            (fun u _ _ => n - (intOf u).toNat)
          case atStart => exact ⟨0, 2 * k, [], zs, rfl, by simp, by omega, (by show 2 * k = 0 + 2 * k; omega), by omega, Front.nil _, rfl, (by show 0 + zs.length = n; rw [hLn.out]; omega), hCh, hKf, hrow, hgr⟩
          case round =>
            obtain ⟨a, b, T, U, rfl, rfl, hbn, hb, han, hF, hT, hU, hCU, hk, hrw, hg2⟩ := hrel
            clear hCh hLn hKf hrow hgr
            have eb : IntKind.i64.wrap ((b : Int) + 2 * (k : Int)) = (b : Int) + 2 * (k : Int) := IntWalk.i64_in _ (by omega)
            have hgW := Lib.hid (Nat.lt_of_lt_of_le Hgl.out hg2.out.size)
            by_cases hle : b ≤ n
            · have hbI : (b : Int) ≤ (n : Int) := by omega
              obtain ⟨l, m, U', rfl, hl1, hl2, hs1, hs2, hC2⟩ := hCU.out.two (by omega) (by have := hU.out; have := hb.out; omega)
              have hsym := sym_any (w := wr) (c := c) (N := n) (A := T) (L := l) (R := m) (B := U') (a := a) (m := a + k) (b := b) (fun e => by subst e; simp at hl1; omega) (fun e => by subst e; simp at hl2; omega) hrw.out hgW.out hT.out (by rw [hl1]) (by rw [hl2]; have := hb.out; omega) (by rw [List.length_append, hT.out]; exact hU.out) hc (by omega) hs1 hs2
              rw [show ((a + k : Nat) : Int) = (a : Int) + (k : Int) by omega] at hsym
              have HC := Lib.hid hsym
              have Hl1 : Hid ((l ++ m).length = 2 * k) := by show _ = _; rw [List.length_append, hl1, hl2]; omega
              have HC2 := Lib.hid hC2
              have eak : IntKind.i64.wrap ((a : Int) + (k : Int)) = (a : Int) + (k : Int) := IntWalk.i64_in _ (by omega)
              clear hsym hl1 hl2 hs1 hs2 hC2 hCU
              go_wp2_with fail
              go_fit HC.out
              rintro e w2 ⟨rfl, hs⟩
              have HS := Lib.hid hs
              clear hs HC
              have H1 : Hid (Front (2 * k) (T ++ isort (l ++ m))) := hF.out.more (by rw [isort_length]; exact Hl1.out) (isort_sortedW _)
              have H2 : Hid ((T ++ isort (l ++ m)).length = b) := by show _ = _; rw [List.length_append, isort_length, hT.out, Hl1.out]; exact hb.out.symm
              have H3 : Hid (b + U'.length = n) := by show _ = _; have := hU.out; rw [← List.append_assoc, List.length_append, Hl1.out] at this; have := hb.out; omega
              have H4 : Hid (∀ q, kf q ((T ++ isort (l ++ m)) ++ U') = kf q xs) := fun q => by rw [← hk.out q, List.append_assoc, kf_mid, List.append_assoc l]
              have H5 : Hid (PRow κ w2 g ((T ++ isort (l ++ m)) ++ U')) := by show PRow κ _ _ _; rw [List.append_assoc]; exact HS.out.1
              have H6 : Hid (w.grownBy w2 (some g)) := grown_seq hg2.out HS.out.2 (.inl rfl)
              clear HS hF hU hk hrw hg2 hT
              go_wp2_with fail
              refine ⟨⟨b, b + 2 * k, T ++ isort (l ++ m), U', rfl, by simp, by omega, rfl, hle, H1, H2, H3, HC2, H4, H5, H6⟩, ?_⟩
              have := hb.out
              show n - ((b : Int)).toNat < n - ((a : Int)).toNat
              omega
            · have hbI : ¬ (b : Int) ≤ (n : Int) := by omega
              have eak : IntKind.i64.wrap ((a : Int) + (k : Int)) = (a : Int) + (k : Int) := IntWalk.i64_in _ (by omega)
              by_cases hm : a + k < n
              · have hmI : (a : Int) + (k : Int) < (n : Int) := by omega
                obtain ⟨l, r, rfl, hl1, hs1, hC2⟩ := hCU.out.take (by have := hU.out; omega)
                have hrl : r.length + k + a = n := by have := hU.out; rw [List.length_append, hl1] at this; omega
                have hs2 := hC2.sorted (by have := hb.out; omega)
                have hsym := sym_any (w := wr) (c := c) (N := n) (A := T) (L := l) (R := r) (B := []) (a := a) (m := a + k) (b := n) (fun e => by subst e; simp at hl1; omega) (fun e => by subst e; simp at hrl; omega) (by simpa using hrw.out) hgW.out hT.out (by rw [hl1]) (by omega) (by rw [List.append_nil, List.length_append, hT.out]; exact hU.out) hc (by omega) hs1 hs2
                rw [show ((a + k : Nat) : Int) = (a : Int) + (k : Int) by omega] at hsym
                have HC := Lib.hid hsym
                have Hl1 : Hid ((l ++ r).length ≤ 2 * k) := by show _ ≤ _; rw [List.length_append, hl1]; have := hb.out; omega
                clear hsym hl1 hs1 hs2 hC2 hCU hrl
                go_wp2_with fail
                go_fit HC.out
                rintro e w2 ⟨rfl, hs⟩
                have HS := Lib.hid hs
                clear hs HC
                have H1 : Hid (Ch (2 * k) (T ++ isort (l ++ r))) := hF.out _ (.last _ (by rw [isort_length]; exact Hl1.out) (isort_sortedW _))
                have H2 : Hid ((T ++ isort (l ++ r)).length = n) := by show _ = _; rw [List.length_append, isort_length, hT.out]; exact hU.out
                have H4 : Hid (∀ q, kf q (T ++ isort (l ++ r)) = kf q xs) := fun q => by rw [← hk.out q, kf_app, isort_kf, kf_app q T]
                have H5 : Hid (PRow κ w2 g (T ++ isort (l ++ r))) := by show PRow κ _ _ _; have h := HS.out.1; rw [List.append_nil] at h; exact h
                have H6 : Hid (w.grownBy w2 (some g)) := grown_seq hg2.out HS.out.2 (.inl rfl)
                clear HS hF hU hk hrw hg2 hT
                go_wp2_with fail
                refine ⟨⟨2 * k, _, by congr 1; omega, by omega, by omega, H1, H2, H4, H5, H6⟩, ?_⟩
                show n - ((k : Int) * 2).toNat < n - ((k : Int)).toNat
                omega
              · have hmI : ¬ (a : Int) + (k : Int) < (n : Int) := by omega
                have H1 : Hid (Ch (2 * k) (T ++ U)) := hF.out _ (.last _ (by have := hU.out; omega) (hCU.out.sorted (by have := hU.out; omega)))
                have H2 : Hid ((T ++ U).length = n) := by show _ = _; rw [List.length_append, hT.out]; exact hU.out
                clear hF hU hT hCU
                go_wp2_with fail
                refine ⟨⟨2 * k, _, by congr 1; omega, by omega, by omega, H1, H2, hk, hrw, hg2⟩, ?_⟩
                show n - ((k : Int) * 2).toNat < n - ((k : Int)).toNat
                omega
        · have hkI : ¬ (k : Int) < (n : Int) := by omega
          have HF : Hid (PRow κ wr g (isort xs)) := by
            show PRow κ _ _ _
            rw [← isort_of (hCh.out.sorted (by rw [hLn.out]; omega)) hKf.out]
            exact hrow.out
          clear hCh hLn hKf hrow
          go_wp2_with fail
          go_end0
          exact ⟨rfl, HF.out, hgr.out⟩

set_option maxRecDepth 100000 in
set_option maxHeartbeats 3200000 in
theorem SortStable_big {w : World} {g c n : Nat} {xs : List Pl} (hr : PRow κ w g xs) (hgl : g < w.heap.size) (hn : xs.length = n) (hc : n ≤ c) (hnb : n ≤ 1000000) :
    Calls Try.prog 79 #[.slice (some ⟨g, 0, none⟩) n c, .func (.func 80) #[] #[.pointer (some ⟨κ.bx, 0, none⟩)]] w fun e w' => e = .returned (.tuple #[]) ∧ Sorts κ g (isort xs) w w' := by
  have HI := Lib.hid (stable_big hr hgl hn hc hnb)
  clear hr hgl hn hc hnb
  go_enter Try.func79, Try.ntmps79
  go_wp2_with fail
  go_fit HI.out
  rintro e w1 ⟨rfl, hs⟩
  have HS := Lib.hid hs
  clear hs
  go_wp2_with fail
  go_end0
  exact ⟨rfl, HS.out⟩
end Go.Proofs.Ytdgnjalbpiciiaa
