/-
  The walk of WireOrder.
-/
import Derived.Test.YtdihjidbcagplaaDoorAw
import Derived.Test.YtdihjidbcagplaaDoorM3
import Derived.Lib.BytesEntry
namespace Go.Proofs.YtdihjidbcagplaaDoor
open Go.RowKit

theorem run_bytesOf {w : World} {p : Option Addr} {n c : Nat} {xs : List Int} (hx : xs.length = n) (h : Lib.BytesIn w p n xs) :
    (Extern.Bytes.bytesOf (.slice p n c)).run Tryd.prog w = .ok ⟨(Lib.bytesOf xs).toArray⟩ w := by
  cases p with
  | none =>
    have h0 : n = 0 := by
      rcases Nat.eq_zero_or_pos n with h0 | h0
      · exact h0
      · obtain ⟨b, o, he, _⟩ := h.at h0; cases he
    subst h0
    obtain rfl := List.eq_nil_of_length_eq_zero hx
    rfl
  | some ad =>
    have := Lib.run_loadBytesX (P := Tryd.prog) w xs ad .empty (fun j x hj => news_of h hx ad rfl j _ (by rw [List.getElem?_map, hj]; rfl))
    rw [hx] at this
    simpa [Extern.Bytes.bytesOf] using this

theorem run_compare {w : World} {p q : Option Addr} {n m c d : Nat} {xs ys : List Int} (hx : xs.length = n) (hy : ys.length = m) (h1 : Lib.BytesIn w p n xs) (h2 : Lib.BytesIn w q m ys) :
    (Extern.BytealgCompare.compare #[.slice p n c, .slice q m d]).run Tryd.prog w = .ok (.int .i64 (Lib.compareBytes (Lib.bytesOf xs) (Lib.bytesOf ys))) w := by
  change Sem.run Tryd.prog (do pure (goInt (Extern.BytealgCompare.cmp (← Extern.Bytes.bytesOf (.slice p n c)) (← Extern.Bytes.bytesOf (.slice q m d))))) w = _
  simp only [Sem.run_bind, Sem.run_pure, Result.andThen, run_bytesOf hx h1, run_bytesOf hy h2]
  rw [Lib.cmp_eq]
  rfl

set_option maxHeartbeats 400000 in
theorem Compare_any (p q : Option Addr) (n m c d : Nat) (xs ys : List Int) (w : World) (hx : xs.length = n) (hy : ys.length = m) (h1 : Lib.BytesIn w p n xs) (h2 : Lib.BytesIn w q m ys) (k : Int) (hk : Lib.compareBytes (Lib.bytesOf xs) (Lib.bytesOf ys) = k) :
    Calls Tryd.prog 51 #[.slice p n c, .slice q m d] w fun e w' => e = .returned (.int .i64 k) ∧ w = w' := by
  have hrun := run_compare (c := c) (d := d) hx hy h1 h2
  rw [hk] at hrun
  clear hk h1 h2
  go_enter Tryd.func51, Tryd.ntmps51
  go_wp2_with fail
  rw [run_callFunc_extern Tryd.func62 (by kernel_rfl) (by kernel_rfl) (by kernel_rfl) (e := Extern.BytealgCompare.compare) (by kernel_rfl), hrun]
  simp only [Result.andThen]
  rw [Oper.upon_value]
  go_wp2_with fail
  go_ret
  exact ⟨rfl, rfl⟩

/-- WireOrder, the three ways in which two numbers may stand. -/
theorem below_one {B : Nat} {w w1 : World} (h : Below B w w1) (hB : B = w.heap.size) : Below w.heap.size w w1 := hB ▸ h

set_option maxHeartbeats 800000 in
theorem Order_any (a b : Int) (A B : Nat) (w : World) (hT : TabIn w) (hA : max a 0 = (A : Int)) (hB : max b 0 = (B : Int)) (lA : A ≤ 9223372036854775807) (lB : B ≤ 9223372036854775807) (k : Int) (hk : sgn A B = k)
    (hw : (k = -1 ∧ A < B) ∨ (k = 0 ∧ A = B) ∨ (k = 1 ∧ B < A)) :
    Calls Tryd.prog 10 #[.int .i64 a, .int .i64 b] w (Yes w) := by
  have HT := Lib.hid hT
  have hAn : Hid (∀ W : World, Calls Tryd.prog 19 #[.slice none 0 0, .int .i64 A] W (Made W.heap.size W (num A))) := fun W => by
    have h := Number_any none 0 0 [] A W rfl (Lib.BytesIn.nil _ _ _) (fun _ => ⟨rfl, rfl⟩) (by omega) (by omega)
    simpa using h
  have hBn : Hid (∀ W : World, Calls Tryd.prog 19 #[.slice none 0 0, .int .i64 B] W (Made W.heap.size W (num B))) := fun W => by
    have h := Number_any none 0 0 [] B W rfl (Lib.BytesIn.nil _ _ _) (fun _ => ⟨rfl, rfl⟩) (by omega) (by omega)
    simpa using h
  have us : ∀ u : Nat, u ≤ 9223372036854775807 → u64 (u : Int) = u := by intro u hu; unfold u64; omega
  have hAs : Hid (∀ W : World, Calls Tryd.prog 24 #[.slice none 0 0, .int .i64 A] W (Made W.heap.size W (be A 8))) := fun W => by
    have h := Signed_any none 0 0 [] A W rfl (Lib.BytesIn.nil _ _ _) (fun _ => ⟨rfl, rfl⟩) (by omega)
    rw [us A lA] at h
    simpa using h
  have hBs : Hid (∀ W : World, Calls Tryd.prog 24 #[.slice none 0 0, .int .i64 B] W (Made W.heap.size W (be B 8))) := fun W => by
    have h := Signed_any none 0 0 [] B W rfl (Lib.BytesIn.nil _ _ _) (fun _ => ⟨rfl, rfl⟩) (by omega)
    rw [us B lB] at h
    simpa using h
  have e1 : Hid (Lib.compareBytes (Lib.bytesOf (num A)) (Lib.bytesOf (num B)) = k) := by
    show _ = k
    rw [compare_eq _ _ (num_byte A lA) (num_byte B lB), cmp_num A B (by omega) (by omega), hk]
  have e2 : Hid (Lib.compareBytes (Lib.bytesOf (be A 8)) (Lib.bytesOf (be B 8)) = k) := by
    show _ = k
    rw [compare_eq _ _ (be_byte A 8) (be_byte B 8), cmp_be8 A B (by omega) (by omega), hk]
  clear hT hk us
  have hw2 : (k = -1 ∧ A < B ∧ ((A : Int) == (B : Int)) = false) ∨ (k = 0 ∧ A = B) ∨ (k = 1 ∧ ¬ A < B ∧ ((A : Int) == (B : Int)) = false) := by
    rcases hw with ⟨h, hlt⟩ | h | ⟨h, hlt⟩
    · exact .inl ⟨h, hlt, by simp; omega⟩
    · exact .inr (.inl h)
    · exact .inr (.inr ⟨h, by omega, by simp; omega⟩)
  clear hw
  rcases hw2 with ⟨rfl, hlt, t1⟩ | ⟨rfl, rfl⟩ | ⟨rfl, hlt, t1⟩
  all_goals
    go_enter Tryd.func10, Tryd.ntmps10
    go_wp2_with fail
    go_fit (hAn.out w)
    rintro e w1 ⟨g1, n1, c1, rfl, hown1, hb1⟩
    go_wp2_with fail
    go_fit (hBn.out w1)
    rintro e w2 ⟨g2, n2, c2, rfl, hown2, hb2⟩
    go_wp2_with fail
    go_fit (Compare_any _ _ n1 n2 c1 c2 _ _ w2 (owns_len hown1) (owns_len hown2) (later (owns_in hown1) hb2) (owns_in hown2) _ e1.out)
    rintro e w' ⟨rfl, rfl⟩
    go_wp2_with fail
    go_fit (hAs.out w2)
    rintro e w3 ⟨g3, n3, c3, rfl, hown3, hb3⟩
    go_wp2_with fail
    go_fit (hBs.out w3)
    rintro e w4 ⟨g4, n4, c4, rfl, hown4, hb4⟩
    go_wp2_with fail
    go_fit (Compare_any _ _ n3 n4 c3 c4 _ _ w4 (owns_len hown3) (owns_len hown4) (later (owns_in hown3) hb4) (owns_in hown4) _ e2.out)
    rintro e w' ⟨rfl, rfl⟩
    have b4 : Hid (Below w.heap.size w w4) := ((hb1.trans (hb2.mono hb1.size)).trans (hb3.mono (Nat.le_trans hb1.size hb2.size))).trans (hb4.mono (Nat.le_trans hb1.size (Nat.le_trans hb2.size hb3.size)))
    clear hown1 hown2 hown3 hown4 hb1 hb2 hb3 hb4
    go_wp2_with fail
    go_fit (awake_any w4 (HT.out.later b4.out))
    rintro e w5 ⟨rfl, hb5⟩
    go_wp2_with fail
    go_ret
    exact ⟨rfl, b4.out.trans (hb5.mono b4.out.size)⟩

end Go.Proofs.YtdihjidbcagplaaDoor
