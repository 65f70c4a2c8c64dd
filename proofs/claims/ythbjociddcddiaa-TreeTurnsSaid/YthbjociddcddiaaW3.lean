/-
  A tree behind all that was done, and of whom its keys are. (Written by genl.py.)
-/
import Derived.Test.YthbjociddcddiaaW2
namespace Go.Proofs.Ythbjociddcddiaa
set_option linter.unusedVariables false
set_option linter.unusedSimpArgs false
open Go.RowKit

theorem mem_wi {xs : List Pr} {p : Pr} (q : Pr) : (q ∈ wi xs p → q = p ∨ q ∈ xs) := by
  intro h
  rcases List.mem_append.1 h with h | h
  · exact .inr (List.mem_filter.1 h).1
  · rcases List.mem_cons.1 h with h | h
    · exact .inl h
    · exact .inr (List.mem_filter.1 h).1
/-- What is made: a tree and its list, whose keys were put. -/
def MadesK (ks : List Dk) (w : World) (e : Ending) (w' : World) : Prop := ∃ x u s, e = .returned (.tuple #[.pointer x, u]) ∧ St w w' s ks.length x u ∧ ∀ q ∈ s.list, ∃ k ∈ ks, k.key = q.1

set_option maxRecDepth 100000 in
set_option maxHeartbeats 3200000 in
theorem madeK_any {w : World} {v : Value} {ks : List Dk} (h : DosIn w v ks) (hl : ks.length ≤ 300) : Calls Try.prog 29 #[v] w (MadesK ks w) := by
  obtain ⟨a, c, rfl, ha⟩ := h
  have HD := Lib.hid ha
  clear ha
  go_enter Try.func29, Try.ntmps29
  go_wp2_with fail
  go_fit (New_any w)
  rintro e w2 ⟨vt, t, rfl, rfl, ht, hb2⟩
  have HS0 : Hid (St w w2 .nil 0 vt (.slice none 0 0)) := ⟨⟨trivial, trivial, Nat.le_refl _⟩, ht, ⟨none, 0, rfl, .inl rfl⟩, hb2⟩
  clear ht hb2
  go_wp2_with fail
  go_loopw [4, 5, 11] (fun u x v wr => ∃ (i : Nat) (y : Option Addr) (s : T), v = .int .i64 i ∧ u = .pointer y ∧ i ≤ ks.length ∧ Hid (St w wr s i y x) ∧ Hid (∀ q ∈ s.list, ∃ k ∈ ks, k.key = q.1))
    (fun _ _ v _ => ks.length - (intOf v).toNat)
  case atStart => exact ⟨0, vt, .nil, rfl, rfl, Nat.zero_le _, HS0, (fun q hq => by simp [T.list] at hq : ∀ q ∈ T.nil.list, ∃ k ∈ ks, k.key = q.1)⟩
  case round =>
    obtain ⟨i, y, s, rfl, rfl, hin, hst, hkn⟩ := hrel
    have ei : IntKind.i64.wrap ((i : Int) + 1) = (i : Int) + 1 := IntWalk.i64_in _ (by omega)
    by_cases hlt : i < ks.length
    · obtain ⟨k, hk1⟩ : ∃ k, ks[i]? = some k := ⟨ks[i], List.getElem?_eq_getElem hlt⟩
      obtain ⟨g2, off2, rfl, hat⟩ := HD.out.resolve_left (fun e => by rw [e] at hk1; simp at hk1)
      obtain ⟨k0, k1, k2⟩ := hat i k hk1
      have k0 := cell_later hst.out.below k0
      have k1 := cell_later hst.out.below k1
      have k2 := cell_later hst.out.below k2
      have hI1 : (i : Int) < ((ks.length : Nat) : Int) := by omega
      have hI2 : (0 : Int) ≤ (i : Int) := by omega
      have HSA := Lib.hid (hst.out.later (below_alloc wr (Obj.cells #[Value.int .i64 k.op, .string k.key, .string k.val] 30)))
      have HKB := Lib.hid (kbox_cells wr k 30)
      have HG5 := Lib.hid (hst.out.good.more' (show i ≤ 500000000 by omega))
      have HMk := Lib.hid (List.mem_of_getElem? hk1)
      clear hat hk1 hst
      by_cases hp : bits BinOp.and IntKind.i64 k.op 7 < 6
      · have HP : Hid (isPut k.op = true) := by show _ = _; unfold isPut; simpa using hp
        go_wp2_with fail
        go_fit (does_any k HSA.out.tree HG5.out)
        rintro e w3 ⟨y3, s3, rfl, hd, hr, hb3⟩
        have HKn : Hid (∀ q ∈ s3.list, ∃ x ∈ ks, x.key = q.1) := by
          intro q hq
          rw [hd.list HSA.out.good.sorted, HP.out] at hq
          rcases mem_wi q hq with rfl | h
          · exact ⟨k, HMk.out, rfl⟩
          · exact hkn.out q h
        have HL : Hid (s3.list = wi s.list (k.key, k.val)) := by show _ = _; rw [hd.list HSA.out.good.sorted, HP.out]; rfl
        have HG6 := Lib.hid (hd.good HSA.out.good)
        have HR := Lib.hid hr
        have HS3 := Lib.hid (HSA.out.later hb3)
        have b0 := cell_later hb3 HKB.out.1
        have b1 := cell_later hb3 HKB.out.2.1
        have b2 := cell_later hb3 HKB.out.2.2
        clear hd hr hb3 k0 k1 k2 HSA HKB
        go_wp2_with fail
        go_fit (With_any (k.key, k.val) HS3.out.list HS3.out.good.sorted (by have := HS3.out.length; omega))
        rintro e w4 ⟨u4, rfl, hp4, hb4⟩
        have HST4 : Hid (St w w4 s3 (i + 1) y3 u4) := ⟨HG6.out, HR.out.all hb4, by rw [HL.out]; exact hp4, HS3.out.below.trans (hb4.mono HS3.out.below.size)⟩
        have b0 := cell_later hb4 b0
        have b1 := cell_later hb4 b1
        have b2 := cell_later hb4 b2
        clear hp4 hb4 HG6 HR HS3 HL
        go_wp2_with fail
        exact ⟨⟨i + 1, y3, s3, by simp, rfl, hlt, HST4, HKn⟩, by show ks.length - ((i : Int) + 1).toNat < ks.length - ((i : Int)).toNat; omega⟩
      · have HP : Hid (isPut k.op = false) := by show _ = _; unfold isPut; simpa using hp
        go_wp2_with fail
        go_fit (does_any k HSA.out.tree HG5.out)
        rintro e w3 ⟨y3, s3, rfl, hd, hr, hb3⟩
        have HKn : Hid (∀ q ∈ s3.list, ∃ x ∈ ks, x.key = q.1) := by
          intro q hq
          rw [hd.list HSA.out.good.sorted, HP.out] at hq
          exact hkn.out q (List.mem_filter.1 hq).1
        have HL : Hid (s3.list = wo s.list k.key) := by show _ = _; rw [hd.list HSA.out.good.sorted, HP.out]; rfl
        have HG6 := Lib.hid (hd.good HSA.out.good)
        have HR := Lib.hid hr
        have HS3 := Lib.hid (HSA.out.later hb3)
        have b0 := cell_later hb3 HKB.out.1
        have b1 := cell_later hb3 HKB.out.2.1
        have b2 := cell_later hb3 HKB.out.2.2
        clear hd hr hb3 k0 k1 k2 HSA HKB
        go_wp2_with fail
        go_fit (Without_any k.key HS3.out.list (by have := HS3.out.length; omega))
        rintro e w4 hsc
        obtain ⟨u4, rfl, hp4, hb4⟩ := hsc.lists
        clear hsc
        have HST4 : Hid (St w w4 s3 (i + 1) y3 u4) := ⟨HG6.out, HR.out.all hb4, by rw [HL.out]; exact hp4, HS3.out.below.trans (hb4.mono HS3.out.below.size)⟩
        have b0 := cell_later hb4 b0
        have b1 := cell_later hb4 b1
        have b2 := cell_later hb4 b2
        clear hp4 hb4 HG6 HR HS3 HL
        go_wp2_with fail
        exact ⟨⟨i + 1, y3, s3, by simp, rfl, hlt, HST4, HKn⟩, by show ks.length - ((i : Int) + 1).toNat < ks.length - ((i : Int)).toNat; omega⟩
    · obtain rfl : i = ks.length := by omega
      go_wp2_with fail
      go_ret2
      exact ⟨_, _, s, rfl, hst.out, hkn.out⟩

end Go.Proofs.Ythbjociddcddiaa
