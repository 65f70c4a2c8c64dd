/-
  A tree and its list by the document, behind all that was done. (Written by genl.py.)
-/
import Derived.Test.YtcncggndpnooeaaL2
import Derived.Test.YtcncggndpnooeaaL3
import Derived.Test.YtcncggndpnooeaaL4
namespace Go.Proofs.Ytcncggndpnooeaa
set_option linter.unusedVariables false
set_option linter.unusedSimpArgs false
open Go.RowKit

theorem T.IsDrop.list {t u : T} {k : ByteArray} (P : T.IsDrop t k u) (h : Sorted t.list) : u.list = wo t.list k :=
  sorted_ext P.sorted (wo_sorted h k) fun x => by rw [P.has, wo_look h]
theorem Good.more' {t : T} {m n : Nat} (g : Good t m) (h : m ≤ n) : Good t n := ⟨g.bal, g.sorted, Nat.le_trans g.size h⟩
theorem Done.list {t u : T} {k : Dk} (h : Done t k u) (hs : Sorted t.list) : u.list = if isPut k.op = true then wi t.list (k.key, k.val) else wo t.list k.key := by
  unfold Done at h
  split at h
  · rename_i e; rw [if_pos e]; exact h.list hs
  · rename_i e; rw [if_neg e]; exact h.list hs
theorem Same_true {w : World} {u v : Value} {xs : List Pr} (hu : PairsIn w u xs) (hv : PairsIn w v xs) (hb : xs.length ≤ 1073741824) :
    Calls Try.prog 25 #[u, v] w fun e w' => e = .returned (.bool true) ∧ Below w.heap.size w w' :=
  (Same_any hu hv hb).mono fun e w' ⟨h, hb⟩ => ⟨h.elim (fun h => h.1) (fun h => absurd rfl h.2), hb⟩
/-- A tree and its list, in a world that came from another one. -/
structure St (w wr : World) (s : T) (n : Nat) (x : Option Addr) (u : Value) : Prop where
  good : Good s n
  tree : Tr wr wr.heap.size s x
  list : PairsIn wr u s.list
  below : Below w.heap.size w wr
theorem St.later {w wr w' : World} {s : T} {n : Nat} {x : Option Addr} {u : Value} (h : St w wr s n x u) (hb : Below wr.heap.size wr w') : St w w' s n x u :=
  ⟨h.good, h.tree.all hb, h.list.later hb, h.below.trans (hb.mono h.below.size)⟩
theorem St.more {w wr : World} {s : T} {m n : Nat} {x : Option Addr} {u : Value} (h : St w wr s m x u) (hm : m ≤ n) : St w wr s n x u :=
  ⟨h.good.more' hm, h.tree, h.list, h.below⟩
theorem St.length {w wr : World} {s : T} {n : Nat} {x : Option Addr} {u : Value} (h : St w wr s n x u) : s.list.length ≤ n := by rw [T.size_list]; exact h.good.size
theorem St.from {w0 w wr : World} {s : T} {n : Nat} {x : Option Addr} {u : Value} (h : St w wr s n x u) (hb : Below w0.heap.size w0 w) : St w0 wr s n x u :=
  ⟨h.good, h.tree, h.list, hb.trans (h.below.mono hb.size)⟩
theorem kbox_cells (w : World) (k : Dk) (t : TypeId) : (w.alloc (Obj.cells #[Value.int .i64 k.op, .string k.key, .string k.val] t)).cell? ⟨w.heap.size, 0, none⟩ = some (.int .i64 k.op) ∧ (w.alloc (Obj.cells #[Value.int .i64 k.op, .string k.key, .string k.val] t)).cell? ⟨w.heap.size, 1, none⟩ = some (.string k.key) ∧ (w.alloc (Obj.cells #[Value.int .i64 k.op, .string k.key, .string k.val] t)).cell? ⟨w.heap.size, 2, none⟩ = some (.string k.val) := by
  refine ⟨?_, ?_, ?_⟩
  all_goals rw [World.cell?_alloc_at _ _ _ _ rfl]; rfl
/-- What is made: a tree and its list. -/
def Mades (n : Nat) (w : World) (e : Ending) (w' : World) : Prop := ∃ x u s, e = .returned (.tuple #[.pointer x, u]) ∧ St w w' s n x u

set_option maxRecDepth 100000 in
set_option maxHeartbeats 3200000 in
theorem made_any {w : World} {v : Value} {ks : List Dk} (h : DosIn w v ks) (hl : ks.length ≤ 300) : Calls Try.prog 29 #[v] w (Mades ks.length w) := by
  obtain ⟨a, c, rfl, ha⟩ := h
  have HD := Lib.hid ha
  clear ha
  go_enter Try.func29, Try.ntmps29
  go_wp2_with fail
  go_fit (New_any w)
  rintro e w2 ⟨vt, t, rfl, rfl, ht, hb2⟩
  have HS0 : Hid (St w w2 .nil 0 vt (.slice none 0 0)) := ⟨⟨trivial, trivial, Nat.le_refl _⟩, ht, ⟨none, 0, rfl, .inl rfl⟩, hb2⟩
  clear ht hb2
  go_wp2_with fail
  go_loopw [4, 5, 11] (fun u x v wr => ∃ (i : Nat) (y : Option Addr) (s : T), v = .int .i64 i ∧ u = .pointer y ∧ i ≤ ks.length ∧ Hid (St w wr s i y x))
    (fun _ _ v _ => ks.length - (intOf v).toNat)
  case atStart => exact ⟨0, vt, .nil, rfl, rfl, Nat.zero_le _, HS0⟩
  case round =>
    obtain ⟨i, y, s, rfl, rfl, hin, hst⟩ := hrel
    have ei : IntKind.i64.wrap ((i : Int) + 1) = (i : Int) + 1 := IntWalk.i64_in _ (by omega)
    by_cases hlt : i < ks.length
    · obtain ⟨k, hk1⟩ : ∃ k, ks[i]? = some k := ⟨ks[i], List.getElem?_eq_getElem hlt⟩
      obtain ⟨g2, off2, rfl, hat⟩ := HD.out.resolve_left (fun e => by rw [e] at hk1; simp at hk1)
      obtain ⟨k0, k1, k2⟩ := hat i k hk1
      have k0 := cell_later hst.out.below k0
      have k1 := cell_later hst.out.below k1
      have k2 := cell_later hst.out.below k2
      have hI1 : (i : Int) < ((ks.length : Nat) : Int) := by omega
      have hI2 : (0 : Int) ≤ (i : Int) := by omega
      have HSA := Lib.hid (hst.out.later (below_alloc wr (Obj.cells #[Value.int .i64 k.op, .string k.key, .string k.val] 30)))
      have HKB := Lib.hid (kbox_cells wr k 30)
      have HG5 := Lib.hid (hst.out.good.more' (show i ≤ 500000000 by omega))
      clear hat hk1 hst
      by_cases hp : bits BinOp.and IntKind.i64 k.op 7 < 6
      · have HP : Hid (isPut k.op = true) := by show _ = _; unfold isPut; simpa using hp
        go_wp2_with fail
        go_fit (does_any k HSA.out.tree HG5.out)
        rintro e w3 ⟨y3, s3, rfl, hd, hr, hb3⟩
        have HL : Hid (s3.list = wi s.list (k.key, k.val)) := by show _ = _; rw [hd.list HSA.out.good.sorted, HP.out]; rfl
        have HG6 := Lib.hid (hd.good HSA.out.good)
        have HR := Lib.hid hr
        have HS3 := Lib.hid (HSA.out.later hb3)
        have b0 := cell_later hb3 HKB.out.1
        have b1 := cell_later hb3 HKB.out.2.1
        have b2 := cell_later hb3 HKB.out.2.2
        clear hd hr hb3 k0 k1 k2 HSA HKB
        go_wp2_with fail
        go_fit (With_any (k.key, k.val) HS3.out.list HS3.out.good.sorted (by have := HS3.out.length; omega))
        rintro e w4 ⟨u4, rfl, hp4, hb4⟩
        have HST4 : Hid (St w w4 s3 (i + 1) y3 u4) := ⟨HG6.out, HR.out.all hb4, by rw [HL.out]; exact hp4, HS3.out.below.trans (hb4.mono HS3.out.below.size)⟩
        have b0 := cell_later hb4 b0
        have b1 := cell_later hb4 b1
        have b2 := cell_later hb4 b2
        clear hp4 hb4 HG6 HR HS3 HL
        go_wp2_with fail
        exact ⟨⟨i + 1, y3, s3, by simp, rfl, hlt, HST4⟩, by show ks.length - ((i : Int) + 1).toNat < ks.length - ((i : Int)).toNat; omega⟩
      · have HP : Hid (isPut k.op = false) := by show _ = _; unfold isPut; simpa using hp
        go_wp2_with fail
        go_fit (does_any k HSA.out.tree HG5.out)
        rintro e w3 ⟨y3, s3, rfl, hd, hr, hb3⟩
        have HL : Hid (s3.list = wo s.list k.key) := by show _ = _; rw [hd.list HSA.out.good.sorted, HP.out]; rfl
        have HG6 := Lib.hid (hd.good HSA.out.good)
        have HR := Lib.hid hr
        have HS3 := Lib.hid (HSA.out.later hb3)
        have b0 := cell_later hb3 HKB.out.1
        have b1 := cell_later hb3 HKB.out.2.1
        have b2 := cell_later hb3 HKB.out.2.2
        clear hd hr hb3 k0 k1 k2 HSA HKB
        go_wp2_with fail
        go_fit (Without_any k.key HS3.out.list (by have := HS3.out.length; omega))
        rintro e w4 hsc
        obtain ⟨u4, rfl, hp4, hb4⟩ := hsc.lists
        clear hsc
        have HST4 : Hid (St w w4 s3 (i + 1) y3 u4) := ⟨HG6.out, HR.out.all hb4, by rw [HL.out]; exact hp4, HS3.out.below.trans (hb4.mono HS3.out.below.size)⟩
        have b0 := cell_later hb4 b0
        have b1 := cell_later hb4 b1
        have b2 := cell_later hb4 b2
        clear hp4 hb4 HG6 HR HS3 HL
        go_wp2_with fail
        exact ⟨⟨i + 1, y3, s3, by simp, rfl, hlt, HST4⟩, by show ks.length - ((i : Int) + 1).toNat < ks.length - ((i : Int)).toNat; omega⟩
    · obtain rfl : i = ks.length := by omega
      go_wp2_with fail
      go_ret2
      exact ⟨_, _, s, rfl, hst.out⟩

end Go.Proofs.Ytcncggndpnooeaa
