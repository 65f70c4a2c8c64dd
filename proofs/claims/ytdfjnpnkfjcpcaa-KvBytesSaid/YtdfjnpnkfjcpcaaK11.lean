/-
  Walks: the law's examples.
-/
import Derived.Test.YtdfjnpnkfjcpcaaK10
namespace Go.Proofs.Ytdfjnpnkfjcpcaa
set_option linter.unusedVariables false
set_option linter.unusedSimpArgs false
open Go.RowKit

theorem block_in {α : Type} (I : Lay α) (w : World) (l : List α) (cs : Array Value) (E : TypeId) (n : Nat) (h : cs = (I.all l).toArray) (hn : n = l.length) (hl : n ≤ 1000000) : I.In (w.alloc (.cells cs E)) (.slice (some ⟨w.heap.size, 0, none⟩) n n) l := by
  subst hn
  refine Lay.in_own (B := 0) (E := E) (n := l.length) ?_ rfl
  have := World.ownsRow_lit (base := 0) (e := E) (size := I.sz) w cs l.length (Nat.zero_le _) (by unfold maxLen; omega) (by rw [h]; simp [Lay.all_len])
  rw [h] at this ⊢
  simpa using this
def MkP (k v : ByteArray) (w : World) (e : Ending) (w' : World) : Prop := e = .returned (.agg #[.string k, .bool true, .string v]) ∧ Below w.heap.size w w'
set_option maxHeartbeats 800000 in
theorem mk_any (k v : ByteArray) (w : World) : Calls Try.prog 47 #[.string k, .string v] w (MkP k v w) := by
  have h0 := kd_box w #[.string k, .bool true, .string v] 37 0 _ rfl
  have h1 := kd_box w #[.string k, .bool true, .string v] 37 1 _ rfl
  have h2 := kd_box w #[.string k, .bool true, .string v] 37 2 _ rfl
  go_enter Try.func47, Try.ntmps47
  go_wp2_with fail
  (try simp only [Exit.inBlock, Exit.then])
  refine bodyPost_ret (v := .agg #[.string k, .bool true, .string v]) (by simp [results, Try.results47, go_sem, h0, h1, h2]) rfl ?_
  exact ⟨rfl, lay_alloc w _⟩

instance : DecidableEq Kev := fun a b => decidable_of_iff (a.pos = b.pos ∧ a.key = b.key ∧ a.had = b.had ∧ a.old = b.old ∧ a.has = b.has ∧ a.now = b.now) ⟨fun h => by cases a; cases b; simp at h; simp [h], fun h => by subst h; exact ⟨rfl, rfl, rfl, rfl, rfl, rfl⟩⟩
def sA : ByteArray := ⟨#[97]⟩
def sB : ByteArray := ⟨#[98]⟩
def s1 : ByteArray := ⟨#[49]⟩
def s2 : ByteArray := ⟨#[50]⟩
def s3 : ByteArray := ⟨#[51]⟩
theorem ex1 : plan [] 5 [] [⟨sA, true, s1⟩] = ([⟨5, sA, false, ByteArray.empty, true, s1⟩], 0) := by decide +kernel
theorem ex1' : doo [] 5 [] [⟨sA, true, s1⟩] = [(sA, s1)] := by decide +kernel
theorem ex2 : (plan [(sA, s1)] 6 [⟨sA, true, s1⟩] [⟨sA, false, ByteArray.empty⟩, ⟨sB, true, s2⟩]).1.length = 2 ∧ (plan [(sA, s1)] 6 [⟨sA, true, s1⟩] [⟨sA, false, ByteArray.empty⟩, ⟨sB, true, s2⟩]).2 = 0 := by decide +kernel
theorem ex2' : doo [(sA, s1)] 6 [⟨sA, true, s1⟩] [⟨sA, false, ByteArray.empty⟩, ⟨sB, true, s2⟩] = [(sB, s2)] := by decide +kernel
theorem ex3 : plan [(sB, s2)] 7 [⟨sA, true, s1⟩] [⟨sB, true, s3⟩] = ([], 60) := by decide +kernel
theorem ex3' : doo [(sB, s2)] 7 [⟨sA, true, s1⟩] [⟨sB, true, s3⟩] = [(sB, s2)] := by decide +kernel
theorem ex4 : val1 [(sB, s2)] sB = s2 ∧ hasB [(sB, s2)] sB = true := by decide +kernel
theorem small_of {l : List Kop} (h : l.all (fun o => decide (o.key.size ≤ 10) && decide (o.val.size ≤ 10)) = true) : Small l := fun o ho => by
  have := List.all_eq_true.1 h o ho
  simp at this
  omega

theorem row_later {w w' : World} {B n s : Nat} {E : TypeId} {v : Value} {xs : List Value} (h : w.ownsRow B E s v n xs) (hb : Below w.heap.size w w') : w'.ownsRow B E s v n xs := h.kept (row := none) (grown_of_below hb _) (by cases v.ownBlock <;> simp)
/-- A row that was made stays, whatever a map does. -/
theorem In.kept {α : Type} {I : Lay α} {E : TypeId} {B n : Nat} {w w' : World} {b : Nat} {v : Value} {l : List α} (h : w.ownsRow B E I.sz v n (I.all l)) (hg : w.grownBy w' (some b)) (hb : b < B) : w'.ownsRow B E I.sz v n (I.all l) := row_grown h hg hb

set_option maxRecDepth 100000 in
set_option maxHeartbeats 6400000 in
theorem awake_any (w : World) : Calls Try.prog 14 #[] w (Yes w) := by
  go_enter Try.func14, Try.ntmps14
  go_wp2_with fail
  go_fit (New_map w)
  rintro e w1 ⟨b, rfl, hlo, hm, hb1⟩
  have HM := Lib.hid hm
  have HB1 := Lib.hid hb1
  have HLo := Lib.hid hlo
  clear hm hb1 hlo
  go_wp2_with fail
  go_fit (mk_any sA s1 w1)
  rintro e w2 ⟨rfl, hb2⟩
  have hA2 := lay_alloc w2 (.cells #[.string sA, .bool true, .string s1] 37)
  have h12 := below_of hb2 hA2
  have HM2 := Lib.hid (HM.out.below h12)
  have HB2 := Lib.hid (below_of HB1.out h12)
  have hDo := Do_mp 5 HM2.out (Lay.In.nil (I := opL) _) (block_in opL w2 [⟨sA, true, s1⟩] #[.string sA, .bool true, .string s1] 37 1 rfl rfl (by decide)) (fun o ho => by cases ho) (small_of (by decide +kernel)) (by decide) (by decide) (by decide)
  unfold DoP at hDo
  rw [ex1, ex1'] at hDo
  have HDo := Lib.hid hDo
  clear hb2 hA2 h12 hDo HM HB1
  go_wp2_with fail
  go_fit HDo.out
  rintro e w3 ⟨v3, rfl, hrow3, hm3, hg3⟩
  have hrow3 : w3.ownsRow _ 32 6 v3 1 (evL.all [⟨5, sA, false, ByteArray.empty, true, s1⟩]) := hrow3
  have HR3 := Lib.hid hrow3
  have HM3 := Lib.hid hm3
  have HB3 := Lib.hid (grown_below1 hg3 HB2.out HLo.out)
  have HL3 : Hid (b < (w2.alloc (.cells #[.string sA, .bool true, .string s1] 37)).heap.size) := HM2.out.lt
  obtain ⟨va3, vc3, rfl⟩ := row_slice1 hrow3
  clear hrow3 hm3 hg3 HDo HM2 HB2
  generalize (w2.alloc (.cells #[.string sA, .bool true, .string s1] 37)).heap.size = B3 at *
  go_wp2_with fail
  go_fit (mk_any sA s1 w3)
  rintro e w4 ⟨rfl, hb4⟩
  have hA4 := lay_alloc w4 (.cells #[.string sA, .bool true, .string s1] 37)
  have HC4 := Lib.hid (block_in opL w4 [⟨sA, true, s1⟩] #[.string sA, .bool true, .string s1] 37 1 rfl rfl (by decide))
  have h34 := below_of hb4 hA4
  have HM4 := Lib.hid (HM3.out.below h34)
  have HB4 := Lib.hid (below_of HB3.out h34)
  have HR4 := Lib.hid (row_later HR3.out h34)
  clear hb4 hA4 h34 HM3 HB3 HR3
  go_wp2_with fail
  go_fit (mk_any sB s2 _)
  rintro e w5 ⟨rfl, hb5⟩
  have hA5 := lay_alloc w5 (.cells #[.string sA, .bool false, .string ByteArray.empty, .string sB, .bool true, .string s2] 37)
  have h45 := below_of hb5 hA5
  have HM5 := Lib.hid (HM4.out.below h45)
  have HB5 := Lib.hid (below_of HB4.out h45)
  have HR5 := Lib.hid (row_later HR4.out h45)
  have hDo := Do_mp 6 HM5.out (HC4.out.later h45) (block_in opL w5 [⟨sA, false, ByteArray.empty⟩, ⟨sB, true, s2⟩] #[.string sA, .bool false, .string ByteArray.empty, .string sB, .bool true, .string s2] 37 2 rfl rfl (by decide)) (small_of (by decide +kernel)) (small_of (by decide +kernel)) (by decide) (by decide) (by decide)
  unfold DoP at hDo
  rw [ex2.2, ex2', ex2.1] at hDo
  have HDo := Lib.hid hDo
  clear hb5 hA5 h45 hDo HM4 HB4 HR4 HC4
  go_wp2_with fail
  go_fit HDo.out
  rintro e w6 ⟨v6, rfl, hrow6, hm6, hg6⟩
  have HM6 := Lib.hid hm6
  have HB6 := Lib.hid (grown_below1 hg6 HB5.out HLo.out)
  have HR6 := Lib.hid (row_grown HR5.out hg6 HL3.out)
  obtain ⟨va6, vc6, rfl⟩ := row_slice1 hrow6
  clear hrow6 hm6 hg6 HDo HM5 HB5 HR5
  go_wp2_with fail
  go_fit (mk_any sA s1 w6)
  rintro e w7 ⟨rfl, hb7⟩
  have hA7 := lay_alloc w7 (.cells #[.string sA, .bool true, .string s1] 37)
  have HC7 := Lib.hid (block_in opL w7 [⟨sA, true, s1⟩] #[.string sA, .bool true, .string s1] 37 1 rfl rfl (by decide))
  have h67 := below_of hb7 hA7
  have HM7 := Lib.hid (HM6.out.below h67)
  have HB7 := Lib.hid (below_of HB6.out h67)
  have HR7 := Lib.hid (row_later HR6.out h67)
  clear hb7 hA7 h67 HM6 HB6 HR6
  go_wp2_with fail
  go_fit (mk_any sB s3 _)
  rintro e w8 ⟨rfl, hb8⟩
  have hA8 := lay_alloc w8 (.cells #[.string sB, .bool true, .string s3] 37)
  have h78 := below_of hb8 hA8
  have HM8 := Lib.hid (HM7.out.below h78)
  have HB8 := Lib.hid (below_of HB7.out h78)
  have HR8 := Lib.hid (row_later HR7.out h78)
  have hDo := Do_mp 7 HM8.out (HC7.out.later h78) (block_in opL w8 [⟨sB, true, s3⟩] #[.string sB, .bool true, .string s3] 37 1 rfl rfl (by decide)) (small_of (by decide +kernel)) (small_of (by decide +kernel)) (by decide) (by decide) (by decide)
  unfold DoP at hDo
  rw [ex3, ex3'] at hDo
  have HDo := Lib.hid hDo
  clear hb8 hA8 h78 hDo HM7 HB7 HR7 HC7
  go_wp2_with fail
  go_fit HDo.out
  rintro e w9 ⟨v9, rfl, hrow9, hm9, hg9⟩
  have HM9 := Lib.hid hm9
  have HB9 := Lib.hid (grown_below1 hg9 HB8.out HLo.out)
  have HR9 := Lib.hid (row_grown HR8.out hg9 HL3.out)
  obtain ⟨va9, vc9, rfl⟩ := row_slice1 hrow9
  have hG := Get_mp sB hm9
  unfold GetP at hG
  rw [ex4.1, ex4.2] at hG
  have HG := Lib.hid hG
  clear hrow9 hm9 hg9 HDo HM8 HB8 HR8 hG
  go_wp2_with fail
  go_fit HG.out
  rintro e w10 ⟨rfl, hb10⟩
  have HM10 := Lib.hid (HM9.out.below hb10)
  have HB10 := Lib.hid (below_of HB9.out hb10)
  have HR10 := Lib.hid (row_later HR9.out hb10)
  clear hb10 HM9 HB9 HR9 HG
  have hA := lay_alloc w10 (.cells #[.int .i64 5, .string sA, .bool false, .string ByteArray.empty, .bool true, .string s1] 32)
  have HBA := Lib.hid (below_of HB10.out hA)
  have HMA := Lib.hid (HM10.out.below hA)
  have HEq := Lib.hid (EqualE (Lay.in_own (I := evL) (row_later HR10.out hA) rfl) (block_in evL w10 [⟨5, sA, false, ByteArray.empty, true, s1⟩] #[.int .i64 5, .string sA, .bool false, .string ByteArray.empty, .bool true, .string s1] 32 1 rfl rfl (by decide)))
  have hs2 : s2.toList = [50] := by rw [ba_list]; rfl
  have hs2b : (s2.toList == [50]) = true := by rw [hs2]; rfl
  clear hA HR10 HM10 HB10
  go_wp2_with fail
  go_fit HEq.out
  rintro e w11 ⟨rfl, hb11⟩
  have HBB := Lib.hid (below_of HBA.out hb11)
  have HLn := Lib.hid (Len_mp (HMA.out.below hb11))
  clear hb11
  go_wp2_with fail
  go_fit HLn.out
  rintro e w' ⟨rfl, rfl⟩
  go_wp2_with fail
  go_ret
  exact ⟨rfl, HBB.out⟩
end Go.Proofs.Ytdfjnpnkfjcpcaa
