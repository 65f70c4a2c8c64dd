/-
  Walks: a tree without a key; split, joined, scanned. (Written by gentree17.py.)
-/
import Derived.Test.YtdfjnpnkfjcpcaaTB16
namespace Go.Proofs.Ytdfjnpnkfjcpcaa
set_option linter.unusedVariables false
set_option linter.unusedSimpArgs false
open Go.RowKit

theorem klt_empty (a : ByteArray) : klt a ByteArray.empty = false := by
  unfold klt
  rw [ba_list ByteArray.empty]
  cases a.toList <;> rfl

/-- A tree behind a drop. -/
structure T.IsDrop (t : T) (k : ByteArray) (u : T) : Prop where
  bal : u.Bal
  sorted : Sorted u.list
  has : ∀ x, look u.list x = if x = k then none else look t.list x
  size : u.size ≤ t.size
theorem T.drop_none {t : T} {k : ByteArray} {l m : T} {n : Nat} (G : Good t n) (P : T.Parted t k l none m) : T.IsDrop t k t :=
  ⟨G.bal, G.sorted, fun x => by
    by_cases e : x = k
    · subst e; rw [if_pos rfl, P.has, klt_irr]; rfl
    · rw [if_neg e], Nat.le_refl _⟩
theorem T.drop_met {t : T} {k : ByteArray} {l m u : T} {h : Option Pr} {n : Nat} (G : Good t n) (P : T.Parted t k l h m) (U : Met l m u) : T.IsDrop t k u := by
  have hs := P.sorted G.sorted
  refine ⟨U.2, by rw [U.1, sorted_app]; exact ⟨hs.1, hs.2, fun p hp q hq => klt_trans (P.under p hp) (P.over q hq)⟩, fun x => ?_, by rw [U.size]; exact P.sizes⟩
  rw [U.1, look_app, P.has]
  rcases klt_tri x k with g | g | g
  · rw [if_pos g, if_neg (klt_ne g), look_over P.over (klt_asym g)]; simp
  · subst g; rw [if_pos rfl, look_under P.under (klt_irr _), look_over P.over (klt_irr _)]; rfl
  · rw [klt_asym g, if_pos g, if_neg (fun e => klt_ne g e.symm), look_under P.under (klt_asym g)]; rfl

set_option maxRecDepth 100000 in
set_option maxHeartbeats 1600000 in
theorem Drop_any {w : World} {t : T} {v : Option Addr} (k : ByteArray) (h : Tr w w.heap.size t v) (g : Good t 500000000) : Calls Try.prog 59 #[.pointer v, .string k] w (Grows w (T.IsDrop t k)) := by
  have H := Lib.hid h
  have G := Lib.hid g
  clear h g
  go_enter Try.func59, Try.ntmps59
  go_wp2_with fail
  go_fit (top_any H.out)
  rintro e w' ⟨⟨z, rfl, hk⟩, rfl⟩
  have K := Lib.hid hk
  clear hk
  go_wp2_with fail
  go_fit (split_any k G.out.bal G.out.sorted (by have := G.out.size; omega) w z K.out)
  rintro e w1 ⟨vl, vh, vm, l, hh, m, rfl, P, kl1, hh1, km1, hb1⟩
  have HP := Lib.hid P
  have HB1 := Lib.hid hb1
  have H1 := Lib.hid (H.out.all hb1)
  have HZ := Lib.hid P.sizes
  have HMt := Lib.hid (meet_any kl1 km1 P.lbal P.mbal (by have := P.sizes; have := G.out.size; omega))
  clear kl1 km1 hb1 P H K
  rcases hh1 with ⟨rfl, rfl⟩ | ⟨ph, a', c', rfl, hkh⟩
  · go_wp2_with fail
    go_fit (top_any H1.out)
    rintro e w' ⟨⟨z2, rfl, hk⟩, rfl⟩
    have HE : Hid (Grows w (T.IsDrop t k) (.returned (.pointer (some ⟨w1.heap.size, 0, none⟩))) (w1.alloc (.cells #[.pointer z2] 104))) := ⟨_, t, rfl, T.drop_none G.out HP.out, tree_made hk, HB1.out.trans ((below_alloc w1 _).mono HB1.out.size)⟩
    clear hk
    go_wp2_with fail
    go_ret
    exact HE.out
  · obtain ⟨bh, rfl⟩ := knot_some hkh
    clear hkh
    go_wp2_with fail
    go_fit HMt.out
    rintro e w2 ⟨v2, u, rfl, hm, hk2, hb2⟩
    have HE : Hid (Grows w (T.IsDrop t k) (.returned (.pointer (some ⟨w2.heap.size, 0, none⟩))) (w2.alloc (.cells #[.pointer v2] 104))) := ⟨_, u, rfl, T.drop_met G.out HP.out hm, tree_made hk2, HB1.out.trans ((hb2.trans ((below_alloc w2 _).mono hb2.size)).mono HB1.out.size)⟩
    clear hk2 hm hb2
    go_wp2_with fail
    go_ret
    exact HE.out

set_option maxRecDepth 100000 in
set_option maxHeartbeats 1600000 in
theorem Scan_any {w : World} {t : T} {v : Option Addr} (a b : ByteArray) (m : Int) (h : Tr w w.heap.size t v) (g : Good t 500000000) : Calls Try.prog 57 #[.pointer v, .string a, .string b, .int .i64 m] w (Scanned w.heap.size (.slice none 0 0) (scn t.list a b m.toNat) w) := by
  have H := Lib.hid h
  have G := Lib.hid g
  clear h g
  go_enter Try.func57, Try.ntmps57
  go_wp2_with fail
  go_fit (top_any H.out)
  rintro e w' ⟨⟨z, rfl, hk⟩, rfl⟩
  have K := Lib.hid hk
  clear hk
  go_wp2_with fail
  have HD := Lib.hid (scan_any a b m w.heap.size G.out.sorted w (.slice none 0 0) [] _ (Nat.le_refl _) (World.ownsRow_nil _ _ _ _) K.out (by have := G.out.size; simp only [List.length_nil]; omega))
  clear K H G
  go_fit HD.out
  rintro e w1 hd
  have HE := Lib.hid hd
  obtain ⟨v', rfl, _⟩ := hd
  go_wp2_with fail
  go_ret
  have := HE.out
  simpa using this

end Go.Proofs.Ytdfjnpnkfjcpcaa
