/-
  Maps in memory: what their calls tell.
-/
import Derived.Test.YtdfjnpnkfjcpcaaK2
namespace Go.Proofs.Ytdfjnpnkfjcpcaa
set_option linter.unusedVariables false
set_option linter.unusedSimpArgs false
open Go.RowKit

/-- A map's block. -/
def MB (w : World) (b : Nat) : Prop := ∃ cs, w.heap[b]? = some (.cells cs 76 (0, 0))
theorem MB.lt {w : World} {b : Nat} (h : MB w b) : b < w.heap.size := by
  obtain ⟨cs, hc⟩ := h
  by_cases e : b < w.heap.size
  · exact e
  · rw [Array.getElem?_eq_none (by omega)] at hc; cases hc
/-- A map in memory: its keys, and what they have. -/
def Mp (w : World) (b : Nat) (L : List Pr) : Prop :=
  ∃ t tb, w.heap[b]? = some (.cells #[.pointer (some ⟨tb, 0, none⟩)] 76 (0, 0)) ∧ Tr w w.heap.size t (some ⟨tb, 0, none⟩) ∧ t.list = L ∧ t.Bal ∧ Sorted L
theorem Mp.mb {w : World} {b : Nat} {L : List Pr} (h : Mp w b L) : MB w b := by
  obtain ⟨t, tb, hc, _⟩ := h
  exact ⟨_, hc⟩
theorem Mp.lt {w : World} {b : Nat} {L : List Pr} (h : Mp w b L) : b < w.heap.size := h.mb.lt
theorem Mp.sorted {w : World} {b : Nat} {L : List Pr} (h : Mp w b L) : Sorted L := by
  obtain ⟨t, tb, _, _, _, _, hs⟩ := h
  exact hs
theorem Mp.below {w w' : World} {b : Nat} {L : List Pr} (h : Mp w b L) (hb : Below w.heap.size w w') : Mp w' b L := by
  have hlt := h.lt
  obtain ⟨t, tb, hc, ht, rest⟩ := h
  exact ⟨t, tb, (hb.block b hlt).trans hc, ht.all hb, rest⟩
theorem Tr.dropped {w w' : World} {t : T} {v : Option Addr} {k : Nat} (h : Tr w w.heap.size t v) (hg : w.grownBy w' (some k)) (hk : MB w k) : Tr w' w'.heap.size t v := by
  rcases h with h | ⟨b, x, hv, hB, hc, hkn⟩
  · exact .inl h
  · have hne : b ≠ k := by
      intro e
      obtain ⟨_, cs, h1⟩ := hB
      obtain ⟨ds, h2⟩ := hk
      rw [e, h2] at h1
      simp at h1
    have hnk : NoKnot w (some k) := by
      intro g hgk cs hcs
      obtain rfl : k = g := by simpa using hgk
      obtain ⟨ds, h2⟩ := hk
      rw [h2] at hcs
      simp at hcs
    refine .inr ⟨b, x, hv, ⟨Nat.lt_of_lt_of_le hB.1 hg.size, hB.2.elim fun cs h => ⟨cs, (hg.block b hB.1 (by simpa using hne)).trans h⟩⟩, hg.cell hc (by simpa using hne), ?_⟩
    exact (hkn.drop hg hnk).mono hg.size
/-- Another map's call turns nothing of this one. -/
theorem Mp.other {w w' : World} {b k : Nat} {L : List Pr} (h : Mp w b L) (hg : w.grownBy w' (some k)) (hk : MB w k) (hne : b ≠ k) : Mp w' b L := by
  have hlt := h.lt
  obtain ⟨t, tb, hc, ht, rest⟩ := h
  exact ⟨t, tb, (hg.block b hlt (by simpa using hne)).trans hc, ht.dropped hg hk, rest⟩
theorem Mp.cell {w : World} {b : Nat} {L : List Pr} (h : Mp w b L) : ∃ t tb, w.cell? ⟨b, 0, none⟩ = some (.pointer (some ⟨tb, 0, none⟩)) ∧ w.frozen? ⟨b, 0, none⟩ = false ∧ Tr w w.heap.size t (some ⟨tb, 0, none⟩) ∧ t.list = L ∧ t.Bal ∧ Sorted L := by
  obtain ⟨t, tb, hc, ht, rest⟩ := h
  refine ⟨t, tb, ?_, frozen_of_row w b 0 _ _ hc, ht, rest⟩
  rw [cell_of_row w b 0 _ _ (0, 0) hc]; rfl
/-- Another tree in the map. -/
theorem Mp.set {w : World} {b tb : Nat} {t : T} {L L' : List Pr} (h : Mp w b L) (ht : Tr w w.heap.size t (some ⟨tb, 0, none⟩)) (hl : t.list = L') (hb : t.Bal) (hs : Sorted L') : Mp (w.setCell ⟨b, 0, none⟩ (.pointer (some ⟨tb, 0, none⟩))) b L' := by
  have hk := h.mb
  obtain ⟨t0, tb0, hc, _⟩ := h
  have hg : w.grownBy (w.setCell ⟨b, 0, none⟩ (.pointer (some ⟨tb, 0, none⟩))) (some b) := ⟨rfl, rfl, rfl, by simp [World.setCell], fun k _ hne => Below.heap_setCell _ _ _ _ (fun e => hne (by rw [e]))⟩
  refine ⟨t, tb, ?_, ht.dropped hg hk, hl, hb, hs⟩
  rw [heap_setCell_same w b 0 _ _ _ hc]
  rfl
theorem good_of {t : T} {L : List Pr} (hl : t.list = L) (hb : t.Bal) (hs : Sorted L) {n : Nat} (hn : L.length ≤ n) : Good t n := ⟨hb, by rw [hl]; exact hs, by rw [← T.size_list, hl]; exact hn⟩

set_option maxHeartbeats 800000 in
theorem New_map (w : World) : Calls Try.prog 15 #[] w fun e w' => ∃ b, e = .returned (.pointer (some ⟨b, 0, none⟩)) ∧ w.heap.size ≤ b ∧ Mp w' b [] ∧ Below w.heap.size w w' := by
  go_enter Try.func15, Try.ntmps15
  go_wp2_with fail
  go_fit (New_any w)
  rintro e w1 ⟨tb, t, rfl, rfl, ht, hb⟩
  have HT := Lib.hid ht
  have HB := Lib.hid hb
  clear ht hb
  go_wp2_with fail
  go_ret
  exact ⟨w1.heap.size, rfl, HB.out.size, ⟨.nil, tb, Go.heap_alloc_new w1 _, HT.out.all (lay_alloc w1 _), rfl, trivial, trivial⟩, below_of HB.out (lay_alloc w1 _)⟩

theorem map_ne (b : Nat) (W : World) : (binOp .neq 25 (.pointer (some ⟨b, 0, none⟩)) (.pointer none)).run Try.prog W = .ok (.bool true) W := by kernel_rfl
set_option maxHeartbeats 800000 in
theorem made_mp {w : World} {b : Nat} {L : List Pr} (h : Mp w b L) : Calls Try.prog 49 #[.pointer (some ⟨b, 0, none⟩)] w fun e w' => e = .returned (.bool true) ∧ w = w' := by
  obtain ⟨t, tb, hc, _⟩ := h.cell
  clear h
  go_enter Try.func49, Try.ntmps49
  go_wp2_with fail
  go_ret
  exact ⟨rfl, rfl⟩
set_option maxHeartbeats 800000 in
theorem all_mp {w : World} {b : Nat} {L : List Pr} (h : Mp w b L) : Calls Try.prog 56 #[.pointer (some ⟨b, 0, none⟩)] w fun e w' => (∃ t v, e = .returned (.pointer v) ∧ Tr w w.heap.size t v ∧ t.list = L ∧ t.Bal ∧ Sorted L) ∧ w = w' := by
  obtain ⟨t, tb, hc, hf, ht, rest⟩ := h.cell
  have HT := Lib.hid ht
  have HR := Lib.hid rest
  clear h ht rest
  go_enter Try.func56, Try.ntmps56
  go_wp2_with fail
  go_ret
  exact ⟨⟨t, _, rfl, HT.out, HR.out⟩, rfl⟩
def LenP (L : List Pr) (w : World) (e : Ending) (w' : World) : Prop := e = .returned (.int .i64 (L.length : Nat)) ∧ w = w'
set_option maxHeartbeats 800000 in
theorem Len_mp {w : World} {b : Nat} {L : List Pr} (h : Mp w b L) : Calls Try.prog 29 #[.pointer (some ⟨b, 0, none⟩)] w (LenP L w) := by
  have HA := Lib.hid (all_mp h)
  clear h
  go_enter Try.func29, Try.ntmps29
  go_wp2_with fail
  go_fit HA.out
  rintro e w' ⟨⟨t, v, rfl, ht, hl, _⟩, rfl⟩
  have HT := Lib.hid (Len_any ht)
  have HL : Hid (t.size = L.length) := by show _ = _; rw [← hl, T.size_list]
  clear ht hl
  go_wp2_with fail
  go_fit HT.out
  rintro e w' ⟨rfl, rfl⟩
  go_wp2_with fail
  go_ret
  exact ⟨by rw [← HL.out]; rfl, rfl⟩
def GetP (L : List Pr) (k : ByteArray) (w : World) (e : Ending) (w' : World) : Prop := e = .returned (.tuple #[.string (val1 L k), .bool (hasB L k)]) ∧ Below w.heap.size w w'
set_option maxHeartbeats 800000 in
theorem Get_mp {w : World} {b : Nat} {L : List Pr} (k : ByteArray) (h : Mp w b L) : Calls Try.prog 30 #[.pointer (some ⟨b, 0, none⟩), .string k] w (GetP L k w) := by
  have HA := Lib.hid (all_mp h)
  clear h
  go_enter Try.func30, Try.ntmps30
  go_wp2_with fail
  go_fit HA.out
  rintro e w' ⟨⟨t, v, rfl, ht, hl, _, hs⟩, rfl⟩
  have hT : Calls Try.prog 61 #[.pointer v, .string k] w (GetP L k w) := by
    have h := Get_any k ht (by rw [hl]; exact hs)
    rw [hl] at h; exact h
  have HT := Lib.hid hT
  clear ht hl hs hT
  go_wp2_with fail
  go_fit HT.out
  rintro e w' ⟨rfl, hb⟩
  have HB := Lib.hid hb
  clear hb
  go_wp2_with fail
  go_ret2
  exact ⟨rfl, HB.out⟩
theorem is_eq (L : List Pr) (o : Kop) {x y : Bool} (hx : (hasB L o.key == o.has) = x) (hy : decide (val1 L o.key = o.val) = y) : isB L o = (x && y) := by unfold isB; rw [hx, hy]
def IsP (L : List Pr) (o : Kop) (w : World) (e : Ending) (w' : World) : Prop := e = .returned (.bool (isB L o)) ∧ Below w.heap.size w w'
theorem IsP.of {L : List Pr} {o : Kop} {w w' : World} {b : Bool} (h : isB L o = b) (hb : Below w.heap.size w w') : IsP L o w (.returned (.bool b)) w' := ⟨by rw [h], hb⟩
set_option maxRecDepth 100000 in
set_option maxHeartbeats 1600000 in
theorem is_mp {w : World} {b : Nat} {L : List Pr} (o : Kop) (h : Mp w b L) : Calls Try.prog 50 #[.pointer (some ⟨b, 0, none⟩), .agg #[.string o.key, .bool o.has, .string o.val]] w (IsP L o w) := by
  have hA := lay_alloc w (.cells #[.string o.key, .bool o.has, .string o.val] 37)
  have HA := Lib.hid hA
  have HG := Lib.hid (Get_mp o.key (h.below hA))
  have HC0 := Lib.hid (box_cell w #[.string o.key, .bool o.has, .string o.val] 37 0)
  have HC1 := Lib.hid (box_cell w #[.string o.key, .bool o.has, .string o.val] 37 1)
  have HC2 := Lib.hid (box_cell w #[.string o.key, .bool o.has, .string o.val] 37 2)
  clear h hA
  obtain ⟨key, has, val⟩ := o
  simp only at HG
  have HE : Hid (isB L ⟨key, has, val⟩ = ((hasB L key == has) && decide (val1 L key = val))) := rfl
  have HG' : Hid (Calls Try.prog 30 #[.pointer (some ⟨b, 0, none⟩), .string key] (w.alloc (.cells #[.string key, .bool has, .string val] 37)) fun e w' => e = .returned (.tuple #[.string (val1 L key), .bool (hasB L key)]) ∧ Below (w.alloc (.cells #[.string key, .bool has, .string val] 37)).heap.size (w.alloc (.cells #[.string key, .bool has, .string val] 37)) w') := HG.out
  clear HG
  generalize hasB L key = p at HG' HE
  generalize val1 L key = q at HG' HE
  have main : ∀ r : Bool, ((p == has) && decide (q = val)) = r → Calls Try.prog 50 #[.pointer (some ⟨b, 0, none⟩), .agg #[.string key, .bool has, .string val]] w (IsP L ⟨key, has, val⟩ w) := by
    intro r hr
    have HE' : Hid (isB L ⟨key, has, val⟩ = r) := by show _ = _; rw [HE.out, hr]
    have hqv : (q.toList == val.toList) = decide (q = val) := ba_eq q val
    cases hd : decide (q = val) <;> rw [hd] at hqv hr <;> cases p <;> cases has <;> simp at hr <;> subst hr
    all_goals
      clear hd HE
      go_enter Try.func50, Try.ntmps50
      go_wp2_with fail
      go_fit HG'.out
      rintro e w1 ⟨rfl, hb1⟩
      have HB := Lib.hid (below_of HA.out hb1)
      have d0 := lay_later hb1 HC0.out
      have d1 := lay_later hb1 HC1.out
      have d2 := lay_later hb1 HC2.out
      clear hb1
      go_wp2_with fail
      go_ret
      exact IsP.of HE'.out HB.out
  exact main _ rfl
end Go.Proofs.Ytdfjnpnkfjcpcaa
