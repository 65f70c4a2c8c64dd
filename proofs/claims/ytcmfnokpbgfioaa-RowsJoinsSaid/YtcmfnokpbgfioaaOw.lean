/-
  rows.own: entries in new memory.
-/
import Derived.Test.YtcmfnokpbgfioaaCl
import Derived.Test.YtcmfnokpbgfioaaShelf
import Derived.Laws.OwnMore
namespace Go.Proofs.Ytcmfnokpbgfioaa
set_option linter.unusedVariables false
set_option linter.unusedSimpArgs false
open Go.RowKit

/-- What a copy of bytes leaves. -/
def Copied (xs : List Int) (w : World) (e : Ending) (w' : World) : Prop := ∃ v, e = .returned v ∧ w'.ownsRow w.heap.size 5 1 v xs.length (u8s xs) ∧ Below w.heap.size w w'
theorem Clone_byt {w : World} {L : List Nat} {v : Value} {xs : List Int} (h : Byt w L v xs) (hl : xs.length ≤ 140737488355328) : Calls Try.prog 50 #[v] w (Copied xs w) := by
  obtain ⟨a, c, rfl, h1, h2, h3⟩ := h
  cases a with
  | none =>
    have hx : xs = [] := h3.resolve_right (by rintro ⟨p, hp, _⟩; cases hp)
    subst hx
    exact (Try.bytes_Clone_nil 0 c w).mono fun e w' ⟨he, hw⟩ => ⟨_, he, by rw [hw]; exact World.ownsRow_nil _ _ _ _, by rw [hw]; exact Below.refl _ _⟩
  | some p =>
    refine (Try.bytes_Clone_at p xs.length c xs w rfl hl ?_).mono fun e w' ⟨v', he, ho, _, hb⟩ => ⟨v', he, ho, hb⟩
    intro i hi
    rcases h3 with rfl | ⟨p', hp, _, _, hr⟩
    · simp at hi
    · cases hp
      exact hr.at hi
theorem Copied.byt {w : World} {L : List Nat} {v : Value} {xs : List Int} {w' : World} (ho : w'.ownsRow w.heap.size 5 1 v xs.length (u8s xs)) (hL : ∀ k ∈ L, k < w.heap.size) : Byt w' L v xs :=
  byt_row ho rfl (fun g hg hm => by have := (ho.lt g hg).1; have := hL g hm; omega)

/-- Entries as cells and as what they are. -/
structure Mat (w : World) (L : List Nat) (ls : List En) (es : List Er) : Prop where
  len : ls.length = es.length
  each : ∀ (k : Nat) (x : En) (e : Er), ls[k]? = some x → es[k]? = some e → x.i = e.i ∧ x.t = e.t ∧ Byt w L x.s.v e.d
theorem EIn.mat {w : World} {v : Value} {es : List Er} (h : EIn w v es) : ∃ ls, enL.In w v ls ∧ Mat w [] ls es := by
  obtain ⟨ls, h1, h2, h3⟩ := h
  exact ⟨ls, h1, h2, h3⟩
theorem Mat.ein {w : World} {L : List Nat} {v : Value} {ls : List En} {es : List Er} (h : Mat w L ls es) (hv : enL.In w v ls) : EIn w v es :=
  ⟨ls, hv, h.len, fun k x e hx he => ⟨(h.each k x e hx he).1, (h.each k x e hx he).2.1, (h.each k x e hx he).2.2.sub (fun k hk => by cases hk)⟩⟩
theorem Mat.below {w w' : World} {L : List Nat} {ls : List En} {es : List Er} (h : Mat w L ls es) (hb : Below w.heap.size w w') : Mat w' L ls es :=
  ⟨h.len, fun k x e hx he => ⟨(h.each k x e hx he).1, (h.each k x e hx he).2.1, (h.each k x e hx he).2.2.below hb⟩⟩
/-- Blocks that are newer are avoided. -/
theorem Mat.newer {w w' : World} {ls : List En} {es : List Er} {g : Nat} (h : Mat w [] ls es) (hb : Below w.heap.size w w') (hg : w.heap.size ≤ g) : Mat w' [g] ls es :=
  ⟨h.len, fun k x e hx he => ⟨(h.each k x e hx he).1, (h.each k x e hx he).2.1, (h.each k x e hx he).2.2.keep hb.size (fun j hj _ => hb.block j hj) (fun j hj => by simp at hj; omega)⟩⟩
theorem all_set (s : Sl) : ∀ (ls : List En) (k : Nat) (x : En), ls[k]? = some x → (enL.all ls).set (k * 3 + 2) s.v = enL.all (ls.set k ⟨x.i, x.t, s⟩)
  | [], k, x, h => by simp at h
  | y :: l, 0, x, h => by
    simp only [List.getElem?_cons_zero, Option.some.injEq] at h
    subst h
    rfl
  | y :: l, k + 1, x, h => by
    rw [List.getElem?_cons_succ] at h
    have e : enL.all (y :: l) = .int .i64 y.i :: .int .i64 y.t :: y.s.v :: enL.all l := rfl
    rw [e, show (k + 1) * 3 + 2 = k * 3 + 2 + 1 + 1 + 1 by omega, List.set_cons_succ, List.set_cons_succ, List.set_cons_succ, all_set s l k x h]
    rfl
theorem Rw.stored {w0 w : World} {g n c k : Nat} {ls : List En} {x : En} (h : Rw enL 44 w0 w (.slice (some ⟨g, 0, none⟩) n c) ls) (hn : n = ls.length) (hx : ls[k]? = some x) (s : Sl) :
    Rw enL 44 w0 (w.setCell ⟨g, k * 3 + 2, none⟩ s.v) (.slice (some ⟨g, 0, none⟩) n c) (ls.set k ⟨x.i, x.t, s⟩) := by
  subst hn
  have hs := h.own.stored (k * 3 + 2) s.v
  refine ⟨by rw [List.length_set, ← all_set s ls k x hx]; exact hs.1, h.grown.trans ⟨rfl, rfl, rfl, by simp [World.setCell], fun j hj => Below.heap_setCell _ _ _ _ ?_⟩⟩
  have := (h.lt g rfl).1
  show j ≠ g
  have := h.grown.size
  omega
theorem Mat.stored {w : World} {g k o : Nat} {ls : List En} {es : List Er} {x : En} {e : Er} {s : Sl} (h : Mat w [g] ls es) (hx : ls[k]? = some x) (he : es[k]? = some e) (hs : Byt w [g] s.v e.d) : Mat (w.setCell ⟨g, o, none⟩ s.v) [g] (ls.set k ⟨x.i, x.t, s⟩) es := by
  have keep : ∀ {v : Value} {xs : List Int}, Byt w [g] v xs → Byt (w.setCell ⟨g, o, none⟩ s.v) [g] v xs := fun hb => hb.keep (by simp [World.setCell]) (fun j _ hj => Below.heap_setCell _ _ _ _ (by simpa using hj)) (fun j hj => .inl hj)
  refine ⟨by rw [List.length_set]; exact h.len, fun j y f hy hf => ?_⟩
  by_cases e1 : k = j
  · subst e1
    rw [he] at hf; cases hf
    rw [List.getElem?_set_self (List.getElem?_eq_some_iff.1 hx).1] at hy
    cases hy
    obtain ⟨h1, h2, _⟩ := h.each k x e hx he
    exact ⟨h1, h2, keep hs⟩
  · rw [List.getElem?_set_ne e1] at hy
    obtain ⟨h1, h2, h3⟩ := h.each j y f hy hf
    exact ⟨h1, h2, keep h3⟩

/-- A row that is kept where its blocks are. -/
theorem row_keep {w w' : World} {B B' n sz : Nat} {E : TypeId} {v : Value} {xs : List Value} (h : w.ownsRow B E sz v n xs) (hB : B' ≤ B) (hk : ∀ k, B ≤ k → k < w.heap.size → w'.heap[k]? = w.heap[k]?) : w'.ownsRow B' E sz v n xs := by
  refine ⟨h.1, h.2.imp id ?_⟩
  rintro ⟨g, cap, cur, hv, hg, hh, rest⟩
  have hlt : g < w.heap.size := by
    by_cases e : g < w.heap.size
    · exact e
    · rw [Array.getElem?_eq_none (by omega)] at hh; cases hh
  exact ⟨g, cap, cur, hv, Nat.le_trans hB hg, (hk g hg hlt).trans hh, rest⟩
theorem row_put {w : World} {B n sz g o : Nat} {E : TypeId} {v x : Value} {xs : List Value} (h : w.ownsRow B E sz v n xs) (hne : v.ownBlock ≠ some g) : (w.setCell ⟨g, o, none⟩ x).ownsRow B E sz v n xs :=
  h.kept (row := some g) ⟨rfl, rfl, rfl, by simp [World.setCell], fun k _ hk => Below.heap_setCell _ _ _ _ (fun e => hk (by rw [e]))⟩ (.inr hne)
/-- The data of the first ones is their own. -/
def MatN (w : World) (B g : Nat) (n : Nat) (ls : List En) (es : List Er) : Prop := ∀ (k : Nat) (x : En) (e : Er), k < n → ls[k]? = some x → es[k]? = some e → w.ownsRow B 5 1 x.s.v e.d.length (u8s e.d) ∧ x.s.v.ownBlock ≠ some g
theorem MatN.below {w w' : World} {B g n : Nat} {ls : List En} {es : List Er} (h : MatN w B g n ls es) (hb : Below w.heap.size w w') : MatN w' B g n ls es := fun k x e hk hx he => ⟨row_keep (h k x e hk hx he).1 (Nat.le_refl _) (fun k _ hk => hb.block k hk), (h k x e hk hx he).2⟩
theorem MatN.stored {w : World} {B g k o : Nat} {ls : List En} {es : List Er} {x : En} {e : Er} {s : Sl} (h : MatN w B g k ls es) (hx : ls[k]? = some x) (he : es[k]? = some e) (hs : w.ownsRow B 5 1 s.v e.d.length (u8s e.d)) (hg : s.v.ownBlock ≠ some g) : MatN (w.setCell ⟨g, o, none⟩ s.v) B g (k + 1) (ls.set k ⟨x.i, x.t, s⟩) es := by
  intro j y f hj hy hf
  by_cases e1 : k = j
  · subst e1
    rw [he] at hf; cases hf
    rw [List.getElem?_set_self (List.getElem?_eq_some_iff.1 hx).1] at hy
    cases hy
    exact ⟨row_put hs hg, hg⟩
  · rw [List.getElem?_set_ne e1] at hy
    obtain ⟨h1, h2⟩ := h j y f (by omega) hy hf
    exact ⟨row_put h1 h2, h2⟩
/-- Entries that are told, in rows of their own, in blocks from B on. -/
def EInB (w : World) (B : Nat) (v : Value) (es : List Er) : Prop := ∃ ls : List En, w.ownsRow B 44 enL.sz v ls.length (enL.all ls) ∧ ls.length = es.length ∧ ∀ (k : Nat) (x : En) (e : Er), ls[k]? = some x → es[k]? = some e → x.i = e.i ∧ x.t = e.t ∧ w.ownsRow B 5 1 x.s.v e.d.length (u8s e.d)
theorem EInB.ein {w : World} {B : Nat} {v : Value} {es : List Er} (h : EInB w B v es) : EIn w v es := by
  obtain ⟨ls, h1, h2, h3⟩ := h
  exact ⟨ls, Lay.in_own h1 rfl, h2, fun k x e hx he => ⟨(h3 k x e hx he).1, (h3 k x e hx he).2.1, byt_row (h3 k x e hx he).2.2 rfl (fun g _ hm => by cases hm)⟩⟩
theorem EInB.keep {w w' : World} {B B' : Nat} {v : Value} {es : List Er} (h : EInB w B v es) (hB : B' ≤ B) (hs : w.heap.size ≤ w'.heap.size) (hk : ∀ k, B ≤ k → k < w.heap.size → w'.heap[k]? = w.heap[k]?) : EInB w' B' v es := by
  obtain ⟨ls, h1, h2, h3⟩ := h
  exact ⟨ls, row_keep h1 hB hk, h2, fun k x e hx he => ⟨(h3 k x e hx he).1, (h3 k x e hx he).2.1, row_keep (h3 k x e hx he).2.2 hB hk⟩⟩
theorem EInB.later {w w' : World} {B : Nat} {v : Value} {es : List Er} (h : EInB w B v es) (hb : Below w.heap.size w w') : EInB w' B v es := h.keep (Nat.le_refl _) hb.size (fun k _ hk => hb.block k hk)
theorem EInB.set {w : World} {B b o : Nat} {x v : Value} {es : List Er} (h : EInB w B v es) (hb : b < B) : EInB (w.setCell ⟨b, o, none⟩ x) B v es := h.keep (Nat.le_refl _) (by simp [World.setCell]) (fun k hk _ => Below.heap_setCell _ _ _ _ (show k ≠ b by omega))
theorem EInB.nil (w : World) (B : Nat) : EInB w B (.slice none 0 0) [] := ⟨[], World.ownsRow_nil _ _ _ _, rfl, fun k x e hx => by simp at hx⟩
def OwnP (es : List Er) (w : World) (e : Ending) (w' : World) : Prop := ∃ u, e = .returned u ∧ EInB w' w.heap.size u es ∧ Below w.heap.size w w'

set_option maxRecDepth 100000 in
set_option maxHeartbeats 3200000 in
theorem own_any {w : World} {v : Value} {es : List Er} (h : EIn w v es) (hl : es.length ≤ 100000) (hd : ∀ e ∈ es, e.d.length ≤ 1000000) : Calls Try.prog 40 #[v] w (OwnP es w) := by
  obtain ⟨ls, h1, hm⟩ := h.mat
  have HC := Lib.hid (CloneN h1 (by rw [hm.len]; omega))
  have HM := Lib.hid hm
  obtain ⟨a, c, rfl, _, _⟩ := h.slice
  have HLd := Lib.hid hd
  clear h h1 hm hd
  go_enter Try.func40, Try.ntmps40
  go_wp2_with fail
  go_fit HC.out
  rintro e w1 ⟨u, rfl, hR⟩
  obtain ⟨a1, c1, rfl, _, _⟩ := hR.slice
  have HR := Lib.hid hR
  have HN : Hid (ls.length = es.length) := HM.out.len
  clear hR HC
  go_wp2_with fail
  by_cases h0 : es.length = 0
  · obtain rfl : es = [] := List.eq_nil_of_length_eq_zero h0
    have hn0 : ls.length = 0 := HN.out
    rw [hn0]
    have HG := Lib.hid HR.out.grown
    have HO : Hid (EInB w1 w.heap.size (.slice a1 ls.length c1) []) := ⟨ls, HR.out.own, hn0, fun k x e hx he => by simp at he⟩
    rw [hn0] at HO
    clear HR HM HLd
    go_loopw [9] (fun j wr => j = .int .i64 0 ∧ wr = w1) (fun _ _ => 0)
    case atStart => exact ⟨rfl, rfl⟩
    case round =>
      obtain ⟨rfl, rfl⟩ := hrel
      go_wp2_with fail
      go_ret
      exact ⟨_, rfl, HO.out, HG.out⟩
  · obtain ⟨g, cc, hv⟩ : ∃ g cc, (Value.slice a1 ls.length c1) = .slice (some ⟨g, 0, none⟩) ls.length cc := by
      rcases HR.out.own.2 with ⟨h', h2⟩ | ⟨g', cap, cur, h', _⟩
      · rw [HN.out] at h2; exact absurd h2 h0
      · exact ⟨g', cap, h'⟩
    simp only [Value.slice.injEq, true_and] at hv
    obtain ⟨rfl, rfl⟩ := hv
    have hge := (HR.out.lt g rfl).1
    have HM1 := Lib.hid (HM.out.newer HR.out.grown hge)
    have HGE := Lib.hid hge
    rw [HN.out] at *
    clear HM hge h0
    go_loopw [4, 9] (fun i j wr => ∃ (k : Nat) (ls' : List En), j = .int .i64 k ∧ k ≤ es.length ∧ Hid (Rw enL 44 w wr (.slice (some ⟨g, 0, none⟩) es.length c1) ls') ∧ Hid (Mat wr [g] ls' es) ∧ Hid (MatN wr w.heap.size g k ls' es)) (fun _ j _ => es.length - (intOf j).toNat)
    case atStart => exact ⟨0, ls, rfl, Nat.zero_le _, HR, HM1, (by show MatN _ _ _ _ _ _; intro k x e hk; omega)⟩
    case round =>
      obtain ⟨k, ls', rfl, hk, hR, hM, hN⟩ := hrel
      by_cases hlt : k < es.length
      · have he : es[k]? = some es[k] := List.getElem?_eq_getElem hlt
        have hln : ls'.length = es.length := hM.out.len
        have hx : ls'[k]? = some ls'[k] := List.getElem?_eq_getElem (by omega)
        have hde := HLd.out es[k] (List.getElem_mem hlt)
        generalize es[k] = e at *
        generalize ls'[k] = x at *
        obtain ⟨h1, h2, h3⟩ := hM.out.each k x e hx he
        obtain ⟨p, n1, c2, hs⟩ : ∃ p n1 c2, x.s = (p, n1, c2) := ⟨_, _, _, rfl⟩
        have hxx : x = ⟨x.i, x.t, (p, n1, c2)⟩ := by rw [← hs]
        have hx2 := hx
        rw [hxx] at hx2
        obtain ⟨g', off, hga, d0, d1, d2⟩ := en_at hR.out.told hx2
        simp only [Option.some.injEq, Addr.mk.injEq, and_true] at hga
        obtain ⟨rfl, rfl⟩ := hga
        simp only [Nat.zero_add] at d2
        have hsv : x.s.v = .slice p n1 c2 := by rw [hs]; rfl
        rw [hsv] at h3
        have HB := Lib.hid (Clone_byt h3 (by omega))
        have hkk : (k : Int) < (es.length : Int) := by omega
        have HX := Lib.hid hx
        have HE := Lib.hid he
        have HDL := Lib.hid hde
        clear h1 h2 h3 hs hxx hx2 d0 d1 hsv hx he hde
        go_wp2_with fail
        go_fit HB.out
        rintro e3 w2 ⟨v2, rfl, ho, hb⟩
        have hR2 := hR.out.below hb
        have hM2 := hM.out.below hb
        have hby := Copied.byt (L := [g]) ho (fun j hj => by simp at hj; have := (hR.out.lt g rfl).2; omega)
        have hbz := row_keep (B' := w.heap.size) ho hR.out.grown.size (fun _ _ _ => rfl)
        have hbg := hR.out.lt g rfl
        obtain ⟨p2, c3, rfl, _, _⟩ := hby.slice
        have HR3 := Lib.hid (hR2.stored (n := es.length) hln.symm HX.out (p2, e.d.length, c3))
        have HM3 := Lib.hid (hM2.stored (o := k * 3 + 2) (s := (p2, e.d.length, c3)) HX.out HE.out hby)
        have HN3 := Lib.hid ((hN.out.below hb).stored (o := k * 3 + 2) (s := (p2, e.d.length, c3)) HX.out HE.out hbz (fun h => by have h1 := ho.lt g h; have h2 := hbg.2; omega))
        have hown := hR2.own
        rw [hln] at hown
        have q0 : w2.cell? ⟨g, k * 3 + 2, none⟩ = some (.slice p n1 c2) := (lay_later hb d2)
        have q1 := hown.frozenAt (k * 3 + 2)
        clear hR2 hM2 hby hbz hbg ho hb hown HB d2 hR hM hN
        go_wp2_with fail
        exact ⟨⟨k + 1, _, by go_num, hlt, HR3, HM3, HN3⟩, by show es.length - ((k : Int) + 1).toNat < es.length - (k : Int).toNat; omega⟩
      · obtain rfl : k = es.length := by omega
        have HG := Lib.hid hR.out.grown
        have HO : Hid (EInB wr w.heap.size (.slice (some ⟨g, 0, none⟩) es.length c1) es) := by
          exact ⟨ls', (by rw [hM.out.len]; have h0 := hR.out.own; rw [hM.out.len] at h0; exact h0), hM.out.len, fun k x e hx he => ⟨(hM.out.each k x e hx he).1, (hM.out.each k x e hx he).2.1, (hN.out k x e (List.getElem?_eq_some_iff.1 he).1 hx he).1⟩⟩
        clear hR hM hN
        go_wp2_with fail
        go_ret
        exact ⟨_, rfl, HO.out, HG.out⟩
end Go.Proofs.Ytcmfnokpbgfioaa
