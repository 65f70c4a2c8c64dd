/-
  The document's unlike, Unlike. (Written by genv3.py.)
-/
import Derived.Test.YtcbgnmolfdhnfaaV2

namespace Go.Proofs.Ytcbgnmolfdhnfaa
set_option linter.unusedVariables false
set_option linter.unusedSimpArgs false
open Go.RowKit

/-- How things stand in unlike: what is told, the boxes. -/
structure Us (wr : World) (N dg pr : Nat) (u : Value) (ks : List ByteArray) : Prop where
  r0 : wr.cell? ⟨N, 0, none⟩ = some (.int .i64 0)
  r1 : wr.cell? ⟨N, 1, none⟩ = some (.int .i64 0)
  t0 : wr.cell? ⟨N + 1, 0, none⟩ = some (.int .i64 dg)
  t1 : wr.cell? ⟨N + 1, 1, none⟩ = some (.int .i64 pr)
  zr : ∀ j, wr.frozen? ⟨N, j, none⟩ = false
  zt : ∀ j, wr.frozen? ⟨N + 1, j, none⟩ = false
  own : wr.ownsRow (N + 2) 9 1 u ks.length (strL.all ks)
theorem Us.lt {wr : World} {N dg pr : Nat} {u : Value} {ks : List ByteArray} (h : Us wr N dg pr u ks) : N + 2 ≤ wr.heap.size := World.block_lt_of_cell? wr ⟨N + 1, 0, none⟩ h.t0
theorem Us.keep {wr w' : World} {N dg pr : Nat} {u u' : Value} {ks ks' : List ByteArray} (h : Us wr N dg pr u ks) (hb : w'.heap[N]? = wr.heap[N]?) (hb2 : w'.heap[N + 1]? = wr.heap[N + 1]?) (ho : w'.ownsRow (N + 2) 9 1 u' ks'.length (strL.all ks')) : Us w' N dg pr u' ks' :=
  ⟨(World.cell?_of_block (a := ⟨N, 0, none⟩) hb).trans h.r0, (World.cell?_of_block (a := ⟨N, 1, none⟩) hb).trans h.r1, (World.cell?_of_block (a := ⟨N + 1, 0, none⟩) hb2).trans h.t0, (World.cell?_of_block (a := ⟨N + 1, 1, none⟩) hb2).trans h.t1,
    fun j => (World.frozen?_of_block (a := ⟨N, j, none⟩) hb).trans (h.zr j), fun j => (World.frozen?_of_block (a := ⟨N + 1, j, none⟩) hb2).trans (h.zt j), ho⟩
theorem Us.below {wr w' : World} {N dg pr : Nat} {u : Value} {ks : List ByteArray} (h : Us wr N dg pr u ks) (hb : Below wr.heap.size wr w') : Us w' N dg pr u ks :=
  h.keep (hb.block N (by have := h.lt; omega)) (hb.block (N + 1) (by have := h.lt; omega)) (row_below h.own hb)
theorem Us.setd {wr : World} {N dg pr : Nat} {u : Value} {ks : List ByteArray} (h : Us wr N dg pr u ks) (x : Nat) : Us (wr.setCell ⟨N + 1, 0, none⟩ (.int .i64 x)) N x pr u ks :=
  ⟨(World.cell?_setCell_other _ _ _ _ (by simp)).trans h.r0, (World.cell?_setCell_other _ _ _ _ (by simp)).trans h.r1, World.cell?_setCell_same _ _ _ h.t0, (World.cell?_setCell_other _ _ _ _ (by simp)).trans h.t1,
    fun j => (World.frozen?_setCell _ _ _ _).trans (h.zr j), fun j => (World.frozen?_setCell _ _ _ _).trans (h.zt j), row_set h.own (fun e => by have := (h.own.lt _ e).1; omega)⟩
theorem Us.setp {wr : World} {N dg pr : Nat} {u : Value} {ks : List ByteArray} (h : Us wr N dg pr u ks) (x : Nat) : Us (wr.setCell ⟨N + 1, 1, none⟩ (.int .i64 x)) N dg x u ks :=
  ⟨(World.cell?_setCell_other _ _ _ _ (by simp)).trans h.r0, (World.cell?_setCell_other _ _ _ _ (by simp)).trans h.r1, (World.cell?_setCell_other _ _ _ _ (by simp)).trans h.t0, World.cell?_setCell_same _ _ _ h.t1,
    fun j => (World.frozen?_setCell _ _ _ _).trans (h.zr j), fun j => (World.frozen?_setCell _ _ _ _).trans (h.zt j), row_set h.own (fun e => by have := (h.own.lt _ e).1; omega)⟩
/-- Behind an append to what is told. -/
theorem Us.grow {wr w' : World} {N dg pr n : Nat} {u u' : Value} {ks ks' : List ByteArray} (h : Us wr N dg pr u ks) (hg : wr.grownBy w' u.ownBlock) (ho : w'.ownsRow (N + 2) 9 1 u' n (strL.all ks')) (hn : n = ks'.length) : Us w' N dg pr u' ks' := by
  subst hn
  refine h.keep (hg.block N (by have := h.lt; omega) fun e => ?_) (hg.block (N + 1) (by have := h.lt; omega) fun e => ?_) ho
  · have := (h.own.lt _ e.symm).1; omega
  · have := (h.own.lt _ e.symm).1; omega
theorem Us.low {wr w' : World} {N dg pr : Nat} {u : Value} {ks : List ByteArray} {w : World} (h : Us wr N dg pr u ks) (hb : Below N w wr) (hg : wr.grownBy w' u.ownBlock) (hN : N ≤ w.heap.size) : Below N w w' :=
  hb.trans ⟨hg.os, hg.tape, hg.output, hg.size, fun k hk => hg.block k (by have := h.lt; omega) fun e => by have := (h.own.lt _ e.symm).1; omega⟩
def UlP (ks : List ByteArray) (dg pr : Nat) (w : World) (e : Ending) (w' : World) : Prop := ∃ u, e = .returned (.tuple #[u, .agg #[.int .i64 dg, .int .i64 pr]]) ∧ Rw strL 9 w w' u ks
def UlOk (s : Sd) (n : Nat) : Prop := ∀ (w : World) (ta tb : Nat) (A B : List Pr) (v : Value) (path : List Int), RTr s w ta A → RTr s w tb B → A.length + B.length ≤ 1000 → Slim A → Slim B → Sorted A → Sorted B → intL.In w v path → path.length + n = 4 →
  Calls Try.prog 58 #[.pointer (some ⟨ta, 0, none⟩), .pointer (some ⟨tb, 0, none⟩), v] w (UlP (s.vk n (s.mp path A) (s.mp path B)) (s.vd n (s.mp path A) (s.mp path B)) (s.vp n (s.mp path A) (s.mp path B)) w)
theorem boxes (w : World) : Hid (Us ((w.alloc (.cells #[.int .i64 0, .int .i64 0] 51)).alloc (.cells #[.int .i64 0, .int .i64 0] 51)) w.heap.size 0 0 (.slice none 0 0) [] ∧ Below w.heap.size w ((w.alloc (.cells #[.int .i64 0, .int .i64 0] 51)).alloc (.cells #[.int .i64 0, .int .i64 0] 51))) := by
  refine Lib.hid ⟨⟨by go_simp, by go_simp, by go_simp, by go_simp, by intro j; go_simp, by intro j; go_simp, World.ownsRow_nil _ _ _ _⟩, ((Below.refl _ _).alloc (Nat.le_refl _) _).alloc (by simp) _⟩
/-- What is told at the end. -/
theorem Us.done {w wr : World} {dg pr : Nat} {u : Value} {ks : List ByteArray} (h : Us wr w.heap.size dg pr u ks) (hb : Below w.heap.size w wr) :
    (((wr.setCell ⟨w.heap.size, 0, none⟩ (.int .i64 dg)).setCell ⟨w.heap.size, 1, none⟩ (.int .i64 pr)).drew).cell? ⟨w.heap.size, 0, none⟩ = some (.int .i64 dg) ∧ (((wr.setCell ⟨w.heap.size, 0, none⟩ (.int .i64 dg)).setCell ⟨w.heap.size, 1, none⟩ (.int .i64 pr)).drew).cell? ⟨w.heap.size, 1, none⟩ = some (.int .i64 pr) ∧
    Rw strL 9 w (((wr.setCell ⟨w.heap.size, 0, none⟩ (.int .i64 dg)).setCell ⟨w.heap.size, 1, none⟩ (.int .i64 pr)).drew) u ks := by
  have hne : ∀ o, o ≠ 5000000 → u.ownBlock ≠ some w.heap.size := fun _ _ e => by have := (h.own.lt _ e).1; omega
  have hn := hne 0 (by decide)
  refine ⟨(World.cell?_setCell_other _ _ _ _ (by simp)).trans (World.cell?_setCell_same _ _ _ h.r0), World.cell?_setCell_same _ _ _ ((World.cell?_setCell_other _ _ _ _ (by simp)).trans h.r1), ?_, below_drew ((hb.setCell (Nat.le_refl _) _).setCell (Nat.le_refl _) _)⟩
  have ho := row_set (o := 1) (x := .int .i64 pr) (row_set (o := 0) (x := .int .i64 dg) h.own hn) hn
  exact ⟨ho.1, ho.2.imp id fun ⟨g, cap, cur, hv, hg, rest⟩ => ⟨g, cap, cur, hv, by omega, rest⟩⟩

/-- A list of pairs lies in no box of numbers. -/
theorem pr_box {w : World} {v y : Value} {l : List Pr} {b x : Nat} (h : prL.In w v l) (hc : w.cell? ⟨b, 1, none⟩ = some (.int .i64 x)) : prL.In (w.setCell ⟨b, 1, none⟩ y) v l := by
  obtain ⟨a, c, hv, h1, h2, h⟩ := h
  refine ⟨a, c, hv, h1, h2, h.imp id ?_⟩
  rintro ⟨g, off, ha, hg, hat⟩
  refine ⟨g, off, ha, by simpa [World.setCell] using hg, fun i p hp j u hu => ?_⟩
  have h0 := hat i p hp j u hu
  refine (World.cell?_setCell_other _ _ _ _ ?_).trans h0
  intro e
  have e' : (⟨g, off + i * prL.sz + j, none⟩ : Addr) = ⟨b, 1, none⟩ := e.symm
  rw [e', hc] at h0
  have : u = .int .i64 x := (Option.some.inj h0).symm
  subst this
  have e2 : prL.enc p = [.string p.1, .string p.2] := rfl
  rw [e2] at hu
  rcases j with _ | _ | j
  · cases hu
  · cases hu
  · simp at hu
theorem Us.next {wr : World} {N dg pr b : Nat} {u y : Value} {ks : List ByteArray} (h : Us wr N dg pr u ks) (hb : N + 2 ≤ b) (hf : wr.cell? ⟨b, 1, none⟩ = some y) (z : Value) : (wr.setCell ⟨N + 1, 0, none⟩ z).cell? ⟨N + 1, 1, none⟩ = some (.int .i64 pr) ∧ (wr.setCell ⟨N + 1, 0, none⟩ z).cell? ⟨b, 1, none⟩ = some y ∧ (wr.setCell ⟨N + 1, 0, none⟩ z).frozen? ⟨N + 1, 1, none⟩ = false :=
  ⟨(World.cell?_setCell_other _ _ _ _ (by simp)).trans h.t1, (World.cell?_setCell_other _ _ _ _ (by simp)).trans hf, (World.frozen?_setCell _ _ _ _).trans (h.zt 1)⟩
/-- A box of numbers is no row of strings. -/
theorem bx_grow {w w' : World} {b : Nat} {v x y : Value} (h : w.cell? ⟨b, 0, none⟩ = some x ∧ w.cell? ⟨b, 1, none⟩ = some y) (hg : w.grownBy w' v.ownBlock) (hne : v.ownBlock ≠ some b) : w'.cell? ⟨b, 0, none⟩ = some x ∧ w'.cell? ⟨b, 1, none⟩ = some y := by
  have hb : w'.heap[b]? = w.heap[b]? := hg.block b (World.block_lt_of_cell? w ⟨b, 0, none⟩ h.1) (fun e => hne e.symm)
  exact ⟨(World.cell?_of_block (a := ⟨b, 0, none⟩) hb).trans h.1, (World.cell?_of_block (a := ⟨b, 1, none⟩) hb).trans h.2⟩
/-- More is told. -/
theorem Us.cat {w w7 w8 : World} {d p kl uc k8 b : Nat} {ua : Option Addr} {kA K : List ByteArray} {v8 x y : Value} (h : Us w7 w.heap.size d p (.slice ua kl uc) kA) (hl : Below w.heap.size w w7) (hf : w7.cell? ⟨b, 0, none⟩ = some x ∧ w7.cell? ⟨b, 1, none⟩ = some y) (hne : (Value.slice ua kl uc).ownBlock ≠ some b) (hb : w.heap.size + 2 ≤ b)
    (hk : k8 = (kA ++ K).length) (ho : w8.ownsRow (w.heap.size + 2) 9 strL.sz v8 (kA ++ K).length (strL.all (kA ++ K))) (hg : w7.grownBy w8 (Value.slice ua kl uc).ownBlock) (z : Value) :
    ∃ a8 c8, v8 = .slice a8 k8 c8 ∧ Us w8 w.heap.size d p (.slice a8 k8 c8) (kA ++ K) ∧ Below w.heap.size w w8 ∧ w8.cell? ⟨w.heap.size + 1, 0, none⟩ = some (.int .i64 d) ∧ w8.cell? ⟨w.heap.size + 1, 1, none⟩ = some (.int .i64 p) ∧ w8.frozen? ⟨w.heap.size + 1, 0, none⟩ = false ∧ w8.frozen? ⟨w.heap.size + 1, 1, none⟩ = false ∧ w8.cell? ⟨b, 0, none⟩ = some x ∧ w8.cell? ⟨b, 1, none⟩ = some y ∧
      (w8.setCell ⟨w.heap.size + 1, 0, none⟩ z).cell? ⟨w.heap.size + 1, 1, none⟩ = some (.int .i64 p) ∧ (w8.setCell ⟨w.heap.size + 1, 0, none⟩ z).cell? ⟨b, 1, none⟩ = some y ∧ (w8.setCell ⟨w.heap.size + 1, 0, none⟩ z).frozen? ⟨w.heap.size + 1, 1, none⟩ = false := by
  obtain ⟨a8, c8, hv⟩ := row_slice5 ho
  subst hv
  rw [← hk] at ho
  have hu := h.grow (u' := .slice a8 k8 c8) (ks' := kA ++ K) hg ho hk
  have hx := bx_grow hf hg hne
  have hn := hu.next hb hx.2 z
  rw [← hk]
  exact ⟨a8, c8, rfl, hu, h.low hl hg (Nat.le_refl _), hu.t0, hu.t1, hu.zt 0, hu.zt 1, hx.1, hx.2, hn.1, hn.2.1, hn.2.2⟩
/-- Two rows of unlike kinds are two blocks. -/
theorem row_past {w w' : World} {B B' sz sz' n n' : Nat} {E E' : TypeId} {v v' : Value} {xs xs' : List Value} (h : w.ownsRow B E sz v n xs) (h' : w.ownsRow B' E' sz' v' n' xs') (hE : E ≠ E') (hg : w.grownBy w' v'.ownBlock) : w'.ownsRow B E sz v n xs := by
  refine h.kept hg ?_
  cases e : v.ownBlock with
  | none => exact .inl rfl
  | some g =>
    refine .inr fun e2 => ?_
    obtain ⟨c1, h1⟩ := row_kind h e
    obtain ⟨c2, h2⟩ := row_kind h' e2.symm
    rw [h1] at h2
    have h3 := Option.some.inj h2
    injection h3 with _ h4 _
    exact hE h4

set_option maxRecDepth 100000 in
set_option maxHeartbeats 6400000 in
theorem ul_leaf {s : Sd} (hs : s.Ok) : UlOk s 0 := by
  intro w ta tb A B v path hta htb hl hsa hsb hA hB hp hpl
  have HTa := Lib.hid hta
  have HTb := Lib.hid htb
  have HSA := Lib.hid (show Slim A ∧ Slim B ∧ Sorted A ∧ Sorted B from ⟨hsa, hsb, hA, hB⟩)
  have HLn : Hid (A.length ≤ 1000 ∧ B.length ≤ 1000 ∧ A.length + B.length ≤ 1000) := Lib.hid ⟨by omega, by omega, hl⟩
  have HP := Lib.hid hp
  have HS := Lib.hid hs
  have HPl := Lib.hid hpl
  obtain ⟨pa, pc, rfl, _, _⟩ := hp.slice
  obtain ⟨m, hm⟩ : ∃ m, m = path.length := ⟨_, rfl⟩
  rw [← hm] at HP ⊢
  obtain rfl : m = 4 := by omega
  have HMm := Lib.hid hm
  obtain ⟨X, hX⟩ : ∃ X, X = s.tr 0 (s.mp path A) := ⟨_, rfl⟩
  obtain ⟨Y, hY⟩ : ∃ Y, Y = s.tr 0 (s.mp path B) := ⟨_, rfl⟩
  have HXY := Lib.hid (show X = s.tr 0 (s.mp path A) ∧ Y = s.tr 0 (s.mp path B) from ⟨hX, hY⟩)
  have HB0 := boxes w
  have HD1 : Hid (∀ V, Below w.heap.size w V → Calls Try.prog 24 #[.pointer (some ⟨ta, 0, none⟩), .slice pa 4 pc] V fun e w' => e = .returned (.int .u64 X) ∧ Below V.heap.size V w') := Lib.hid fun V hV => by
    have h := dig_any HS.out 0 (by omega) V ta A (.slice pa 4 pc) path (HTa.out.later hV) (by have := HLn.out.1; omega) HSA.out.1 (HP.out.later hV) HPl.out
    rw [← hX] at h; exact h
  have HD2 : Hid (∀ V, Below w.heap.size w V → Calls Try.prog 24 #[.pointer (some ⟨tb, 0, none⟩), .slice pa 4 pc] V fun e w' => e = .returned (.int .u64 Y) ∧ Below V.heap.size V w') := Lib.hid fun V hV => by
    have h := dig_any HS.out 0 (by omega) V tb B (.slice pa 4 pc) path (HTb.out.later hV) (by have := HLn.out.2.1; omega) HSA.out.2.1 (HP.out.later hV) HPl.out
    rw [← hY] at h; exact h
  clear hta htb hsa hsb hA hB hl hp hs hpl hm hX hY
  go_enter Try.func58, Try.ntmps58
  go_upto_region 2 with fail
  generalize (w.alloc (.cells #[.int .i64 0, .int .i64 0] 51)).alloc (.cells #[.int .i64 0, .int .i64 0] 51) = W at *
  have HC1 := Lib.hid (HD1.out W HB0.out.2)
  go_wp2_with fail
  go_fit HC1.out
  rintro e w1 ⟨rfl, hb1⟩
  have HB1 := Lib.hid (HB0.out.2.trans (hb1.mono HB0.out.2.size))
  have HU1 := Lib.hid (HB0.out.1.below hb1)
  have HC2 := Lib.hid (HD2.out w1 HB1.out)
  clear hb1 HC1 HB0
  go_wp2_with fail
  go_fit HC2.out
  rintro e w2 ⟨rfl, hb2⟩
  have HB2 := Lib.hid (HB1.out.trans (hb2.mono HB1.out.size))
  have HU2 := Lib.hid (HU1.out.below hb2)
  clear hb2 HC2 HB1 HU1
  by_cases hXY : X = Y
  · subst hXY
    have hvs := s.v_same (HXY.out.1.symm.trans HXY.out.2)
    have HV := Lib.hid hvs
    have HDn := Lib.hid (HU2.out.done HB2.out)
    have n0 := HU2.out.r0
    have n1 := HU2.out.r1
    have m0 := HU2.out.t0
    have m1 := HU2.out.t1
    have z0 := HU2.out.zr 0
    have z1 := HU2.out.zr 1
    clear hvs
    go_upto_region 3 with fail
    go_region
    all_goals
      obtain ⟨e0, e1, hrw⟩ := HDn.out
      have HRw := Lib.hid hrw
      clear n0 n1 m0 m1 z0 z1 HDn hrw
      generalize ((w2.setCell ⟨w.heap.size, 0, none⟩ (.int .i64 ((0 : Nat) : Int))).setCell ⟨w.heap.size, 1, none⟩ (.int .i64 ((0 : Nat) : Int))).drew = w3 at *
      go_wp2_with fail
      refine bodyPost_ret (v := .tuple #[.slice none 0 0, .agg #[.int .i64 ((0 : Nat) : Int), .int .i64 ((0 : Nat) : Int)]]) (by simp [results, Try.results58, go_sem, e0, e1]) rfl ?_
      exact ⟨_, by rw [HV.out.2.1, HV.out.2.2], by rw [HV.out.1]; exact HRw.out⟩
  have hXYb : ((X : Int) == (Y : Int)) = false := by simp; omega

  have hne : ¬ s.tr 0 (s.mp path A) = s.tr 0 (s.mp path B) := fun e => hXY (by rw [HXY.out.1, HXY.out.2, e])
  have HVk : Hid (s.vk 0 (s.mp path A) (s.mp path B) = mg (s.mp path A) (s.mp path B) ∧ s.vd 0 (s.mp path A) (s.mp path B) = 0 ∧ s.vp 0 (s.mp path A) (s.mp path B) = (s.inR path A).length + (s.inR path B).length) := Lib.hid ⟨by rw [Sd.vk, if_neg hne], rfl, by rw [Sd.vp, if_neg hne]; unfold Sd.mp; rw [List.length_map, List.length_map]⟩
  have HI1 := Lib.hid (In_any HS.out (HTa.out.later HB2.out) (by have := HLn.out.1; omega) HSA.out.1 (HP.out.later HB2.out) (by rw [← HMm.out]; decide))
  clear HD1 HD2 hne
  go_wp2_with fail
  go_fit HI1.out
  rintro e w3 ⟨u3, rfl, hr3⟩
  have HB3 := Lib.hid (HB2.out.trans (hr3.grown.mono HB2.out.size))
  have HU3 := Lib.hid (HU2.out.below hr3.grown)
  have HR3 := Lib.hid hr3.told
  obtain ⟨a3, c3, rfl, _, _⟩ := hr3.slice
  have HI2 := Lib.hid (In_any HS.out (HTb.out.later HB3.out) (by have := HLn.out.2.1; omega) HSA.out.2.1 (HP.out.later HB3.out) (by rw [← HMm.out]; decide))
  clear hr3 HI1 HB2 HU2
  go_wp2_with fail
  go_fit HI2.out
  rintro e w4 ⟨u4, rfl, hr4⟩
  have HB4 := Lib.hid (HB3.out.trans (hr4.grown.mono HB3.out.size))
  have HU4 := Lib.hid (HU3.out.below hr4.grown)
  have HR4 := Lib.hid hr4.told
  have HR3' := Lib.hid (HR3.out.later hr4.grown)
  obtain ⟨a4, c4, rfl, _, _⟩ := hr4.slice
  obtain ⟨P, hP⟩ : ∃ P, P = s.inR path A := ⟨_, rfl⟩
  obtain ⟨Q, hQ⟩ : ∃ Q, Q = s.inR path B := ⟨_, rfl⟩
  have hPs : Sorted P := by rw [hP]; exact filter_sorted HSA.out.2.2.1 _
  have hQs : Sorted Q := by rw [hQ]; exact filter_sorted HSA.out.2.2.2 _
  have hPl : P.length ≤ 1000 := by rw [hP]; exact Nat.le_trans (List.length_filter_le _ _) HLn.out.1
  have hQl : Q.length ≤ 1000 := by rw [hQ]; exact Nat.le_trans (List.length_filter_le _ _) HLn.out.2.1
  have HKy : Hid ((df P Q (un P Q)).map (·.1) = s.vk 0 (s.mp path A) (s.mp path B)) := Lib.hid (by rw [HVk.out.1, df_keys s hPs hQs, hP, hQ]; rfl)
  have HVd := Lib.hid HVk.out.2
  rw [← hP, ← hQ] at HVd
  rw [← hP] at HR3' ⊢
  rw [← hQ] at HR4 ⊢
  obtain ⟨p1, hp1⟩ : ∃ p, p = P.length := ⟨_, rfl⟩
  obtain ⟨q1, hq1⟩ : ∃ q, q = Q.length := ⟨_, rfl⟩
  have HPsQs := Lib.hid (show Sorted P ∧ Sorted Q ∧ P.length ≤ 1000 ∧ Q.length ≤ 1000 ∧ p1 = P.length ∧ q1 = Q.length from ⟨hPs, hQs, hPl, hQl, hp1, hq1⟩)
  rw [← hp1] at HR3' HVd hPl ⊢
  rw [← hq1] at HR4 HVd hQl ⊢
  have m1 := HU4.out.t1
  have z1 := HU4.out.zt 1
  clear hr4 HI2 HB3 HU3 HR3 hP hQ hPs hQs hp1 hq1 HVk
  go_upto_region 8 with fail
  have HU5 : Hid (Us (w4.setCell ⟨w.heap.size + 1, 1, none⟩ (.int .i64 ((p1 : Int) + (q1 : Int)))) w.heap.size 0 (p1 + q1) (.slice none 0 0) []) := Lib.hid (HU4.out.setp (p1 + q1))
  have HB5 : Hid (Below w.heap.size w (w4.setCell ⟨w.heap.size + 1, 1, none⟩ (.int .i64 ((p1 : Int) + (q1 : Int))))) := Lib.hid (HB4.out.setCell (show w.heap.size ≤ w.heap.size + 1 by omega) _)
  have HR5 : Hid (prL.In (w4.setCell ⟨w.heap.size + 1, 1, none⟩ (.int .i64 ((p1 : Int) + (q1 : Int)))) (.slice a3 p1 c3) P) := Lib.hid (pr_box HR3'.out HU4.out.t1)
  have HQ5 : Hid (prL.In (w4.setCell ⟨w.heap.size + 1, 1, none⟩ (.int .i64 ((p1 : Int) + (q1 : Int)))) (.slice a4 q1 c4) Q) := Lib.hid (pr_box HR4.out HU4.out.t1)
  clear m1 z1 HU4 HB4 HR3' HR4
  generalize w4.setCell ⟨w.heap.size + 1, 1, none⟩ (.int .i64 ((p1 : Int) + (q1 : Int))) = w5 at *
  have HDf := Lib.hid (Diff_any HR5.out HQ5.out HPsQs.out.1 (by have := HPsQs.out.2.2.1; have := HPsQs.out.2.2.2.1; omega))
  go_wp2_with fail
  go_fit HDf.out
  rintro e w6 ⟨u6, rfl, hr6⟩
  have HB6 := Lib.hid (HB5.out.trans (hr6.grown.mono HB5.out.size))
  have HU6 := Lib.hid (HU5.out.below hr6.grown)
  have HR6 := Lib.hid hr6.own
  obtain ⟨a6, c6, rfl, _, _⟩ := hr6.slice
  obtain ⟨E, hE⟩ : ∃ E, E = df P Q (un P Q) := ⟨_, rfl⟩
  obtain ⟨n, hn⟩ : ∃ n, n = E.length := ⟨_, rfl⟩
  have hnl : n ≤ 2000 := by
    rw [hn, hE]
    have h1 := df_len P Q (un P Q)
    have h2 := un_len Q P
    have h3 := HPsQs.out.2.2.1
    have h4 := HPsQs.out.2.2.2.1
    omega
  rw [← hE] at HR6 HKy ⊢
  rw [← hn] at HR6 ⊢
  have HN := Lib.hid hn
  clear hr6 hE hn HB5 HU5 HR5 HQ5 HDf
  have H0 : Hid (Us w6 w.heap.size 0 (p1 + q1) (.slice none 0 0) ((E.take 0).map (·.1))) := Lib.hid HU6.out
  go_wp2_with fail
  go_loopw [9, 45] (fun u v wr => ∃ i : Nat, v = .int .i64 i ∧ i ≤ n ∧ Hid (Us wr w.heap.size 0 (p1 + q1) u ((E.take i).map (·.1))) ∧ Hid (Below w.heap.size w wr) ∧ Hid (wr.ownsRow w5.heap.size 67 6 (.slice a6 n c6) n (dvL.all E))) (fun _ v _ => n - (intOf v).toNat)
  case atStart => exact ⟨0, rfl, Nat.zero_le _, H0, HB6, HR6⟩
  case round =>
    obtain ⟨i, rfl, hin, HU, HB, HE⟩ := hrel
    clear H0 HU6 HB6 HR6
    have ei : IntKind.i64.wrap ((i : Int) + 1) = (i : Int) + 1 := IntWalk.i64_in _ (by omega)
    obtain ⟨ua, uc, rfl, _⟩ := row_slice HU.out.own
    by_cases hlt : i < n
    · obtain ⟨⟨k, o1, o2⟩, hx⟩ : ∃ x, E[i]? = some x := ⟨E[i]'(by rw [← HN.out]; exact hlt), List.getElem?_eq_getElem _⟩
      obtain ⟨g2, off2, rfl, hcl, hat⟩ := (Lay.in_own (I := dvL) HE.out HN.out).cells hx
      clear hcl
      obtain ⟨b1, hb1⟩ : ∃ b, b = o1.isSome := ⟨_, rfl⟩
      obtain ⟨y1, hy1⟩ : ∃ y, y = o1.getD e0 := ⟨_, rfl⟩
      obtain ⟨b2, hb2⟩ : ∃ b, b = o2.isSome := ⟨_, rfl⟩
      obtain ⟨y2, hy2⟩ : ∃ y, y = o2.getD e0 := ⟨_, rfl⟩
      have k0 : wr.cell? ⟨g2, off2 + i * 6, none⟩ = some (.int .i64 0) := hat 0 _ rfl
      have k1 : wr.cell? ⟨g2, off2 + i * 6 + 1, none⟩ = some (.string k) := hat 1 _ rfl
      have k2 : wr.cell? ⟨g2, off2 + i * 6 + 2, none⟩ = some (.bool b1) := by rw [hb1]; exact hat 2 _ rfl
      have k3 : wr.cell? ⟨g2, off2 + i * 6 + 3, none⟩ = some (.string y1) := by rw [hy1]; exact hat 3 _ rfl
      have k4 : wr.cell? ⟨g2, off2 + i * 6 + 4, none⟩ = some (.bool b2) := by rw [hb2]; exact hat 4 _ rfl
      have k5 : wr.cell? ⟨g2, off2 + i * 6 + 5, none⟩ = some (.string y2) := by rw [hy2]; exact hat 5 _ rfl
      have hI1 : (i : Int) < (n : Int) := by omega
      have hI2 : (0 : Int) ≤ (i : Int) := by omega
      have HSt : Hid ((E.take (i + 1)).map (·.1) = (E.take i).map (·.1) ++ [k]) := Lib.hid (by rw [List.take_add_one, hx, List.map_append]; rfl)
      have hlen : ((E.take i).map (·.1)).length = i := by rw [List.length_map, List.length_take, ← HN.out]; omega
      have HLi := Lib.hid hlen
      have hba := below_alloc wr (.cells #[.int .i64 0, .string k, .bool b1, .string y1, .bool b2, .string y2] 67)
      have HUa := Lib.hid (HU.out.below hba)
      have HBa := Lib.hid (HB.out.trans (hba.mono HB.out.size))
      have HEa := Lib.hid (row_below HE.out hba)
      have HSz : Hid ((wr.alloc (.cells #[.int .i64 0, .string k, .bool b1, .string y1, .bool b2, .string y2] 67)).heap.size = wr.heap.size + 1) := Lib.hid (by simp)
      have HOa := Lib.hid (show (wr.alloc (.cells #[.int .i64 0, .string k, .bool b1, .string y1, .bool b2, .string y2] 67)).ownsRow (w.heap.size + 2) 9 1 (.slice ua i uc) i (strL.all ((E.take i).map (·.1))) from by have h := HUa.out.own; rw [hlen] at h; exact h)
      have Hl2 : Hid (i + 1 ≤ 1073741825) := Lib.hid (by omega)
      have HZ := Lib.hid HUa.out.lt
      rw [hlen] at HU HUa ⊢
      clear hat hx hb1 hy1 hb2 hy2 hlen hba
      go_wp2_with (at_builtin; go_loud (refine wpList_pushI rfl _ _ 49 9 _ 1 16 rfl Try.underlying49 Try.infoString rfl (by decide) (w.heap.size + 2) i _ _ rfl HOa.out #[.string k] rfl (by simp [Value.oneCell']) (by rw [HSz.out]; rfl) Hl2.out (by decide) HZ.out ?_; intro g7 c7 w7 hown7 hg7 hat7 hlt7; have HO7 := Lib.hid hown7; have HG7 := Lib.hid hg7; clear hown7 hg7 hat7 hlt7))
      have HU7 : Hid (Us w7 w.heap.size 0 (p1 + q1) (.slice (some ⟨g7, 0, none⟩) (i + 1) c7) ((E.take (i + 1)).map (·.1))) := Lib.hid (by
        refine HUa.out.grow (n := i + 1) HG7.out ?_ (by rw [HSt.out, List.length_append, HLi.out]; first | done | rfl)
        rw [HSt.out, Lay.all_app, Lay.all_one]; exact HO7.out)
      have HB7 := Lib.hid (HUa.out.low HBa.out HG7.out (Nat.le_refl _))
      have HE7 := Lib.hid (row_past HEa.out HOa.out (by decide) HG7.out)
      exact ⟨⟨i + 1, by push_cast; rfl, by omega, HU7, HB7, HE7⟩, by simp [intOf]; omega⟩
    · obtain rfl : i = n := by omega
      have hfull : E.take i = E := List.take_of_length_le (by rw [HN.out]; exact Nat.le_refl _)
      rw [hfull, HKy.out] at HU ⊢
      have HDn := Lib.hid (HU.out.done HB.out)
      have n0 := HU.out.r0
      have n1 := HU.out.r1
      have m0 := HU.out.t0
      have m1 := HU.out.t1
      have z0 := HU.out.zr 0
      have z1 := HU.out.zr 1
      obtain ⟨K, hK⟩ : ∃ K, K = s.vk 0 (s.mp path A) (s.mp path B) := ⟨_, rfl⟩
      rw [← hK] at HDn ⊢
      have HKe := Lib.hid hK
      obtain ⟨kl, hkl⟩ : ∃ k, k = K.length := ⟨_, rfl⟩
      rw [← hkl] at HDn ⊢
      clear hK hkl hfull
      obtain ⟨pr, hpr⟩ : ∃ x, x = p1 + q1 := ⟨_, rfl⟩
      rw [← hpr] at HDn m1 HVd
      clear hpr
      go_upto_region 13 with fail
      go_region
      all_goals
        obtain ⟨e0, e1, hrw⟩ := HDn.out
        have HRw := Lib.hid hrw
        clear n0 n1 m0 m1 z0 z1 HDn hrw
        generalize ((wr.setCell ⟨w.heap.size, 0, none⟩ (.int .i64 ((0 : Nat) : Int))).setCell ⟨w.heap.size, 1, none⟩ (.int .i64 (pr : Int))).drew = w3 at *
        go_wp2_with fail
        refine bodyPost_ret (v := .tuple #[.slice ua kl uc, .agg #[.int .i64 ((0 : Nat) : Int), .int .i64 (pr : Int)]]) (by simp [results, Try.results58, go_sem, e0, e1]) rfl ?_
        exact ⟨_, by rw [HVd.out.1, HVd.out.2], by rw [← HKe.out]; exact HRw.out⟩

set_option maxRecDepth 100000 in
set_option maxHeartbeats 6400000 in
theorem ul_step {s : Sd} (hs : s.Ok) {n : Nat} (hn4 : n < 4) (HIH0 : UlOk s n): UlOk s (n + 1) := by
  intro w ta tb A B v path hta htb hl hsa hsb hA hB hp hpl
  have HTa := Lib.hid hta
  have HTb := Lib.hid htb
  have HSA := Lib.hid (show Slim A ∧ Slim B ∧ Sorted A ∧ Sorted B from ⟨hsa, hsb, hA, hB⟩)
  have HLn : Hid (A.length ≤ 1000 ∧ B.length ≤ 1000 ∧ A.length + B.length ≤ 1000) := Lib.hid ⟨by omega, by omega, hl⟩
  have HP := Lib.hid hp
  have HS := Lib.hid hs
  have HPl := Lib.hid hpl
  obtain ⟨pa, pc, rfl, _, _⟩ := hp.slice
  obtain ⟨m, hm⟩ : ∃ m, m = path.length := ⟨_, rfl⟩
  rw [← hm] at HP ⊢
  have hm4 : m < 4 := by omega
  have hmb : ((m : Int) == 4) = false := by simp; omega
  have HMm := Lib.hid hm
  obtain ⟨X, hX⟩ : ∃ X, X = s.tr (n + 1) (s.mp path A) := ⟨_, rfl⟩
  obtain ⟨Y, hY⟩ : ∃ Y, Y = s.tr (n + 1) (s.mp path B) := ⟨_, rfl⟩
  have HXY := Lib.hid (show X = s.tr (n + 1) (s.mp path A) ∧ Y = s.tr (n + 1) (s.mp path B) from ⟨hX, hY⟩)
  have HB0 := boxes w
  have HD1 : Hid (∀ V, Below w.heap.size w V → Calls Try.prog 24 #[.pointer (some ⟨ta, 0, none⟩), .slice pa m pc] V fun e w' => e = .returned (.int .u64 X) ∧ Below V.heap.size V w') := Lib.hid fun V hV => by
    have h := dig_any HS.out (n + 1) (by omega) V ta A (.slice pa m pc) path (HTa.out.later hV) (by have := HLn.out.1; omega) HSA.out.1 (HP.out.later hV) HPl.out
    rw [← hX] at h; exact h
  have HD2 : Hid (∀ V, Below w.heap.size w V → Calls Try.prog 24 #[.pointer (some ⟨tb, 0, none⟩), .slice pa m pc] V fun e w' => e = .returned (.int .u64 Y) ∧ Below V.heap.size V w') := Lib.hid fun V hV => by
    have h := dig_any HS.out (n + 1) (by omega) V tb B (.slice pa m pc) path (HTb.out.later hV) (by have := HLn.out.2.1; omega) HSA.out.2.1 (HP.out.later hV) HPl.out
    rw [← hY] at h; exact h
  have HIH := Lib.hid HIH0
  clear HIH0 hta htb hsa hsb hA hB hl hp hs hpl hm hX hY
  go_enter Try.func58, Try.ntmps58
  go_upto_region 2 with fail
  generalize (w.alloc (.cells #[.int .i64 0, .int .i64 0] 51)).alloc (.cells #[.int .i64 0, .int .i64 0] 51) = W at *
  have HC1 := Lib.hid (HD1.out W HB0.out.2)
  go_wp2_with fail
  go_fit HC1.out
  rintro e w1 ⟨rfl, hb1⟩
  have HB1 := Lib.hid (HB0.out.2.trans (hb1.mono HB0.out.2.size))
  have HU1 := Lib.hid (HB0.out.1.below hb1)
  have HC2 := Lib.hid (HD2.out w1 HB1.out)
  clear hb1 HC1 HB0
  go_wp2_with fail
  go_fit HC2.out
  rintro e w2 ⟨rfl, hb2⟩
  have HB2 := Lib.hid (HB1.out.trans (hb2.mono HB1.out.size))
  have HU2 := Lib.hid (HU1.out.below hb2)
  clear hb2 HC2 HB1 HU1
  by_cases hXY : X = Y
  · subst hXY
    have hvs := s.v_same (HXY.out.1.symm.trans HXY.out.2)
    have HV := Lib.hid hvs
    have HDn := Lib.hid (HU2.out.done HB2.out)
    have n0 := HU2.out.r0
    have n1 := HU2.out.r1
    have m0 := HU2.out.t0
    have m1 := HU2.out.t1
    have z0 := HU2.out.zr 0
    have z1 := HU2.out.zr 1
    clear hvs
    go_upto_region 3 with fail
    go_region
    all_goals
      obtain ⟨e0, e1, hrw⟩ := HDn.out
      have HRw := Lib.hid hrw
      clear n0 n1 m0 m1 z0 z1 HDn hrw
      generalize ((w2.setCell ⟨w.heap.size, 0, none⟩ (.int .i64 ((0 : Nat) : Int))).setCell ⟨w.heap.size, 1, none⟩ (.int .i64 ((0 : Nat) : Int))).drew = w3 at *
      go_wp2_with fail
      refine bodyPost_ret (v := .tuple #[.slice none 0 0, .agg #[.int .i64 ((0 : Nat) : Int), .int .i64 ((0 : Nat) : Int)]]) (by simp [results, Try.results58, go_sem, e0, e1]) rfl ?_
      exact ⟨_, by rw [HV.out.2.1, HV.out.2.2], by rw [HV.out.1]; exact HRw.out⟩
  have hXYb : ((X : Int) == (Y : Int)) = false := by simp; omega

  have hne : ¬ s.tr (n + 1) (s.mp path A) = s.tr (n + 1) (s.mp path B) := fun e => hXY (by rw [HXY.out.1, HXY.out.2, e])
  have hmpA : ∀ i : Nat, s.mp (path ++ [(i : Int)]) A = sub n i (s.mp path A) := fun i => mp_app s path A HPl.out
  have hmpB : ∀ i : Nat, s.mp (path ++ [(i : Int)]) B = sub n i (s.mp path B) := fun i => mp_app s path B HPl.out
  have HIHs : Hid (∀ (V : World) (v : Value) (i : Nat), Below w.heap.size w V → intL.In V v (path ++ [(i : Int)]) → Calls Try.prog 58 #[.pointer (some ⟨ta, 0, none⟩), .pointer (some ⟨tb, 0, none⟩), v] V (UlP (s.vk n (sub n i (s.mp path A)) (sub n i (s.mp path B))) (s.vd n (sub n i (s.mp path A)) (sub n i (s.mp path B))) (s.vp n (sub n i (s.mp path A)) (sub n i (s.mp path B))) V)) := Lib.hid fun V v i hV hv => by
    have h := HIH.out V ta tb A B v (path ++ [(i : Int)]) (HTa.out.later hV) (HTb.out.later hV) HLn.out.2.2 HSA.out.1 HSA.out.2.1 HSA.out.2.2.1 HSA.out.2.2.2 hv (by have := HPl.out; simp; omega)
    rw [hmpA, hmpB] at h
    exact h
  obtain ⟨S, hS⟩ : ∃ S, S = s.mp path A := ⟨_, rfl⟩
  obtain ⟨T, hT⟩ : ∃ T, T = s.mp path B := ⟨_, rfl⟩
  rw [← hS, ← hT] at hne HIHs
  have hST : S.length + T.length ≤ 1000 := by
    rw [hS, hT]
    have h1 := mp_len s path A
    have h2 := mp_len s path B
    have h3 := HLn.out.2.2
    omega
  have HVv : Hid (s.vk (n + 1) S T = catTo (fun i => s.vk n (sub n i S) (sub n i T)) 16 ∧ s.vd (n + 1) S T = 16 + sumTo (fun i => s.vd n (sub n i S) (sub n i T)) 16 ∧ s.vp (n + 1) S T = sumTo (fun i => s.vp n (sub n i S) (sub n i T)) 16) := Lib.hid ⟨by rw [Sd.vk, if_neg hne], by rw [Sd.vd, if_neg hne], by rw [Sd.vp, if_neg hne]⟩
  have HSs : ∀ i, (sub n i S).length + (sub n i T).length ≤ 1000 := fun i => by have := sub_len n i S; have := sub_len n i T; omega
  have hq : 16 ^ n ≤ 4096 := by
    have : 16 ^ n ≤ 16 ^ 3 := Nat.pow_le_pow_right (by decide) (by omega)
    simpa using this
  have HBd : Hid (∀ i, i ≤ 16 → sumTo (fun i => s.vd n (sub n i S) (sub n i T)) i ≤ 1000000 ∧ sumTo (fun i => s.vp n (sub n i S) (sub n i T)) i ≤ 100000000 ∧ (catTo (fun i => s.vk n (sub n i S) (sub n i T)) i).length ≤ 100000000) := Lib.hid fun i hi => by
    have h1 := sumTo_le (f := fun i => s.vd n (sub n i S) (sub n i T)) (b := 8192) (fun i => by have := s.vd_le n (sub n i S) (sub n i T); show s.vd n (sub n i S) (sub n i T) ≤ _; omega) i
    have h2 := sumTo_le (f := fun i => s.vp n (sub n i S) (sub n i T)) (b := 4096000) (fun i => by have := s.vp_le 1000 n (sub n i S) (sub n i T) (HSs i); show s.vp n (sub n i S) (sub n i T) ≤ _; have := Nat.mul_le_mul_right 1000 hq; omega) i
    have h3 := catTo_le (f := fun i => s.vk n (sub n i S) (sub n i T)) (b := 4096000) (fun i => by have := s.vk_le 1000 n (sub n i S) (sub n i T) (HSs i); show (s.vk n (sub n i S) (sub n i T)).length ≤ _; have := Nat.mul_le_mul_right 1000 hq; omega) i
    have h4 : i * 8192 ≤ 16 * 8192 := Nat.mul_le_mul_right _ hi
    have h5 : i * 4096000 ≤ 16 * 4096000 := Nat.mul_le_mul_right _ hi
    exact ⟨by omega, by omega, by omega⟩
  have m0 := HU2.out.t0
  have z0 := HU2.out.zt 0
  clear hne hmpA hmpB hST HSs hq HD1 HD2 hXY
  have HST := Lib.hid (show S = s.mp path A ∧ T = s.mp path B from ⟨hS, hT⟩)
  clear hS hT HXY
  go_upto_region 15 with fail
  have HU3 : Hid (Us (w2.setCell ⟨w.heap.size + 1, 0, none⟩ (.int .i64 16)) w.heap.size (16 + sumTo (fun i => s.vd n (sub n i S) (sub n i T)) 0) (sumTo (fun i => s.vp n (sub n i S) (sub n i T)) 0) (.slice none 0 0) (catTo (fun i => s.vk n (sub n i S) (sub n i T)) 0)) := Lib.hid (HU2.out.setd 16)
  have HB3 : Hid (Below w.heap.size w (w2.setCell ⟨w.heap.size + 1, 0, none⟩ (.int .i64 16))) := Lib.hid (HB2.out.setCell (show w.heap.size ≤ w.heap.size + 1 by omega) _)
  clear m0 z0 HU2 HB2
  generalize w2.setCell ⟨w.heap.size + 1, 0, none⟩ (.int .i64 16) = w3 at *
  go_wp2_with fail
  go_loopw [9, 58] (fun u v wr => ∃ i : Nat, v = .int .i64 i ∧ i ≤ 16 ∧ Hid (Us wr w.heap.size (16 + sumTo (fun i => s.vd n (sub n i S) (sub n i T)) i) (sumTo (fun i => s.vp n (sub n i S) (sub n i T)) i) u (catTo (fun i => s.vk n (sub n i S) (sub n i T)) i)) ∧ Hid (Below w.heap.size w wr)) (fun _ v _ => 16 - (intOf v).toNat)
  case atStart => exact ⟨0, rfl, Nat.zero_le _, HU3, HB3⟩
  case round =>
    obtain ⟨i, rfl, hin, HU, HB⟩ := hrel
    clear HU3 HB3
    have ei : IntKind.i64.wrap ((i : Int) + 1) = (i : Int) + 1 := IntWalk.i64_in _ (by omega)
    obtain ⟨ua, uc, rfl, _⟩ := row_slice HU.out.own
    by_cases hlt : i < 16
    · have hltI : (i : Int) < 16 := by omega
      have hba := below_alloc wr (.cells #[] 3)
      have HBa := Lib.hid (HB.out.trans (hba.mono HB.out.size))
      have HIp := Lib.hid (HP.out.later HBa.out)
      have HOwn : Hid ((wr.alloc (.cells #[] 3)).ownsRow wr.heap.size 3 intL.sz (.slice (some ⟨wr.heap.size, 0, none⟩) 0 0) ([] : List Int).length (intL.all [])) := World.ownsRow_made wr #[] 0 (Nat.le_refl _) (by decide) rfl
      have HL1 : Hid (([] : List Int).length + path.length ≤ 1073741825) := by show 0 + path.length ≤ _; have := HMm.out; omega
      have HL2 : Hid (m + 1 ≤ 1073741825) := by show _ ≤ _; omega
      have HSz := Lib.hid hba.size
      have HBb := Lib.hid hba
      obtain ⟨kl, hkl⟩ : ∃ k, k = (catTo (fun i => s.vk n (sub n i S) (sub n i T)) i).length := ⟨_, rfl⟩
      rw [← hkl] at HU ⊢
      have HKl := Lib.hid hkl
      clear hba hkl
      go_wp2_with (first
        | (at_builtin; (refine wpList_catI (I := intL) rfl (.tmp 64) (.tmp 65) 70 3 rfl Try.underlying70 Try.infoInt rfl (by decide) (by decide) HOwn.out HIp.out HL1.out HSz.out rfl rfl ?_; intro v4 w4 hown4 hg4; have HO4 : Hid (w4.ownsRow wr.heap.size 3 1 v4 m (intL.all path)) := (by have h := hown4; rw [List.nil_append, ← HMm.out] at h; exact Lib.hid h); have HG4 := Lib.hid hg4; have HZ4 : Hid (wr.heap.size ≤ w4.heap.size) := Lib.hid (Nat.le_trans HSz.out hg4.size); clear hown4 hg4))
        | (at_builtin; (refine wpList_pushI rfl (.tmp 66) (.tmp 68) 70 3 _ 1 8 rfl Try.underlying70 Try.infoInt rfl (by decide) wr.heap.size m v4 (intL.all path) rfl HO4.out #[.int .i64 i] rfl (by simp [Value.oneCell']) rfl HL2.out (by decide) HZ4.out ?_; intro g5 c5 w5 hown5 hg5 hat5 hlt5; have HO5 := Lib.hid hown5; have HG5 := Lib.hid hg5; clear hown5 hg5 hat5 hlt5)))
      have HB5 : Hid (Below wr.heap.size wr w5) := by
        have h2 : Below wr.heap.size (wr.alloc (.cells #[] 3)) w4 := ⟨HG4.out.os, HG4.out.tape, HG4.out.output, HG4.out.size, fun k hk => HG4.out.block k (Nat.lt_of_lt_of_le hk HSz.out) (fun e => by simp [Value.ownBlock] at e; omega)⟩
        have h3 : Below wr.heap.size w4 w5 := ⟨HG5.out.os, HG5.out.tape, HG5.out.output, HG5.out.size, fun k hk => HG5.out.block k (Nat.lt_of_lt_of_le hk HZ4.out) (fun e => by have := (HO4.out.lt _ e.symm).1; omega)⟩
        exact Lib.hid (HBb.out.trans (h2.trans h3))
      have HI5 : Hid (intL.In w5 (.slice (some ⟨g5, 0, none⟩) (m + 1) c5) (path ++ [(i : Int)])) := Lib.hid (Lay.in_own (I := intL) (by have h := HO5.out; rw [Lay.all_app, Lay.all_one]; exact h) (by rw [List.length_append, HMm.out]; rfl))
      have HBw5 := Lib.hid (HB.out.trans (HB5.out.mono HB.out.size))
      have HU5 := Lib.hid (HU.out.below HB5.out)
      have HCl := Lib.hid (HIHs.out w5 _ i HBw5.out HI5.out)
      have HSt : Hid (catTo (fun i => s.vk n (sub n i S) (sub n i T)) (i + 1) = catTo (fun i => s.vk n (sub n i S) (sub n i T)) i ++ s.vk n (sub n i S) (sub n i T) ∧ sumTo (fun i => s.vd n (sub n i S) (sub n i T)) (i + 1) = sumTo (fun i => s.vd n (sub n i S) (sub n i T)) i + s.vd n (sub n i S) (sub n i T) ∧ sumTo (fun i => s.vp n (sub n i S) (sub n i T)) (i + 1) = sumTo (fun i => s.vp n (sub n i S) (sub n i T)) i + s.vp n (sub n i S) (sub n i T)) := Lib.hid ⟨rfl, rfl, rfl⟩
      have HBn := Lib.hid (HBd.out (i + 1) (by omega))
      have HBo := Lib.hid (HBd.out i (by omega))
      obtain ⟨x, hx⟩ : ∃ x, x = s.vd n (sub n i S) (sub n i T) := ⟨_, rfl⟩
      obtain ⟨y, hy⟩ : ∃ y, y = s.vp n (sub n i S) (sub n i T) := ⟨_, rfl⟩
      obtain ⟨K, hK⟩ : ∃ K, K = s.vk n (sub n i S) (sub n i T) := ⟨_, rfl⟩
      obtain ⟨dA, hdA⟩ : ∃ d, d = sumTo (fun i => s.vd n (sub n i S) (sub n i T)) i := ⟨_, rfl⟩
      obtain ⟨pA, hpA⟩ : ∃ d, d = sumTo (fun i => s.vp n (sub n i S) (sub n i T)) i := ⟨_, rfl⟩
      obtain ⟨kA, hkA⟩ : ∃ d, d = catTo (fun i => s.vk n (sub n i S) (sub n i T)) i := ⟨_, rfl⟩
      rw [← hx, ← hy, ← hK] at HCl HSt
      rw [← hdA, ← hpA, ← hkA] at HSt HU5 HBo
      rw [← hkA] at HKl
      have hdb : dA ≤ 1000000 := HBo.out.1
      have hpb : pA ≤ 100000000 := HBo.out.2.1
      have hxb : dA + x ≤ 1000000 := by have h := HBn.out.1; rw [HSt.out.2.1] at h; exact h
      have hyb : pA + y ≤ 100000000 := by have h := HBn.out.2.1; rw [HSt.out.2.2] at h; exact h
      have hkb : kA.length + K.length ≤ 100000000 := by have h := HBn.out.2.2; rw [HSt.out.1, List.length_append] at h; exact h
      have HKb := Lib.hid hkb
      clear hx hy hK hdA hpA hkA HBn HBo HO4 HG4 HZ4 HO5 HG5 HB5 HI5 HU HB HIp HOwn HBb hkb
      go_fit HCl.out
      rintro e w6 ⟨u6, rfl, hr6⟩
      obtain ⟨a6, c6, rfl, _, _⟩ := hr6.slice
      have hb6 := below_alloc w6 (.cells #[.int .i64 x, .int .i64 y] 51)
      have HB6 := Lib.hid (hr6.grown.trans (hb6.mono hr6.grown.size))
      have HU6 := Lib.hid (HU5.out.below HB6.out)
      have HBw6 := Lib.hid (HBw5.out.trans (HB6.out.mono HBw5.out.size))
      have HI6 := Lib.hid (hr6.told.later hb6)
      have f0 : (w6.alloc (.cells #[.int .i64 x, .int .i64 y] 51)).cell? ⟨w6.heap.size, 0, none⟩ = some (.int .i64 x) := by go_simp
      have f1 : (w6.alloc (.cells #[.int .i64 x, .int .i64 y] 51)).cell? ⟨w6.heap.size, 1, none⟩ = some (.int .i64 y) := by go_simp
      have HF := Lib.hid (show _ ∧ _ from ⟨f0, f1⟩)
      have HNb : Hid ((Value.slice ua kl uc).ownBlock ≠ some w6.heap.size) := Lib.hid fun e => by have := (HU5.out.own.lt _ e).2; have := hr6.grown.size; omega
      have HNs : Hid (w.heap.size + 2 ≤ w6.heap.size) := Lib.hid (by have := HU5.out.lt; have := hr6.grown.size; omega)
      obtain ⟨k6, hk6⟩ : ∃ k, k = K.length := ⟨_, rfl⟩
      rw [← hk6] at HI6 ⊢
      have HK6 := Lib.hid hk6
      clear hr6 hb6 hk6 HCl HU5 HBw5 HB6 f0 f1
      go_upto_region 19 with fail
      generalize w6.alloc (.cells #[.int .i64 x, .int .i64 y] 51) = w7 at *
      generalize w6.heap.size = bx at *
      have HOu := Lib.hid (show w7.ownsRow (w.heap.size + 2) 9 strL.sz (.slice ua kl uc) kA.length (strL.all kA) from HU6.out.own)
      have HSzu := Lib.hid HU6.out.lt
      have HNo : Hid ((Value.slice ua kl uc).ownBlock ≠ some bx) := Lib.hid HNb.out
      have HLk : Hid (kA.length + K.length ≤ 1073741825) := Lib.hid (by have := HKb.out; omega)
      obtain ⟨d1, hd1⟩ : ∃ d, d = 16 + dA := ⟨_, rfl⟩
      have hd1b : d1 + x ≤ 1000016 := by omega
      rw [← hd1] at HU6
      have HD1e := Lib.hid hd1
      clear hd1 hdb hxb
      have ew1 : IntKind.i64.wrap ((d1 : Int) + (x : Int)) = (d1 : Int) + (x : Int) := IntWalk.i64_in _ (by omega)
      have ew2 : IntKind.i64.wrap ((pA : Int) + (y : Int)) = (pA : Int) + (y : Int) := IntWalk.i64_in _ (by omega)
      obtain ⟨k8, hk8⟩ : ∃ k, k = (kA ++ K).length := ⟨_, rfl⟩
      have HCt := Lib.hid (fun (v8 : Value) (w8 : World) (ho : w8.ownsRow (w.heap.size + 2) 9 strL.sz v8 (kA ++ K).length (strL.all (kA ++ K))) (hg : w7.grownBy w8 (Value.slice ua kl uc).ownBlock) => HU6.out.cat HBw6.out HF.out HNo.out HNs.out hk8 ho hg (.int .i64 ((d1 : Int) + (x : Int))))
      clear hk8
      go_wp2_with (at_builtin; (refine wpList_catI (I := strL) rfl _ _ 49 9 rfl Try.underlying49 Try.infoString rfl (by decide) (by decide) HOu.out HI6.out HLk.out HSzu.out rfl rfl ?_; intro v8 w8 hown8 hg8; (obtain ⟨a8, c8, rfl, hu8, hl8, t0, t1, q0, q1, f0, f1, v1, v2, v3⟩ := HCt.out v8 w8 hown8 hg8); have HU8 := Lib.hid hu8; have HBw8 := Lib.hid hl8; clear hown8 hg8 hu8 hl8))
      have HU9 : Hid (Us ((w8.setCell ⟨w.heap.size + 1, 0, none⟩ (.int .i64 ((d1 : Int) + (x : Int)))).setCell ⟨w.heap.size + 1, 1, none⟩ (.int .i64 ((pA : Int) + (y : Int)))) w.heap.size (d1 + x) (pA + y) (.slice a8 k8 c8) (kA ++ K)) := Lib.hid ((HU8.out.setd (d1 + x)).setp (pA + y))
      have HB9 : Hid (Below w.heap.size w ((w8.setCell ⟨w.heap.size + 1, 0, none⟩ (.int .i64 ((d1 : Int) + (x : Int)))).setCell ⟨w.heap.size + 1, 1, none⟩ (.int .i64 ((pA : Int) + (y : Int))))) := Lib.hid ((HBw8.out.setCell (show w.heap.size ≤ w.heap.size + 1 by omega) _).setCell (show w.heap.size ≤ w.heap.size + 1 by omega) _)
      have HU10 : Hid (Us ((w8.setCell ⟨w.heap.size + 1, 0, none⟩ (.int .i64 ((d1 : Int) + (x : Int)))).setCell ⟨w.heap.size + 1, 1, none⟩ (.int .i64 ((pA : Int) + (y : Int)))) w.heap.size (16 + sumTo (fun i => s.vd n (sub n i S) (sub n i T)) (i + 1)) (sumTo (fun i => s.vp n (sub n i S) (sub n i T)) (i + 1)) (.slice a8 k8 c8) (catTo (fun i => s.vk n (sub n i S) (sub n i T)) (i + 1))) := Lib.hid (by
        rw [HSt.out.1, HSt.out.2.1, HSt.out.2.2, ← Nat.add_assoc, ← HD1e.out]; exact HU9.out)
      exact ⟨⟨i + 1, by push_cast; rfl, by omega, HU10, HB9⟩, by simp [intOf]; omega⟩
    · obtain rfl : i = 16 := by omega
      have HDn := Lib.hid (HU.out.done HB.out)
      rw [← HVv.out.1, ← HVv.out.2.1, ← HVv.out.2.2, HST.out.1, HST.out.2] at HDn
      have n0 := HU.out.r0
      have n1 := HU.out.r1
      have m0 := HU.out.t0
      have m1 := HU.out.t1
      rw [← HVv.out.2.1, HST.out.1, HST.out.2] at m0
      rw [← HVv.out.2.2, HST.out.1, HST.out.2] at m1
      rw [← HVv.out.1, HST.out.1, HST.out.2]
      have z0 := HU.out.zr 0
      have z1 := HU.out.zr 1
      obtain ⟨K, hK⟩ : ∃ K, K = s.vk (n + 1) (s.mp path A) (s.mp path B) := ⟨_, rfl⟩
      obtain ⟨dg, hdg⟩ : ∃ d, d = s.vd (n + 1) (s.mp path A) (s.mp path B) := ⟨_, rfl⟩
      obtain ⟨pr, hpr⟩ : ∃ d, d = s.vp (n + 1) (s.mp path A) (s.mp path B) := ⟨_, rfl⟩
      rw [← hK, ← hdg, ← hpr] at HDn
      rw [← hdg] at m0
      rw [← hpr] at m1
      rw [← hK]
      have HKe := Lib.hid (show K = s.vk (n + 1) (s.mp path A) (s.mp path B) ∧ dg = s.vd (n + 1) (s.mp path A) (s.mp path B) ∧ pr = s.vp (n + 1) (s.mp path A) (s.mp path B) from ⟨hK, hdg, hpr⟩)
      obtain ⟨kl, hkl⟩ : ∃ k, k = K.length := ⟨_, rfl⟩
      rw [← hkl] at HDn ⊢
      clear hK hkl hdg hpr HU HVv
      go_upto_region 23 with fail
      go_region
      all_goals
        obtain ⟨e0, e1, hrw⟩ := HDn.out
        have HRw := Lib.hid hrw
        clear n0 n1 m0 m1 z0 z1 HDn hrw
        generalize ((wr.setCell ⟨w.heap.size, 0, none⟩ (.int .i64 (dg : Int))).setCell ⟨w.heap.size, 1, none⟩ (.int .i64 (pr : Int))).drew = w3 at *
        go_wp2_with fail
        refine bodyPost_ret (v := .tuple #[.slice ua kl uc, .agg #[.int .i64 (dg : Int), .int .i64 (pr : Int)]]) (by simp [results, Try.results58, go_sem, e0, e1]) rfl ?_
        exact ⟨_, by rw [← HKe.out.2.1, ← HKe.out.2.2], by rw [← HKe.out.1]; exact HRw.out⟩
end Go.Proofs.Ytcbgnmolfdhnfaa
