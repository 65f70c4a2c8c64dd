/-
  Where the power goes.
-/
import Derived.Test.YtlfknldgfeicmaaG3
import Derived.StillTailTactics
namespace Go.Proofs.Ytlfknldgfeicmaa
set_option linter.unusedVariables false
set_option linter.unusedSimpArgs false
open Go.RowKit

theorem mem_two {a b n : Nat} (h2 : b < n) (h1 : a < n) : ∀ k ∈ [a, b], k < n := fun k hk => by
  simp at hk
  rcases hk with rfl | rfl
  · exact h1
  · exact h2
/-- A store in a box, while acts are done to it. -/
structure Sb (w : World) (b S : Nat) (s0 s1 tv : Value) (f : Fc) (Lt : List Nat) : Prop where
  cells : DC w S [s0, s1, tv]
  h0 : Byt w ([b, S] ++ Lt) s0 f.s0
  h1 : Byt w ([b, S] ++ Lt) s1 f.s1
  ht : Tp w [b, S] tv f.tp Lt
theorem Sb.below {w w' : World} {b S : Nat} {s0 s1 tv : Value} {f : Fc} {Lt : List Nat} (h : Sb w b S s0 s1 tv f Lt) (hb : Below w.heap.size w w') : Sb w' b S s0 s1 tv f Lt :=
  ⟨h.cells.below hb, h.h0.below hb, h.h1.below hb, h.ht.more hb (fun k hk => .inl hk)⟩
theorem Sb.slices {w : World} {b S : Nat} {s0 s1 tv : Value} {f : Fc} {Lt : List Nat} (h : Sb w b S s0 s1 tv f Lt) : ∃ a0 c0 a1 c1 a c, s0 = .slice a0 f.s0.length c0 ∧ s1 = .slice a1 f.s1.length c1 ∧ tv = .slice a f.tp.length c ∧ f.tp.length ≤ c ∧ c ≤ 9223372036854775807 := by
  obtain ⟨a0, c0, e0, _⟩ := h.h0.slice
  obtain ⟨a1, c1, e1, _⟩ := h.h1.slice
  obtain ⟨a, c, e, h1, h2⟩ := h.ht.slice
  exact ⟨a0, c0, a1, c1, a, c, e0, e1, e, h1, h2⟩
theorem Sb.store {w w' : World} {b S : Nat} {s0 s1 tv s0' s1' tv' : Value} {f g : Fc} {Lt Lt' : List Nat} (h : Sb w b S s0 s1 tv f Lt) (hS : S ∉ Lt) (h0 : Byt w' ([b, S] ++ Lt') s0' g.s0) (h1 : Byt w' ([b, S] ++ Lt') s1' g.s1) (ht : Tp w' [b, S] tv' g.tp Lt') (tl : Tail w w' Lt f.tp.length) :
    Sb (((w'.setCell ⟨S, 0, none⟩ s0').setCell ⟨S, 1, none⟩ s1').setCell ⟨S, 2, none⟩ tv') b S s0' s1' tv' g Lt' :=
  ⟨(((h.cells.tail tl hS).set 0 s0' (by simp)).set 1 s1' (by simp)).set 2 tv' (by simp), ((h0.put (by simp)).put (by simp)).put (by simp), ((h1.put (by simp)).put (by simp)).put (by simp), ((ht.put (by simp)).put (by simp)).put (by simp)⟩

set_option maxRecDepth 100000 in
set_option maxHeartbeats 6400000 in
theorem fall_any {w : World} {B b : Nat} {L : List Nat} {d : Ds} (keep tear : Int) (h : Dk w B b L d) (hn : d.waits.length ≤ 1000000) :
    Calls Try.prog 57 #[.pointer (some ⟨b, 0, none⟩), .int .i64 keep, .int .i64 tear] w (Did' w B b L (d.fall keep tear) (.tuple #[])) := by
  obtain ⟨t0, t1, t2, l0, l1, l2, wt, ps, Lt, Lw, h⟩ := h
  have H := Lib.hid h
  obtain ⟨a0, c0, hv, _, _⟩ := h.e0.slice
  subst hv
  obtain ⟨a1, c1, hv, _, _⟩ := h.e1.slice
  subst hv
  obtain ⟨a2, hv⟩ := h.ea.1
  subst hv
  obtain ⟨aw, cw, hv, hcw1, hcw2⟩ := h.wa.slice
  subst hv
  have hlen : ps.length ≤ 1000000 := by have := hn; rw [h.ws] at this; simpa using this
  have x0 := h.cells.cells 0 _ rfl
  have x5 := h.cells.cells 5 _ rfl
  have x6 := h.cells.cells 6 _ rfl
  have x7 := h.cells.cells 7 _ rfl
  have x8 := h.cells.cells 8 _ rfl
  obtain ⟨k0, hk0⟩ : ∃ n : Nat, (n : Int) = max keep 0 := ⟨keep.toNat, by omega⟩
  obtain ⟨K, hK⟩ : ∃ n : Nat, n = min k0 ps.length := ⟨_, rfl⟩
  have hKn : keepN keep d.waits.length = K := by rw [h.ws]; unfold keepN; simp; omega
  have HKn := Lib.hid hKn
  have HLs := Lib.hid (Ds.last_size d keep tear (fun a ha => by rw [h.ws] at ha; obtain ⟨p, hp, rfl⟩ := List.mem_map.1 ha; exact h.wa.ok p hp) h.pre)
  have hm1 := max_run keep k0 hk0
  have hm2 := min_run (k0 : Int) ps.length K (by omega)
  have hKl : K ≤ ps.length := by omega
  have hKc : K ≤ cw := by omega
  have hblt := h.cells.lt
  have HSB : Hid (Sb (w.alloc (.cells #[.slice a0 d.lasts.s0.length c0, .slice a1 d.lasts.s1.length c1, .slice a2 d.lasts.tp.length d.lasts.tp.length] 67)) b w.heap.size (.slice a0 d.lasts.s0.length c0) (.slice a1 d.lasts.s1.length c1) (.slice a2 d.lasts.tp.length d.lasts.tp.length) d.lasts []) := by
    have hb : Below w.heap.size w (w.alloc (.cells #[.slice a0 d.lasts.s0.length c0, .slice a1 d.lasts.s1.length c1, .slice a2 d.lasts.tp.length d.lasts.tp.length] 67)) := (Below.refl _ _).alloc (Nat.le_refl _) _
    have hbL : b ∈ L := by rw [h.hL]; simp
    have hsub : ∀ k ∈ [b, w.heap.size] ++ [], k ∈ L ∨ w.heap.size ≤ k := fun k hk => by
      simp at hk
      rcases hk with rfl | rfl
      · exact .inl hbL
      · exact .inr (Nat.le_refl _)
    refine ⟨DC.alloc w [.slice a0 d.lasts.s0.length c0, .slice a1 d.lasts.s1.length c1, .slice a2 d.lasts.tp.length d.lasts.tp.length] 67, h.e0.keep hb.size (fun k hk _ => hb.block k hk) hsub, h.e1.keep hb.size (fun k hk _ => hb.block k hk) hsub, .inl ⟨rfl, ?_, a2, rfl⟩⟩
    have hx : Byt w [b] (.slice a2 d.lasts.tp.length d.lasts.tp.length) d.lasts.tp := by
      rcases h.ea.2 with h2 | ⟨g, c, hg, ht2, hl2, hys⟩
      · exact h2.sub (fun k hk => by simp at hk; subst hk; exact hbL)
      · have hgt := h.ta
        rw [hg, ht2] at hgt
        simp only [Value.slice.injEq] at hl2
        obtain ⟨rfl, _⟩ := hl2
        rcases hgt with ⟨h0, _⟩ | ⟨g', c', hg', hgM, hv, hown⟩
        · cases h0
        obtain rfl : g = g' := by simpa using hg'
        have hby := byt_row (L := [b]) hown rfl (fun g' hg' => by simp [Value.ownBlock] at hg'; subst hg'; simp at hgM ⊢; exact hgM.1)
        have hle : d.lasts.tp.length ≤ d.told.tp.length := by have := congrArg List.length hys; simp at this; omega
        have := hby.take d.lasts.tp.length hle
        rwa [← hys] at this
    exact hx.keep hb.size (fun k hk _ => hb.block k hk) (fun k hk => by
      simp at hk
      rcases hk with rfl | rfl
      · exact .inl (by simp)
      · exact .inr (Nat.le_refl _))
  have HAct : Hid (∀ (wr : World), Below w.heap.size w wr → ∀ (i : Nat) (p : Pa), ps[i]? = some p → ∃ g a c, aw = some ⟨g, 0, none⟩ ∧ wr.cell? ⟨g, i * 3, none⟩ = some (.int .i64 p.1.kind) ∧ wr.cell? ⟨g, i * 3 + 1, none⟩ = some (.int .i64 p.1.slot) ∧ wr.cell? ⟨g, i * 3 + 2, none⟩ = some (.slice a p.1.b.length c) ∧ p.2 = .slice a p.1.b.length c ∧ p.1.Ok ∧ ∀ M' : List Nat, (∀ k ∈ M', k = b ∨ w.heap.size ≤ k) → Byt wr M' p.2 p.1.b) := by
    intro wr hb i p hp
    have hm : p ∈ ps := List.mem_of_getElem? hp
    obtain ⟨g, c, hv, e0, e1, e2⟩ := h.wa.cells hp
    simp only [Value.slice.injEq] at hv
    obtain ⟨rfl, _, _⟩ := hv
    obtain ⟨a', c', hp2, _, _⟩ := (h.wa.byt p hm).slice
    have lw : ∀ (q : Addr) (x : Value), w.cell? q = some x → wr.cell? q = some x := fun q x hq => (hb.cell (p := q) (World.block_lt_of_cell? w _ hq)).trans hq
    refine ⟨g, a', c', rfl, lw _ _ e0, lw _ _ e1, by rw [← hp2]; exact lw _ _ e2, hp2, h.wa.ok p hm, fun M' hM' => (h.wa.byt p hm).keep hb.size (fun k hk _ => hb.block k hk) fun k hk => ?_⟩
    rcases hM' k hk with rfl | h2
    · exact .inl (by rw [h.hL]; simp)
    · exact .inr h2
  have HOkA : Hid (∀ a ∈ d.waits, a.Ok) := by
    intro a ha
    rw [h.ws] at ha
    obtain ⟨p, hp, rfl⟩ := List.mem_map.1 ha
    exact h.wa.ok p hp
  have HWs : Hid (d.waits = ps.map (·.1)) := h.ws
  have HFit : Hid (d.lasts.tp.length ≤ 16777216) := by show _ ≤ _; have := h.lasts; have := h.room.2; unfold Fc.size at *; omega
  have HLen := Lib.hid hlen
  clear h hk0 hK hKn hn hlen
  go_enter Try.func57, Try.ntmps57
  go_wp2_with fail
  generalize hW : w.alloc (.cells #[.slice a0 d.lasts.s0.length c0, .slice a1 d.lasts.s1.length c1, .slice a2 d.lasts.tp.length d.lasts.tp.length] 67) = W at *
  have HB0 : Hid (Below w.heap.size w W) := by rw [← hW]; exact (Below.refl _ _).alloc (Nat.le_refl _) _
  have HSW : Hid (W.heap.size = w.heap.size + 1) := by show _ = _; rw [← hW]; simp
  clear hW
  have x8 : W.cell? ⟨b, 8, none⟩ = some (.slice aw ps.length cw) := (HB0.out.cell (p := ⟨b, 8, none⟩) hblt).trans x8
  have x0 : W.cell? ⟨b, 0, none⟩ = some (.int .i64 d.room) := (HB0.out.cell (p := ⟨b, 0, none⟩) hblt).trans x0
  have X8 := Lib.hid x8
  have X0 := Lib.hid x0
  clear x5 x6 x7 x8 x0 hm1 hm2
  have hKL := HLen.out
  go_loopw [28] (fun v wr => ∃ (i : Nat) (s0 s1 tv : Value) (Lt' : List Nat), v = .int .i64 i ∧ i ≤ K ∧ Hid (Sb wr b w.heap.size s0 s1 tv (acts (d.waits.take i) d.lasts) Lt') ∧ Hid (∀ k ∈ Lt', w.heap.size < k) ∧ Hid (Below W.heap.size W wr ∨ Below w.heap.size w wr) ∧ Hid (Below w.heap.size w wr))
    (fun v _ => K - (intOf v).toNat)
  case atStart => exact ⟨0, _, _, _, [], rfl, Nat.zero_le _, HSB.out, (fun k hk => absurd hk (by simp) : ∀ k ∈ ([] : List Nat), w.heap.size < k), .inr HB0.out, HB0.out⟩
  case round =>
    obtain ⟨i, s0, s1, tv, Lt', rfl, hin, hsb, hlt', _, hb⟩ := hrel
    have ei : IntKind.i64.wrap ((i : Int) + 1) = (i : Int) + 1 := IntWalk.i64_in _ (by omega)
    have HTP : Hid ((acts (d.waits.take i) d.lasts).tp.length ≤ 35184372088832) := by
      show _ ≤ _
      have h1 := acts_tp (d.waits.take i) (fun a ha => HOkA.out a (List.mem_of_mem_take ha)) d.lasts
      have h2 := HFit.out
      have h3 : (d.waits.take i).length ≤ 1000000 := by rw [HWs.out]; simp; omega
      omega
    obtain ⟨b0, e0, b1, e1, b2, e2, rfl, rfl, rfl, he2, he3⟩ := hsb.out.slices
    have hS : w.heap.size ∉ Lt' := fun hm => by have := hlt'.out _ hm; omega
    have HS := Lib.hid hS
    clear hS
    by_cases hlt : i < K
    · obtain ⟨p, hp⟩ : ∃ p, ps[i]? = some p := ⟨ps[i]'(by omega), List.getElem?_eq_getElem (by omega)⟩
      obtain ⟨g, pa, pc, rfl, k0, k1, k2, hp2, hok, hbv⟩ := HAct.out wr hb.out i p hp
      have hI1 : (i : Int) < ((K : Nat) : Int) := by omega
      have hI2 : (0 : Int) ≤ (i : Int) := by omega
      have hA : Below wr.heap.size wr (wr.alloc (.cells #[.int .i64 p.1.kind, .int .i64 p.1.slot, .slice pa p.1.b.length pc] 89)) := (Below.refl _ _).alloc (Nat.le_refl _) _
      have HSA := Lib.hid (hsb.out.below hA)
      have HBA := Lib.hid (hb.out.trans (hA.mono hb.out.size))
      have HBV : Hid (Byt (wr.alloc (.cells #[.int .i64 p.1.kind, .int .i64 p.1.slot, .slice pa p.1.b.length pc] 89)) ([b, w.heap.size] ++ Lt') (.slice pa p.1.b.length pc) p.1.b) := by
        have hbv' := hbv ([b, w.heap.size] ++ Lt') fun k hk => by
          simp at hk
          rcases hk with h | h | h
          · exact .inl h
          · exact .inr (by omega)
          · exact .inr (by have := hlt'.out _ h; omega)
        rw [hp2] at hbv'
        exact hbv'.below hA
      have HD := Lib.hid (do_any (M := [b, w.heap.size]) p.1 (acts (d.waits.take i) d.lasts) hok HBV.out HSA.out.h0 HSA.out.h1 HSA.out.ht (fun k hk => by
        simp at hk
        have := HBA.out.size
        have := HSA.out.cells.lt
        rcases hk with rfl | rfl <;> omega) HTP.out)
      have HST : Hid (acts (d.waits.take (i + 1)) d.lasts = p.1.does (acts (d.waits.take i) d.lasts)) := acts_step (by rw [HWs.out, List.getElem?_map, hp]; rfl) _
      have y0 := HSA.out.cells.cells 0 _ rfl
      have y1 := HSA.out.cells.cells 1 _ rfl
      have y2 := HSA.out.cells.cells 2 _ rfl
      clear hp hbv hok hb hsb hA hp2
      go_wp2_with fail
      go_fit HD.out
      rintro e w3 ⟨s0', s1', tv', L2, rfl, g0, g1, gt, tl, hnew, _⟩
      obtain ⟨d0, f0, rfl, _, _⟩ := g0.slice
      obtain ⟨d1, f1, rfl, _, _⟩ := g1.slice
      obtain ⟨d2, f2, rfl, _, _⟩ := gt.slice
      have HSB2 := Lib.hid (HSA.out.store HS.out g0 g1 gt tl)
      have hDC := HSA.out.cells.tail tl HS.out
      have HL2 : Hid (∀ k ∈ L2, w.heap.size < k) := fun k hk => (hnew k hk).elim (hlt'.out k) (fun h => Nat.lt_of_lt_of_le HSA.out.cells.lt h)
      have HB3 := Lib.hid (((HBA.out.trans (tl.below HBA.out.size (fun k hk => Nat.le_of_lt (hlt'.out k hk)))).trans (below_put (k := w.heap.size) (o := 0) (x := .slice d0 (p.1.does (acts (d.waits.take i) d.lasts)).s0.length f0) (Nat.le_refl _))).trans (below_put (k := w.heap.size) (o := 1) (x := .slice d1 (p.1.does (acts (d.waits.take i) d.lasts)).s1.length f1) (Nat.le_refl _)) |>.trans (below_put (k := w.heap.size) (o := 2) (x := .slice d2 (p.1.does (acts (d.waits.take i) d.lasts)).tp.length f2) (Nat.le_refl _)))
      have z0 := hDC.cells 0 _ rfl
      have z1 := hDC.cells 1 _ rfl
      have z2 := hDC.cells 2 _ rfl
      have v0 := hDC.fz 0
      have v1 := hDC.fz 1
      have v2 := hDC.fz 2
      clear g0 g1 gt tl hnew hDC y0 y1 y2 k0 k1 k2 HD
      rw [← HST.out] at HSB2 HB3
      have HST' := HST.out
      rw [← HST'] at *
      clear HST'
      go_wp2_with fail
      exact ⟨⟨i + 1, _, _, _, L2, by simp, hlt, HSB2, HL2, .inr HB3.out, HB3⟩, by show K - ((i : Int) + 1).toNat < K - ((i : Int)).toNat; omega⟩
    · have hiK : i = K := by omega
      have hdc := H.out.cells.below hb.out
      have x8 := hdc.cells 8 _ rfl
      have y0 := hsb.out.cells.cells 0 _ rfl
      have y1 := hsb.out.cells.cells 1 _ rfl
      have y2 := hsb.out.cells.cells 2 _ rfl
      clear hdc
      by_cases hKp : K < ps.length
      · obtain ⟨p, hp⟩ : ∃ p, ps[K]? = some p := ⟨ps[K]'hKp, List.getElem?_eq_getElem hKp⟩
        have HLast : Hid (d.last keep tear = (p.1.torn tear).does (acts (d.waits.take i) d.lasts)) := by
          show _ = _
          unfold Ds.last
          rw [HKn.out, HWs.out, List.getElem?_map, hp, hiK]
          rfl
        subst hiK
        obtain ⟨g, pa, pc, rfl, k0, k1, k2, hp2, hok, hbv⟩ := HAct.out wr hb.out i p hp
        have hKI : (i : Int) < ((ps.length : Nat) : Int) := by omega
        have hI2 : (0 : Int) ≤ (i : Int) := by omega
        have HDr0 : Hid (Below wr.heap.size wr wr.drew) := ⟨rfl, rfl, rfl, Nat.le_refl _, fun _ _ => rfl⟩
        have HSd := Lib.hid (hsb.out.below HDr0.out)
        have HBd := Lib.hid (hb.out.trans (HDr0.out.mono hb.out.size))
        have HBV : Hid (Byt wr.drew ([b, w.heap.size] ++ Lt') (.slice pa p.1.b.length pc) p.1.b) := by
          have hbv' := hbv ([b, w.heap.size] ++ Lt') fun k hk => by
            simp at hk
            rcases hk with h | h | h
            · exact .inl h
            · exact .inr (by omega)
            · exact .inr (by have := hlt'.out _ h; omega)
          rw [hp2] at hbv'
          exact hbv'.below HDr0.out
        have HOk := Lib.hid hok
        have HOk2 := Lib.hid (hok.torn tear)
        clear hp hbv hok hp2 hKp
        go_wp2_with fail
        go_region_with (first
          | (go_at_call 63; refine (torn_any (L := [b, w.heap.size] ++ Lt') p.1 tear HBV.out HOk.out).mono ?_; rintro e w4 ⟨bv', rfl, hbt, hb4⟩; have HBT := Lib.hid hbt; have HS4 := Lib.hid (HSd.out.below hb4); have HB4 := Lib.hid (HBd.out.trans (hb4.mono HBd.out.size)); have y0 := HS4.out.cells.cells 0 _ rfl; have y1 := HS4.out.cells.cells 1 _ rfl; have y2 := HS4.out.cells.cells 2 _ rfl; have HM4 : Hid (∀ k ∈ [b, w.heap.size], k < w4.heap.size) := (mem_two HS4.out.cells.lt (Nat.lt_of_lt_of_le hblt HB4.out.size)); clear hbt hb4)
          | (go_at_call 62; refine (do_any (M := [b, w.heap.size]) (p.1.torn tear) (acts (d.waits.take i) d.lasts) HOk2.out HBT.out HS4.out.h0 HS4.out.h1 HS4.out.ht HM4.out HTP.out).mono ?_; rintro e w5 ⟨s0', s1', tv', L2, rfl, g0, g1, gt, tl, hnew, _⟩; obtain ⟨d0, f0, rfl, _, _⟩ := g0.slice; obtain ⟨d1, f1, rfl, _, _⟩ := g1.slice; obtain ⟨d2, f2, rfl, hg2, hg3⟩ := gt.slice; have HSB5 := Lib.hid (HS4.out.store HS.out g0 g1 gt tl); have hDC := HS4.out.cells.tail tl HS.out; have HBx := Lib.hid (HB4.out.trans (tl.below HB4.out.size (fun k hk => Nat.le_of_lt (hlt'.out k hk)))); have z0 := hDC.cells 0 _ rfl; have z1 := hDC.cells 1 _ rfl; have z2 := hDC.cells 2 _ rfl; have v0 := hDC.fz 0; have v1 := hDC.fz 1; have v2 := hDC.fz 2; clear g0 g1 gt tl hnew hDC))
        all_goals
          have HB5 := Lib.hid (((HBx.out.trans (below_put (k := w.heap.size) (o := 0) (x := .slice d0 ((p.1.torn tear).does (acts (d.waits.take i) d.lasts)).s0.length f0) (Nat.le_refl _))).trans (below_put (k := w.heap.size) (o := 1) (x := .slice d1 ((p.1.torn tear).does (acts (d.waits.take i) d.lasts)).s1.length f1) (Nat.le_refl _))).trans (below_put (k := w.heap.size) (o := 2) (x := .slice d2 ((p.1.torn tear).does (acts (d.waits.take i) d.lasts)).tp.length f2) (Nat.le_refl _)))
          clear z0 z1 z2 v0 v1 v2 y0 y1 y2 k0 k1 k2
          generalize ((w5.setCell ⟨w.heap.size, 0, none⟩ (.slice d0 ((p.1.torn tear).does (acts (d.waits.take i) d.lasts)).s0.length f0)).setCell ⟨w.heap.size, 1, none⟩ (.slice d1 ((p.1.torn tear).does (acts (d.waits.take i) d.lasts)).s1.length f1)).setCell ⟨w.heap.size, 2, none⟩ (.slice d2 ((p.1.torn tear).does (acts (d.waits.take i) d.lasts)).tp.length f2) = W5 at *
          have y0 := HSB5.out.cells.cells 0 _ rfl
          have y1 := HSB5.out.cells.cells 1 _ rfl
          have y2 := HSB5.out.cells.cells 2 _ rfl
          go_wp2_with fail
          go_fit (shut_any _ _ _ _ _ _ _ _ _ hg2 hg3 _)
          rintro e w6 ⟨rfl, hb6⟩
          have HS6 := Lib.hid (HSB5.out.below hb6)
          have HB6 := Lib.hid (HB5.out.trans (hb6.mono HB5.out.size))
          have hbd := H.out.cells.below HB6.out
          have u0 := HS6.out.cells.cells 0 _ rfl
          have u1 := HS6.out.cells.cells 1 _ rfl
          have u2 := HS6.out.cells.cells 2 _ rfl
          have o0 := HS6.out.cells.fz 0
          have o1 := HS6.out.cells.fz 1
          have o2 := HS6.out.cells.fz 2
          have HS7 := Lib.hid (((HS6.out.cells.set 0 (.slice d0 ((p.1.torn tear).does (acts (d.waits.take i) d.lasts)).s0.length f0) (by simp)).set 1 (.slice d1 ((p.1.torn tear).does (acts (d.waits.take i) d.lasts)).s1.length f1) (by simp)).set 2 (.slice d2 ((p.1.torn tear).does (acts (d.waits.take i) d.lasts)).tp.length ((p.1.torn tear).does (acts (d.waits.take i) d.lasts)).tp.length) (by simp))
          have HD7 := Lib.hid (((hbd.other (k := w.heap.size) (o := 0) (x := .slice d0 ((p.1.torn tear).does (acts (d.waits.take i) d.lasts)).s0.length f0) (Nat.ne_of_lt hblt)).other (k := w.heap.size) (o := 1) (x := .slice d1 ((p.1.torn tear).does (acts (d.waits.take i) d.lasts)).s1.length f1) (Nat.ne_of_lt hblt)).other (k := w.heap.size) (o := 2) (x := .slice d2 ((p.1.torn tear).does (acts (d.waits.take i) d.lasts)).tp.length ((p.1.torn tear).does (acts (d.waits.take i) d.lasts)).tp.length) (Nat.ne_of_lt hblt))
          have HB7 := Lib.hid (((HB6.out.trans (below_put (k := w.heap.size) (o := 0) (x := .slice d0 ((p.1.torn tear).does (acts (d.waits.take i) d.lasts)).s0.length f0) (Nat.le_refl _))).trans (below_put (k := w.heap.size) (o := 1) (x := .slice d1 ((p.1.torn tear).does (acts (d.waits.take i) d.lasts)).s1.length f1) (Nat.le_refl _))).trans (below_put (k := w.heap.size) (o := 2) (x := .slice d2 ((p.1.torn tear).does (acts (d.waits.take i) d.lasts)).tp.length ((p.1.torn tear).does (acts (d.waits.take i) d.lasts)).tp.length) (Nat.le_refl _)))
          have hm2 : w.heap.size ∈ [b, w.heap.size] := by simp
          have HY0 := Lib.hid ((((HS6.out.h0.sub (L' := [b, w.heap.size]) (fun k hk => List.mem_append.2 (.inl hk))).put (o := 0) (x := .slice d0 ((p.1.torn tear).does (acts (d.waits.take i) d.lasts)).s0.length f0) hm2).put (o := 1) (x := .slice d1 ((p.1.torn tear).does (acts (d.waits.take i) d.lasts)).s1.length f1) hm2).put (o := 2) (x := .slice d2 ((p.1.torn tear).does (acts (d.waits.take i) d.lasts)).tp.length ((p.1.torn tear).does (acts (d.waits.take i) d.lasts)).tp.length) hm2)
          have HY1 := Lib.hid ((((HS6.out.h1.sub (L' := [b, w.heap.size]) (fun k hk => List.mem_append.2 (.inl hk))).put (o := 0) (x := .slice d0 ((p.1.torn tear).does (acts (d.waits.take i) d.lasts)).s0.length f0) hm2).put (o := 1) (x := .slice d1 ((p.1.torn tear).does (acts (d.waits.take i) d.lasts)).s1.length f1) hm2).put (o := 2) (x := .slice d2 ((p.1.torn tear).does (acts (d.waits.take i) d.lasts)).tp.length ((p.1.torn tear).does (acts (d.waits.take i) d.lasts)).tp.length) hm2)
          have HY2 := Lib.hid (((HS6.out.ht.shut.put (o := 0) (x := .slice d0 ((p.1.torn tear).does (acts (d.waits.take i) d.lasts)).s0.length f0) hm2).put (o := 1) (x := .slice d1 ((p.1.torn tear).does (acts (d.waits.take i) d.lasts)).s1.length f1) hm2).put (o := 2) (x := .slice d2 ((p.1.torn tear).does (acts (d.waits.take i) d.lasts)).tp.length ((p.1.torn tear).does (acts (d.waits.take i) d.lasts)).tp.length) hm2)
          have HEnd : Hid (∀ W, Below w.heap.size w W → Byt W [b, w.heap.size] (.slice d0 ((p.1.torn tear).does (acts (d.waits.take i) d.lasts)).s0.length f0) ((p.1.torn tear).does (acts (d.waits.take i) d.lasts)).s0 → Byt W [b, w.heap.size] (.slice d1 ((p.1.torn tear).does (acts (d.waits.take i) d.lasts)).s1.length f1) ((p.1.torn tear).does (acts (d.waits.take i) d.lasts)).s1 → Byt W [b, w.heap.size] (.slice d2 ((p.1.torn tear).does (acts (d.waits.take i) d.lasts)).tp.length ((p.1.torn tear).does (acts (d.waits.take i) d.lasts)).tp.length) ((p.1.torn tear).does (acts (d.waits.take i) d.lasts)).tp → Did' w B b L (d.fall keep tear) (.tuple #[]) (.returned (.tuple #[])) (W.setCells b 0 (darks d.room (.slice d0 ((p.1.torn tear).does (acts (d.waits.take i) d.lasts)).s0.length f0) (.slice d1 ((p.1.torn tear).does (acts (d.waits.take i) d.lasts)).s1.length f1) (.slice d2 ((p.1.torn tear).does (acts (d.waits.take i) d.lasts)).tp.length ((p.1.torn tear).does (acts (d.waits.take i) d.lasts)).tp.length)))) := by
            intro W hW h0 h1 h2
            have hf := HLs.out
            unfold Ds.fall
            rw [HLast.out] at hf ⊢
            exact dark_end H.out hW (h0.sub (by simp)) (h1.sub (by simp)) (h2.sub (by simp)) hf
          clear hb6 hbd
          go_wp2_with fail
          generalize ((w6.setCell ⟨w.heap.size, 0, none⟩ (.slice d0 ((p.1.torn tear).does (acts (d.waits.take i) d.lasts)).s0.length f0)).setCell ⟨w.heap.size, 1, none⟩ (.slice d1 ((p.1.torn tear).does (acts (d.waits.take i) d.lasts)).s1.length f1)).setCell ⟨w.heap.size, 2, none⟩ (.slice d2 ((p.1.torn tear).does (acts (d.waits.take i) d.lasts)).tp.length ((p.1.torn tear).does (acts (d.waits.take i) d.lasts)).tp.length) = W7 at *
          have HDr : Hid (Below W7.heap.size W7 W7.drew) := ⟨rfl, rfl, rfl, Nat.le_refl _, fun _ _ => rfl⟩
          have m0 := HD7.out.cells 0 _ rfl
          have HTh : Hid (W7.drew.there b 0 (darks d.room (.slice d0 ((p.1.torn tear).does (acts (d.waits.take i) d.lasts)).s0.length f0) (.slice d1 ((p.1.torn tear).does (acts (d.waits.take i) d.lasts)).s1.length f1) (.slice d2 ((p.1.torn tear).does (acts (d.waits.take i) d.lasts)).tp.length ((p.1.torn tear).does (acts (d.waits.take i) d.lasts)).tp.length)).length) := (HD7.out.below HDr.out).there
          have HOne : Hid (∀ v ∈ darks d.room (.slice d0 ((p.1.torn tear).does (acts (d.waits.take i) d.lasts)).s0.length f0) (.slice d1 ((p.1.torn tear).does (acts (d.waits.take i) d.lasts)).s1.length f1) (.slice d2 ((p.1.torn tear).does (acts (d.waits.take i) d.lasts)).tp.length ((p.1.torn tear).does (acts (d.waits.take i) d.lasts)).tp.length), v.oneCell' = true) := by
            intro v hv
            simp only [darks, List.mem_cons, List.not_mem_nil, or_false] at hv
            rcases hv with rfl | rfl | rfl | rfl | rfl | rfl | rfl | rfl | rfl | rfl | rfl | rfl <;> rfl
          have r0 := HS7.out.cells 0 _ rfl
          have r1 := HS7.out.cells 1 _ rfl
          have r2 := HS7.out.cells 2 _ rfl
          clear u0 u1 u2 o0 o1 o2
          have HE1 := Lib.hid (HEnd.out _ (HB7.out.trans (HDr.out.mono HB7.out.size)) (HY0.out.below HDr.out) (HY1.out.below HDr.out) (HY2.out.below HDr.out))
          clear HEnd HB7 HY0 HY1 HY2 HD7 HS7
          go_still_tail 9, (by kernel_rfl)
          change wpList _ _ _ _ _ W7.drew
          refine wpList_store_mid rfl _ _ _ rfl b 0 (darks d.room (.slice d0 ((p.1.torn tear).does (acts (d.waits.take i) d.lasts)).s0.length f0) (.slice d1 ((p.1.torn tear).does (acts (d.waits.take i) d.lasts)).s1.length f1) (.slice d2 ((p.1.torn tear).does (acts (d.waits.take i) d.lasts)).tp.length ((p.1.torn tear).does (acts (d.waits.take i) d.lasts)).tp.length)).toArray rfl rfl HTh.out Try.infoDisk (all_oneCell_toArray HOne.out) ?_
          all_goals
            (try go_wp2_with fail)
            (try simp only [Exit.inBlock, Exit.then])
            refine bodyPost_ret (v := .tuple #[]) (by simp [results, Try.results57, go_sem]) rfl ?_
            exact HE1.out
      · have HLast : Hid (d.last keep tear = acts (d.waits.take i) d.lasts) := by
          show _ = _
          unfold Ds.last
          rw [HKn.out, HWs.out, List.getElem?_eq_none (by simp; omega), hiK]
        subst hiK
        have hKe : i = ps.length := by omega
        have hKI : ¬ (i : Int) < ((ps.length : Nat) : Int) := by omega
        clear hKe
        go_wp2_with fail
        go_fit (shut_any _ _ _ _ _ _ _ _ _ he2 he3 _)
        rintro e w6 ⟨rfl, hb6⟩
        have HS6 := Lib.hid (hsb.out.below hb6)
        have HB6 := Lib.hid (hb.out.trans (hb6.mono hb.out.size))
        have hbd := H.out.cells.below HB6.out
        have u0 := HS6.out.cells.cells 0 _ rfl
        have u1 := HS6.out.cells.cells 1 _ rfl
        have u2 := HS6.out.cells.cells 2 _ rfl
        have o0 := HS6.out.cells.fz 0
        have o1 := HS6.out.cells.fz 1
        have o2 := HS6.out.cells.fz 2
        have HS7 := Lib.hid (((HS6.out.cells.set 0 (.slice b0 (acts (d.waits.take i) d.lasts).s0.length e0) (by simp)).set 1 (.slice b1 (acts (d.waits.take i) d.lasts).s1.length e1) (by simp)).set 2 (.slice b2 (acts (d.waits.take i) d.lasts).tp.length (acts (d.waits.take i) d.lasts).tp.length) (by simp))
        have HD7 := Lib.hid (((hbd.other (k := w.heap.size) (o := 0) (x := .slice b0 (acts (d.waits.take i) d.lasts).s0.length e0) (Nat.ne_of_lt hblt)).other (k := w.heap.size) (o := 1) (x := .slice b1 (acts (d.waits.take i) d.lasts).s1.length e1) (Nat.ne_of_lt hblt)).other (k := w.heap.size) (o := 2) (x := .slice b2 (acts (d.waits.take i) d.lasts).tp.length (acts (d.waits.take i) d.lasts).tp.length) (Nat.ne_of_lt hblt))
        have HB7 := Lib.hid (((HB6.out.trans (below_put (k := w.heap.size) (o := 0) (x := .slice b0 (acts (d.waits.take i) d.lasts).s0.length e0) (Nat.le_refl _))).trans (below_put (k := w.heap.size) (o := 1) (x := .slice b1 (acts (d.waits.take i) d.lasts).s1.length e1) (Nat.le_refl _))).trans (below_put (k := w.heap.size) (o := 2) (x := .slice b2 (acts (d.waits.take i) d.lasts).tp.length (acts (d.waits.take i) d.lasts).tp.length) (Nat.le_refl _)))
        have hm2 : w.heap.size ∈ [b, w.heap.size] := by simp
        have HY0 := Lib.hid ((((HS6.out.h0.sub (L' := [b, w.heap.size]) (fun k hk => List.mem_append.2 (.inl hk))).put (o := 0) (x := .slice b0 (acts (d.waits.take i) d.lasts).s0.length e0) hm2).put (o := 1) (x := .slice b1 (acts (d.waits.take i) d.lasts).s1.length e1) hm2).put (o := 2) (x := .slice b2 (acts (d.waits.take i) d.lasts).tp.length (acts (d.waits.take i) d.lasts).tp.length) hm2)
        have HY1 := Lib.hid ((((HS6.out.h1.sub (L' := [b, w.heap.size]) (fun k hk => List.mem_append.2 (.inl hk))).put (o := 0) (x := .slice b0 (acts (d.waits.take i) d.lasts).s0.length e0) hm2).put (o := 1) (x := .slice b1 (acts (d.waits.take i) d.lasts).s1.length e1) hm2).put (o := 2) (x := .slice b2 (acts (d.waits.take i) d.lasts).tp.length (acts (d.waits.take i) d.lasts).tp.length) hm2)
        have HY2 := Lib.hid (((HS6.out.ht.shut.put (o := 0) (x := .slice b0 (acts (d.waits.take i) d.lasts).s0.length e0) hm2).put (o := 1) (x := .slice b1 (acts (d.waits.take i) d.lasts).s1.length e1) hm2).put (o := 2) (x := .slice b2 (acts (d.waits.take i) d.lasts).tp.length (acts (d.waits.take i) d.lasts).tp.length) hm2)
        have HEnd : Hid (∀ W, Below w.heap.size w W → Byt W [b, w.heap.size] (.slice b0 (acts (d.waits.take i) d.lasts).s0.length e0) (acts (d.waits.take i) d.lasts).s0 → Byt W [b, w.heap.size] (.slice b1 (acts (d.waits.take i) d.lasts).s1.length e1) (acts (d.waits.take i) d.lasts).s1 → Byt W [b, w.heap.size] (.slice b2 (acts (d.waits.take i) d.lasts).tp.length (acts (d.waits.take i) d.lasts).tp.length) (acts (d.waits.take i) d.lasts).tp → Did' w B b L (d.fall keep tear) (.tuple #[]) (.returned (.tuple #[])) (W.setCells b 0 (darks d.room (.slice b0 (acts (d.waits.take i) d.lasts).s0.length e0) (.slice b1 (acts (d.waits.take i) d.lasts).s1.length e1) (.slice b2 (acts (d.waits.take i) d.lasts).tp.length (acts (d.waits.take i) d.lasts).tp.length)))) := by
          intro W hW h0 h1 h2
          have hf := HLs.out
          unfold Ds.fall
          rw [HLast.out] at hf ⊢
          exact dark_end H.out hW (h0.sub (by simp)) (h1.sub (by simp)) (h2.sub (by simp)) hf
        clear hb6 hbd
        go_wp2_with fail
        generalize ((w6.setCell ⟨w.heap.size, 0, none⟩ (.slice b0 (acts (d.waits.take i) d.lasts).s0.length e0)).setCell ⟨w.heap.size, 1, none⟩ (.slice b1 (acts (d.waits.take i) d.lasts).s1.length e1)).setCell ⟨w.heap.size, 2, none⟩ (.slice b2 (acts (d.waits.take i) d.lasts).tp.length (acts (d.waits.take i) d.lasts).tp.length) = W7 at *
        have HDr : Hid (Below W7.heap.size W7 W7.drew) := ⟨rfl, rfl, rfl, Nat.le_refl _, fun _ _ => rfl⟩
        have m0 := HD7.out.cells 0 _ rfl
        have HTh : Hid (W7.drew.there b 0 (darks d.room (.slice b0 (acts (d.waits.take i) d.lasts).s0.length e0) (.slice b1 (acts (d.waits.take i) d.lasts).s1.length e1) (.slice b2 (acts (d.waits.take i) d.lasts).tp.length (acts (d.waits.take i) d.lasts).tp.length)).length) := (HD7.out.below HDr.out).there
        have HOne : Hid (∀ v ∈ darks d.room (.slice b0 (acts (d.waits.take i) d.lasts).s0.length e0) (.slice b1 (acts (d.waits.take i) d.lasts).s1.length e1) (.slice b2 (acts (d.waits.take i) d.lasts).tp.length (acts (d.waits.take i) d.lasts).tp.length), v.oneCell' = true) := by
          intro v hv
          simp only [darks, List.mem_cons, List.not_mem_nil, or_false] at hv
          rcases hv with rfl | rfl | rfl | rfl | rfl | rfl | rfl | rfl | rfl | rfl | rfl | rfl <;> rfl
        have r0 := HS7.out.cells 0 _ rfl
        have r1 := HS7.out.cells 1 _ rfl
        have r2 := HS7.out.cells 2 _ rfl
        clear u0 u1 u2 o0 o1 o2
        have HE1 := Lib.hid (HEnd.out _ (HB7.out.trans (HDr.out.mono HB7.out.size)) (HY0.out.below HDr.out) (HY1.out.below HDr.out) (HY2.out.below HDr.out))
        clear HEnd HB7 HY0 HY1 HY2 HD7 HS7
        go_still_tail 9, (by kernel_rfl)
        change wpList _ _ _ _ _ W7.drew
        refine wpList_store_mid rfl _ _ _ rfl b 0 (darks d.room (.slice b0 (acts (d.waits.take i) d.lasts).s0.length e0) (.slice b1 (acts (d.waits.take i) d.lasts).s1.length e1) (.slice b2 (acts (d.waits.take i) d.lasts).tp.length (acts (d.waits.take i) d.lasts).tp.length)).toArray rfl rfl HTh.out Try.infoDisk (all_oneCell_toArray HOne.out) ?_
        all_goals
          (try go_wp2_with fail)
          (try simp only [Exit.inBlock, Exit.then])
          refine bodyPost_ret (v := .tuple #[]) (by simp [results, Try.results57, go_sem]) rfl ?_
          exact HE1.out
end Go.Proofs.Ytlfknldgfeicmaa
