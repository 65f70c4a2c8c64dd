/-
  Walks: a map takes events; operations are done; a map once more.
-/
import Derived.Test.YtdfjnpnkfjcpcaaK4
namespace Go.Proofs.Ytdfjnpnkfjcpcaa
set_option linter.unusedVariables false
set_option linter.unusedSimpArgs false
open Go.RowKit

theorem grown_of_below {w w' : World} (h : Below w.heap.size w w') (row : Option Nat) : w.grownBy w' row := ⟨h.os, h.tape, h.output, h.size, fun k hk _ => h.block k hk⟩
theorem grown_then {w w1 w2 : World} {b : Nat} (h1 : w.grownBy w1 (some b)) (h2 : w1.grownBy w2 (some b)) : w.grownBy w2 (some b) :=
  ⟨h2.os.trans h1.os, h2.tape.trans h1.tape, h2.output.trans h1.output, Nat.le_trans h1.size h2.size, fun k hk hn => (h2.block k (Nat.lt_of_lt_of_le hk h1.size) hn).trans (h1.block k hk hn)⟩
theorem grown_put {w : World} {b o : Nat} {x : Value} : w.grownBy (w.setCell ⟨b, o, none⟩ x) (some b) := ⟨rfl, rfl, rfl, by simp [World.setCell], fun k _ hne => Below.heap_setCell _ _ _ _ (fun e => hne (by rw [e]))⟩
theorem grown_below1 {w0 w w' : World} {b : Nat} (h : w.grownBy w' (some b)) (h0 : Below w0.heap.size w0 w) (hb : w0.heap.size ≤ b) : Below w0.heap.size w0 w' :=
  h0.trans ⟨h.os, h.tape, h.output, h.size, fun k hk => h.block k (Nat.lt_of_lt_of_le hk h0.size) (fun e => by simp at e; omega)⟩
/-- A list lies in no map's block. -/
def Off (b : Nat) (v : Value) : Prop := ∀ g off n c, v = .slice (some ⟨g, off, none⟩) n c → g ≠ b
theorem In.grown {α : Type} {I : Lay α} {w w' : World} {b : Nat} {v : Value} {l : List α} (h : I.In w v l) (hg : w.grownBy w' (some b)) (ho : Off b v) : I.In w' v l := by
  obtain ⟨a, c, hv, h1, h2, h⟩ := h
  refine ⟨a, c, hv, h1, h2, h.imp id ?_⟩
  rintro ⟨g, off, ha, hlt, h⟩
  exact ⟨g, off, ha, Nat.lt_of_lt_of_le hlt hg.size, h.block (hg.block g hlt (by have := ho g off l.length c (by rw [hv, ha]); simpa using this))⟩
theorem Rw.off {α : Type} {I : Lay α} {E : TypeId} {w0 w : World} {v : Value} {ys : List α} {b : Nat} (h : Rw I E w0 w v ys) (hb : b < w0.heap.size) : Off b v := by
  intro g off n c hv e
  rcases h.own.2 with ⟨h0, _⟩ | ⟨g', cap, cur, h0, hg, _⟩
  · rw [hv] at h0; simp at h0
  · rw [hv] at h0
    simp only [Value.slice.injEq, Option.some.injEq, Addr.mk.injEq] at h0
    have := h0.1.1
    omega
theorem take_put {W w2 : World} {b tb2 : Nat} {M : List Pr} {o : Kev} {t t2 : T} (h : Mp W b M) (htl : t.list = M) (hh : o.has = true) (hb : Below W.heap.size W.drew w2) (P : T.IsPut t (o.key, o.now) t2) (ht2 : Tr w2 w2.heap.size t2 (some ⟨tb2, 0, none⟩)) :
    Mp (w2.setCell ⟨b, 0, none⟩ (.pointer (some ⟨tb2, 0, none⟩))) b (take1 M o) := by
  have hs := h.sorted
  have hl : t2.list = take1 M o := by
    subst htl
    rw [P.list hs]; unfold take1; rw [if_pos hh]
  exact (h.below ((lay_drew (Below.refl _ _)).trans hb)).set ht2 hl P.bal (take1_sorted hs o)
theorem take_drop {W w2 : World} {b tb2 : Nat} {M : List Pr} {o : Kev} {t t2 : T} (h : Mp W b M) (htl : t.list = M) (hh : o.has = false) (hb : Below W.heap.size W.drew w2) (P : T.IsDrop t o.key t2) (ht2 : Tr w2 w2.heap.size t2 (some ⟨tb2, 0, none⟩)) :
    Mp (w2.setCell ⟨b, 0, none⟩ (.pointer (some ⟨tb2, 0, none⟩))) b (take1 M o) := by
  have hs := h.sorted
  have hl : t2.list = take1 M o := by
    subst htl
    unfold take1; rw [if_neg (by rw [hh]; simp)]
    exact sorted_ext P.sorted (wo_sorted hs o.key) fun x => by rw [P.has, wo_look hs]
  exact (h.below ((lay_drew (Below.refl _ _)).trans hb)).set ht2 hl P.bal (take1_sorted hs o)
theorem take_grown {w W w2 : World} {b tb2 : Nat} (hg : w.grownBy W (some b)) (hb : Below W.heap.size W.drew w2) : w.grownBy (w2.setCell ⟨b, 0, none⟩ (.pointer (some ⟨tb2, 0, none⟩))) (some b) :=
  grown_then (grown_then hg (grown_of_below ((lay_drew (Below.refl _ _)).trans hb) _)) grown_put

def TakeP (b : Nat) (L : List Pr) (w : World) (e : Ending) (w' : World) : Prop := e = .returned (.tuple #[]) ∧ Mp w' b L ∧ w.grownBy w' (some b)
set_option maxRecDepth 100000 in
set_option maxHeartbeats 6400000 in
theorem Take_mp {w : World} {b : Nat} {L : List Pr} {v : Value} {es : List Kev} (h : Mp w b L) (he : evL.In w v es) (hoff : Off b v) (hl : es.length ≤ 1000000) (hL : L.length ≤ 1000000) :
    Calls Try.prog 24 #[.pointer (some ⟨b, 0, none⟩), v] w (TakeP b (takes L es) w) := by
  have HMd := Lib.hid (made_mp h)
  have HM := Lib.hid h
  have HD := Lib.hid he
  have HOff := Lib.hid hoff
  have HLL := Lib.hid hL
  obtain ⟨a, c, rfl, hc1, hc2⟩ := he.slice
  clear h he hoff hL
  go_enter Try.func24, Try.ntmps24
  go_wp2_with fail
  go_fit HMd.out
  rintro e w' ⟨rfl, rfl⟩
  go_wp2_with fail
  go_loopw [11] (fun v wr => ∃ i : Nat, v = .int .i64 i ∧ i ≤ es.length ∧ Hid (Mp wr b (takes L (es.take i))) ∧ Hid (w.grownBy wr (some b)))
    (fun v _ => es.length - (intOf v).toNat)
  case atStart => exact ⟨0, rfl, Nat.zero_le _, HM, grown_of_below (Below.refl _ _) _⟩
  case round =>
    obtain ⟨i, rfl, hin, hMp, hgr⟩ := hrel
    have ei : IntKind.i64.wrap ((i : Int) + 1) = (i : Int) + 1 := IntWalk.i64_in _ (by omega)
    by_cases hlt : i < es.length
    · obtain ⟨o, ho⟩ : ∃ o, es[i]? = some o := ⟨es[i], List.getElem?_eq_getElem hlt⟩
      have HI := In.grown HD.out hgr.out HOff.out
      obtain ⟨g, off, rfl, _, hcell⟩ := HI.cells ho
      have c0 : wr.cell? ⟨g, off + i * 6, none⟩ = some (.int .i64 o.pos) := hcell 0 _ rfl
      have c1 : wr.cell? ⟨g, off + i * 6 + 1, none⟩ = some (.string o.key) := hcell 1 _ rfl
      have c2 : wr.cell? ⟨g, off + i * 6 + 2, none⟩ = some (.bool o.had) := hcell 2 _ rfl
      have c3 : wr.cell? ⟨g, off + i * 6 + 3, none⟩ = some (.string o.old) := hcell 3 _ rfl
      have c4 : wr.cell? ⟨g, off + i * 6 + 4, none⟩ = some (.bool o.has) := hcell 4 _ rfl
      have c5 : wr.cell? ⟨g, off + i * 6 + 5, none⟩ = some (.string o.now) := hcell 5 _ rfl
      have hI1 : (i : Int) < ((es.length : Nat) : Int) := by omega
      have hI0 : (0 : Int) ≤ (i : Int) := by omega
      have hA := lay_alloc wr (.cells #[.int .i64 o.pos, .string o.key, .bool o.had, .string o.old, .bool o.has, .string o.now] 32)
      have HA := Lib.hid hA
      have hMA := hMp.out.below hA
      have hst := takes_step L ho
      have hlen := takes_len (es.take i) L
      have htk : (es.take i).length ≤ i := List.length_take_le _ _
      generalize takes L (es.take i) = M at *
      obtain ⟨t, tb, hc, hf, ht, htl, hbal, hso⟩ := hMA.cell
      have HMA := Lib.hid hMA
      have HC1 := Lib.hid (box_cell wr #[.int .i64 o.pos, .string o.key, .bool o.had, .string o.old, .bool o.has, .string o.now] 32 1)
      have HC4 := Lib.hid (box_cell wr #[.int .i64 o.pos, .string o.key, .bool o.had, .string o.old, .bool o.has, .string o.now] 32 4)
      have HC5 := Lib.hid (box_cell wr #[.int .i64 o.pos, .string o.key, .bool o.had, .string o.old, .bool o.has, .string o.now] 32 5)
      have HST := Lib.hid hst
      have hG : Good t 500000000 := good_of htl hbal hso (by have := HLL.out; omega)
      have HGr := Lib.hid (grown_then hgr.out (grown_of_below hA (some b)))
      have HTL := Lib.hid htl
      cases hh : o.has with
      | true =>
        have HP := Lib.hid (Put_any o.key o.now ht.drew hG)
        have HH := Lib.hid hh
        rw [hh] at c4 HA HMA HC1 HC4 HC5 HGr HP hc hf
        have HCB := Lib.hid hc
        have HFB := Lib.hid hf
        have hC1 := HC1.out
        have hC4 := HC4.out
        have hC5 := HC5.out
        clear hcell ho hgr hMp hst hlen htk hA hMA ht htl hbal hso hG HI hh hc hf
        go_wp2_with fail
        have q0 := HCB.out
        have f0 := HFB.out
        go_region_with ((go_at_call 58; (with_reducible refine HP.out.mono ?_); rintro e w2 ⟨tb2, t2, rfl, hq, ht2, hb2⟩; have HQ := Lib.hid hq; have HT2 := Lib.hid ht2; have HB2 := Lib.hid hb2; have q2 := lay_later (w := (wr.alloc (.cells #[.int .i64 o.pos, .string o.key, .bool o.had, .string o.old, .bool true, .string o.now] 32)).drew) hb2 HCB.out; have f2 := (hb2.frozen (p := ⟨b, 0, none⟩) HMA.out.lt).trans HFB.out; clear hq ht2 hb2 q0 f0))
        all_goals
          go_wp2_with fail
          refine ⟨⟨i + 1, by simp, hlt, ?_, take_grown HGr.out HB2.out⟩, by show es.length - ((i : Int) + 1).toNat < es.length - ((i : Int)).toNat; omega⟩
          show Mp _ _ _
          rw [HST.out]
          exact take_put HMA.out HTL.out HH.out HB2.out HQ.out HT2.out
      | false =>
        have HP := Lib.hid (Drop_any o.key ht.drew hG)
        have HH := Lib.hid hh
        rw [hh] at c4 HA HMA HC1 HC4 HC5 HGr HP hc hf
        have HCB := Lib.hid hc
        have HFB := Lib.hid hf
        have hC1 := HC1.out
        have hC4 := HC4.out
        have hC5 := HC5.out
        clear hcell ho hgr hMp hst hlen htk hA hMA ht htl hbal hso hG HI hh hc hf
        go_wp2_with fail
        have q0 := HCB.out
        have f0 := HFB.out
        go_region_with ((go_at_call 59; (with_reducible refine HP.out.mono ?_); rintro e w2 ⟨tb2, t2, rfl, hq, ht2, hb2⟩; have HQ := Lib.hid hq; have HT2 := Lib.hid ht2; have HB2 := Lib.hid hb2; have q2 := lay_later (w := (wr.alloc (.cells #[.int .i64 o.pos, .string o.key, .bool o.had, .string o.old, .bool false, .string o.now] 32)).drew) hb2 HCB.out; have f2 := (hb2.frozen (p := ⟨b, 0, none⟩) HMA.out.lt).trans HFB.out; clear hq ht2 hb2 q0 f0))
        all_goals
          go_wp2_with fail
          refine ⟨⟨i + 1, by simp, hlt, ?_, take_grown HGr.out HB2.out⟩, by show es.length - ((i : Int) + 1).toNat < es.length - ((i : Int)).toNat; omega⟩
          show Mp _ _ _
          rw [HST.out]
          exact take_drop HMA.out HTL.out HH.out HB2.out HQ.out HT2.out
    · obtain rfl : i = es.length := by omega
      have HR : Hid (Mp wr b (takes L es)) := by have h := hMp.out; rw [List.take_length] at h; exact h
      go_wp2_with fail
      go_end0
      exact ⟨rfl, HR.out, hgr.out⟩
end Go.Proofs.Ytdfjnpnkfjcpcaa
