/-
  Walks: the document's table: where a session stands, what it is asked. (Written by gensess9.py.)
-/
import Derived.Test.YtnfpobbdcjfcoaaB8
namespace Go.Proofs.Ytnfpobbdcjfcoaa
set_option linter.unusedVariables false
set_option linter.unusedSimpArgs false
open Go.RowKit
variable {w : World} {b : Nat} {L : List Nat} {x : Tb}

/-- The document's table in memory: its block is none of some blocks, nor is its list's. -/
structure Rv (w : World) (L : List Nat) (b : Nat) (x : Tb) (v : Value) : Prop where
  cells : DC w b [.int .i64 x.begun, v]
  seb : SeB w (b :: L) v x.seats
  out : b ∉ L
def Rf (w : World) (L : List Nat) (b : Nat) (x : Tb) : Prop := ∃ v, Rv w L b x v
theorem Rv.ext {w w' : World} {L L' : List Nat} {v : Value} (h : Rv w L b x v) (e : Ext w L w' L') : Rv w' L' b x v :=
  ⟨h.cells.keep e.size (e.block b h.cells.lt h.out), h.seb.keep e.size (fun k hk hn => e.block k hk (fun hm => hn (List.mem_cons_of_mem _ hm))) (fun k hk => by
    rcases List.mem_cons.1 hk with rfl | hk
    · exact .inl (by simp)
    · exact (e.new k hk).imp (List.mem_cons_of_mem _) id), fun hm => by
    rcases e.new b hm with h1 | h1
    · exact h.out h1
    · have := h.cells.lt; omega⟩
theorem Rf.ext {w w' : World} {L L' : List Nat} (h : Rf w L b x) (e : Ext w L w' L') : Rf w' L' b x := by obtain ⟨v, h⟩ := h; exact ⟨v, h.ext e⟩
theorem Rf.below {w w' : World} {L : List Nat} (h : Rf w L b x) (hb : Below w.heap.size w w') : Rf w' L b x := h.ext (Ext.of_below hb)
theorem Rv.below {w w' : World} {L : List Nat} {v : Value} (h : Rv w L b x v) (hb : Below w.heap.size w w') : Rv w' L b x v := h.ext (Ext.of_below hb)

set_option maxRecDepth 100000 in
set_option maxHeartbeats 1600000 in
theorem place_any {v : Value} {l : List Se} (k : Int) (hc : w.cell? ⟨b, 1, none⟩ = some v) (h : SeB w [] v l) :
    Calls Try.prog 36 #[.pointer (some ⟨b, 0, none⟩), .int .i64 k] w fun e w' => e = .returned (.int .i64 (plcI l k)) ∧ Below w.heap.size w w' := by
  obtain ⟨a, c, rfl, h1, h2, h⟩ := h
  have HD := Lib.hid h
  clear h
  go_enter Try.func36, Try.ntmps36
  go_wp2_with fail
  go_loopw [12] (fun v wr => ∃ i : Nat, v = .int .i64 i ∧ i ≤ l.length ∧ Hid (Below w.heap.size w wr) ∧ Hid (∀ (j : Nat) (y : Se), j < i → l[j]? = some y → y.id ≠ k))
    (fun v _ => l.length - (intOf v).toNat)
  case atStart => exact ⟨0, rfl, Nat.zero_le _, Below.refl _ _, fun j y hj => by omega⟩
  case round =>
    obtain ⟨i, rfl, hin, HB, HN⟩ := hrel
    by_cases hlt : i < l.length
    · have ei : IntKind.i64.wrap ((i : Int) + 1) = (i : Int) + 1 := IntWalk.i64_in _ (by omega)
      obtain ⟨s, hs⟩ : ∃ s, l[i]? = some s := ⟨l[i], List.getElem?_eq_getElem hlt⟩
      obtain ⟨g, off, rfl, _, _, hat⟩ := HD.out.resolve_left (fun e => by rw [e] at hs; simp at hs)
      obtain ⟨k0, k1, k2, k3⟩ := hat i s hs
      have k0 := cell_later HB.out k0
      have k1 := cell_later HB.out k1
      have k2 := cell_later HB.out k2
      have k3 := cell_later HB.out k3
      have hI1 : (i : Int) < ((l.length : Nat) : Int) := by omega
      have hI2 : (0 : Int) ≤ (i : Int) := by omega
      have HB2 := Lib.hid (HB.out.trans ((below_alloc wr (.cells #[.int .i64 s.id, .int .i64 s.seq, .int .i64 s.err, .int .i64 s.n] 44)).mono HB.out.size))
      have s0 := (DC.alloc wr [.int .i64 s.id, .int .i64 s.seq, .int .i64 s.err, .int .i64 s.n] 44).cells 0 _ rfl
      have HS := Lib.hid hs
      clear hat hs
      by_cases e : s.id = k
      · subst e
        go_wp2_with fail
        go_ret
        exact ⟨by rw [plcI_hit HS.out rfl HN.out]; rfl, HB2.out⟩
      · go_wp2_with fail
        refine ⟨⟨i + 1, by simp, hlt, HB2, fun j y hj hy => ?_⟩, by show l.length - ((i : Int) + 1).toNat < l.length - ((i : Int)).toNat; omega⟩
        by_cases hji : j = i
        · subst hji
          rw [HS.out] at hy
          cases hy
          exact e
        · exact HN.out j y (by omega) hy
    · obtain rfl : i = l.length := by omega
      go_wp2_with fail
      go_ret
      exact ⟨by rw [plcI_miss HN.out]; rfl, HB.out⟩

set_option maxRecDepth 100000 in
set_option maxHeartbeats 3200000 in
theorem RAsk_none {v : Value} (k q : Int) (h : Rv w L b x v) (hp : plc x.seats k = none) : Calls Try.prog 14 #[.pointer (some ⟨b, 0, none⟩), .int .i64 k, .int .i64 q] w (Asked w (ask x.seats k q)) := by
    have HA := Lib.hid (ask_none q hp)
    have HB0 := Lib.hid (below_alloc w (.cells #[.int .i64 0, .int .i64 0] 32))
    have HR := Lib.hid (DC.alloc w [.int .i64 0, .int .i64 0] 32)
    have hv := h.below HB0.out
    have c1 := hv.cells.cells 1 _ rfl
    have hpl := place_any k c1 (hv.seb.sub (fun k hk => by cases hk))
    rw [show plcI x.seats k = -1 from by unfold plcI; rw [hp]] at hpl
    have HV := Lib.hid hv
    have HF := Lib.hid hpl
    clear hpl h hv c1
    go_enter Try.func14, Try.ntmps14
    go_wp2_with fail
    go_fit HF.out
    rintro e w1 ⟨rfl, hb⟩
    have HB1 := Lib.hid (HB0.out.trans (hb.mono HB0.out.size))
    have hr := HR.out.below hb
    have x0 := hr.cells 0 _ rfl
    have x1 := hr.cells 1 _ rfl
    have z0 := hr.fz 0
    have z1 := hr.fz 1
    clear hb hr HF
    go_wp2_with fail
    (try simp only [Exit.inBlock, Exit.then])
    refine bodyPost_ret (v := .tuple #[.agg #[.int .i64 0, .int .i64 0], .bool false, .int .i64 90]) ?_ rfl ?_
    · rw [results_cell_tmp2 rfl]
      go_simp
    · rw [HA.out]
      exact ⟨rfl, (HB1.out.trans (below_put (Nat.le_refl _))).trans (below_put (Nat.le_refl _))⟩

set_option maxRecDepth 100000 in
set_option maxHeartbeats 6400000 in
theorem RAsk_some {v : Value} (k q : Int) (hqw : q ≤ 9223372036854775807) {i : Nat} {s : Se} (h : Rv w L b x v) (hp : plc x.seats k = some i) (hs : x.seats[i]? = some s) (hq : 0 ≤ s.seq ∧ s.seq ≤ 4611686018427387904) : Calls Try.prog 14 #[.pointer (some ⟨b, 0, none⟩), .int .i64 k, .int .i64 q] w (Asked w (ask x.seats k q)) := by
    have HA := Lib.hid (ask_some q hp hs)
    have HB0 := Lib.hid (below_alloc w (.cells #[.int .i64 0, .int .i64 0] 32))
    have HR := Lib.hid (DC.alloc w [.int .i64 0, .int .i64 0] 32)
    have hv := h.below HB0.out
    have c1 := hv.cells.cells 1 _ rfl
    have hpl := place_any k c1 (hv.seb.sub (fun k hk => by cases hk))
    rw [show plcI x.seats k = (i : Int) from by unfold plcI; rw [hp]] at hpl
    have HV := Lib.hid hv
    have HF := Lib.hid hpl
    clear hpl h hv c1
    go_enter Try.func14, Try.ntmps14
    go_wp2_with fail
    go_fit HF.out
    rintro e w1 ⟨rfl, hb⟩
    have HB1 := Lib.hid (HB0.out.trans (hb.mono HB0.out.size))
    have hr := HR.out.below hb
    have x0 := hr.cells 0 _ rfl
    have x1 := hr.cells 1 _ rfl
    have z0 := hr.fz 0
    have z1 := hr.fz 1
    have hv := HV.out.below hb
    have y1 := hv.cells.cells 1 _ rfl
    obtain ⟨a, c, rfl, _, _, hx⟩ := hv.seb
    obtain ⟨g, off, rfl, _, _, hat⟩ := hx.resolve_left (fun e => by rw [e] at hs; simp at hs)
    obtain ⟨k0, k1, k2, k3⟩ := hat i s hs
    have hlen := plc_lt hp
    have hI1 : (i : Int) < ((x.seats.length : Nat) : Int) := by omega
    have hI2 : (0 : Int) ≤ (i : Int) := by omega
    have hI3 : ¬ ((i : Int) < 0) := by omega
    clear hb hr HF hv hat hs hx
    have BP := Lib.hid ((HB1.out.trans (below_put (k := w.heap.size) (o := 0) (x := .int .i64 0) (Nat.le_refl _))).trans (below_put (k := w.heap.size) (o := 1) (x := .int .i64 0) (Nat.le_refl _)))
    have BS := Lib.hid ((HB1.out.trans (below_put (k := w.heap.size) (o := 0) (x := .int .i64 s.err) (Nat.le_refl _))).trans (below_put (k := w.heap.size) (o := 1) (x := .int .i64 s.n) (Nat.le_refl _)))
    by_cases h2 : q < 1
    · have HE : Hid (s.ask q = ⟨0, 0, false, 91⟩) := by show _ = _; unfold Se.ask; rw [if_pos (Or.inr h2)]
      go_wp2_with fail
      (try simp only [Exit.inBlock, Exit.then])
      refine bodyPost_ret (v := .tuple #[.agg #[.int .i64 0, .int .i64 0], .bool false, .int .i64 91]) ?_ rfl ?_
      · rw [results_cell_tmp2 rfl]
        go_simp
      · rw [HA.out, HE.out]
        exact ⟨rfl, BP.out⟩
    · by_cases h1 : q < s.seq
      · have HE : Hid (s.ask q = ⟨0, 0, false, 91⟩) := by show _ = _; unfold Se.ask; rw [if_pos (Or.inl h1)]
        go_wp2_with fail
        (try simp only [Exit.inBlock, Exit.then])
        refine bodyPost_ret (v := .tuple #[.agg #[.int .i64 0, .int .i64 0], .bool false, .int .i64 91]) ?_ rfl ?_
        · rw [results_cell_tmp2 rfl]
          go_simp
        · rw [HA.out, HE.out]
          exact ⟨rfl, BP.out⟩
      · by_cases h3 : q = s.seq
        · have HE : Hid (s.ask q = ⟨s.err, s.n, false, 0⟩) := by show _ = _; unfold Se.ask; rw [if_neg (by omega), if_pos h3]
          subst h3
          go_wp2_with fail
          (try simp only [Exit.inBlock, Exit.then])
          refine bodyPost_ret (v := .tuple #[.agg #[.int .i64 s.err, .int .i64 s.n], .bool false, .int .i64 0]) ?_ rfl ?_
          · rw [results_cell_tmp2 rfl]
            go_simp
          · rw [HA.out, HE.out]
            exact ⟨rfl, BS.out⟩
        · have ew : IntKind.i64.wrap (q - s.seq) = q - s.seq := IntWalk.i64_in _ (by omega)
          by_cases h4 : s.seq + 1 < q
          · have HE : Hid (s.ask q = ⟨0, 0, false, 92⟩) := by show _ = _; unfold Se.ask; rw [if_neg (by omega), if_neg h3, if_pos h4]
            have h5 : 1 < q - s.seq := by omega
            go_wp2_with fail
            (try simp only [Exit.inBlock, Exit.then])
            refine bodyPost_ret (v := .tuple #[.agg #[.int .i64 0, .int .i64 0], .bool false, .int .i64 92]) ?_ rfl ?_
            · rw [results_cell_tmp2 rfl]
              go_simp
            · rw [HA.out, HE.out]
              exact ⟨rfl, BP.out⟩
          · have HE : Hid (s.ask q = ⟨0, 0, true, 0⟩) := by show _ = _; unfold Se.ask; rw [if_neg (by omega), if_neg h3, if_neg h4]
            have h5 : ¬ (1 < q - s.seq) := by omega
            go_wp2_with fail
            (try simp only [Exit.inBlock, Exit.then])
            refine bodyPost_ret (v := .tuple #[.agg #[.int .i64 0, .int .i64 0], .bool true, .int .i64 0]) ?_ rfl ?_
            · rw [results_cell_tmp2 rfl]
              go_simp
            · rw [HA.out, HE.out]
              exact ⟨rfl, BP.out⟩

theorem RAsk_any (k q : Int) (hqw : q ≤ 9223372036854775807) (h : Rf w L b x) (hq : ∀ s ∈ x.seats, 0 ≤ s.seq ∧ s.seq ≤ 4611686018427387904) : Calls Try.prog 14 #[.pointer (some ⟨b, 0, none⟩), .int .i64 k, .int .i64 q] w (Asked w (ask x.seats k q)) := by
  obtain ⟨v, h⟩ := h
  cases hp : plc x.seats k with
  | none => exact RAsk_none k q h hp
  | some i =>
    obtain ⟨s, hs, _⟩ := plc_some hp
    exact RAsk_some k q hqw h hp hs (hq s (List.mem_of_getElem? hs))
end Go.Proofs.Ytnfpobbdcjfcoaa
