/-
  Walks: where a session stands, what it is asked, all sessions. (Written by gensess2.py.)
-/
import Derived.Test.YtdcmefkejgjdeaaB1
namespace Go.Proofs.Ytdcmefkejgjdeaa
set_option linter.unusedVariables false
set_option linter.unusedSimpArgs false
open Go.RowKit
variable {w : World} {B b : Nat} {L : List Nat} {t : Tb}

def fnd (l : List Se) (k : Int) : Int × Int := match plc l k with | some i => ((i : Int), 0) | none => (0, 90)
theorem fnd_some {l : List Se} {k : Int} {i : Nat} (h : plc l k = some i) : fnd l k = ((i : Int), 0) := by unfold fnd; rw [h]
theorem fnd_none {l : List Se} {k : Int} (h : plc l k = none) : fnd l k = (0, 90) := by unfold fnd; rw [h]
theorem below_put {w : World} {B k o : Nat} {x : Value} (hk : B ≤ k) : Below B w (w.setCell ⟨k, o, none⟩ x) :=
  ⟨rfl, rfl, rfl, by simp [World.setCell], fun j hj => Below.heap_setCell _ _ _ _ (by simp only; omega)⟩

set_option maxRecDepth 100000 in
set_option maxHeartbeats 1600000 in
theorem find_any (k : Int) (h : Tk w B b L t) : Calls Try.prog 35 #[.pointer (some ⟨b, 0, none⟩), .int .i64 k] w fun e w' => e = .returned (.tuple #[.int .i64 (fnd t.seats k).1, .int .i64 (fnd t.seats k).2]) ∧ Below w.heap.size w w' := by
  obtain ⟨v, h⟩ := h
  have HB := Lib.hid (below_alloc w (.cells #[.int .i64 k] 3))
  have HC := Lib.hid ((DC.alloc w [.int .i64 k] 3).cells 0 _ rfl)
  have HV := Lib.hid (h.below HB.out)
  clear h
  have hd := HV.out.cells
  have c1 := hd.cells 1 _ rfl
  have c2 := hd.cells 2 _ rfl
  obtain ⟨a, c, hv, h1, h2⟩ := HV.out.seb.slice
  subst hv
  have HI := Lib.hid (index_any HV.out.seb HC.out)
  clear hd h1 h2
  cases hp : plc t.seats k with
  | none =>
    have hpi : plcI t.seats k = -1 := by unfold plcI; rw [hp]
    have HF := Lib.hid (fnd_none hp)
    have HI' := HI.out
    rw [hpi] at HI'
    have HI := Lib.hid HI'
    clear HI' hp
    go_enter Try.func35, Try.ntmps35
    go_wp2_with fail
    go_fit (ready_any c2)
    rintro e w1 ⟨rfl, rfl⟩
    go_wp2_with fail
    go_fit HI.out
    rintro e w1 ⟨rfl, hb⟩
    have HB1 := Lib.hid (HB.out.trans (hb.mono HB.out.size))
    clear hb
    go_wp2_with fail
    (try simp only [Exit.inBlock, Exit.then])
    refine bodyPost_ret (v := .tuple #[.int .i64 0, .int .i64 90]) (by simp [results, Try.results35, go_sem]) rfl ?_
    exact ⟨by rw [HF.out], HB1.out⟩
  | some i =>
    have hpi : plcI t.seats k = (i : Int) := by unfold plcI; rw [hp]
    have HF := Lib.hid (fnd_some hp)
    have HI' := HI.out
    rw [hpi] at HI'
    have HI := Lib.hid HI'
    clear HI' hp
    go_enter Try.func35, Try.ntmps35
    go_wp2_with fail
    go_fit (ready_any c2)
    rintro e w1 ⟨rfl, rfl⟩
    go_wp2_with fail
    go_fit HI.out
    rintro e w1 ⟨rfl, hb⟩
    have HB1 := Lib.hid (HB.out.trans (hb.mono HB.out.size))
    clear hb
    have hneg : ¬ ((i : Int) < 0) := by omega
    go_wp2_with fail
    (try simp only [Exit.inBlock, Exit.then])
    refine bodyPost_ret (v := .tuple #[.int .i64 i, .int .i64 0]) (by simp [results, Try.results35, go_sem]) rfl ?_
    exact ⟨by rw [HF.out], HB1.out⟩

/-- What is answered: the reply, whether it is fresh, the error. -/
structure An where
  err : Int
  n : Int
  fresh : Bool
  e : Int
def Se.ask (s : Se) (q : Int) : An := if q < s.seq ∨ q < 1 then ⟨0, 0, false, 91⟩ else if q = s.seq then ⟨s.err, s.n, false, 0⟩ else if s.seq + 1 < q then ⟨0, 0, false, 92⟩ else ⟨0, 0, true, 0⟩
def ask (l : List Se) (k q : Int) : An := match (plc l k).bind (l[·]?) with | none => ⟨0, 0, false, 90⟩ | some s => s.ask q
theorem ask_none {l : List Se} {k : Int} (q : Int) (h : plc l k = none) : ask l k q = ⟨0, 0, false, 90⟩ := by unfold ask; rw [h]; rfl
theorem ask_some {l : List Se} {k : Int} {i : Nat} {s : Se} (q : Int) (h : plc l k = some i) (hs : l[i]? = some s) : ask l k q = s.ask q := by unfold ask; rw [h]; simp [hs]

theorem results_cell_tmp2 {fn : Func} {p u x : Tmp} {ty : TypeId} (h : fn.results = #[.cell p ty, .tmp u, .tmp x]) (tmps : Array Value) (P : Program) (w : World) :
    (results fn tmps).run P w =
      ((asAddr (tmps.getD p undef)).run P w).andThen fun a w₁ => ((loadVar ty a).run P w₁).andThen fun v w₂ => .ok (.tuple #[v, tmps.getD u undef, tmps.getD x undef]) w₂ := by
  simp only [results, h]
  simp [Sem.run_bind, Result.andThen]

def Asked (w : World) (x : An) (e : Ending) (w' : World) : Prop := e = .returned (.tuple #[.agg #[.int .i64 x.err, .int .i64 x.n], .bool x.fresh, .int .i64 x.e]) ∧ Below w.heap.size w w'

set_option maxRecDepth 100000 in
set_option maxHeartbeats 3200000 in
theorem Ask_none (k q : Int) (h : Tk w B b L t) (hp : plc t.seats k = none) : Calls Try.prog 13 #[.pointer (some ⟨b, 0, none⟩), .int .i64 k, .int .i64 q] w (Asked w (ask t.seats k q)) := by
    have HA := Lib.hid (ask_none q hp)
    have HB0 := Lib.hid (below_alloc w (.cells #[.int .i64 0, .int .i64 0] 32))
    have HR := Lib.hid (DC.alloc w [.int .i64 0, .int .i64 0] 32)
    have HV := Lib.hid (h.below HB0.out)
    have HF' := find_any k HV.out
    rw [fnd_none hp] at HF'
    have HF := Lib.hid HF'
    clear HF' h
    go_enter Try.func13, Try.ntmps13
    go_wp2_with fail
    go_fit HF.out
    rintro e w1 ⟨rfl, hb⟩
    have HB1 := Lib.hid (HB0.out.trans (hb.mono HB0.out.size))
    have hr := HR.out.below hb
    have x0 := hr.cells 0 _ rfl
    have x1 := hr.cells 1 _ rfl
    have z0 := hr.fz 0
    have z1 := hr.fz 1
    clear hb hr HF
    go_wp2_with fail
    (try simp only [Exit.inBlock, Exit.then])
    refine bodyPost_ret (v := .tuple #[.agg #[.int .i64 0, .int .i64 0], .bool false, .int .i64 90]) ?_ rfl ?_
    · rw [results_cell_tmp2 rfl]
      go_simp
    · rw [HA.out]
      exact ⟨rfl, (HB1.out.trans (below_put (Nat.le_refl _))).trans (below_put (Nat.le_refl _))⟩

set_option maxRecDepth 100000 in
set_option maxHeartbeats 6400000 in
theorem Ask_some (k q : Int) {i : Nat} {s : Se} (h : Tk w B b L t) (hp : plc t.seats k = some i) (hs : t.seats[i]? = some s) (hq : 0 ≤ s.seq ∧ s.seq ≤ 4611686018427387904) : Calls Try.prog 13 #[.pointer (some ⟨b, 0, none⟩), .int .i64 k, .int .i64 q] w (Asked w (ask t.seats k q)) := by
    have HA := Lib.hid (ask_some q hp hs)
    have HB0 := Lib.hid (below_alloc w (.cells #[.int .i64 0, .int .i64 0] 32))
    have HR := Lib.hid (DC.alloc w [.int .i64 0, .int .i64 0] 32)
    have HV := Lib.hid (h.below HB0.out)
    have HF' := find_any k HV.out
    rw [fnd_some hp] at HF'
    have HF := Lib.hid HF'
    clear HF' h
    go_enter Try.func13, Try.ntmps13
    go_wp2_with fail
    go_fit HF.out
    rintro e w1 ⟨rfl, hb⟩
    have HB1 := Lib.hid (HB0.out.trans (hb.mono HB0.out.size))
    have hr := HR.out.below hb
    have x0 := hr.cells 0 _ rfl
    have x1 := hr.cells 1 _ rfl
    have z0 := hr.fz 0
    have z1 := hr.fz 1
    have hv := HV.out.below hb
    obtain ⟨v, hv⟩ := hv
    have y1 := hv.cells.cells 1 _ rfl
    have hblt := hv.cells.lt
    have HVV := Lib.hid hv
    obtain ⟨a, c, rfl, _, _, hx⟩ := hv.seb
    obtain ⟨g, off, rfl, _, _, hat⟩ := hx.resolve_left (fun e => by rw [e] at hs; simp at hs)
    obtain ⟨k0, k1, k2, k3⟩ := hat i s hs
    have hlen := plc_lt hp
    have hI1 : (i : Int) < ((t.seats.length : Nat) : Int) := by omega
    have hI2 : (0 : Int) ≤ (i : Int) := by omega
    have ew : IntKind.i64.wrap (s.seq + 1) = s.seq + 1 := IntWalk.i64_in _ (by omega)
    have HRW := Lib.hid hr.lt
    clear hb hr HF hv hat hs hx
    have HS := Lib.hid (DC.alloc w1 [.int .i64 s.id, .int .i64 s.seq, .int .i64 s.err, .int .i64 s.n] 44)
    have HB2 := Lib.hid (below_alloc w1 (.cells #[.int .i64 s.id, .int .i64 s.seq, .int .i64 s.err, .int .i64 s.n] 44))
    have HB3 := Lib.hid (HB1.out.trans (HB2.out.mono HB1.out.size))
    have X0 := Lib.hid (cell_later HB2.out x0)
    have X1 := Lib.hid (cell_later HB2.out x1)
    have Z0 := Lib.hid ((HB2.out.frozen (p := ⟨w.heap.size, 0, none⟩) HRW.out).trans z0)
    have Z1 := Lib.hid ((HB2.out.frozen (p := ⟨w.heap.size, 1, none⟩) HRW.out).trans z1)
    have x0 := X0.out
    have x1 := X1.out
    have z0 := Z0.out
    have z1 := Z1.out
    have s1 := HS.out.cells 1 _ rfl
    have s2 := HS.out.cells 2 _ rfl
    have s3 := HS.out.cells 3 _ rfl
    have BP := Lib.hid ((HB3.out.trans (below_put (k := w.heap.size) (o := 0) (x := .int .i64 0) (Nat.le_refl _))).trans (below_put (k := w.heap.size) (o := 1) (x := .int .i64 0) (Nat.le_refl _)))
    have BS := Lib.hid ((HB3.out.trans (below_put (k := w.heap.size) (o := 0) (x := .int .i64 s.err) (Nat.le_refl _))).trans (below_put (k := w.heap.size) (o := 1) (x := .int .i64 s.n) (Nat.le_refl _)))
    by_cases h1 : q < s.seq
    · have HE : Hid (s.ask q = ⟨0, 0, false, 91⟩) := by show _ = _; unfold Se.ask; rw [if_pos (Or.inl h1)]
      go_wp2_with fail
      (try simp only [Exit.inBlock, Exit.then])
      refine bodyPost_ret (v := .tuple #[.agg #[.int .i64 0, .int .i64 0], .bool false, .int .i64 91]) ?_ rfl ?_
      · rw [results_cell_tmp2 rfl]
        go_simp
      · rw [HA.out, HE.out]
        exact ⟨rfl, BP.out⟩
    · by_cases h2 : q < 1
      · have HE : Hid (s.ask q = ⟨0, 0, false, 91⟩) := by show _ = _; unfold Se.ask; rw [if_pos (Or.inr h2)]
        go_wp2_with fail
        (try simp only [Exit.inBlock, Exit.then])
        refine bodyPost_ret (v := .tuple #[.agg #[.int .i64 0, .int .i64 0], .bool false, .int .i64 91]) ?_ rfl ?_
        · rw [results_cell_tmp2 rfl]
          go_simp
        · rw [HA.out, HE.out]
          exact ⟨rfl, BP.out⟩
      · by_cases h3 : q = s.seq
        · have HE : Hid (s.ask q = ⟨s.err, s.n, false, 0⟩) := by show _ = _; unfold Se.ask; rw [if_neg (by omega), if_pos h3]
          subst h3
          go_wp2_with fail
          (try simp only [Exit.inBlock, Exit.then])
          refine bodyPost_ret (v := .tuple #[.agg #[.int .i64 s.err, .int .i64 s.n], .bool false, .int .i64 0]) ?_ rfl ?_
          · rw [results_cell_tmp2 rfl]
            go_simp
          · rw [HA.out, HE.out]
            exact ⟨rfl, BS.out⟩
        · by_cases h4 : s.seq + 1 < q
          · have HE : Hid (s.ask q = ⟨0, 0, false, 92⟩) := by show _ = _; unfold Se.ask; rw [if_neg (by omega), if_neg h3, if_pos h4]
            go_wp2_with fail
            (try simp only [Exit.inBlock, Exit.then])
            refine bodyPost_ret (v := .tuple #[.agg #[.int .i64 0, .int .i64 0], .bool false, .int .i64 92]) ?_ rfl ?_
            · rw [results_cell_tmp2 rfl]
              go_simp
            · rw [HA.out, HE.out]
              exact ⟨rfl, BP.out⟩
          · have HE : Hid (s.ask q = ⟨0, 0, true, 0⟩) := by show _ = _; unfold Se.ask; rw [if_neg (by omega), if_neg h3, if_neg h4]
            go_wp2_with fail
            (try simp only [Exit.inBlock, Exit.then])
            refine bodyPost_ret (v := .tuple #[.agg #[.int .i64 0, .int .i64 0], .bool true, .int .i64 0]) ?_ rfl ?_
            · rw [results_cell_tmp2 rfl]
              go_simp
            · rw [HA.out, HE.out]
              exact ⟨rfl, BP.out⟩

theorem Ask_any (k q : Int) (h : Tk w B b L t) (hq : ∀ s ∈ t.seats, 0 ≤ s.seq ∧ s.seq ≤ 4611686018427387904) : Calls Try.prog 13 #[.pointer (some ⟨b, 0, none⟩), .int .i64 k, .int .i64 q] w (Asked w (ask t.seats k q)) := by
  cases hp : plc t.seats k with
  | none => exact Ask_none k q h hp
  | some i =>
    obtain ⟨s, hs, _⟩ := plc_some hp
    exact Ask_some k q h hp hs (hq s (List.mem_of_getElem? hs))

/-- A list of sessions in a block of its own. -/
def SeOwn (w0 w : World) (v : Value) (l : List Se) : Prop := w.ownsRow w0.heap.size 44 4 v l.length (scs l)
theorem SeOwn.seb {w0 w : World} {v : Value} {l : List Se} (h : SeOwn w0 w v l) (hL : ∀ k ∈ L, k < w0.heap.size) : SeB w L v l := by
  rcases h.2 with ⟨rfl, h0⟩ | ⟨g, c, cur, rfl, hg, hh, hn, hm, _⟩
  · rw [List.eq_nil_of_length_eq_zero h0]; exact SeB.nil _ _
  · have hg2 := (World.ownsRow.lt h g rfl).2
    refine ⟨_, c, rfl, hn, by unfold maxLen at hm; omega, .inr ⟨g, 0, rfl, fun hm => by have := hL g hm; omega, hg2, row_at h⟩⟩
theorem Try.infoSeat : (Try.prog.info? 44).map (fun i => (i.zero, i.size, i.bytes)) = some (some (.agg #[.int .i64 0, .int .i64 0, .int .i64 0, .int .i64 0]), 4, 32) := by kernel_rfl
end Go.Proofs.Ytdcmefkejgjdeaa
