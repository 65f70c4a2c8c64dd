/-
  A disk's memory, behind what is stored in it; the fuse.
-/
import Derived.Test.YtlfknldgfeicmaaG4
namespace Go.Proofs.Ytlfknldgfeicmaa
set_option linter.unusedVariables false
set_option linter.unusedSimpArgs false
open Go.RowKit

/-- A disk's memory alone. -/
structure Dm (w : World) (B b : Nat) (L : List Nat) (room : Int) (on : Bool) (told lasts : Fc) (left keep tear : Int) (t0 t1 t2 l0 l1 l2 wt : Value) (ps : List Pa) (Lt Lw : List Nat) : Prop where
  cells : DC w b [.int .i64 room, .bool on, t0, t1, t2, l0, l1, l2, wt, .int .i64 left, .int .i64 keep, .int .i64 tear]
  hL : L = (b :: Lw) ++ Lt
  a0 : Byt w L t0 told.s0
  a1 : Byt w L t1 told.s1
  ta : Tp w (b :: Lw) t2 told.tp Lt
  e0 : Byt w L l0 lasts.s0
  e1 : Byt w L l1 lasts.s1
  ea : Lp w L l2 lasts.tp t2 told.tp Lt
  wa : Wt w L wt ps Lw
  nb : b ∉ Lw
  low : ∀ k ∈ L, B ≤ k
variable {w : World} {B b : Nat} {L : List Nat} {d : Ds} {t0 t1 t2 l0 l1 l2 wt : Value} {ps : List Pa} {Lt Lw : List Nat} {room left keep tear : Int} {on : Bool} {told lasts : Fc}
theorem Dv.mem (h : Dv w B b L d t0 t1 t2 l0 l1 l2 wt ps Lt Lw) : Dm w B b L d.room d.on d.told d.lasts d.left d.keep d.tear t0 t1 t2 l0 l1 l2 wt ps Lt Lw :=
  ⟨h.cells, h.hL, h.a0, h.a1, h.ta, h.e0, h.e1, h.ea, h.wa, h.nb, h.low⟩
theorem Dm.dv (h : Dm w B b L room on told lasts left keep tear t0 t1 t2 l0 l1 l2 wt ps Lt Lw) (hr : 0 < room ∧ room ≤ 16777216) (tw : told = acts (ps.map (·.1)) lasts) (pre : ∀ k, ((acts ((ps.map (·.1)).take k) lasts).size : Int) ≤ room) :
    Dv w B b L ⟨room, on, told, lasts, ps.map (·.1), left, keep, tear⟩ t0 t1 t2 l0 l1 l2 wt ps Lt Lw :=
  ⟨h.cells, h.hL, h.a0, h.a1, h.ta, h.e0, h.e1, h.ea, h.wa, rfl, h.nb, h.low, hr, tw, pre⟩
theorem Wt.hold {w' : World} {L' : List Nat} (h : Wt w L wt ps Lw) (hs : w.heap.size ≤ w'.heap.size) (hk : ∀ k, k < w.heap.size → k ∉ L → w'.heap[k]? = w.heap[k]?) (hl : ∀ k ∈ L', k ∈ L ∨ w.heap.size ≤ k) (hw : ∀ g ∈ Lw, w'.heap[g]? = w.heap[g]?) : Wt w' L' wt ps Lw := by
  refine ⟨?_, h.at_, fun p hp => (h.byt p hp).keep hs hk hl, h.ok⟩
  have ho := h.own
  rcases h.at_ with ⟨_, rfl, rfl⟩ | ⟨g, c, rfl, rfl⟩
  · exact World.ownsRow_nil _ _ _ _
  · refine ⟨ho.1, ?_⟩
    rcases ho.2 with h0 | ⟨g', cap, cur, hv, hb, hg, rest⟩
    · exact .inl h0
    · refine .inr ⟨g', cap, cur, hv, hb, ?_, rest⟩
      simp only [Value.slice.injEq, Option.some.injEq, Addr.mk.injEq] at hv
      rw [← hv.1.1] at hg ⊢
      rw [hw g (by simp)]; exact hg
theorem Lp.hold {w' : World} {L' : List Nat} {v t : Value} {ys xs : List Int} (h : Lp w L v ys t xs Lt) (hs : w.heap.size ≤ w'.heap.size) (hk : ∀ k, k < w.heap.size → k ∉ L → w'.heap[k]? = w.heap[k]?) (hl : ∀ k ∈ L', k ∈ L ∨ w.heap.size ≤ k) : Lp w' L' v ys t xs Lt :=
  ⟨h.1, h.2.imp (fun h => h.keep hs hk hl) id⟩
/-- A cell of the disk's own block is set. -/
theorem Dm.set (h : Dm w B b L room on told lasts left keep tear t0 t1 t2 l0 l1 l2 wt ps Lt Lw) (o : Nat) (x : Value) {room' left' keep' tear' : Int} {on' : Bool}
    (hc : DC (w.setCell ⟨b, o, none⟩ x) b [.int .i64 room', .bool on', t0, t1, t2, l0, l1, l2, wt, .int .i64 left', .int .i64 keep', .int .i64 tear']) : Dm (w.setCell ⟨b, o, none⟩ x) B b L room' on' told lasts left' keep' tear' t0 t1 t2 l0 l1 l2 wt ps Lt Lw := by
  have hbL : b ∈ L := by rw [h.hL]; simp
  have hs : w.heap.size ≤ (w.setCell ⟨b, o, none⟩ x).heap.size := by simp [World.setCell]
  have hk : ∀ k, k ≠ b → (w.setCell ⟨b, o, none⟩ x).heap[k]? = w.heap[k]? := fun k hk => Below.heap_setCell _ _ _ _ hk
  have hk' : ∀ k, k < w.heap.size → k ∉ L → (w.setCell ⟨b, o, none⟩ x).heap[k]? = w.heap[k]? := fun k _ hn => hk k (fun e => hn (by rw [e]; exact hbL))
  exact ⟨hc, h.hL, h.a0.put hbL, h.a1.put hbL, h.ta.put (by simp), h.e0.put hbL, h.e1.put hbL, h.ea.hold hs hk' (fun k hk => .inl hk), h.wa.hold hs hk' (fun k hk => .inl hk) (fun g hg => hk g (fun e => h.nb (by rw [← e]; exact hg))), h.nb, h.low⟩
theorem Ext.put (hbL : b ∈ L) (o : Nat) (x : Value) : Ext w L (w.setCell ⟨b, o, none⟩ x) L :=
  ⟨rfl, rfl, rfl, by simp [World.setCell], fun k _ hn => Below.heap_setCell _ _ _ _ (fun e => hn (by rw [e]; exact hbL)), fun k hk => .inl hk⟩
theorem Dm.below {w' : World} (h : Dm w B b L room on told lasts left keep tear t0 t1 t2 l0 l1 l2 wt ps Lt Lw) (hb : Below w.heap.size w w') : Dm w' B b L room on told lasts left keep tear t0 t1 t2 l0 l1 l2 wt ps Lt Lw := by
  have hk' : ∀ k, k < w.heap.size → k ∉ L → w'.heap[k]? = w.heap[k]? := fun k hk _ => hb.block k hk
  refine ⟨h.cells.below hb, h.hL, h.a0.below hb, h.a1.below hb, h.ta.more hb (fun k hk => .inl hk), h.e0.below hb, h.e1.below hb, h.ea.hold hb.size hk' (fun k hk => .inl hk), h.wa.hold hb.size hk' (fun k hk => .inl hk) (fun g hg => hb.block g ?_), h.nb, h.low⟩
  rcases h.wa.at_ with ⟨rfl, _⟩ | ⟨g', c, rfl, hv⟩
  · cases hg
  · obtain rfl : g = g' := by simpa using hg
    have ho := h.wa.own
    rw [hv] at ho
    exact (ho.lt g rfl).2
theorem Dk.below {w' : World} (h : Dk w B b L d) (hb : Below w.heap.size w w') : Dk w' B b L d := by
  obtain ⟨t0, t1, t2, l0, l1, l2, wt, ps, Lt, Lw, h⟩ := h
  have hm := h.mem.below hb
  have e := hm.dv h.room (by rw [← h.ws]; exact h.tw) (by rw [← h.ws]; exact h.pre)
  rw [← h.ws] at e
  exact ⟨_, _, _, _, _, _, _, _, _, _, e⟩

set_option maxRecDepth 100000 in
set_option maxHeartbeats 3200000 in
theorem burn_any (h : Dk w B b L d) (hn : d.waits.length ≤ 1000000) (hl : 0 ≤ d.left ∧ d.left ≤ 9223372036854775807) :
    Calls Try.prog 56 #[.pointer (some ⟨b, 0, none⟩)] w (Did' w B b L (d.burn).2 (.int .i64 (d.burn).1)) := by
  have HK := Lib.hid h
  obtain ⟨t0, t1, t2, l0, l1, l2, wt, ps, Lt, Lw, h⟩ := h
  have H := Lib.hid h
  have x9 := h.cells.cells 9 _ rfl
  have x10 := h.cells.cells 10 _ rfl
  have x11 := h.cells.cells 11 _ rfl
  have y9 := h.cells.fz 9
  have HN := Lib.hid hn
  have hbL : b ∈ L := by rw [h.hL]; simp
  have HbL := Lib.hid hbL
  clear h hn hbL
  by_cases h0 : d.left = 0
  · have HE : Hid (d.burn = (0, d)) := by show _ = _; unfold Ds.burn; rw [if_pos h0]
    go_enter Try.func56, Try.ntmps56
    go_wp2_with fail
    go_ret
    rw [HE.out]
    exact ⟨L, rfl, HK.out, Ext.refl w L⟩
  · have hmem := H.out.mem.set 9 (.int .i64 (d.left - 1)) (room' := d.room) (left' := d.left - 1) (keep' := d.keep) (tear' := d.tear) (on' := d.on) (by have s := H.out.cells.set 9 (.int .i64 (d.left - 1)) (by simp); simpa using s)
    have hdv := hmem.dv H.out.room (by rw [← H.out.ws]; exact H.out.tw) (by rw [← H.out.ws]; exact H.out.pre)
    rw [← H.out.ws] at hdv
    have HDV : Hid (Dk (w.setCell ⟨b, 9, none⟩ (.int .i64 (d.left - 1))) B b L { d with left := d.left - 1 }) := ⟨_, _, _, _, _, _, _, _, _, _, hdv⟩
    have z9 := hmem.cells.cells 9 _ rfl
    have z10 := hmem.cells.cells 10 _ rfl
    have z11 := hmem.cells.cells 11 _ rfl
    have ei : IntKind.i64.wrap (d.left - 1) = d.left - 1 := IntWalk.i64_in _ (by omega)
    clear hmem hdv
    by_cases h1 : 1 < d.left
    · have HE : Hid (d.burn = (0, { d with left := d.left - 1 })) := by show _ = _; unfold Ds.burn; rw [if_neg h0, if_pos h1]
      have h2 : (0 : Int) < d.left - 1 := by omega
      have h3 : (1 : Int) < d.left := h1
      go_enter Try.func56, Try.ntmps56
      go_wp2_with fail
      go_ret
      rw [HE.out]
      exact ⟨L, rfl, HDV.out, Ext.put HbL.out _ _⟩
    · have HE : Hid (d.burn = (30, d.fall d.keep d.tear)) := by show _ = _; unfold Ds.burn; rw [if_neg h0, if_neg h1]
      have h2 : ¬ (0 : Int) < d.left - 1 := by omega
      have HDr : Hid (Below (w.setCell ⟨b, 9, none⟩ (.int .i64 (d.left - 1))).heap.size (w.setCell ⟨b, 9, none⟩ (.int .i64 (d.left - 1))) (w.setCell ⟨b, 9, none⟩ (.int .i64 (d.left - 1))).drew) := ⟨rfl, rfl, rfl, Nat.le_refl _, fun _ _ => rfl⟩
      have HDD := Lib.hid (HDV.out.below HDr.out)
      go_enter Try.func56, Try.ntmps56
      go_wp2_with fail
      go_region_with (go_at_call 57; refine (fall_any d.keep d.tear HDD.out HN.out).mono ?_; rintro e w1 ⟨L1, rfl, hd, he⟩; have HD1 := Lib.hid hd; have HE1 := Lib.hid he; clear hd he)
      all_goals
        go_wp2_with fail
        go_ret
        rw [HE.out]
        exact ⟨L1, rfl, HD1.out, (Ext.put HbL.out _ _).trans ((Ext.of_below HDr.out).trans HE1.out)⟩
end Go.Proofs.Ytlfknldgfeicmaa
