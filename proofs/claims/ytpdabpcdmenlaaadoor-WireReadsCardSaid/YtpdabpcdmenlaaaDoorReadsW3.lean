/-
  The walk of WireReads.
-/
import Derived.Test.YtpdabpcdmenlaaaDoorStep
import Derived.Deep.RegionHeld3
namespace Go.Proofs.YtpdabpcdmenlaaaDoor
set_option linter.unusedVariables false
set_option linter.unusedSimpArgs false
open Go.RowKit

/-- A slice's clone, and that it is the call's own. -/
def ClonedOwn (w : World) (xs : List Int) (e : Ending) (w' : World) : Prop :=
  (e = .returned (.slice none 0 0) ∧ xs.length = 0 ∧ Below w.heap.size w w') ∨
  ∃ g n c, e = .returned (.slice (some ⟨g, 0, none⟩) n c) ∧ w'.ownsRow w.heap.size 5 1 (.slice (some ⟨g, 0, none⟩) n c) n (xs.map (Value.int .u8)) ∧ xs.length = n ∧ n ≤ c ∧ Below w.heap.size w w'

set_option maxHeartbeats 800000 in
theorem Clone_own (p : Option Addr) (n c : Nat) (xs : List Int) (w : World) (hx : xs.length = n) (hb : Lib.BytesIn w p n xs) (hp : p = none → n = 0 ∧ c = 0) (h1 : n ≤ 140737488355328) :
    Calls Tryd.prog 15 #[.slice p n c] w (ClonedOwn w xs) := by
  have Hx := Lib.hid hx
  have Hb := Lib.hid hb
  have q22 : ∀ (w : World) (a : Option Addr) (n c n' c' : Nat), (binOp .eql 22 (.slice a n c) (.slice none n' c')).run Tryd.prog w = .ok (.bool a.isNone) w := fun w a n c n' c' => Lib.run_eql_slice_nil w _ _ a n c n' c' Tryd.underlying22
  clear hx hb
  cases p with
  | none =>
    obtain ⟨rfl, rfl⟩ := hp rfl
    go_enter Tryd.func15, Tryd.ntmps15
    go_wp2_with fail
    go_ret
    exact .inl ⟨rfl, Hx.out, Below.refl _ _⟩
  | some ad =>
    have hb0 := (Below.refl w.heap.size w).alloc (Nat.le_refl _) (.cells #[] 5)
    have hin0 := later Hb.out hb0
    go_enter Tryd.func15, Tryd.ntmps15
    go_wp2_with (at_builtin; go_loud (refine wpList_push rfl _ _ rfl w.heap.size w.heap.size 0 0 [] rfl (own_lit w.heap.size _ [] rfl (Nat.le_refl _) (by simp)) (some ad) n c xs rfl hin0 Hx.out hp (by omega) (by simp) ?_; intro g1 c1 w1 hown1 hgrow1))
    simp only [Nat.zero_add, List.nil_append] at hown1
    have hc1 : n ≤ c1 := by
      rcases hown1.2 with ⟨h, _⟩ | ⟨_, cap, _, h, _, _, h2, _⟩
      · cases h
      · simp only [Value.slice.injEq] at h; omega
    go_ret
    exact .inr ⟨g1, n, c1, by simp, hown1, Hx.out, hc1, made_grown hb0 hgrow1 (by simp) (Nat.le_refl _)⟩

set_option maxHeartbeats 800000 in
/-- Read: a reader over a copy. -/
theorem Read_at (p : Option Addr) (n c : Nat) (xs : List Int) (w : World) (hx : xs.length = n) (hb : Lib.BytesIn w p n xs) (hp : p = none → n = 0 ∧ c = 0) (hr : ∀ x ∈ xs, 0 ≤ x ∧ x < 256) (hn : n ≤ 140737488355328) :
    Calls Tryd.prog 30 #[.slice p n c] w fun e w' => ∃ rb g cap, e = .returned (.pointer (some ⟨rb, 0, none⟩)) ∧ RS w' rb g n cap xs 0 0 ∧ Below w.heap.size w w' ∧ w.heap.size ≤ rb ∧ w.heap.size ≤ g ∧ rb < w'.heap.size ∧ g < w'.heap.size := by
  have Hc := Lib.hid (own_any p n c xs 0 w hx hb hp (by omega) (by omega))
  have Hx := Lib.hid hx
  have Hr := Lib.hid hr
  clear hx hr
  go_enter Tryd.func30, Tryd.ntmps30
  go_wp2_with fail
  go_fit Hc.out
  rintro e w1 ⟨g1, n1, c1, rfl, hown1, hb1⟩
  obtain rfl : n1 = n := by rw [← owns_len hown1, Hx.out]
  have hat := owns_at hown1
  have hc1 : n1 ≤ c1 := by
    rcases hown1.2 with ⟨h, _⟩ | ⟨_, cap, _, h, _, _, h2, _⟩
    · cases h
    · simp only [Value.slice.injEq] at h; omega
  have Hin := Lib.hid (owns_in hown1)
  clear hown1
  go_wp2_with fail
  go_ret
  refine ⟨w1.heap.size, g1, c1, rfl, ⟨?_, ?_, ?_, ?_, ?_, ?_, later Hin.out ((Below.refl _ _).alloc (Nat.le_refl _) _), Hx.out, hc1, by omega, by omega, Hr.out, by omega⟩, hb1.alloc hb1.size _, hb1.size, hat.1, by simp, by have := hat.2; simp; omega⟩
  all_goals first
    | (rw [World.cell?_alloc_at _ _ _ _ rfl]; rfl)
    | exact World.frozen?_alloc_at _ _ _ _ rfl

set_option maxHeartbeats 800000 in
theorem Reads_far (p q : Option Addr) (n c m d : Nat) (w : World) (hT : TabIn w) (hn : 65536 < n ∨ (n ≤ 65536 ∧ 1000 < m)) :
    Calls Tryd.prog 6 #[.slice p n c, .slice q m d] w (Yes w) := by
  have HT := Lib.hid hT
  clear hT
  rcases hn with hn | ⟨hn, hn2⟩
  all_goals
    go_enter Tryd.func6, Tryd.ntmps6
    go_wp2_with fail
    go_fit (awake_any w HT.out)
    rintro e w1 ⟨rfl, hb1⟩
    go_wp2_with fail
    go_ret
    exact ⟨rfl, hb1⟩

/-- What the walk keeps of the clone: its bytes may be turned. -/
def Turns (w : World) (g n : Nat) : Prop := (∀ t, t < n → ∃ y : Nat, y < 256 ∧ w.cell? ⟨g, t, none⟩ = some (.int .u8 y)) ∧ ∀ t, w.frozen? ⟨g, t, none⟩ = false

theorem XS.kept {w w' : World} {xb n c k : Nat} {p : Option Addr} {xs : List Int} {i : Nat} {err : Int} (h : XS w xb p n c xs i err) (hg : w.grownBy w' (some k)) (hk : k ≠ xb) (hp : ∀ ad, p = some ad → ad.block ≠ k) : XS w' xb p n c xs i err where
  c0 := hg.cell h.c0 (by simpa using Ne.symm hk)
  c1 := hg.cell h.c1 (by simpa using Ne.symm hk)
  c2 := hg.cell h.c2 (by simpa using Ne.symm hk)
  f1 := (World.frozen?_of_block (hg.block _ (World.block_lt_of_cell? w _ h.c1) (by simpa using Ne.symm hk))).trans h.f1
  f2 := (World.frozen?_of_block (hg.block _ (World.block_lt_of_cell? w _ h.c2) (by simpa using Ne.symm hk))).trans h.f2
  inn := in_kept2 hg hp h.inn
  len := h.len
  ncap := h.ncap
  ile := h.ile
  hp := h.hp
  pne := h.pne
  rng := h.rng
  nb := h.nb

theorem RS.kept {w w' : World} {rb g n cap k : Nat} {xs : List Int} {i : Nat} {err : Int} (h : RS w rb g n cap xs i err) (hg : w.grownBy w' (some k)) (hk : k ≠ rb) (hkg : k ≠ g) : RS w' rb g n cap xs i err where
  c0 := hg.cell h.c0 (by simpa using Ne.symm hk)
  c1 := hg.cell h.c1 (by simpa using Ne.symm hk)
  c2 := hg.cell h.c2 (by simpa using Ne.symm hk)
  c3 := hg.cell h.c3 (by simpa using Ne.symm hk)
  f1 := (World.frozen?_of_block (hg.block _ (World.block_lt_of_cell? w _ h.c1) (by simpa using Ne.symm hk))).trans h.f1
  f2 := (World.frozen?_of_block (hg.block _ (World.block_lt_of_cell? w _ h.c2) (by simpa using Ne.symm hk))).trans h.f2
  inn := in_kept hg (by simpa using Ne.symm hkg) h.inn
  len := h.len
  ncap := h.ncap
  ile := h.ile
  gne := h.gne
  rng := h.rng
  nb := h.nb

theorem Turns.set {w : World} {g n : Nat} (h : Turns w g n) (t y : Nat) (ht : t < n) (hy : y < 256) : Turns (w.setCell ⟨g, t, none⟩ (.int .u8 y)) g n := by
  refine ⟨fun s hs => ?_, fun s => (World.frozen?_setCell _ _ _ _).trans (h.2 s)⟩
  by_cases e : s = t
  · subst e
    obtain ⟨z, _, hz⟩ := h.1 s ht
    exact ⟨y, hy, World.cell?_setCell_same _ _ _ hz⟩
  · obtain ⟨z, hz0, hz⟩ := h.1 s hs
    exact ⟨z, hz0, (World.cell?_setCell_other _ _ _ _ (by simp [e])).trans hz⟩

theorem XS.below {w w' : World} {xb n c : Nat} {p : Option Addr} {xs : List Int} {i : Nat} {err : Int} (h : XS w xb p n c xs i err) (hb : Below w.heap.size w w') : XS w' xb p n c xs i err where
  c0 := (hb.cell (World.block_lt_of_cell? w _ h.c0)).trans h.c0
  c1 := (hb.cell (World.block_lt_of_cell? w _ h.c1)).trans h.c1
  c2 := (hb.cell (World.block_lt_of_cell? w _ h.c2)).trans h.c2
  f1 := (hb.frozen (p := ⟨xb, 1, none⟩) (World.block_lt_of_cell? w _ h.c1)).trans h.f1
  f2 := (hb.frozen (p := ⟨xb, 2, none⟩) (World.block_lt_of_cell? w _ h.c2)).trans h.f2
  inn := later h.inn hb
  len := h.len
  ncap := h.ncap
  ile := h.ile
  hp := h.hp
  pne := h.pne
  rng := h.rng
  nb := h.nb

theorem flip_u8 (y : Nat) (hy : y < 256) : ∃ z : Nat, z < 256 ∧ bits .xor .u8 (y : Int) 255 = (z : Int) := by
  have h : ∀ t : Fin 256, bits .xor .u8 (t.val : Int) 255 = ((255 - t.val : Nat) : Int) := by decide +kernel
  exact ⟨255 - y, by omega, h ⟨y, hy⟩⟩

set_option maxRecDepth 100000 in
set_option maxHeartbeats 3200000 in
theorem Reads_near (p q : Option Addr) (n c m d : Nat) (xs : List Int) (w : World) (hT : TabIn w) (hx : xs.length = n) (hb : Lib.BytesIn w p n xs) (hp : p = none → n = 0 ∧ c = 0) (hpb : ∀ ad, p = some ad → ad.block < w.heap.size) (hr : ∀ x ∈ xs, 0 ≤ x ∧ x < 256) (hnc : n ≤ c) (hn : n ≤ 65536) (hm : m ≤ 1000) (lb lo : Nat) (hq : q = some ⟨lb, lo, none⟩) (hlb : lb < w.heap.size)
    (hA : ∀ t, t < m → ∃ x y z : Int, w.cell? ⟨lb, lo + t * 3, none⟩ = some (.int .i64 x) ∧ w.cell? ⟨lb, lo + t * 3 + 1, none⟩ = some (.int .i64 y) ∧ w.cell? ⟨lb, lo + t * 3 + 2, none⟩ = some (.int .i64 z) ∧ -9223372036854775808 ≤ z ∧ z ≤ 9223372036854775807) :
    Calls Tryd.prog 6 #[.slice p n c, .slice q m d] w (Yes w) := by
  subst hq
  have HA := Lib.hid hA
  have HC := Lib.hid (Clone_own p n c xs w hx hb hp (by omega))
  have HT := Lib.hid hT
  have Hx := Lib.hid hx
  have Hb := Lib.hid hb
  have Hr := Lib.hid hr
  clear hT hx hb hr hA
  go_enter Tryd.func6, Tryd.ntmps6
  go_wp2_with fail
  go_fit HC.out
  rintro e w1 (⟨rfl, h0, hb1⟩ | ⟨g1, n1, c1, rfl, hown1, hl1, hnc1, hb1⟩)
  · have hn0 : n = 0 := by have := Hx.out; omega
    subst hn0
    have Hb1 := Lib.hid hb1
    clear hb1
    go_wp2_with fail
    go_fit (Read_at none 0 0 xs w1 h0 (Lib.BytesIn.nil _ _ _) (fun _ => ⟨rfl, rfl⟩) Hr.out (by omega))
    rintro e w2 ⟨rb, g, cap, rfl, hrs2, hb2, hrb, hgb, hrb2, hgb2⟩
    have Hb2' := Hb1.out.trans (hb2.mono Hb1.out.size)
    have hw12 := hb2.size
    have hw01 := Hb1.out.size
    have hw02 := Hb2'.size
    obtain ⟨w3, hw3⟩ : ∃ w3, w3 = w2.alloc (.cells #[.slice p 0 c, .int .i64 0, .int .i64 0] 45) := ⟨_, rfl⟩
    have hb3 : Below w2.heap.size w2 w3 := by rw [hw3]; exact (Below.refl _ _).alloc (Nat.le_refl _) _
    have Hb3 := Lib.hid (Hb2'.trans (hb3.mono hw02))
    have hrs3 := hrs2.below hb3
    have hxs3 : XS w3 w2.heap.size p 0 c xs 0 0 := by
      refine ⟨?_, ?_, ?_, ?_, ?_, later Hb.out Hb3.out, h0, hnc, Nat.zero_le _, fun h => ⟨rfl, (hp h).2⟩, fun ad h => by have := hpb ad h; omega, Hr.out, by omega⟩
      all_goals first
        | (rw [hw3, World.cell?_alloc_at _ _ _ _ rfl]; rfl)
        | (rw [hw3]; exact World.frozen?_alloc_at _ _ _ _ rfl)
    have HX := Lib.hid hxs3
    have HR := Lib.hid hrs3
    have HB := Hb3
    have hxr : rb ≠ w2.heap.size := by omega
    have hgx : w2.heap.size ≠ g := by omega
    have hrw : w.heap.size ≤ rb := by omega
    have hxw : w.heap.size ≤ w2.heap.size := by omega
    generalize hxb : w2.heap.size = xb at *
    clear hrs2 hb2 Hb2' hw12 hw02 hw01 hb3 hrs3 hxs3 hrb hgb hrb2 hgb2 Hb3
    go_wp2_with fail
    rw [← hw3]
    clear hw3 hxb
    refine wp_loop_rounds 1 ?_
    rw [rounds_succ]
    go_wp2_with fail
    go_loopw [42] (fun k wq => ∃ (t i : Nat) (err : Int), k = .int .i64 t ∧ t ≤ m ∧ Hid (XS wq xb p 0 c xs i err) ∧ Hid (RS wq rb g 0 cap xs i err) ∧ Hid (Below w.heap.size w wq)) (fun k _ => m - (intOf k).toNat)
    case atStart => exact ⟨0, 0, 0, rfl, Nat.zero_le _, HX, HR, HB⟩
    case round =>
      obtain ⟨t, i, err, rfl, ht, HX, HR, HB⟩ := hrel
      by_cases hlt2 : t < m
      · obtain ⟨x, y, z, hc0, hc1, hc2, hz0, hz1⟩ := HA.out t hlt2
        have hd0 := (HB.out.cell (p := ⟨lb, lo + t * 3, none⟩) hlb).trans hc0
        have hd1 := (HB.out.cell (p := ⟨lb, lo + t * 3 + 1, none⟩) hlb).trans hc1
        have hd2 := (HB.out.cell (p := ⟨lb, lo + t * 3 + 2, none⟩) hlb).trans hc2
        clear hc0 hc1 hc2
        go_wp2_with fail
        · obtain ⟨v, i', err', hRC, hXC⟩ := step_number xs 0 i err
          have HB1 := Lib.hid (HB.out.alloc HB.out.size (.cells #[.int .i64 x, .int .i64 y, .int .i64 z] 47))
          have ha := (Below.refl wr.heap.size wr).alloc (Nat.le_refl _) (.cells #[.int .i64 x, .int .i64 y, .int .i64 z] 47)
          have HR1 := Lib.hid (HR.out.below ha)
          have HX1 := Lib.hid (HX.out.below ha)
          have HRC := Lib.hid hRC
          have HXC := Lib.hid hXC
          clear hRC hXC ha
          go_fit (HRC.out _ rb g cap HR1.out)
          rintro e wa ⟨rfl, hra, hga⟩
          have HRa := Lib.hid hra
          have HXa := Lib.hid (HX1.out.kept hga hxr (fun ad h => by have := hpb ad h; omega))
          have HBa := Lib.hid (made_grown HB1.out hga HB1.out.size hrw)
          clear hra hga
          go_wp2_with fail
          go_fit (HXC.out _ xb p c HXa.out)
          rintro e wb ⟨rfl, hxa, hgc⟩
          have HXb := Lib.hid hxa
          have HRb := Lib.hid (HRa.out.kept hgc (Ne.symm hxr) hgx)
          have HBb := Lib.hid (made_grown HBa.out hgc HBa.out.size hxw)
          clear hxa hgc
          have e1 : (v == v) = true := beq_self_eq_true _
          have HL : Hid (∀ q, Calls Tryd.prog 41 #[.pointer (some ⟨rb, 0, none⟩)] (wb.drewN q) (fun e w' => e = .returned (.int .i64 ((0 - i' : Nat) : Int)) ∧ ∃ k, w' = (wb.drewN q).drewN k)) := fun q => Left_rs (HRb.out.drewN q)
          have HXL : Hid (∀ q, Calls Tryd.prog 42 #[.pointer (some ⟨xb, 0, none⟩)] (wb.drewN q) (fun e w' => e = .returned (.int .i64 ((0 - i' : Nat) : Int)) ∧ ∃ k, w' = (wb.drewN q).drewN k)) := fun q => XLeft (HXb.out.drewN q)
          have HEr : Hid (∀ q, Calls Tryd.prog 43 #[.pointer (some ⟨rb, 0, none⟩)] (wb.drewN q) fun e w' => e = .returned (.int .i64 err') ∧ wb.drewN q = w') := fun q => Err_rs (HRb.out.drewN q)
          have HE : Hid (∀ q, Calls Tryd.prog 44 #[.pointer (some ⟨rb, 0, none⟩)] (wb.drewN q) (fun e w' => e = .returned (.int .i64 (if err' ≠ 0 then err' else if i' < 0 then 3 else 0)) ∧ ∃ k, w' = (wb.drewN q).drewN k)) := fun q => End_rs (HRb.out.drewN q)
          have HXE : Hid (∀ q, Calls Tryd.prog 45 #[.pointer (some ⟨xb, 0, none⟩)] (wb.drewN q) (fun e w' => e = .returned (.int .i64 (if err' ≠ 0 then err' else if i' < 0 then 3 else 0)) ∧ ∃ k, w' = (wb.drewN q).drewN k)) := fun q => XEnd (HXb.out.drewN q)
          generalize (0 - i') = L at *
          generalize (if err' ≠ 0 then err' else if i' < 0 then 3 else 0) = En at *
          have cE := HXb.out.c2
          have e2 : ((L : Int) == (L : Int)) = true := beq_self_eq_true _
          have e3 : (err' == err') = true := beq_self_eq_true _
          have e4 : (En == En) = true := beq_self_eq_true _
          go_wp2_with fail
          go_quiet (first | (go_at_call 41; exact Calls.quiet_of (HL.out _)) | (go_at_call 42; exact Calls.quiet_of (HXL.out _)) | (go_at_call 43; exact quiet_left (HEr.out _)) | (go_at_call 44; exact Calls.quiet_of (HE.out _)) | (go_at_call 45; exact Calls.quiet_of (HXE.out _)))
          go_wp2_with fail
          go_roundw
          case rel => exact ⟨t + 1, i', err', by go_num, by omega, HXb.out.drewN _, HRb.out.drewN _, bdrew HBb.out⟩
          case measure => simp [intOf]; omega
        · obtain ⟨v, i', err', hRC, hXC⟩ := step_within xs 0 i err y z
          have HB1 := Lib.hid (HB.out.alloc HB.out.size (.cells #[.int .i64 x, .int .i64 y, .int .i64 z] 47))
          have ha := (Below.refl wr.heap.size wr).alloc (Nat.le_refl _) (.cells #[.int .i64 x, .int .i64 y, .int .i64 z] 47)
          have HR1 := Lib.hid (HR.out.below ha)
          have HX1 := Lib.hid (HX.out.below ha)
          have HRC := Lib.hid hRC
          have HXC := Lib.hid hXC
          have hkr : wr.heap.size ≠ rb := Nat.ne_of_gt (World.block_lt_of_cell? wr _ HR.out.c0)
          have hkx : wr.heap.size ≠ xb := Nat.ne_of_gt (World.block_lt_of_cell? wr _ HX.out.c0)
          have k1 : (wr.alloc (.cells #[.int .i64 x, .int .i64 y, .int .i64 z] 47)).cell? ⟨wr.heap.size, 1, none⟩ = some (.int .i64 y) := by rw [World.cell?_alloc_at _ _ _ _ rfl]; rfl
          have k2 : (wr.alloc (.cells #[.int .i64 x, .int .i64 y, .int .i64 z] 47)).cell? ⟨wr.heap.size, 2, none⟩ = some (.int .i64 z) := by rw [World.cell?_alloc_at _ _ _ _ rfl]; rfl
          clear hRC hXC ha hd0 hd1 hd2 hz0 hz1
          generalize wr.alloc (.cells #[.int .i64 x, .int .i64 y, .int .i64 z] 47) = Wk at *
          generalize wr.heap.size = kb at *
          have e1 : (v == v) = true := beq_self_eq_true _
          go_region_held3 (fun w' => w'.cell? ⟨kb, 1, none⟩ = some (.int .i64 y) ∧ w'.cell? ⟨kb, 2, none⟩ = some (.int .i64 z)) (go_keep)
            (first
              | (go_at_call 33; refine (HRC.out _ rb g cap (HR1.out.drewN 1)).mono ?_; rintro e wa ⟨rfl, hra, hga⟩; have q1 : wa.cell? ⟨kb, 1, none⟩ = some (.int .i64 y) := hga.cell (a := ⟨kb, 1, none⟩) k1 (by simpa using hkr); have q2 : wa.cell? ⟨kb, 2, none⟩ = some (.int .i64 z) := hga.cell (a := ⟨kb, 2, none⟩) k2 (by simpa using hkr); have HRa := Lib.hid hra; have HXa := Lib.hid ((HX1.out.drewN 1).kept hga hxr (fun ad h => by have := hpb ad h; omega)); have HBa := Lib.hid (made_grown (bdrew (q := 1) HB1.out) hga (bdrew (q := 1) HB1.out).size hrw); clear hra hga)
              | (go_at_call 34; refine (HXC.out _ xb p c HXa.out).mono ?_; rintro e wb ⟨rfl, hxa, hgc⟩; have q3 : wb.cell? ⟨kb, 1, none⟩ = some (.int .i64 y) := hgc.cell (a := ⟨kb, 1, none⟩) q1 (by simpa using hkx); have q4 : wb.cell? ⟨kb, 2, none⟩ = some (.int .i64 z) := hgc.cell (a := ⟨kb, 2, none⟩) q2 (by simpa using hkx); have HXb := Lib.hid hxa; have HRb := Lib.hid (HRa.out.kept hgc (Ne.symm hxr) hgx); have HBb := Lib.hid (made_grown HBa.out hgc HBa.out.size hxw); clear hxa hgc))
          clear k1 k2 q1 q2 q3 q4
          have HL : Hid (∀ q, Calls Tryd.prog 41 #[.pointer (some ⟨rb, 0, none⟩)] (wb.drewN q) (fun e w' => e = .returned (.int .i64 ((0 - i' : Nat) : Int)) ∧ ∃ k, w' = (wb.drewN q).drewN k)) := fun q => Left_rs (HRb.out.drewN q)
          have HXL : Hid (∀ q, Calls Tryd.prog 42 #[.pointer (some ⟨xb, 0, none⟩)] (wb.drewN q) (fun e w' => e = .returned (.int .i64 ((0 - i' : Nat) : Int)) ∧ ∃ k, w' = (wb.drewN q).drewN k)) := fun q => XLeft (HXb.out.drewN q)
          have HEr : Hid (∀ q, Calls Tryd.prog 43 #[.pointer (some ⟨rb, 0, none⟩)] (wb.drewN q) fun e w' => e = .returned (.int .i64 err') ∧ wb.drewN q = w') := fun q => Err_rs (HRb.out.drewN q)
          have HE : Hid (∀ q, Calls Tryd.prog 44 #[.pointer (some ⟨rb, 0, none⟩)] (wb.drewN q) (fun e w' => e = .returned (.int .i64 (if err' ≠ 0 then err' else if i' < 0 then 3 else 0)) ∧ ∃ k, w' = (wb.drewN q).drewN k)) := fun q => End_rs (HRb.out.drewN q)
          have HXE : Hid (∀ q, Calls Tryd.prog 45 #[.pointer (some ⟨xb, 0, none⟩)] (wb.drewN q) (fun e w' => e = .returned (.int .i64 (if err' ≠ 0 then err' else if i' < 0 then 3 else 0)) ∧ ∃ k, w' = (wb.drewN q).drewN k)) := fun q => XEnd (HXb.out.drewN q)
          generalize (0 - i') = L at *
          generalize (if err' ≠ 0 then err' else if i' < 0 then 3 else 0) = En at *
          have cE := HXb.out.c2
          have e2 : ((L : Int) == (L : Int)) = true := beq_self_eq_true _
          have e3 : (err' == err') = true := beq_self_eq_true _
          have e4 : (En == En) = true := beq_self_eq_true _
          go_wp2_with fail
          go_quiet (first | (go_at_call 41; exact Calls.quiet_of (HL.out _)) | (go_at_call 42; exact Calls.quiet_of (HXL.out _)) | (go_at_call 43; exact quiet_left (HEr.out _)) | (go_at_call 44; exact Calls.quiet_of (HE.out _)) | (go_at_call 45; exact Calls.quiet_of (HXE.out _)))
          go_wp2_with fail
          go_roundw
          case rel => exact ⟨t + 1, i', err', by go_num, by omega, HXb.out.drewN _, HRb.out.drewN _, bdrew HBb.out⟩
          case measure => simp [intOf]; omega
        · obtain ⟨v, i', err', hRC, hXC⟩ := step_signed xs 0 i err
          have HB1 := Lib.hid (HB.out.alloc HB.out.size (.cells #[.int .i64 x, .int .i64 y, .int .i64 z] 47))
          have ha := (Below.refl wr.heap.size wr).alloc (Nat.le_refl _) (.cells #[.int .i64 x, .int .i64 y, .int .i64 z] 47)
          have HR1 := Lib.hid (HR.out.below ha)
          have HX1 := Lib.hid (HX.out.below ha)
          have HRC := Lib.hid hRC
          have HXC := Lib.hid hXC
          clear hRC hXC ha
          go_fit (HRC.out _ rb g cap HR1.out)
          rintro e wa ⟨rfl, hra, hga⟩
          have HRa := Lib.hid hra
          have HXa := Lib.hid (HX1.out.kept hga hxr (fun ad h => by have := hpb ad h; omega))
          have HBa := Lib.hid (made_grown HB1.out hga HB1.out.size hrw)
          clear hra hga
          go_wp2_with fail
          go_fit (HXC.out _ xb p c HXa.out)
          rintro e wb ⟨rfl, hxa, hgc⟩
          have HXb := Lib.hid hxa
          have HRb := Lib.hid (HRa.out.kept hgc (Ne.symm hxr) hgx)
          have HBb := Lib.hid (made_grown HBa.out hgc HBa.out.size hxw)
          clear hxa hgc
          have e1 : (v == v) = true := beq_self_eq_true _
          have HL : Hid (∀ q, Calls Tryd.prog 41 #[.pointer (some ⟨rb, 0, none⟩)] (wb.drewN q) (fun e w' => e = .returned (.int .i64 ((0 - i' : Nat) : Int)) ∧ ∃ k, w' = (wb.drewN q).drewN k)) := fun q => Left_rs (HRb.out.drewN q)
          have HXL : Hid (∀ q, Calls Tryd.prog 42 #[.pointer (some ⟨xb, 0, none⟩)] (wb.drewN q) (fun e w' => e = .returned (.int .i64 ((0 - i' : Nat) : Int)) ∧ ∃ k, w' = (wb.drewN q).drewN k)) := fun q => XLeft (HXb.out.drewN q)
          have HEr : Hid (∀ q, Calls Tryd.prog 43 #[.pointer (some ⟨rb, 0, none⟩)] (wb.drewN q) fun e w' => e = .returned (.int .i64 err') ∧ wb.drewN q = w') := fun q => Err_rs (HRb.out.drewN q)
          have HE : Hid (∀ q, Calls Tryd.prog 44 #[.pointer (some ⟨rb, 0, none⟩)] (wb.drewN q) (fun e w' => e = .returned (.int .i64 (if err' ≠ 0 then err' else if i' < 0 then 3 else 0)) ∧ ∃ k, w' = (wb.drewN q).drewN k)) := fun q => End_rs (HRb.out.drewN q)
          have HXE : Hid (∀ q, Calls Tryd.prog 45 #[.pointer (some ⟨xb, 0, none⟩)] (wb.drewN q) (fun e w' => e = .returned (.int .i64 (if err' ≠ 0 then err' else if i' < 0 then 3 else 0)) ∧ ∃ k, w' = (wb.drewN q).drewN k)) := fun q => XEnd (HXb.out.drewN q)
          generalize (0 - i') = L at *
          generalize (if err' ≠ 0 then err' else if i' < 0 then 3 else 0) = En at *
          have cE := HXb.out.c2
          have e2 : ((L : Int) == (L : Int)) = true := beq_self_eq_true _
          have e3 : (err' == err') = true := beq_self_eq_true _
          have e4 : (En == En) = true := beq_self_eq_true _
          go_wp2_with fail
          go_quiet (first | (go_at_call 41; exact Calls.quiet_of (HL.out _)) | (go_at_call 42; exact Calls.quiet_of (HXL.out _)) | (go_at_call 43; exact quiet_left (HEr.out _)) | (go_at_call 44; exact Calls.quiet_of (HE.out _)) | (go_at_call 45; exact Calls.quiet_of (HXE.out _)))
          go_wp2_with fail
          go_roundw
          case rel => exact ⟨t + 1, i', err', by go_num, by omega, HXb.out.drewN _, HRb.out.drewN _, bdrew HBb.out⟩
          case measure => simp [intOf]; omega
        · obtain ⟨v, i', err', hRC, hXC⟩ := step_text xs 0 i err z hz0 hz1 HR.out.ile
          have HB1 := Lib.hid (HB.out.alloc HB.out.size (.cells #[.int .i64 x, .int .i64 y, .int .i64 z] 47))
          have ha := (Below.refl wr.heap.size wr).alloc (Nat.le_refl _) (.cells #[.int .i64 x, .int .i64 y, .int .i64 z] 47)
          have HR1 := Lib.hid (HR.out.below ha)
          have HX1 := Lib.hid (HX.out.below ha)
          have HRC := Lib.hid hRC
          have HXC := Lib.hid hXC
          have hkr : wr.heap.size ≠ rb := Nat.ne_of_gt (World.block_lt_of_cell? wr _ HR.out.c0)
          have hkx : wr.heap.size ≠ xb := Nat.ne_of_gt (World.block_lt_of_cell? wr _ HX.out.c0)
          have k1 : (wr.alloc (.cells #[.int .i64 x, .int .i64 y, .int .i64 z] 47)).cell? ⟨wr.heap.size, 1, none⟩ = some (.int .i64 y) := by rw [World.cell?_alloc_at _ _ _ _ rfl]; rfl
          have k2 : (wr.alloc (.cells #[.int .i64 x, .int .i64 y, .int .i64 z] 47)).cell? ⟨wr.heap.size, 2, none⟩ = some (.int .i64 z) := by rw [World.cell?_alloc_at _ _ _ _ rfl]; rfl
          clear hRC hXC ha hd0 hd1 hd2 hz0 hz1
          generalize wr.alloc (.cells #[.int .i64 x, .int .i64 y, .int .i64 z] 47) = Wk at *
          generalize wr.heap.size = kb at *
          have e1 : (v.toList == v.toList) = true := beq_self_eq_true _
          go_region_held3 (fun w' => w'.cell? ⟨kb, 1, none⟩ = some (.int .i64 y) ∧ w'.cell? ⟨kb, 2, none⟩ = some (.int .i64 z)) (go_keep)
            (first
              | (go_at_call 37; refine (HRC.out _ rb g cap (HR1.out.drewN 1)).mono ?_; rintro e wa ⟨rfl, hra, hga⟩; have q1 : wa.cell? ⟨kb, 1, none⟩ = some (.int .i64 y) := hga.cell (a := ⟨kb, 1, none⟩) k1 (by simpa using hkr); have q2 : wa.cell? ⟨kb, 2, none⟩ = some (.int .i64 z) := hga.cell (a := ⟨kb, 2, none⟩) k2 (by simpa using hkr); have HRa := Lib.hid hra; have HXa := Lib.hid ((HX1.out.drewN 1).kept hga hxr (fun ad h => by have := hpb ad h; omega)); have HBa := Lib.hid (made_grown (bdrew (q := 1) HB1.out) hga (bdrew (q := 1) HB1.out).size hrw); clear hra hga)
              | (go_at_call 38; refine (HXC.out _ xb p c HXa.out).mono ?_; rintro e wb ⟨rfl, hxa, hgc⟩; have q3 : wb.cell? ⟨kb, 1, none⟩ = some (.int .i64 y) := hgc.cell (a := ⟨kb, 1, none⟩) q1 (by simpa using hkx); have q4 : wb.cell? ⟨kb, 2, none⟩ = some (.int .i64 z) := hgc.cell (a := ⟨kb, 2, none⟩) q2 (by simpa using hkx); have HXb := Lib.hid hxa; have HRb := Lib.hid (HRa.out.kept hgc (Ne.symm hxr) hgx); have HBb := Lib.hid (made_grown HBa.out hgc HBa.out.size hxw); clear hxa hgc))
          clear k1 k2 q1 q2 q3 q4
          have HL : Hid (∀ q, Calls Tryd.prog 41 #[.pointer (some ⟨rb, 0, none⟩)] (wb.drewN q) (fun e w' => e = .returned (.int .i64 ((0 - i' : Nat) : Int)) ∧ ∃ k, w' = (wb.drewN q).drewN k)) := fun q => Left_rs (HRb.out.drewN q)
          have HXL : Hid (∀ q, Calls Tryd.prog 42 #[.pointer (some ⟨xb, 0, none⟩)] (wb.drewN q) (fun e w' => e = .returned (.int .i64 ((0 - i' : Nat) : Int)) ∧ ∃ k, w' = (wb.drewN q).drewN k)) := fun q => XLeft (HXb.out.drewN q)
          have HEr : Hid (∀ q, Calls Tryd.prog 43 #[.pointer (some ⟨rb, 0, none⟩)] (wb.drewN q) fun e w' => e = .returned (.int .i64 err') ∧ wb.drewN q = w') := fun q => Err_rs (HRb.out.drewN q)
          have HE : Hid (∀ q, Calls Tryd.prog 44 #[.pointer (some ⟨rb, 0, none⟩)] (wb.drewN q) (fun e w' => e = .returned (.int .i64 (if err' ≠ 0 then err' else if i' < 0 then 3 else 0)) ∧ ∃ k, w' = (wb.drewN q).drewN k)) := fun q => End_rs (HRb.out.drewN q)
          have HXE : Hid (∀ q, Calls Tryd.prog 45 #[.pointer (some ⟨xb, 0, none⟩)] (wb.drewN q) (fun e w' => e = .returned (.int .i64 (if err' ≠ 0 then err' else if i' < 0 then 3 else 0)) ∧ ∃ k, w' = (wb.drewN q).drewN k)) := fun q => XEnd (HXb.out.drewN q)
          generalize (0 - i') = L at *
          generalize (if err' ≠ 0 then err' else if i' < 0 then 3 else 0) = En at *
          have cE := HXb.out.c2
          have e2 : ((L : Int) == (L : Int)) = true := beq_self_eq_true _
          have e3 : (err' == err') = true := beq_self_eq_true _
          have e4 : (En == En) = true := beq_self_eq_true _
          go_wp2_with fail
          go_quiet (first | (go_at_call 41; exact Calls.quiet_of (HL.out _)) | (go_at_call 42; exact Calls.quiet_of (HXL.out _)) | (go_at_call 43; exact quiet_left (HEr.out _)) | (go_at_call 44; exact Calls.quiet_of (HE.out _)) | (go_at_call 45; exact Calls.quiet_of (HXE.out _)))
          go_wp2_with fail
          go_roundw
          case rel => exact ⟨t + 1, i', err', by go_num, by omega, HXb.out.drewN _, HRb.out.drewN _, bdrew HBb.out⟩
          case measure => simp [intOf]; omega
        · obtain ⟨v, i', err', hRC, hXC⟩ := step_flag xs 0 i err
          have HB1 := Lib.hid (HB.out.alloc HB.out.size (.cells #[.int .i64 x, .int .i64 y, .int .i64 z] 47))
          have ha := (Below.refl wr.heap.size wr).alloc (Nat.le_refl _) (.cells #[.int .i64 x, .int .i64 y, .int .i64 z] 47)
          have HR1 := Lib.hid (HR.out.below ha)
          have HX1 := Lib.hid (HX.out.below ha)
          have HRC := Lib.hid hRC
          have HXC := Lib.hid hXC
          clear hRC hXC ha
          go_fit (HRC.out _ rb g cap HR1.out)
          rintro e wa ⟨rfl, hra, hga⟩
          have HRa := Lib.hid hra
          have HXa := Lib.hid (HX1.out.kept hga hxr (fun ad h => by have := hpb ad h; omega))
          have HBa := Lib.hid (made_grown HB1.out hga HB1.out.size hrw)
          clear hra hga
          go_wp2_with fail
          go_fit (HXC.out _ xb p c HXa.out)
          rintro e wb ⟨rfl, hxa, hgc⟩
          have HXb := Lib.hid hxa
          have HRb := Lib.hid (HRa.out.kept hgc (Ne.symm hxr) hgx)
          have HBb := Lib.hid (made_grown HBa.out hgc HBa.out.size hxw)
          clear hxa hgc
          have e1 : (v == v) = true := beq_self_eq_true _
          have HL : Hid (∀ q, Calls Tryd.prog 41 #[.pointer (some ⟨rb, 0, none⟩)] (wb.drewN q) (fun e w' => e = .returned (.int .i64 ((0 - i' : Nat) : Int)) ∧ ∃ k, w' = (wb.drewN q).drewN k)) := fun q => Left_rs (HRb.out.drewN q)
          have HXL : Hid (∀ q, Calls Tryd.prog 42 #[.pointer (some ⟨xb, 0, none⟩)] (wb.drewN q) (fun e w' => e = .returned (.int .i64 ((0 - i' : Nat) : Int)) ∧ ∃ k, w' = (wb.drewN q).drewN k)) := fun q => XLeft (HXb.out.drewN q)
          have HEr : Hid (∀ q, Calls Tryd.prog 43 #[.pointer (some ⟨rb, 0, none⟩)] (wb.drewN q) fun e w' => e = .returned (.int .i64 err') ∧ wb.drewN q = w') := fun q => Err_rs (HRb.out.drewN q)
          have HE : Hid (∀ q, Calls Tryd.prog 44 #[.pointer (some ⟨rb, 0, none⟩)] (wb.drewN q) (fun e w' => e = .returned (.int .i64 (if err' ≠ 0 then err' else if i' < 0 then 3 else 0)) ∧ ∃ k, w' = (wb.drewN q).drewN k)) := fun q => End_rs (HRb.out.drewN q)
          have HXE : Hid (∀ q, Calls Tryd.prog 45 #[.pointer (some ⟨xb, 0, none⟩)] (wb.drewN q) (fun e w' => e = .returned (.int .i64 (if err' ≠ 0 then err' else if i' < 0 then 3 else 0)) ∧ ∃ k, w' = (wb.drewN q).drewN k)) := fun q => XEnd (HXb.out.drewN q)
          generalize (0 - i') = L at *
          generalize (if err' ≠ 0 then err' else if i' < 0 then 3 else 0) = En at *
          have cE := HXb.out.c2
          have e2 : ((L : Int) == (L : Int)) = true := beq_self_eq_true _
          have e3 : (err' == err') = true := beq_self_eq_true _
          have e4 : (En == En) = true := beq_self_eq_true _
          go_wp2_with fail
          go_quiet (first | (go_at_call 41; exact Calls.quiet_of (HL.out _)) | (go_at_call 42; exact Calls.quiet_of (HXL.out _)) | (go_at_call 43; exact quiet_left (HEr.out _)) | (go_at_call 44; exact Calls.quiet_of (HE.out _)) | (go_at_call 45; exact Calls.quiet_of (HXE.out _)))
          go_wp2_with fail
          go_roundw
          case rel => exact ⟨t + 1, i', err', by go_num, by omega, HXb.out.drewN _, HRb.out.drewN _, bdrew HBb.out⟩
          case measure => simp [intOf]; omega
      · have HE : Hid (Calls Tryd.prog 44 #[.pointer (some ⟨rb, 0, none⟩)] wr (fun e w' => e = .returned (.int .i64 (if err ≠ 0 then err else if i < 0 then 3 else 0)) ∧ ∃ k, w' = wr.drewN k)) := End_rs HR.out
        have HXE : Hid (∀ q, Calls Tryd.prog 45 #[.pointer (some ⟨xb, 0, none⟩)] (wr.drewN q) (fun e w' => e = .returned (.int .i64 (if err ≠ 0 then err else if i < 0 then 3 else 0)) ∧ ∃ k, w' = (wr.drewN q).drewN k)) := fun q => XEnd (HX.out.drewN q)
        generalize (if err ≠ 0 then err else if i < 0 then 3 else 0) = En at *
        have e4 : (En == En) = true := beq_self_eq_true _
        go_wp2_with fail
        go_fit HE.out
        rintro e wy ⟨rfl, q1, rfl⟩
        go_wp2_with fail
        go_fit (HXE.out q1)
        rintro e wz ⟨rfl, q2, rfl⟩
        have HBz := Lib.hid (bdrew (q := q1 + q2) HB.out)
        go_wp2_with fail
        go_fit (awake_any _ (HT.out.later HBz.out))
        rintro e w7 ⟨rfl, hb7⟩
        have H7 := Lib.hid (HBz.out.trans (hb7.mono HBz.out.size))
        clear hb7
        go_wp2_with fail
        go_ret
        exact ⟨rfl, H7.out⟩

  · have hat1 := owns_at hown1
    have Hl1 := Lib.hid hl1
    have Hb1 := Lib.hid hb1
    have Hown1 := Lib.hid hown1
    obtain rfl : n1 = n := by rw [← hl1, Hx.out]
    clear hl1 hb1 hown1
    go_wp2_with fail
    go_fit (Read_at (some ⟨g1, 0, none⟩) n1 c1 xs w1 Hl1.out (owns_in Hown1.out) (by intro h; cases h) Hr.out (by omega))
    rintro e w2 ⟨rb, g, cap, rfl, hrs2, hb2, hrb, hgb, hrb2, hgb2⟩
    have hown2 : w2.ownsRow w.heap.size 5 1 (.slice (some ⟨g1, 0, none⟩) n1 c1) n1 (xs.map (Value.int .u8)) := Hown1.out.kept (row := none) ⟨hb2.os, hb2.tape, hb2.output, hb2.size, fun k hk _ => hb2.block k hk⟩ (.inr (by simp [Value.ownBlock]))
    have Hb2' := Hb1.out.trans (hb2.mono Hb1.out.size)
    have hw12 := hb2.size
    have hw02 := Hb2'.size
    obtain ⟨w3, hw3⟩ : ∃ w3, w3 = w2.alloc (.cells #[.slice p n1 c, .int .i64 0, .int .i64 0] 45) := ⟨_, rfl⟩
    have hb3 : Below w2.heap.size w2 w3 := by rw [hw3]; exact (Below.refl _ _).alloc (Nat.le_refl _) _
    have Hb3 := Lib.hid (Hb2'.trans (hb3.mono hw02))
    have hrs3 := hrs2.below hb3
    have hown3 : w3.ownsRow w.heap.size 5 1 (.slice (some ⟨g1, 0, none⟩) n1 c1) n1 (xs.map (Value.int .u8)) := by rw [hw3]; exact hown2.alloc _
    have htu : Turns w3 g1 n1 := ⟨fun t ht => by
      have h1 := owns_in hown3
      obtain ⟨b', o', hh, hc⟩ := h1.at (by omega)
      simp only [Option.some.injEq, Addr.mk.injEq] at hh
      obtain ⟨rfl, rfl, _⟩ := hh
      obtain ⟨y, _, hy, hyc⟩ := byte_at hc Hl1.out Hr.out t ht
      rw [Nat.zero_add] at hyc
      exact ⟨y, hy, hyc⟩, fun t => hown3.frozenAt t⟩
    have hxs3 : XS w3 w2.heap.size p n1 c xs 0 0 := by
      refine ⟨?_, ?_, ?_, ?_, ?_, later Hb.out Hb3.out, Hl1.out, hnc, Nat.zero_le _, hp, fun ad h => by have := hpb ad h; omega, Hr.out, by omega⟩
      all_goals first
        | (rw [hw3, World.cell?_alloc_at _ _ _ _ rfl]; rfl)
        | (rw [hw3]; exact World.frozen?_alloc_at _ _ _ _ rfl)
    have Hxs3 := Lib.hid hxs3
    have Hrs3 := Lib.hid hrs3
    have Htu := Lib.hid htu
    have hxr : rb ≠ w2.heap.size := by omega
    have hxg : g1 ≠ w2.heap.size := by omega
    have hg1r : g1 ≠ rb := by omega
    have hg1g : g1 ≠ g := by omega
    have hg1w : w.heap.size ≤ g1 := hat1.1
    have hgx : w2.heap.size ≠ g := by omega
    have hrw : w.heap.size ≤ rb := by omega
    have hxw : w.heap.size ≤ w2.heap.size := by omega
    generalize hxb : w2.heap.size = xb at *
    clear hrs2 hb2 hown2 Hb2' hw12 hw02 hb3 hrs3 hown3 htu hxs3 hrb hgb hrb2 hgb2 Hown1 hat1
    go_wp2_with fail
    rw [← hw3]
    have Hw3 := Lib.hid hw3
    clear hw3 hxb Hw3
    go_loopw [30] (fun k wr => ∃ t : Nat, k = .int .i64 t ∧ t ≤ n1 ∧ Hid (XS wr xb p n1 c xs 0 0) ∧ Hid (RS wr rb g n1 cap xs 0 0) ∧ Hid (Turns wr g1 n1) ∧ Hid (Below w.heap.size w wr)) (fun k _ => n1 - (intOf k).toNat)
    case atStart => exact ⟨0, rfl, Nat.zero_le _, Hxs3, Hrs3, Htu, Hb3⟩
    case round =>
      obtain ⟨t, rfl, ht, HX, HR, HU, HB⟩ := hrel
      by_cases hlt : t < n1
      · obtain ⟨y, hy, hyc⟩ := HU.out.1 t hlt
        have hyf := HU.out.2 t
        obtain ⟨z, hz, hf⟩ := flip_u8 y hy
        have HU2 := Lib.hid (HU.out.set t z hlt hz)
        have hg := grown_setCell wr g1 t (.int .u8 (z : Int))
        have HX2 := Lib.hid (HX.out.kept hg hxg (fun ad h => by have := hpb ad h; omega))
        have HR2 := Lib.hid (HR.out.kept hg hg1r hg1g)
        have HB2 := Lib.hid (made_grown HB.out hg HB.out.size hg1w)
        clear hg
        go_wp2_with fail
        go_roundw
        case rel => exact ⟨t + 1, by go_num, by omega, HX2, HR2, HU2, HB2⟩
        case measure => simp [intOf]; omega
      · clear HU
        go_wp2_with fail
        go_loopw [42] (fun k wq => ∃ (t i : Nat) (err : Int), k = .int .i64 t ∧ t ≤ m ∧ Hid (XS wq xb p n1 c xs i err) ∧ Hid (RS wq rb g n1 cap xs i err) ∧ Hid (Below w.heap.size w wq)) (fun k _ => m - (intOf k).toNat)
        case atStart => exact ⟨0, 0, 0, rfl, Nat.zero_le _, HX, HR, HB⟩
        case round =>
          obtain ⟨t, i, err, rfl, ht, HX, HR, HB⟩ := hrel
          by_cases hlt2 : t < m
          · obtain ⟨x, y, z, hc0, hc1, hc2, hz0, hz1⟩ := HA.out t hlt2
            have hd0 := (HB.out.cell (p := ⟨lb, lo + t * 3, none⟩) hlb).trans hc0
            have hd1 := (HB.out.cell (p := ⟨lb, lo + t * 3 + 1, none⟩) hlb).trans hc1
            have hd2 := (HB.out.cell (p := ⟨lb, lo + t * 3 + 2, none⟩) hlb).trans hc2
            clear hc0 hc1 hc2
            go_wp2_with fail
            · obtain ⟨v, i', err', hRC, hXC⟩ := step_number xs n1 i err
              have HB1 := Lib.hid (HB.out.alloc HB.out.size (.cells #[.int .i64 x, .int .i64 y, .int .i64 z] 47))
              have ha := (Below.refl wr.heap.size wr).alloc (Nat.le_refl _) (.cells #[.int .i64 x, .int .i64 y, .int .i64 z] 47)
              have HR1 := Lib.hid (HR.out.below ha)
              have HX1 := Lib.hid (HX.out.below ha)
              have HRC := Lib.hid hRC
              have HXC := Lib.hid hXC
              clear hRC hXC ha
              go_fit (HRC.out _ rb g cap HR1.out)
              rintro e wa ⟨rfl, hra, hga⟩
              have HRa := Lib.hid hra
              have HXa := Lib.hid (HX1.out.kept hga hxr (fun ad h => by have := hpb ad h; omega))
              have HBa := Lib.hid (made_grown HB1.out hga HB1.out.size hrw)
              clear hra hga
              go_wp2_with fail
              go_fit (HXC.out _ xb p c HXa.out)
              rintro e wb ⟨rfl, hxa, hgc⟩
              have HXb := Lib.hid hxa
              have HRb := Lib.hid (HRa.out.kept hgc (Ne.symm hxr) hgx)
              have HBb := Lib.hid (made_grown HBa.out hgc HBa.out.size hxw)
              clear hxa hgc
              have e1 : (v == v) = true := beq_self_eq_true _
              have HL : Hid (∀ q, Calls Tryd.prog 41 #[.pointer (some ⟨rb, 0, none⟩)] (wb.drewN q) (fun e w' => e = .returned (.int .i64 ((n1 - i' : Nat) : Int)) ∧ ∃ k, w' = (wb.drewN q).drewN k)) := fun q => Left_rs (HRb.out.drewN q)
              have HXL : Hid (∀ q, Calls Tryd.prog 42 #[.pointer (some ⟨xb, 0, none⟩)] (wb.drewN q) (fun e w' => e = .returned (.int .i64 ((n1 - i' : Nat) : Int)) ∧ ∃ k, w' = (wb.drewN q).drewN k)) := fun q => XLeft (HXb.out.drewN q)
              have HEr : Hid (∀ q, Calls Tryd.prog 43 #[.pointer (some ⟨rb, 0, none⟩)] (wb.drewN q) fun e w' => e = .returned (.int .i64 err') ∧ wb.drewN q = w') := fun q => Err_rs (HRb.out.drewN q)
              have HE : Hid (∀ q, Calls Tryd.prog 44 #[.pointer (some ⟨rb, 0, none⟩)] (wb.drewN q) (fun e w' => e = .returned (.int .i64 (if err' ≠ 0 then err' else if i' < n1 then 3 else 0)) ∧ ∃ k, w' = (wb.drewN q).drewN k)) := fun q => End_rs (HRb.out.drewN q)
              have HXE : Hid (∀ q, Calls Tryd.prog 45 #[.pointer (some ⟨xb, 0, none⟩)] (wb.drewN q) (fun e w' => e = .returned (.int .i64 (if err' ≠ 0 then err' else if i' < n1 then 3 else 0)) ∧ ∃ k, w' = (wb.drewN q).drewN k)) := fun q => XEnd (HXb.out.drewN q)
              generalize (n1 - i') = L at *
              generalize (if err' ≠ 0 then err' else if i' < n1 then 3 else 0) = En at *
              have cE := HXb.out.c2
              have e2 : ((L : Int) == (L : Int)) = true := beq_self_eq_true _
              have e3 : (err' == err') = true := beq_self_eq_true _
              have e4 : (En == En) = true := beq_self_eq_true _
              go_wp2_with fail
              go_quiet (first | (go_at_call 41; exact Calls.quiet_of (HL.out _)) | (go_at_call 42; exact Calls.quiet_of (HXL.out _)) | (go_at_call 43; exact quiet_left (HEr.out _)) | (go_at_call 44; exact Calls.quiet_of (HE.out _)) | (go_at_call 45; exact Calls.quiet_of (HXE.out _)))
              go_wp2_with fail
              go_roundw
              case rel => exact ⟨t + 1, i', err', by go_num, by omega, HXb.out.drewN _, HRb.out.drewN _, bdrew HBb.out⟩
              case measure => simp [intOf]; omega
            · obtain ⟨v, i', err', hRC, hXC⟩ := step_within xs n1 i err y z
              have HB1 := Lib.hid (HB.out.alloc HB.out.size (.cells #[.int .i64 x, .int .i64 y, .int .i64 z] 47))
              have ha := (Below.refl wr.heap.size wr).alloc (Nat.le_refl _) (.cells #[.int .i64 x, .int .i64 y, .int .i64 z] 47)
              have HR1 := Lib.hid (HR.out.below ha)
              have HX1 := Lib.hid (HX.out.below ha)
              have HRC := Lib.hid hRC
              have HXC := Lib.hid hXC
              have hkr : wr.heap.size ≠ rb := Nat.ne_of_gt (World.block_lt_of_cell? wr _ HR.out.c0)
              have hkx : wr.heap.size ≠ xb := Nat.ne_of_gt (World.block_lt_of_cell? wr _ HX.out.c0)
              have k1 : (wr.alloc (.cells #[.int .i64 x, .int .i64 y, .int .i64 z] 47)).cell? ⟨wr.heap.size, 1, none⟩ = some (.int .i64 y) := by rw [World.cell?_alloc_at _ _ _ _ rfl]; rfl
              have k2 : (wr.alloc (.cells #[.int .i64 x, .int .i64 y, .int .i64 z] 47)).cell? ⟨wr.heap.size, 2, none⟩ = some (.int .i64 z) := by rw [World.cell?_alloc_at _ _ _ _ rfl]; rfl
              clear hRC hXC ha hd0 hd1 hd2 hz0 hz1
              generalize wr.alloc (.cells #[.int .i64 x, .int .i64 y, .int .i64 z] 47) = Wk at *
              generalize wr.heap.size = kb at *
              have e1 : (v == v) = true := beq_self_eq_true _
              go_region_held3 (fun w' => w'.cell? ⟨kb, 1, none⟩ = some (.int .i64 y) ∧ w'.cell? ⟨kb, 2, none⟩ = some (.int .i64 z)) (go_keep)
                (first
                  | (go_at_call 33; refine (HRC.out _ rb g cap (HR1.out.drewN 1)).mono ?_; rintro e wa ⟨rfl, hra, hga⟩; have q1 : wa.cell? ⟨kb, 1, none⟩ = some (.int .i64 y) := hga.cell (a := ⟨kb, 1, none⟩) k1 (by simpa using hkr); have q2 : wa.cell? ⟨kb, 2, none⟩ = some (.int .i64 z) := hga.cell (a := ⟨kb, 2, none⟩) k2 (by simpa using hkr); have HRa := Lib.hid hra; have HXa := Lib.hid ((HX1.out.drewN 1).kept hga hxr (fun ad h => by have := hpb ad h; omega)); have HBa := Lib.hid (made_grown (bdrew (q := 1) HB1.out) hga (bdrew (q := 1) HB1.out).size hrw); clear hra hga)
                  | (go_at_call 34; refine (HXC.out _ xb p c HXa.out).mono ?_; rintro e wb ⟨rfl, hxa, hgc⟩; have q3 : wb.cell? ⟨kb, 1, none⟩ = some (.int .i64 y) := hgc.cell (a := ⟨kb, 1, none⟩) q1 (by simpa using hkx); have q4 : wb.cell? ⟨kb, 2, none⟩ = some (.int .i64 z) := hgc.cell (a := ⟨kb, 2, none⟩) q2 (by simpa using hkx); have HXb := Lib.hid hxa; have HRb := Lib.hid (HRa.out.kept hgc (Ne.symm hxr) hgx); have HBb := Lib.hid (made_grown HBa.out hgc HBa.out.size hxw); clear hxa hgc))
              clear k1 k2 q1 q2 q3 q4
              have HL : Hid (∀ q, Calls Tryd.prog 41 #[.pointer (some ⟨rb, 0, none⟩)] (wb.drewN q) (fun e w' => e = .returned (.int .i64 ((n1 - i' : Nat) : Int)) ∧ ∃ k, w' = (wb.drewN q).drewN k)) := fun q => Left_rs (HRb.out.drewN q)
              have HXL : Hid (∀ q, Calls Tryd.prog 42 #[.pointer (some ⟨xb, 0, none⟩)] (wb.drewN q) (fun e w' => e = .returned (.int .i64 ((n1 - i' : Nat) : Int)) ∧ ∃ k, w' = (wb.drewN q).drewN k)) := fun q => XLeft (HXb.out.drewN q)
              have HEr : Hid (∀ q, Calls Tryd.prog 43 #[.pointer (some ⟨rb, 0, none⟩)] (wb.drewN q) fun e w' => e = .returned (.int .i64 err') ∧ wb.drewN q = w') := fun q => Err_rs (HRb.out.drewN q)
              have HE : Hid (∀ q, Calls Tryd.prog 44 #[.pointer (some ⟨rb, 0, none⟩)] (wb.drewN q) (fun e w' => e = .returned (.int .i64 (if err' ≠ 0 then err' else if i' < n1 then 3 else 0)) ∧ ∃ k, w' = (wb.drewN q).drewN k)) := fun q => End_rs (HRb.out.drewN q)
              have HXE : Hid (∀ q, Calls Tryd.prog 45 #[.pointer (some ⟨xb, 0, none⟩)] (wb.drewN q) (fun e w' => e = .returned (.int .i64 (if err' ≠ 0 then err' else if i' < n1 then 3 else 0)) ∧ ∃ k, w' = (wb.drewN q).drewN k)) := fun q => XEnd (HXb.out.drewN q)
              generalize (n1 - i') = L at *
              generalize (if err' ≠ 0 then err' else if i' < n1 then 3 else 0) = En at *
              have cE := HXb.out.c2
              have e2 : ((L : Int) == (L : Int)) = true := beq_self_eq_true _
              have e3 : (err' == err') = true := beq_self_eq_true _
              have e4 : (En == En) = true := beq_self_eq_true _
              go_wp2_with fail
              go_quiet (first | (go_at_call 41; exact Calls.quiet_of (HL.out _)) | (go_at_call 42; exact Calls.quiet_of (HXL.out _)) | (go_at_call 43; exact quiet_left (HEr.out _)) | (go_at_call 44; exact Calls.quiet_of (HE.out _)) | (go_at_call 45; exact Calls.quiet_of (HXE.out _)))
              go_wp2_with fail
              go_roundw
              case rel => exact ⟨t + 1, i', err', by go_num, by omega, HXb.out.drewN _, HRb.out.drewN _, bdrew HBb.out⟩
              case measure => simp [intOf]; omega
            · obtain ⟨v, i', err', hRC, hXC⟩ := step_signed xs n1 i err
              have HB1 := Lib.hid (HB.out.alloc HB.out.size (.cells #[.int .i64 x, .int .i64 y, .int .i64 z] 47))
              have ha := (Below.refl wr.heap.size wr).alloc (Nat.le_refl _) (.cells #[.int .i64 x, .int .i64 y, .int .i64 z] 47)
              have HR1 := Lib.hid (HR.out.below ha)
              have HX1 := Lib.hid (HX.out.below ha)
              have HRC := Lib.hid hRC
              have HXC := Lib.hid hXC
              clear hRC hXC ha
              go_fit (HRC.out _ rb g cap HR1.out)
              rintro e wa ⟨rfl, hra, hga⟩
              have HRa := Lib.hid hra
              have HXa := Lib.hid (HX1.out.kept hga hxr (fun ad h => by have := hpb ad h; omega))
              have HBa := Lib.hid (made_grown HB1.out hga HB1.out.size hrw)
              clear hra hga
              go_wp2_with fail
              go_fit (HXC.out _ xb p c HXa.out)
              rintro e wb ⟨rfl, hxa, hgc⟩
              have HXb := Lib.hid hxa
              have HRb := Lib.hid (HRa.out.kept hgc (Ne.symm hxr) hgx)
              have HBb := Lib.hid (made_grown HBa.out hgc HBa.out.size hxw)
              clear hxa hgc
              have e1 : (v == v) = true := beq_self_eq_true _
              have HL : Hid (∀ q, Calls Tryd.prog 41 #[.pointer (some ⟨rb, 0, none⟩)] (wb.drewN q) (fun e w' => e = .returned (.int .i64 ((n1 - i' : Nat) : Int)) ∧ ∃ k, w' = (wb.drewN q).drewN k)) := fun q => Left_rs (HRb.out.drewN q)
              have HXL : Hid (∀ q, Calls Tryd.prog 42 #[.pointer (some ⟨xb, 0, none⟩)] (wb.drewN q) (fun e w' => e = .returned (.int .i64 ((n1 - i' : Nat) : Int)) ∧ ∃ k, w' = (wb.drewN q).drewN k)) := fun q => XLeft (HXb.out.drewN q)
              have HEr : Hid (∀ q, Calls Tryd.prog 43 #[.pointer (some ⟨rb, 0, none⟩)] (wb.drewN q) fun e w' => e = .returned (.int .i64 err') ∧ wb.drewN q = w') := fun q => Err_rs (HRb.out.drewN q)
              have HE : Hid (∀ q, Calls Tryd.prog 44 #[.pointer (some ⟨rb, 0, none⟩)] (wb.drewN q) (fun e w' => e = .returned (.int .i64 (if err' ≠ 0 then err' else if i' < n1 then 3 else 0)) ∧ ∃ k, w' = (wb.drewN q).drewN k)) := fun q => End_rs (HRb.out.drewN q)
              have HXE : Hid (∀ q, Calls Tryd.prog 45 #[.pointer (some ⟨xb, 0, none⟩)] (wb.drewN q) (fun e w' => e = .returned (.int .i64 (if err' ≠ 0 then err' else if i' < n1 then 3 else 0)) ∧ ∃ k, w' = (wb.drewN q).drewN k)) := fun q => XEnd (HXb.out.drewN q)
              generalize (n1 - i') = L at *
              generalize (if err' ≠ 0 then err' else if i' < n1 then 3 else 0) = En at *
              have cE := HXb.out.c2
              have e2 : ((L : Int) == (L : Int)) = true := beq_self_eq_true _
              have e3 : (err' == err') = true := beq_self_eq_true _
              have e4 : (En == En) = true := beq_self_eq_true _
              go_wp2_with fail
              go_quiet (first | (go_at_call 41; exact Calls.quiet_of (HL.out _)) | (go_at_call 42; exact Calls.quiet_of (HXL.out _)) | (go_at_call 43; exact quiet_left (HEr.out _)) | (go_at_call 44; exact Calls.quiet_of (HE.out _)) | (go_at_call 45; exact Calls.quiet_of (HXE.out _)))
              go_wp2_with fail
              go_roundw
              case rel => exact ⟨t + 1, i', err', by go_num, by omega, HXb.out.drewN _, HRb.out.drewN _, bdrew HBb.out⟩
              case measure => simp [intOf]; omega
            · obtain ⟨v, i', err', hRC, hXC⟩ := step_text xs n1 i err z hz0 hz1 HR.out.ile
              have HB1 := Lib.hid (HB.out.alloc HB.out.size (.cells #[.int .i64 x, .int .i64 y, .int .i64 z] 47))
              have ha := (Below.refl wr.heap.size wr).alloc (Nat.le_refl _) (.cells #[.int .i64 x, .int .i64 y, .int .i64 z] 47)
              have HR1 := Lib.hid (HR.out.below ha)
              have HX1 := Lib.hid (HX.out.below ha)
              have HRC := Lib.hid hRC
              have HXC := Lib.hid hXC
              have hkr : wr.heap.size ≠ rb := Nat.ne_of_gt (World.block_lt_of_cell? wr _ HR.out.c0)
              have hkx : wr.heap.size ≠ xb := Nat.ne_of_gt (World.block_lt_of_cell? wr _ HX.out.c0)
              have k1 : (wr.alloc (.cells #[.int .i64 x, .int .i64 y, .int .i64 z] 47)).cell? ⟨wr.heap.size, 1, none⟩ = some (.int .i64 y) := by rw [World.cell?_alloc_at _ _ _ _ rfl]; rfl
              have k2 : (wr.alloc (.cells #[.int .i64 x, .int .i64 y, .int .i64 z] 47)).cell? ⟨wr.heap.size, 2, none⟩ = some (.int .i64 z) := by rw [World.cell?_alloc_at _ _ _ _ rfl]; rfl
              clear hRC hXC ha hd0 hd1 hd2 hz0 hz1
              generalize wr.alloc (.cells #[.int .i64 x, .int .i64 y, .int .i64 z] 47) = Wk at *
              generalize wr.heap.size = kb at *
              have e1 : (v.toList == v.toList) = true := beq_self_eq_true _
              go_region_held3 (fun w' => w'.cell? ⟨kb, 1, none⟩ = some (.int .i64 y) ∧ w'.cell? ⟨kb, 2, none⟩ = some (.int .i64 z)) (go_keep)
                (first
                  | (go_at_call 37; refine (HRC.out _ rb g cap (HR1.out.drewN 1)).mono ?_; rintro e wa ⟨rfl, hra, hga⟩; have q1 : wa.cell? ⟨kb, 1, none⟩ = some (.int .i64 y) := hga.cell (a := ⟨kb, 1, none⟩) k1 (by simpa using hkr); have q2 : wa.cell? ⟨kb, 2, none⟩ = some (.int .i64 z) := hga.cell (a := ⟨kb, 2, none⟩) k2 (by simpa using hkr); have HRa := Lib.hid hra; have HXa := Lib.hid ((HX1.out.drewN 1).kept hga hxr (fun ad h => by have := hpb ad h; omega)); have HBa := Lib.hid (made_grown (bdrew (q := 1) HB1.out) hga (bdrew (q := 1) HB1.out).size hrw); clear hra hga)
                  | (go_at_call 38; refine (HXC.out _ xb p c HXa.out).mono ?_; rintro e wb ⟨rfl, hxa, hgc⟩; have q3 : wb.cell? ⟨kb, 1, none⟩ = some (.int .i64 y) := hgc.cell (a := ⟨kb, 1, none⟩) q1 (by simpa using hkx); have q4 : wb.cell? ⟨kb, 2, none⟩ = some (.int .i64 z) := hgc.cell (a := ⟨kb, 2, none⟩) q2 (by simpa using hkx); have HXb := Lib.hid hxa; have HRb := Lib.hid (HRa.out.kept hgc (Ne.symm hxr) hgx); have HBb := Lib.hid (made_grown HBa.out hgc HBa.out.size hxw); clear hxa hgc))
              clear k1 k2 q1 q2 q3 q4
              have HL : Hid (∀ q, Calls Tryd.prog 41 #[.pointer (some ⟨rb, 0, none⟩)] (wb.drewN q) (fun e w' => e = .returned (.int .i64 ((n1 - i' : Nat) : Int)) ∧ ∃ k, w' = (wb.drewN q).drewN k)) := fun q => Left_rs (HRb.out.drewN q)
              have HXL : Hid (∀ q, Calls Tryd.prog 42 #[.pointer (some ⟨xb, 0, none⟩)] (wb.drewN q) (fun e w' => e = .returned (.int .i64 ((n1 - i' : Nat) : Int)) ∧ ∃ k, w' = (wb.drewN q).drewN k)) := fun q => XLeft (HXb.out.drewN q)
              have HEr : Hid (∀ q, Calls Tryd.prog 43 #[.pointer (some ⟨rb, 0, none⟩)] (wb.drewN q) fun e w' => e = .returned (.int .i64 err') ∧ wb.drewN q = w') := fun q => Err_rs (HRb.out.drewN q)
              have HE : Hid (∀ q, Calls Tryd.prog 44 #[.pointer (some ⟨rb, 0, none⟩)] (wb.drewN q) (fun e w' => e = .returned (.int .i64 (if err' ≠ 0 then err' else if i' < n1 then 3 else 0)) ∧ ∃ k, w' = (wb.drewN q).drewN k)) := fun q => End_rs (HRb.out.drewN q)
              have HXE : Hid (∀ q, Calls Tryd.prog 45 #[.pointer (some ⟨xb, 0, none⟩)] (wb.drewN q) (fun e w' => e = .returned (.int .i64 (if err' ≠ 0 then err' else if i' < n1 then 3 else 0)) ∧ ∃ k, w' = (wb.drewN q).drewN k)) := fun q => XEnd (HXb.out.drewN q)
              generalize (n1 - i') = L at *
              generalize (if err' ≠ 0 then err' else if i' < n1 then 3 else 0) = En at *
              have cE := HXb.out.c2
              have e2 : ((L : Int) == (L : Int)) = true := beq_self_eq_true _
              have e3 : (err' == err') = true := beq_self_eq_true _
              have e4 : (En == En) = true := beq_self_eq_true _
              go_wp2_with fail
              go_quiet (first | (go_at_call 41; exact Calls.quiet_of (HL.out _)) | (go_at_call 42; exact Calls.quiet_of (HXL.out _)) | (go_at_call 43; exact quiet_left (HEr.out _)) | (go_at_call 44; exact Calls.quiet_of (HE.out _)) | (go_at_call 45; exact Calls.quiet_of (HXE.out _)))
              go_wp2_with fail
              go_roundw
              case rel => exact ⟨t + 1, i', err', by go_num, by omega, HXb.out.drewN _, HRb.out.drewN _, bdrew HBb.out⟩
              case measure => simp [intOf]; omega
            · obtain ⟨v, i', err', hRC, hXC⟩ := step_flag xs n1 i err
              have HB1 := Lib.hid (HB.out.alloc HB.out.size (.cells #[.int .i64 x, .int .i64 y, .int .i64 z] 47))
              have ha := (Below.refl wr.heap.size wr).alloc (Nat.le_refl _) (.cells #[.int .i64 x, .int .i64 y, .int .i64 z] 47)
              have HR1 := Lib.hid (HR.out.below ha)
              have HX1 := Lib.hid (HX.out.below ha)
              have HRC := Lib.hid hRC
              have HXC := Lib.hid hXC
              clear hRC hXC ha
              go_fit (HRC.out _ rb g cap HR1.out)
              rintro e wa ⟨rfl, hra, hga⟩
              have HRa := Lib.hid hra
              have HXa := Lib.hid (HX1.out.kept hga hxr (fun ad h => by have := hpb ad h; omega))
              have HBa := Lib.hid (made_grown HB1.out hga HB1.out.size hrw)
              clear hra hga
              go_wp2_with fail
              go_fit (HXC.out _ xb p c HXa.out)
              rintro e wb ⟨rfl, hxa, hgc⟩
              have HXb := Lib.hid hxa
              have HRb := Lib.hid (HRa.out.kept hgc (Ne.symm hxr) hgx)
              have HBb := Lib.hid (made_grown HBa.out hgc HBa.out.size hxw)
              clear hxa hgc
              have e1 : (v == v) = true := beq_self_eq_true _
              have HL : Hid (∀ q, Calls Tryd.prog 41 #[.pointer (some ⟨rb, 0, none⟩)] (wb.drewN q) (fun e w' => e = .returned (.int .i64 ((n1 - i' : Nat) : Int)) ∧ ∃ k, w' = (wb.drewN q).drewN k)) := fun q => Left_rs (HRb.out.drewN q)
              have HXL : Hid (∀ q, Calls Tryd.prog 42 #[.pointer (some ⟨xb, 0, none⟩)] (wb.drewN q) (fun e w' => e = .returned (.int .i64 ((n1 - i' : Nat) : Int)) ∧ ∃ k, w' = (wb.drewN q).drewN k)) := fun q => XLeft (HXb.out.drewN q)
              have HEr : Hid (∀ q, Calls Tryd.prog 43 #[.pointer (some ⟨rb, 0, none⟩)] (wb.drewN q) fun e w' => e = .returned (.int .i64 err') ∧ wb.drewN q = w') := fun q => Err_rs (HRb.out.drewN q)
              have HE : Hid (∀ q, Calls Tryd.prog 44 #[.pointer (some ⟨rb, 0, none⟩)] (wb.drewN q) (fun e w' => e = .returned (.int .i64 (if err' ≠ 0 then err' else if i' < n1 then 3 else 0)) ∧ ∃ k, w' = (wb.drewN q).drewN k)) := fun q => End_rs (HRb.out.drewN q)
              have HXE : Hid (∀ q, Calls Tryd.prog 45 #[.pointer (some ⟨xb, 0, none⟩)] (wb.drewN q) (fun e w' => e = .returned (.int .i64 (if err' ≠ 0 then err' else if i' < n1 then 3 else 0)) ∧ ∃ k, w' = (wb.drewN q).drewN k)) := fun q => XEnd (HXb.out.drewN q)
              generalize (n1 - i') = L at *
              generalize (if err' ≠ 0 then err' else if i' < n1 then 3 else 0) = En at *
              have cE := HXb.out.c2
              have e2 : ((L : Int) == (L : Int)) = true := beq_self_eq_true _
              have e3 : (err' == err') = true := beq_self_eq_true _
              have e4 : (En == En) = true := beq_self_eq_true _
              go_wp2_with fail
              go_quiet (first | (go_at_call 41; exact Calls.quiet_of (HL.out _)) | (go_at_call 42; exact Calls.quiet_of (HXL.out _)) | (go_at_call 43; exact quiet_left (HEr.out _)) | (go_at_call 44; exact Calls.quiet_of (HE.out _)) | (go_at_call 45; exact Calls.quiet_of (HXE.out _)))
              go_wp2_with fail
              go_roundw
              case rel => exact ⟨t + 1, i', err', by go_num, by omega, HXb.out.drewN _, HRb.out.drewN _, bdrew HBb.out⟩
              case measure => simp [intOf]; omega
          · have HE : Hid (Calls Tryd.prog 44 #[.pointer (some ⟨rb, 0, none⟩)] wr (fun e w' => e = .returned (.int .i64 (if err ≠ 0 then err else if i < n1 then 3 else 0)) ∧ ∃ k, w' = wr.drewN k)) := End_rs HR.out
            have HXE : Hid (∀ q, Calls Tryd.prog 45 #[.pointer (some ⟨xb, 0, none⟩)] (wr.drewN q) (fun e w' => e = .returned (.int .i64 (if err ≠ 0 then err else if i < n1 then 3 else 0)) ∧ ∃ k, w' = (wr.drewN q).drewN k)) := fun q => XEnd (HX.out.drewN q)
            generalize (if err ≠ 0 then err else if i < n1 then 3 else 0) = En at *
            have e4 : (En == En) = true := beq_self_eq_true _
            go_wp2_with fail
            go_fit HE.out
            rintro e wy ⟨rfl, q1, rfl⟩
            go_wp2_with fail
            go_fit (HXE.out q1)
            rintro e wz ⟨rfl, q2, rfl⟩
            have HBz := Lib.hid (bdrew (q := q1 + q2) HB.out)
            go_wp2_with fail
            go_fit (awake_any _ (HT.out.later HBz.out))
            rintro e w7 ⟨rfl, hb7⟩
            have H7 := Lib.hid (HBz.out.trans (hb7.mono HBz.out.size))
            clear hb7
            go_wp2_with fail
            go_ret
            exact ⟨rfl, H7.out⟩

end Go.Proofs.YtpdabpcdmenlaaaDoor
