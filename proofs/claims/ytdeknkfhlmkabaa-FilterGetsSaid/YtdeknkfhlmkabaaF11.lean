/-
  Walks: Holds and Pass.
-/
import Derived.Test.YtdeknkfhlmkabaaF10
namespace Go.Proofs.Ytdeknkfhlmkabaa
set_option linter.unusedVariables false
set_option linter.unusedSimpArgs false
open Go.RowKit

theorem asks_any (ev : Kev) (hs : ev.now.size ≤ 1073741824) : ∀ (m : Nat) (f : Fl) (ah : Nat), (ec m f ah).2 = 0 → Light f → ∀ (w : World) (S : Nat → Prop) (q : Value), Qu w S q f → Asks q (hold m f ev) ev w
  | 0, f, ah, h, _, w, S, q, hq => by simp [ec] at h
  | m + 1, f, ah, h, hl, w, S, q, hq => by
    have IH : ∀ k ∈ f.kids, ∀ (w : World) (S : Nat → Prop) (q : Value), Qu w S q k → Asks q (hold m k ev) ev w := fun k hk w S q hq => by
      obtain ⟨a, ha⟩ := ok_kid h hk
      exact asks_any ev hs m k a ha (hl.kid hk) w S q hq
    cases hq with
    | all f h1 h2 h3 h4 h5 h6 =>
      have hm := ok_may h
      have h0 : f.kind = 0 := by
        by_cases e : f.kind = 0
        · exact e
        · simp [mayF, e, h1, h2, h3, h4, h5, h6] at hm
      rw [show hold (m + 1) f ev = true by simp [hold, h0]]
      exact asks_all ev w
    | begins f hk =>
      rw [show hold (m + 1) f ev = beginsB ev.key f.text by simp [hold, hk]]
      exact asks_begins _ ev w
    | equals f hk =>
      rw [show hold (m + 1) f ev = eqB f.name f.text ev by simp [hold, hk]]
      exact asks_equals _ _ ev w hs
    | puts f hk =>
      rw [show hold (m + 1) f ev = ev.has by simp [hold, hk]]
      exact asks_puts ev w
    | nots f k q hk hks hq =>
      rw [show hold (m + 1) f ev = !(hold m k ev) by simp [hold, hk, hks]]
      obtain ⟨t, x, e, _⟩ := hq.iface
      exact asks_not q _ ev w ⟨t, x, e⟩ (fun W hb => IH k (by rw [hks]; simp) W S q (hq.later hb))
    | each f a c qs hk hc hs hq =>
      rw [show hold (m + 1) f ev = f.kids.all (hold m · ev) by simp [hold, hk]]
      refine asks_each a c f.kids qs _ ev w hc hl.kids (hs.imp id (fun ⟨g, ha, _, hg, hc⟩ => ⟨g, ha, hg, hc⟩)) (fun i k hk W hb => IH k (List.mem_of_getElem? hk) W S _ ((hq i k hk).later hb))
    | some_ f a c qs hk hc hs hq =>
      rw [show hold (m + 1) f ev = f.kids.any (hold m · ev) by simp [hold, hk]]
      refine asks_some a c f.kids qs _ ev w hc hl.kids (hs.imp id (fun ⟨g, ha, _, hg, hc⟩ => ⟨g, ha, hg, hc⟩)) (fun i k hk W hb => IH k (List.mem_of_getElem? hk) W S _ ((hq i k hk).later hb))

set_option maxRecDepth 100000 in
set_option maxHeartbeats 1600000 in
theorem Holds_any {w : World} {u : Value} (f : Fl) (ev : Kev) (hl : Light f) (hk : KidsIn w w.heap.size u f.kids) (hs : ev.now.size ≤ 1073741824) : Calls Try.prog 18 #[flV f u, evV ev] w (HoldP (holdsF f ev) w) := by
  obtain ⟨a, cap, rfl, _, _⟩ := hk.slice
  have hb1 := lay_alloc w (.cells #[.int .i64 f.kind, .string f.name, .string f.text, .slice a f.kids.length cap] 24)
  have hb2 := lay_alloc (w.alloc (.cells #[.int .i64 f.kind, .string f.name, .string f.text, .slice a f.kids.length cap] 24)) (.cells #[.int .i64 ev.pos, .string ev.key, .bool ev.had, .string ev.old, .bool ev.has, .string ev.now] 32)
  have hb0 := hb1.trans (hb2.mono hb1.size)
  have HC := Lib.hid (Ready_any f hl (hk.on hb0))
  have HB0 := Lib.hid hb0
  have hY := (DC.alloc (w.alloc (.cells #[.int .i64 f.kind, .string f.name, .string f.text, .slice a f.kids.length cap] 24)) [.int .i64 ev.pos, .string ev.key, .bool ev.had, .string ev.old, .bool ev.has, .string ev.now] 32)
  have hsz : (w.alloc (.cells #[.int .i64 f.kind, .string f.name, .string f.text, .slice a f.kids.length cap] 24)).heap.size = w.heap.size + 1 := by simp
  rw [hsz] at hY
  have HY := Lib.hid hY
  unfold flV at HC ⊢
  unfold evV
  clear hk hb0 hb1 hb2 hY hsz
  go_enter Try.func18, Try.ntmps18
  go_wp2_with fail
  go_fit HC.out
  rintro e w1 ⟨v, rfl, hb, hv⟩
  have HB := Lib.hid (HB0.out.trans (hb.mono HB0.out.size))
  have hY1 := HY.out.below hb
  have y0 := hY1.cells 0 _ rfl
  have y1 := hY1.cells 1 _ rfl
  have y2 := hY1.cells 2 _ rfl
  have y3 := hY1.cells 3 _ rfl
  have y4 := hY1.cells 4 _ rfl
  have y5 := hY1.cells 5 _ rfl
  clear hb hY1
  rcases hv with ⟨h0, hq⟩ | ⟨h0, rfl⟩
  · have hty := fun W => is_q hq W
    have hE : holdsF f ev = hold 6 f ev := by simp [holdsF, h0]
    obtain ⟨t, x, K, r, hqv, hm, hcf, hC⟩ := asks_any ev hs 6 f 0 h0 hl w1 _ v hq
    subst hqv
    rw [← hE] at hC
    unfold evV at hC
    have HC2 := Lib.hid hC
    clear hq h0 hE hC hs hl
    go_wp2_with fail
    go_fit HC2.out
    rintro e w2 ⟨rfl, hb2⟩
    have HB2 := Lib.hid (HB.out.trans (hb2.mono HB.out.size))
    clear hb2
    go_wp2_with fail
    go_ret
    exact ⟨rfl, HB2.out⟩
  · have hty := fun W => no_q (.int .i64 (ckF f)) W
    have HE : Hid (holdsF f ev = false) := by show _ = _; simp [holdsF, h0]
    clear h0
    go_wp2_with fail
    go_ret
    rw [HE.out]
    exact ⟨rfl, HB.out⟩

def PassP (l : List Kev) (w : World) (e : Ending) (w' : World) : Prop := ∃ v, e = .returned v ∧ Rw evL 32 w w' v l
theorem Try.infoEv : (Try.prog.info? 32).map (fun i => (i.zero, i.size, i.bytes)) = some (some (.agg #[.int .i64 0, .string ByteArray.empty, .bool false, .string ByteArray.empty, .bool false, .string ByteArray.empty]), 6, 72) := by kernel_rfl
theorem pass_step {f : Fl} {l : List Kev} {i : Nat} {e : Kev} (h : l[i]? = some e) : passF f (l.take (i + 1)) = passF f (l.take i) ++ (if holdsF f e = true then [e] else []) := by
  unfold passF
  rw [List.take_add_one, h, List.filter_append]
  simp only [Option.toList, List.filter_cons, List.filter_nil]
theorem pass_len (f : Fl) (l : List Kev) (i : Nat) : (passF f (l.take i)).length ≤ i := Nat.le_trans (List.length_filter_le _ _) (List.length_take_le _ _)
set_option maxRecDepth 100000 in
set_option maxHeartbeats 3200000 in
theorem Pass_any {w : World} {u v : Value} (f : Fl) (l : List Kev) (hl : Light f) (hk : KidsIn w w.heap.size u f.kids) (hv : evL.In w v l) (hll : l.length ≤ 1000000) (hs : ∀ e ∈ l, e.now.size ≤ 1073741824) : Calls Try.prog 22 #[flV f u, v] w (PassP (passF f l) w) := by
  obtain ⟨a, cap, rfl, _, _⟩ := hk.slice
  obtain ⟨va, vc, rfl, hvc1, hvc2⟩ := hv.slice
  have hb1 := lay_alloc w (.cells #[.int .i64 f.kind, .string f.name, .string f.text, .slice a f.kids.length cap] 24)
  have HC := Lib.hid (Ready_any f hl (hk.on hb1))
  have HB0 := Lib.hid hb1
  have HV := Lib.hid hv
  have HS := Lib.hid hs
  have HL := Lib.hid hl
  unfold flV at HC ⊢
  clear hk hb1 hv hs hl
  go_enter Try.func22, Try.ntmps22
  go_wp2_with fail
  go_fit HC.out
  rintro e w1 ⟨q, rfl, hb, hv⟩
  have HB := Lib.hid (HB0.out.trans (hb.mono HB0.out.size))
  clear hb
  rcases hv with ⟨h0, hq⟩ | ⟨h0, rfl⟩
  · have hty := fun W => is_q hq W
    have HQ := Lib.hid hq
    have H0 := Lib.hid h0
    obtain ⟨qt, qx, hqv, _⟩ := hq.iface
    subst hqv
    clear hq h0
    go_wp2_with fail
    go_loopw [5, 19] (fun lv iv wr => ∃ i : Nat, iv = .int .i64 i ∧ i ≤ l.length ∧ Hid (Rw evL 32 w1 wr lv (passF f (l.take i))))
      (fun _ v _ => l.length - (intOf v).toNat)
    case atStart => exact ⟨0, rfl, Nat.zero_le _, ⟨World.ownsRow_nil _ _ _ _, Below.refl _ _⟩⟩
    case round =>
      obtain ⟨i, rfl, hin, hrw⟩ := hrel
      have hb : Hid (Below w1.heap.size w1 wr) := hrw.out.grown
      have ei : IntKind.i64.wrap ((i : Int) + 1) = (i : Int) + 1 := IntWalk.i64_in _ (by omega)
      by_cases hlt : i < l.length
      · obtain ⟨e, he⟩ : ∃ e, l[i]? = some e := ⟨l[i], List.getElem?_eq_getElem hlt⟩
        obtain ⟨g, off, rfl, _, hcell⟩ := (HV.out.later (HB.out.trans (hb.out.mono HB.out.size))).cells he
        have k0 : wr.cell? ⟨g, off + i * 6, none⟩ = some (.int .i64 e.pos) := hcell 0 _ rfl
        have k1 : wr.cell? ⟨g, off + i * 6 + 1, none⟩ = some (.string e.key) := hcell 1 _ rfl
        have k2 : wr.cell? ⟨g, off + i * 6 + 2, none⟩ = some (.bool e.had) := hcell 2 _ rfl
        have k3 : wr.cell? ⟨g, off + i * 6 + 3, none⟩ = some (.string e.old) := hcell 3 _ rfl
        have k4 : wr.cell? ⟨g, off + i * 6 + 4, none⟩ = some (.bool e.has) := hcell 4 _ rfl
        have k5 : wr.cell? ⟨g, off + i * 6 + 5, none⟩ = some (.string e.now) := hcell 5 _ rfl
        have hI1 : (i : Int) < ((l.length : Nat) : Int) := by omega
        have hI2 : (0 : Int) ≤ (i : Int) := by omega
        have hal := lay_alloc wr (.cells #[.int .i64 e.pos, .string e.key, .bool e.had, .string e.old, .bool e.has, .string e.now] 32)
        have HAL := Lib.hid hal
        have HD := Lib.hid (DC.alloc wr [.int .i64 e.pos, .string e.key, .bool e.had, .string e.old, .bool e.has, .string e.now] 32)
        obtain ⟨t, x, K, r, hqv, hm, hcf, hC⟩ := asks_any e (HS.out e (List.mem_of_getElem? he)) 6 f 0 H0.out HL.out (wr.alloc (.cells #[.int .i64 e.pos, .string e.key, .bool e.had, .string e.old, .bool e.has, .string e.now] 32)) _ (.iface qt qx) ((HQ.out.later hb.out).later hal)
        simp only [Value.iface.injEq] at hqv
        obtain ⟨rfl, rfl⟩ := hqv
        rw [show hold 6 f e = holdsF f e by have := H0.out; simp [holdsF, show ckF f = 0 from this]] at hC
        unfold evV at hC
        have HC2 := Lib.hid hC
        have HST := Lib.hid (pass_step (f := f) he)
        have HN : Hid ((passF f (l.take i)).length ≤ 1000000) := by show _ ≤ _; have := pass_len f l i; omega
        have HR1 := Lib.hid (hrw.out.alloc (.cells #[.int .i64 e.pos, .string e.key, .bool e.had, .string e.old, .bool e.has, .string e.now] 32))
        clear he hcell hal hC hrw hb
        go_wp2_with fail
        go_fit HC2.out
        rintro e' w3 ⟨rfl, hb3⟩
        have hR3 := HR1.out.below hb3
        have hD3 := HD.out.below hb3
        have d0 := hD3.cells 0 _ rfl
        have d1 := hD3.cells 1 _ rfl
        have d2 := hD3.cells 2 _ rfl
        have d3 := hD3.cells 3 _ rfl
        have d4 := hD3.cells 4 _ rfl
        have d5 := hD3.cells 5 _ rfl
        obtain ⟨ea, ec, hev, _, _⟩ := hR3.slice
        subst hev
        have HR3 := Lib.hid hR3
        have HA3 : Hid (w1.heap.size ≤ w3.heap.size) := hR3.grown.size
        clear hb3 hR3 hD3 HR1 HC2 k0 k1 k2 k3 k4 k5 HD HAL
        cases hh : holdsF f e
        · have HE : Hid (passF f (l.take (i + 1)) = passF f (l.take i)) := by show _ = _; rw [HST.out, hh]; simp
          clear hh
          go_wp2_with fail
          refine ⟨⟨i + 1, by simp, hlt, ?_⟩, by show l.length - ((i : Int) + 1).toNat < l.length - ((i : Int)).toNat; omega⟩
          show Rw _ _ _ _ _ _
          rw [HE.out]; exact HR3.out
        · have HE : Hid (passF f (l.take (i + 1)) = passF f (l.take i) ++ [e]) := by show _ = _; rw [HST.out, hh]; simp
          clear hh
          generalize hes : passF f (l.take i) = es at *
          clear hes HST
          go_wp2_with (at_builtin; refine wpList_pushI rfl _ _ 29 32 _ 6 72 rfl Try.underlying29 Try.infoEv rfl (by decide) w1.heap.size es.length _ (evL.all es) rfl HR3.out.own #[.int .i64 e.pos, .string e.key, .bool e.had, .string e.old, .bool e.has, .string e.now] rfl (evL.one e) rfl (by have := HN.out; omega) (by decide) HA3.out ?_; intro g4 c4 w4 hown hgrow hat hlt4; have HR4 := Lib.hid (HR3.out.push e hown hgrow); clear hown hgrow hat hlt4)
          refine ⟨⟨i + 1, by simp, hlt, ?_⟩, by show l.length - ((i : Int) + 1).toNat < l.length - ((i : Int)).toNat; omega⟩
          show Rw _ _ _ _ _ _
          rw [HE.out]; exact HR4.out
      · obtain rfl : i = l.length := by omega
        have HR : Hid (Rw evL 32 w wr u5 (passF f l)) := by have h := hrw.out; rw [List.take_length] at h; exact h.base HB.out
        go_wp2_with fail
        go_ret
        exact ⟨_, rfl, HR.out⟩
  · have hty := fun W => no_q (.int .i64 (ckF f)) W
    have HE : Hid (passF f l = []) := by
      show _ = _
      unfold passF
      rw [List.filter_eq_nil_iff]
      intro e _
      simp [holdsF, h0]
    clear h0
    go_wp2_with fail
    go_ret
    rw [HE.out]
    exact ⟨_, rfl, World.ownsRow_nil _ _ _ _, HB.out⟩
end Go.Proofs.Ytdeknkfhlmkabaa
