/-
  GroupAll walked.
-/
import Derived.Test.YtdgnjalbpiciiaaAllM
import Derived.BigQuiet
namespace Go.Proofs.Ytdgnjalbpiciiaa
set_option linter.unusedVariables false
set_option linter.unusedSimpArgs false
open Go.RowKit Go.Shelf

theorem infoEvs : (Try.prog.info? 49).map (fun i => (i.zero, i.size, i.bytes)) = some (some (.slice none 0 0), 1, 24) := by kernel_rfl
theorem wrap_in (x : Int) {n : Nat} (hn : 0 < n) (hn2 : n ≤ 100) : ∃ r : Nat, r < n ∧ wrap64 ((IntKind.u64.wrap x).tmod (n : Int)) = (r : Int) := by
  have h0 : 0 ≤ IntKind.u64.wrap x := by rw [IntKind.wrap_u64]; omega
  generalize IntKind.u64.wrap x = u at *
  have h2 := Int.emod_nonneg u (b := (n : Int)) (by omega)
  have h3 := Int.emod_lt_of_pos u (b := (n : Int)) (by omega)
  refine ⟨(u % (n : Int)).toNat, by omega, ?_⟩
  rw [Int.tmod_eq_emod_of_nonneg h0, IntWalk.wrap64_in _ (by omega)]
  omega
theorem parts_num (x : Int) : ∃ N : Nat, 1 ≤ N ∧ N ≤ 12 ∧ wrap64 (1 + wrap64 ((IntKind.u64.wrap x).tmod 12)) = (N : Int) := by
  obtain ⟨r, hr, e⟩ := wrap_in x (n := 12) (by decide) (by decide)
  refine ⟨r + 1, by omega, by omega, ?_⟩
  have e' : wrap64 ((IntKind.u64.wrap x).tmod 12) = (r : Int) := e
  rw [e', IntWalk.wrap64_in _ (by omega)]
  omega
theorem sl_cell {w : World} {g off n c k : Nat} {l : List Sl} {s : Sl} (h : slL.In w (.slice (some ⟨g, off, none⟩) n c) l) (hx : l[k]? = some s) : w.cell? ⟨g, off + k, none⟩ = some s.v := by
  obtain ⟨g', off', e, _, hc⟩ := h.cells hx
  cases e
  have := hc 0 s.v rfl
  rw [show slL.sz = 1 from rfl, Nat.mul_one, Nat.add_zero] at this
  exact this
theorem sl_at {w1 w w3 : World} {v : Value} {l : List Sl} {k : Nat} {s : Sl} (h : Rw slL 49 w1 w v l) (hx : l[k]? = some s) (hk : ∀ b, w1.heap.size ≤ b → b < w.heap.size → w3.heap[b]? = w.heap[b]?) : ∃ g off c, v = .slice (some ⟨g, off, none⟩) l.length c ∧ w3.cell? ⟨g, off + k, none⟩ = some s.v := by
  obtain ⟨a, c, rfl, _, _⟩ := h.slice
  obtain ⟨g, off, rfl, _, _⟩ := h.told.cells hx
  have h1 := sl_cell h.told hx
  obtain ⟨h2, h3⟩ := h.lt g rfl
  exact ⟨g, off, c, rfl, (World.cell?_of_block (a := ⟨g, off + k, none⟩) (hk g h2 h3)).trans h1⟩
theorem own_at {w : World} {s : Sl} {l : List Kev} {m : Nat} {e : Kev} (h : Own evL 51 w s l) (hx : l[m]? = some e) : ∃ g, s.a = some ⟨g, 0, none⟩ ∧ m < s.n ∧ ∀ j u, (evL.enc e)[j]? = some u → w.cell? ⟨g, m * 6 + j, none⟩ = some u := by
  have h' := h
  obtain ⟨h1, _, _, h4⟩ := h
  have hm := (List.getElem?_eq_some_iff.1 hx).1
  rcases h4 with rfl | ⟨g, ha, _, _⟩
  · have : l.length = 0 := h1.symm
    omega
  · exact ⟨g, ha, by omega, fun j u hu => h'.cell ha hx hu⟩
/-- Each part's list, in a row of its own. -/
def Lists (N : Nat) (l : List Kev) (w1 w : World) (v : Value) (ss : List Sl) : Prop := ∀ (p : Nat) (s : Sl), ss[p]? = some s → Own evL 51 w s (passP N p l) ∧ (∀ b ∈ blk s, w1.heap.size ≤ b) ∧ ∀ b ∈ blk s, some b ≠ v.ownBlock
theorem Lists.more {N : Nat} {l : List Kev} {w1 w w3 w4 : World} {v : Value} {ss : List Sl} {s : Sl} {g c : Nat} (h : Lists N l w1 w v ss) (hR : Rw slL 49 w1 w v ss) (hb : Below w.heap.size w w3) (hs : Own evL 51 w3 s (passP N ss.length l)) (hsb : ∀ b ∈ blk s, w.heap.size ≤ b)
    (hg : w3.grownBy w4 v.ownBlock) (hat : v.ownBlock = some g ∨ w3.heap.size ≤ g) : Lists N l w1 w4 (.slice (some ⟨g, 0, none⟩) (ss.length + 1) c) (ss ++ [s]) := by
  intro p t ht
  have hvl : ∀ k, v.ownBlock = some k → k < w.heap.size := fun k hk => (hR.lt k hk).2
  rcases Nat.lt_or_ge p ss.length with hp | hp
  · rw [List.getElem?_append_left hp] at ht
    obtain ⟨h1, h2, h3⟩ := h p t ht
    have hl := h1.lt
    refine ⟨h1.kept fun k hk => (hg.block k (Nat.lt_of_lt_of_le (hl k hk) hb.size) (h3 k hk)).trans (hb.block k (hl k hk)), h2, fun b hb' e => ?_⟩
    have e' : b = g := by simpa [Value.ownBlock] using e
    rcases hat with ha | ha
    · exact h3 b hb' (by rw [ha, e'])
    · have := hl b hb'; have := hb.size; omega
  · rw [List.getElem?_append_right hp] at ht
    have hp0 : p - ss.length = 0 := by
      have := (List.getElem?_eq_some_iff.1 ht).1
      simp at this; omega
    rw [hp0] at ht
    obtain rfl : s = t := by simpa using ht
    obtain rfl : p = ss.length := by omega
    have hl := hs.lt
    have hn : ∀ k ∈ blk s, some k ≠ v.ownBlock := fun k hk e => by have := hsb k hk; have := hvl k e.symm; omega
    refine ⟨hs.kept fun k hk => hg.block k (hl k hk) (hn k hk), fun b hb' => Nat.le_trans hR.grown.size (hsb b hb'), fun b hb' e => ?_⟩
    have e' : b = g := by simpa [Value.ownBlock] using e
    rcases hat with ha | ha
    · exact hn b hb' (by rw [ha, e'])
    · have := hl b hb'; omega

set_option maxRecDepth 100000 in
set_option maxHeartbeats 6400000 in
theorem All_law {w : World} {v : Value} (parts : Int) {l : List Kev} (hwp : W64 parts) (hv : evL.In w v l) (hs : ∀ e ∈ l, e.key.size ≤ 9223372036854775807) : Calls Try.prog 9 #[.int .i64 parts, v] w (BoolP true w) := by
  obtain ⟨va, vc, rfl, hvc1, hvc2⟩ := hv.slice
  have HV := Lib.hid hv
  have HS := Lib.hid hs
  clear hv hs hwp
  go_enter Try.func9, Try.ntmps9
  go_wp2_with fail
  go_loopw [5, 6] (fun cv iv wr => ∃ i c : Nat, cv = .int .i64 c ∧ iv = .int .i64 i ∧ i ≤ l.length ∧ c ≤ 8193 ∧ Hid (c = cost (l.take i)) ∧ Hid (w = wr)) (fun _ v _ => l.length - (intOf v).toNat)
  case atStart => exact ⟨0, 0, rfl, rfl, Nat.zero_le _, by omega, rfl, rfl⟩
  case round =>
    obtain ⟨i, c, rfl, rfl, hin, hc8, hc, hw⟩ := hrel
    obtain rfl := hw.out
    by_cases hcl : (c : Int) ≤ 4096
    · by_cases hlt : i < l.length
      · obtain ⟨e, he⟩ : ∃ e, l[i]? = some e := ⟨l[i], List.getElem?_eq_getElem hlt⟩
        obtain ⟨g, off, rfl, _, hcell⟩ := HV.out.cells he
        have k1 : w.cell? ⟨g, off + i * 6 + 1, none⟩ = some (.string e.key) := hcell 1 _ rfl
        have hI1 : (i : Int) < ((l.length : Nat) : Int) := by omega
        have hI2 : (0 : Int) ≤ (i : Int) := by omega
        have hes := HS.out e (List.mem_of_getElem? he)
        have HC : Hid (c + (1 + min e.key.size 4096) = cost (l.take (i + 1))) := by show _ = _; rw [cost_step he, ← hc.out]
        clear he hcell
        go_wp2_with fail
        exact ⟨⟨i + 1, c + (1 + min e.key.size 4096), by congr 1; omega, by go_num, by omega, by omega, HC, by first | exact trivial | rfl⟩, by simp [intOf]; omega⟩
      · obtain rfl : i = l.length := by omega
        have hfit := cost_fit (l := l) (by have := hc.out; rw [List.take_length] at this; omega)
        have HF := Lib.hid hfit.2
        have hll : l.length ≤ 4096 := by have := hc.out; rw [List.take_length] at this; omega
        clear hfit hc
        obtain ⟨N, hN1, hN12, hNw⟩ := parts_num parts
        have hmk := run_make_row' (P := Try.prog) 43 3 (.int .i64 0) 8 Try.underlying43 infoInt rfl .i64 .i64 N (by omega) (by omega)
        go_wp2_with fail
        have HR0 : Hid (IRow (w.alloc (.cells (madeCells #[.int .i64 0] N) 3)) w.heap.size (ats N (l.take 0))) := by
          have h := IRow.made w N
          rw [← ats_nil] at h
          exact h
        have HB1 := Lib.hid (below_alloc w (.cells (madeCells #[.int .i64 0] N) 3))
        have HZ : Hid ((w.alloc (.cells (madeCells #[.int .i64 0] N) 3)).heap.size = w.heap.size + 1) := by show _ = _; simp
        clear hmk hNw
        generalize w.alloc _ = w1 at *
        go_loopw [5, 8, 44] (fun nv lv iv wr => ∃ (k : Nat) (ss : List Sl), nv = .int .i64 (tot N k l : Nat) ∧ iv = .int .i64 k ∧ k ≤ N ∧ ss.length = k ∧ Hid (Rw slL 49 w1 wr lv ss) ∧ Hid (Lists N l w1 wr lv ss)) (fun _ _ iv _ => N - (intOf iv).toNat)
        case atStart => exact ⟨0, [], rfl, rfl, Nat.zero_le _, rfl, Rw.nil w1, fun p s h => by simp at h⟩
        case round =>
          obtain ⟨k, ss, rfl, rfl, hk, hsl, hR, hL⟩ := hrel
          by_cases hlt : k < N
          · have hkN : (k : Int) < (N : Int) := by omega
            obtain rfl := hsl
            have HP := Lib.hid (Pass_any (w := wr) (N : Int) (ss.length : Int) (w64 (by omega) (by omega)) (w64 (by omega) (by omega)) ((HV.out.later HB1.out).later (hR.out.grown.mono (Nat.le_refl _))) (by omega) (fun e he => by have := HF.out e he; omega))
            obtain ⟨ao, co, rfl, _, _⟩ := hR.out.slice
            have htl : tot N ss.length l ≤ 49152 := Nat.le_trans (tot_le N ss.length l) (Nat.le_trans (Nat.mul_le_mul (by omega : ss.length ≤ 12) (by omega : l.length ≤ 4096)) (by decide))
            have HTS : Hid (tot N (ss.length + 1) l = tot N ss.length l + (passP N ss.length l).length) := by show _ = _; rfl
            have HpL : Hid ((passP N ss.length l).length ≤ l.length) := by show _ ≤ _; exact List.length_filter_le _ _
            go_wp2_with fail
            go_fit HP.out
            rintro e' w3 ⟨u3, rfl, hr3⟩
            have hb3 := hr3.grown
            obtain ⟨s3, rfl, hs3, hs3b, _⟩ := hr3.own'
            have HR3 := Lib.hid (hR.out.below hb3)
            have HA3 : Hid (w1.heap.size ≤ w3.heap.size) := HR3.out.grown.size
            have hn3 : s3.n = (passP N ss.length l).length := hs3.1
            have hpl := HpL.out
            have HM := Lib.hid (fun g c w4 => @Lists.more N l w1 wr w3 w4 _ ss s3 g c hL.out hR.out hb3 hs3 hs3b)
            have hts := HTS.out
            clear HP hr3 hs3 hs3b hb3 hR hL
            generalize (passP N ss.length l).length = pn at *
            generalize tot N ss.length l = tn at *
            clear hts
            have HN3 := Lib.hid hn3
            unfold Sl.v
            rw [HN3.out]
            clear hn3
            go_wp2_with (at_builtin; refine wpList_pushI rfl _ _ 62 49 _ 1 24 rfl Try.underlying62 infoEvs rfl (by decide) w1.heap.size ss.length _ (slL.all ss) rfl HR3.out.own #[.slice s3.a pn s3.c] rfl (by rw [← HN3.out]; exact slL.one s3) rfl (by omega) (by decide) HA3.out ?_; intro g4 c4 w4 hown hgrow hat hlt4; have HR4 := Lib.hid (HR3.out.push s3 (by rw [← HN3.out] at hown; exact hown) hgrow); have HL4 := Lib.hid (HM.out g4 c4 w4 hgrow hat); have d4 := sl_cell HR4.out.told (k := ss.length) (s := s3) (by simp); unfold Sl.v at d4; rw [HN3.out, Nat.zero_add] at d4; clear hown hgrow hat hlt4)
            exact ⟨⟨ss.length + 1, ss ++ [s3], by rw [HTS.out]; push_cast; rfl, by go_num, by omega, by simp, HR4, HL4⟩, by simp [intOf]; omega⟩
          · obtain rfl := hsl
            have hsN : ss.length = N := by omega
            have HT : Hid (tot N ss.length l = l.length) := by show _ = _; rw [hsN]; exact tot_all N hN1 l
            rw [HT.out]
            have HSN := Lib.hid hsN
            obtain ⟨ao, co, rfl, _, _⟩ := hR.out.slice
            obtain ⟨wq, hwq⟩ : ∃ x, x = wr := ⟨_, rfl⟩
            subst hwq
            have HR1 : Hid (IRow wq w.heap.size (ats N (l.take 0))) := HR0.out.below hR.out.grown
            have HBr : Hid (Below w.heap.size w wq) := HB1.out.trans (hR.out.grown.mono HB1.out.size)
            have hcN : ¬ (ss.length : Int) < (N : Int) := by omega
            clear HR0 hsN
            go_wp2_with fail
            go_loopw [64] (fun iv wr => ∃ i : Nat, iv = .int .i64 i ∧ i ≤ l.length ∧ Hid (IRow wr w.heap.size (ats N (l.take i))) ∧ Hid (Below w.heap.size w wr) ∧ Hid (∀ k, k < wq.heap.size → k ≠ w.heap.size → wr.heap[k]? = wq.heap[k]?) ∧ Hid (wq.heap.size ≤ wr.heap.size)) (fun iv _ => l.length - (intOf iv).toNat)
            case atStart => exact ⟨0, rfl, Nat.zero_le _, HR1, HBr, fun _ _ _ => rfl, Nat.le_refl _⟩
            case round =>
              obtain ⟨i, rfl, hin, hA, hb, hkp, hsz⟩ := hrel
              by_cases hlt2 : i < l.length
              · obtain ⟨e, he⟩ : ∃ e, l[i]? = some e := ⟨l[i], List.getElem?_eq_getElem hlt2⟩
                obtain ⟨g, off, rfl, _, hcell⟩ := (HV.out.later hb.out).cells he
                have k0 : wr.cell? ⟨g, off + i * 6, none⟩ = some (.int .i64 e.pos) := hcell 0 _ rfl
                have k1 : wr.cell? ⟨g, off + i * 6 + 1, none⟩ = some (.string e.key) := hcell 1 _ rfl
                have k2 : wr.cell? ⟨g, off + i * 6 + 2, none⟩ = some (.bool e.had) := hcell 2 _ rfl
                have k3 : wr.cell? ⟨g, off + i * 6 + 3, none⟩ = some (.string e.old) := hcell 3 _ rfl
                have k4 : wr.cell? ⟨g, off + i * 6 + 4, none⟩ = some (.bool e.has) := hcell 4 _ rfl
                have k5 : wr.cell? ⟨g, off + i * 6 + 5, none⟩ = some (.string e.now) := hcell 5 _ rfl
                have hI1 : (i : Int) < ((l.length : Nat) : Int) := by omega
                have hI2 : (0 : Int) ≤ (i : Int) := by omega
                have hks := HF.out e (List.mem_of_getElem? he)
                have HD := Lib.hid (DC.alloc wr [.int .i64 e.pos, .string e.key, .bool e.had, .string e.old, .bool e.has, .string e.now] 51)
                have HB2 : Hid (Below wr.heap.size wr (wr.alloc (.cells #[.int .i64 e.pos, .string e.key, .bool e.had, .string e.old, .bool e.has, .string e.now] 51))) := below_alloc wr _
                have HC := Lib.hid (Part_any (w := wr.alloc (.cells #[.int .i64 e.pos, .string e.key, .bool e.had, .string e.old, .bool e.has, .string e.now] 51)) N e.key (w64 (by omega) (by omega)) (by omega))
                have HI := Lib.hid (partE_in (parts := (N : Int)) (by omega) e.key)
                have HNx := Lib.hid (pass_next hN1 he)
                have HSt := Lib.hid (fun p => @ats_step N hN1 l i p e he)
                clear he hcell
                go_wp2_with fail
                go_fit HC.out
                rintro e' w3 ⟨rfl, hb3⟩
                obtain ⟨q, hq⟩ : ∃ q : Nat, partE N e.key = q := ⟨(partE N e.key).toNat, by have := HI.out; omega⟩
                have hqN : q < N := by have := HI.out; omega
                have HSq := Lib.hid (HSt.out q hq)
                rw [hq] at HNx
                rw [hq]
                have HBz : Hid (Below wr.heap.size wr w3) := HB2.out.trans (hb3.mono HB2.out.size)
                have HKp : Hid (∀ k, k < wq.heap.size → k ≠ w.heap.size → w3.heap[k]? = wq.heap[k]?) := fun k h1 h2 => (HBz.out.block k (Nat.lt_of_lt_of_le h1 hsz.out)).trans (hkp.out k h1 h2)
                have HA3 := Lib.hid (hA.out.below HBz.out)
                have hqs : q < ss.length := by have := HSN.out; omega
                obtain ⟨hO, hOb, _⟩ := hL.out q ss[q] (List.getElem?_eq_getElem hqs)
                have hO3 : Own evL 51 w3 ss[q] (passP N q l) := hO.kept fun k hk => HKp.out k (hO.lt k hk) (by have := hOb k hk; have := HZ.out; omega)
                obtain ⟨gs, hga, hms, hcs⟩ := own_at hO3 HNx.out
                obtain ⟨gl, offl, cl, hlv, dl⟩ := sl_at (w3 := w3) (k := q) hR.out (List.getElem?_eq_getElem hqs) (fun b h1 h2 => HKp.out b h2 (by have := HZ.out; omega))
                have dA := HA3.out.cell (ats_at hqN (l.take i))
                have fA := HA3.out.fz q
                have hD3 := HD.out.below hb3
                have d0 := hD3.cells 0 _ rfl
                have d1 := hD3.cells 1 _ rfl
                have d2 := hD3.cells 2 _ rfl
                have d3 := hD3.cells 3 _ rfl
                have d4 := hD3.cells 4 _ rfl
                have d5 := hD3.cells 5 _ rfl
                have c0 : w3.cell? ⟨gs, (passP N q (l.take i)).length * 6, none⟩ = some (.int .i64 e.pos) := hcs 0 _ rfl
                have c1 := hcs 1 _ rfl
                have c2 := hcs 2 _ rfl
                have c3 := hcs 3 _ rfl
                have c4 := hcs 4 _ rfl
                have c5 := hcs 5 _ rfl
                have hN := fun W => events_same W e
                have hml : (passP N q (l.take i)).length ≤ 4096 := Nat.le_trans (pass_len N q l i) (by omega)
                unfold Sl.v at dl
                rw [hga] at dl
                cases hlv
                generalize (passP N q (l.take i)).length = m at *
                generalize ss[q] = sq at *
                clear HC HD HB2 hb3 k0 k1 k2 k3 k4 k5 hO hOb hO3 hcs hD3 HSt HI HNx
                have z0 : ¬ (q : Int) < 0 := by omega
                have z1 : ¬ (N : Int) ≤ (q : Int) := by omega
                have z2 : ¬ (sq.n : Int) ≤ (m : Int) := by omega
                have z3 : (q : Int) < (N : Int) := by omega
                have z4 : (m : Int) < (sq.n : Int) := by omega
                have y0 : decide ((q : Int) < 0) = false := decide_eq_false z0
                have y1 : decide ((N : Int) ≤ (q : Int)) = false := decide_eq_false z1
                have y2 : decide ((sq.n : Int) ≤ (m : Int)) = false := decide_eq_false z2
                have y3 : decide (N ≤ q) = false := decide_eq_false (by omega)
                have y4 : decide (sq.n ≤ m) = false := decide_eq_false (by omega)
                have z5 : (q : Int) < (ss.length : Int) := by omega
                have HSet : Hid (∀ n, IRow ((w3.drewN n).setCell ⟨w.heap.size, q, none⟩ (.int .i64 ((m : Int) + 1))) w.heap.size (ats N (l.take (i + 1)))) := fun n => by
                  rw [HSq.out]
                  exact IRow.set (w := w3.drewN n) HA3.out q ((m : Int) + 1)
                have HBx : Hid (∀ n, Below w.heap.size w ((w3.drewN n).setCell ⟨w.heap.size, q, none⟩ (.int .i64 ((m : Int) + 1)))) := fun n => (below_drewN (hb.out.trans (HBz.out.mono hb.out.size)) n).setCell (p := ⟨w.heap.size, q, none⟩) (Nat.le_refl _) _
                go_wp2_with fail
                go_quiet (fail)
                go_wp2_with fail
                exact ⟨⟨i + 1, by go_num, by omega, HSet.out nq, HBx.out nq, fun k h1 h2 => (Below.heap_setCell _ _ _ _ h2).trans (HKp.out k h1 h2), Nat.le_trans hsz.out (by rw [set_size]; exact HBz.out.size)⟩, by simp [intOf]; omega⟩
              · obtain rfl : i = l.length := by omega
                have HAw := Lib.hid (awake_then hb.out)
                go_wp2_with fail
                go_fit HAw.out
                rintro e' w6 ⟨rfl, hb6⟩
                go_wp2_with fail
                go_ret
                exact ⟨rfl, hb6⟩
    · have HA := Lib.hid (awake_then (Below.refl w.heap.size w))
      go_wp2_with fail
      all_goals
        go_fit HA.out
        rintro e' w6 ⟨rfl, hb6⟩
        go_wp2_with fail
        go_ret
        exact ⟨rfl, hb6⟩
end Go.Proofs.Ytdgnjalbpiciiaa
