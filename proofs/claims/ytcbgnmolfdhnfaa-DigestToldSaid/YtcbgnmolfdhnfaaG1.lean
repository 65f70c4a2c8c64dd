/-
  Pairs placed, walked.
-/
import Derived.Test.YtcbgnmolfdhnfaaG0
namespace Go.Proofs.Ytcbgnmolfdhnfaa
set_option linter.unusedVariables false
set_option linter.unusedSimpArgs false
open Go.RowKit

/-- The same at a step of a region that draws its order. -/
theorem step_pushI {P : Program} {w0 : World} {ops : Array Oper} {o : Oper} {a : Act} {K : Act → World → Prop} {Q : Exit → Act → World → Prop} {E' : Prop} (hgd : o.guard = none) (s x : Operand) (T E : TypeId) (zero : Value) (size bytes : Nat)
    (ho : o.op = .call { callee := .builtin .append, args := #[s, x], argTypes := #[T, T] })
    (hT : P.underlying T = some (.slice E)) (hinfo : (P.info? E).map (fun i => (i.zero, i.size, i.bytes)) = some (some zero, size, bytes)) (hz : zero.cells.size = size) (hsz : 0 < size)
    (B n : Nat) (v : Value) (xs : List Value) (hs : a.eval s = v) (hown : w0.ownsRow B E size v n xs)
    (us : Array Value) (hul : us.size = size) (hu : ∀ u ∈ us.toList, u.oneCell' = true) (hx : a.eval x = .slice (some ⟨w0.heap.size, 0, none⟩) 1 1) (h63 : n + 1 ≤ 1073741825) (hb : bytes ≤ 65536) (hB : B ≤ w0.heap.size)
    (h : ∀ g c w', w'.ownsRow B E size (.slice (some ⟨g, 0, none⟩) (n + 1) c) (n + 1) (xs ++ us.toList) → w0.grownBy w' v.ownBlock → (v.ownBlock = some g ∨ w0.heap.size ≤ g) → w0.heap.size < w'.heap.size → K (a.put o.dst (.slice (some ⟨g, 0, none⟩) (n + 1) c)) w') :
    if Region.wanted o (yielded ops a.tmps) = true then Oper.wp P o a (w0.alloc (.cells us E)) K Q else E' := by
  obtain ⟨i0, hi, hz0, hz1, hz2⟩ := info_parts hinfo
  have hwz : (w0.alloc (.cells us E)).heap.size = w0.heap.size + 1 := by simp
  refine step_append_lies _ hgd s x T ho B E i0 zero size bytes hT hi hz0 hz1 hz2 hz hsz v n xs hs (hown.alloc _) ⟨w0.heap.size, 0, none⟩ 1 1 us.toList hx (by simp [hul]) (World.news_of_block (Go.heap_alloc_new w0 _)) hu (by omega) (by unfold maxLen; omega)
    (Nat.le_trans (Nat.mul_le_mul h63 hb) (by decide)) (by omega) (w0.heap.size + 1) hwz ?_
  intro g cap w' hown' hgrow hat hlt
  have hg0 : w0.grownBy w' v.ownBlock := ⟨hgrow.os, hgrow.tape, hgrow.output, by have := hgrow.size; omega, fun k hk hne => (hgrow.block k (by omega) hne).trans (Below.heap_alloc _ _ _ hk)⟩
  exact h g cap w' hown' hg0 (hat.imp id (fun e => by omega)) (by have := hgrow.size; omega)
theorem grown_of_drew {w w' : World} {row : Option Nat} (h : w.drew.grownBy w' row) : w.grownBy w' row := ⟨h.os, h.tape, h.output, h.size, h.block⟩
/-- A list of placed pairs that is written since w1. -/
abbrev PRw (w1 wr : World) (u : Value) (ys : List Pl) : Prop := Rw plL 118 w1 wr u ys
/-- A slice whose block lies at B or above it. -/
def LowV (B : Nat) (v : Value) : Prop := ∀ g off n c, v = .slice (some ⟨g, off, none⟩) n c → B ≤ g
theorem Rw.low {α : Type} {I : Lay α} {E : TypeId} {w0 w : World} {v : Value} {ys : List α} (h : Rw I E w0 w v ys) : LowV w0.heap.size v := fun g off n c hv => by
  subst hv
  rcases h.own.2 with ⟨h0, _⟩ | ⟨g', cap, cur, hv, hg, _⟩
  · cases h0
  · simp only [Value.slice.injEq, Option.some.injEq, Addr.mk.injEq] at hv
    obtain ⟨⟨rfl, _⟩, _⟩ := hv
    exact hg
def Placed (S : List Pl) (w : World) (e : Ending) (w' : World) : Prop := ∃ v, e = .returned v ∧ plL.In w' v S ∧ Below w.heap.size w w' ∧ LowV w.heap.size v

set_option maxRecDepth 100000 in
set_option maxHeartbeats 6400000 in
theorem place_any {w : World} {s : Sd} {v : Value} {l : List Pr} (hs : s.Ok) (h : prL.In w v l) (hl : l.length ≤ 100000) (hsl : Slim l) :
    Calls Try.prog 49 #[.agg #[.int .u64 s.a, .int .u64 s.b], v] w (Placed (s.place l) w) := by
  have HS := Lib.hid hs
  have HIn := Lib.hid h
  have HSL := Lib.hid hsl
  obtain ⟨a, c, rfl, hc1, hc2, _⟩ := h
  obtain ⟨n, hn⟩ : ∃ n, n = l.length := ⟨_, rfl⟩
  rw [← hn] at HIn hl hc1 ⊢
  have HN := Lib.hid hn
  clear hs hsl hn
  obtain ⟨i0, hi, hz0, hz1, hz2⟩ := info_parts Try.infoPlaced
  obtain ⟨w2, hmk, hown0, hgr0⟩ := run_makeSlice_owned (P := Try.prog) (w := w.alloc (.cells #[.int .u64 s.a, .int .u64 s.b] 24)) (w.heap.size + 1) 95 118 i0 _ 3 Try.underlying95 hi hz0 hz1 .i64 .i64 n (by omega) (by rw [hz2]; omega) (by unfold maxLen; omega) (by simp)
  have HB1 := Lib.hid (below_alloc w (.cells #[.int .u64 s.a, .int .u64 s.b] 24))
  have k0 : (w.alloc (.cells #[.int .u64 s.a, .int .u64 s.b] 24)).cell? ⟨w.heap.size, 0, none⟩ = some (.int .u64 s.a) := by go_simp
  have k1 : (w.alloc (.cells #[.int .u64 s.a, .int .u64 s.b] 24)).cell? ⟨w.heap.size, 1, none⟩ = some (.int .u64 s.b) := by go_simp
  have KS : Hid ((w.alloc (.cells #[.int .u64 s.a, .int .u64 s.b] 24)).heap.size = w.heap.size + 1) := Lib.hid (by simp)
  go_enter Try.func49, Try.ntmps49
  go_upto_region 1 with fail
  generalize w.alloc (.cells #[.int .u64 s.a, .int .u64 s.b] 24) = w1 at *
  have HK := Lib.hid (show w1.cell? ⟨w.heap.size, 0, none⟩ = some (.int .u64 s.a) ∧ w1.cell? ⟨w.heap.size, 1, none⟩ = some (.int .u64 s.b) from ⟨k0, k1⟩)
  have HR0 : Hid (PRw w1 w2 (.slice (some ⟨w1.heap.size, 0, none⟩) 0 n) []) := Lib.hid ⟨by have h := hown0; rw [← KS.out] at h; exact h, ⟨hgr0.os, hgr0.tape, hgr0.output, hgr0.size, fun k hk => hgr0.block k hk (by simp)⟩⟩
  clear hown0 hgr0 hi hz0 hz1 hz2 k0 k1
  have HE : Hid (∀ i, (l.take i).map s.mk' = (l.take i).map s.mk') := Lib.hid fun _ => rfl
  have HRa : Hid (PRw w1 w2 (.slice (some ⟨w1.heap.size, 0, none⟩) 0 n) ((l.take 0).map s.mk')) := HR0
  clear HR0 HE
  go_wp2_with fail
  go_loopw [5, 16] (fun u v wr => ∃ (i gg cc : Nat), v = .int .i64 i ∧ i ≤ n ∧ u = .slice (some ⟨gg, 0, none⟩) i cc ∧ Hid (PRw w1 wr u ((l.take i).map s.mk'))) (fun _ v _ => n - (intOf v).toNat)
  case atStart => exact ⟨0, _, _, rfl, Nat.zero_le _, rfl, HRa⟩
  case round =>
    obtain ⟨i, gg, cc, rfl, hin, rfl, hrow⟩ := hrel
    clear HRa
    have ei : IntKind.i64.wrap ((i : Int) + 1) = (i : Int) + 1 := IntWalk.i64_in _ (by omega)
    by_cases hlt : i < n
    · obtain ⟨p, hp⟩ : ∃ p, l[i]? = some p := ⟨l[i]'(by rw [← HN.out]; exact hlt), List.getElem?_eq_getElem _⟩
      have HP := Lib.hid hp
      have HSp := Lib.hid (HSL.out p (List.mem_of_getElem? hp))
      have hbw := (HB1.out.trans (hrow.out.grown.mono HB1.out.size))
      obtain ⟨g, off, rfl, hnl, hat⟩ := (HIn.out.later hbw).cells hp
      have c0 : wr.cell? ⟨g, off + i * 2, none⟩ = some (.string p.1) := hat 0 _ rfl
      have c1 : wr.cell? ⟨g, off + i * 2 + 1, none⟩ = some (.string p.2) := hat 1 _ rfl
      have k0 := cell_later hrow.out.grown HK.out.1
      have k1 := cell_later hrow.out.grown HK.out.2
      have hll : ((l.take i).map s.mk').length = i := by have := HN.out; simp; omega
      have HLL := Lib.hid hll
      have HI1 : (i : Int) < (n : Int) := by omega
      have HI0 : (0 : Int) ≤ (i : Int) := by omega
      clear hp hat hbw hll hnl
      have HB2 : Hid (Below wr.heap.size wr (wr.alloc (.cells #[.string p.1, .string p.2] 27)).drew) := Lib.hid (below_drew (below_alloc _ _))
      have f0 : (wr.alloc (.cells #[.string p.1, .string p.2] 27)).drew.cell? ⟨wr.heap.size, 0, none⟩ = some (.string p.1) := by go_simp
      have f1 : (wr.alloc (.cells #[.string p.1, .string p.2] 27)).drew.cell? ⟨wr.heap.size, 1, none⟩ = some (.string p.2) := by go_simp
      have HR2 := Lib.hid (hrow.out.below HB2.out)
      have l0 := cell_later HB2.out k0
      have l1 := cell_later HB2.out k1
      have HPl := fun W => Place_any (w := W) (s := p.1) HS.out.1 HS.out.2 (by have := HSp.out; omega)
      have HX := Lib.hid (show sumN s.a s.b (Wi.sb p.1) = s.at p.1 from rfl)
      have HXl := Lib.hid (Sd.at_lt HS.out p.1)
      rw [HX.out] at HPl
      obtain ⟨x, hx⟩ : ∃ x, x = s.at p.1 := ⟨_, rfl⟩
      rw [← hx] at HPl HXl
      have HXE := Lib.hid hx
      have HPL := Lib.hid HPl
      clear hx HPl HX hrow k0 k1
      go_upto_region 5 with fail
      clear c0 c1
      generalize hV : wr.alloc (.cells #[.string p.1, .string p.2] 27) = V at *
      have HVs : Hid (V.heap.size = wr.heap.size + 1) := by rw [← hV]; exact Lib.hid (by simp)
      clear hV
      go_region_law
        (first
          | (go_simp; go_at_call 15; (with_reducible refine (HPL.out _).mono ?_); rintro e w3 ⟨rfl, hb3⟩; have HB3 := Lib.hid hb3; have HR3 := Lib.hid (HR2.out.below hb3); have g0 := cell_later hb3 f0; have g1 := cell_later hb3 f1; clear hb3)
          | (refine step_pushI (w0 := w3) (by rfl) _ _ 95 118 _ 3 40 (by rfl) Try.underlying95 Try.infoPlaced (by rfl) (by decide) w1.heap.size i _ (plL.all ((l.take i).map s.mk')) (by rfl) (by have h := HR3.out.own; rw [HLL.out] at h; exact h) #[.string p.1, .string p.2, .int .u64 ((x : Int) / 281474976710656)] (by rfl) (by simp [Value.oneCell']) (by rfl) (by omega) (by decide) HR3.out.grown.size ?_; intro g4 cap4 w4 hown4 hg4 hat4 hlt4; have HO4 := Lib.hid hown4; have HG4 : Hid (w3.grownBy w4 (Value.slice (some ⟨gg, 0, none⟩) i cc).ownBlock) := Lib.hid hg4; clear hown4 hg4 hat4 hlt4))
      all_goals
        have HT : Hid ((l.take (i + 1)).map s.mk' = (l.take i).map s.mk' ++ [s.mk' p]) := by
          refine Lib.hid ?_
          rw [List.take_add_one, HP.out, List.map_append]; rfl
        have HR4 : Hid (PRw w1 w4 (.slice (some ⟨g4, 0, none⟩) (i + 1) cap4) ((l.take (i + 1)).map s.mk')) := by
          refine Lib.hid ?_
          rw [HT.out]
          have h := HR3.out.push (s.mk' p) (g := g4) (c2 := cap4) (w2 := w4) (by
            rw [HLL.out]
            have e : ((x : Int) / 281474976710656) = ((x / 281474976710656 : Nat) : Int) := by omega
            have h := HO4.out
            rw [e, HXE.out] at h
            exact h) HG4.out
          rw [HLL.out] at h
          exact h
        clear HR3 HO4 HG4 HB3 HT g0 g1 f0 f1 l0 l1
        go_wp2_with fail
        exact ⟨⟨i + 1, g4, cap4, by push_cast; rfl, by omega, rfl, HR4⟩, by simp [intOf]; omega⟩
    · obtain rfl : i = n := by omega
      have hS : (l.take i).map s.mk' = l.map s.mk' := by rw [List.take_of_length_le (by have := HN.out; omega)]
      rw [hS] at hrow
      obtain ⟨S0, hS0⟩ : ∃ S0, S0 = l.map s.mk' := ⟨_, rfl⟩
      have hl0 : S0.length = i := by rw [hS0]; have := HN.out; simp; omega
      have HFin : Hid (s.place l = lasts (isort S0) i) := by refine Lib.hid ?_; rw [hS0]; unfold Sd.place; rw [← HN.out]
      rw [← hS0] at hrow
      have hcap : i ≤ cc ∧ cc ≤ 9223372036854775807 := by
        obtain ⟨a', c', hv, h1, h2⟩ := hrow.out.slice
        simp only [Value.slice.injEq] at hv
        obtain ⟨_, _, rfl⟩ := hv
        exact ⟨by omega, h2⟩
      have hgl := hrow.out.lt gg rfl
      have HPR := Lib.hid (prow_own (by have h := hrow.out.own; rw [hl0] at h; exact h))
      have HSort := Lib.hid (SortStable_big HPR.out hgl.2 hl0 hcap.1 (by omega))
      have HBw := Lib.hid (hrow.out.grown)
      have Hgl := Lib.hid hgl
      have HL0 := Lib.hid hl0
      have Hcap := Lib.hid hcap
      clear hrow hS hl0 hgl hS0 hcap
      go_wp2_with fail
      go_fit HSort.out
      rintro e w6 ⟨rfl, hpr6, hg6⟩
      obtain ⟨S, hS⟩ : ∃ S, S = isort S0 := ⟨_, rfl⟩
      have hSl : S.length = i := by rw [hS, isort_length]; exact HL0.out
      rw [← hS] at hpr6 HFin
      have HP6 := Lib.hid hpr6
      have HB6 : Hid (Below w.heap.size w w6) := by
        refine Lib.hid ?_
        have h1 := HB1.out.trans (HBw.out.mono HB1.out.size)
        refine h1.trans ⟨hg6.os, hg6.tape, hg6.output, hg6.size, fun k hk => hg6.block k (Nat.lt_of_lt_of_le hk h1.size) (fun e => ?_)⟩
        have := Hgl.out.1
        have := KS.out
        have e2 : k = gg := by simpa using e
        omega
      have Hg6 : Hid (gg < w6.heap.size) := Lib.hid (Nat.lt_of_lt_of_le Hgl.out.2 hg6.size)
      have HSl := Lib.hid hSl
      have HRb : Hid (PRw w6 w6 (.slice none 0 0) (lasts S 0)) := Lib.hid (Rw.nil _)
      clear hpr6 hg6 hS hSl HSort HPR HBw HL0
      generalize i = n at *
      clear ei
      go_wp2_with fail
      go_loopw [8, 35] (fun u v wr => ∃ j : Nat, v = .int .i64 j ∧ j ≤ n ∧ Hid (PRw w6 wr u (lasts S j))) (fun _ v _ => n - (intOf v).toNat)
      case atStart => exact ⟨0, rfl, Nat.zero_le _, HRb⟩
      case round =>
        obtain ⟨j, rfl, hjn, hrow⟩ := hrel
        clear HRb
        have ej : IntKind.i64.wrap ((j : Int) + 1) = (j : Int) + 1 := IntWalk.i64_in _ (by omega)
        by_cases hlt : j < n
        · obtain ⟨p, hp⟩ : ∃ p, S[j]? = some p := ⟨S[j]'(by rw [HSl.out]; exact hlt), List.getElem?_eq_getElem _⟩
          obtain ⟨⟨d, k⟩, v⟩ := p
          have HP := Lib.hid hp
          have hpw := HP6.out.later Hg6.out hrow.out.grown
          obtain ⟨c0, c1, c2⟩ := hpw.pairs j _ hp
          simp only [Nat.zero_add] at c0 c1 c2
          obtain ⟨ua, uc, rfl, huc1, huc2⟩ := hrow.out.slice
          have HLn := Lib.hid (lasts_len S j)
          have HRW := Lib.hid (hrow.out.own)
          generalize hm : (lasts S j).length = m at *
          have HM := Lib.hid hm
          clear hm hp
          go_upto_region 12 with fail
          have HB7 : Hid (Below wr.heap.size wr (wr.alloc (.cells #[.string k, .string v, .int .u64 d] 118))) := Lib.hid (below_alloc _ _)
          have f0 : (wr.alloc (.cells #[.string k, .string v, .int .u64 d] 118)).cell? ⟨wr.heap.size, 0, none⟩ = some (.string k) := by go_simp
          have f1 : (wr.alloc (.cells #[.string k, .string v, .int .u64 d] 118)).cell? ⟨wr.heap.size, 1, none⟩ = some (.string v) := by go_simp
          have f2 : (wr.alloc (.cells #[.string k, .string v, .int .u64 d] 118)).cell? ⟨wr.heap.size, 2, none⟩ = some (.int .u64 d) := by go_simp
          have HR7 := Lib.hid (hrow.out.below HB7.out)
          have hpw7 := hpw.later (Nat.lt_of_lt_of_le Hg6.out hrow.out.grown.size) HB7.out
          have hgsz := hrow.out.grown.size
          clear c0 c1 c2 hpw hrow
          generalize wr.alloc (.cells #[.string k, .string v, .int .u64 d] 118) = V at *
          have hj1 : (j : Int) + 1 ≤ (n : Int) := by omega
          by_cases hl1 : j + 1 = n
          · have hl2 : (j : Int) + 1 = (n : Int) := by omega
            have HY : Hid (lastB S j ((d, k), v) = true) := by
              refine Lib.hid ?_
              unfold lastB
              rw [List.getElem?_eq_none (by rw [HSl.out]; omega)]
            clear hpw7
            go_quiet (fail)
            have HRX : Hid (PRw w6 (V.drewN nq) (.slice ua m uc) (lasts S j)) := Lib.hid (HR7.out.below (below_drewN (Below.refl _ _) _))
            have x0 : (V.drewN nq).cell? ⟨wr.heap.size, 0, none⟩ = some (.string k) := f0
            have x1 : (V.drewN nq).cell? ⟨wr.heap.size, 1, none⟩ = some (.string v) := f1
            have x2 : (V.drewN nq).cell? ⟨wr.heap.size, 2, none⟩ = some (.int .u64 d) := f2
            generalize V.drewN nq = X at *
            clear f0 f1 f2 HR7
            have HLast := Lib.hid (lasts_yes HP.out HY.out)
            go_wp2_with (at_builtin; refine wpList_pushI (w0 := X) rfl _ _ 95 118 _ 3 40 rfl Try.underlying95 Try.infoPlaced rfl (by decide) w6.heap.size m _ (plL.all (lasts S j)) rfl (by have h := HRX.out.own; rw [HM.out] at h; exact h) #[.string k, .string v, .int .u64 d] rfl (by simp [Value.oneCell']) rfl (by have := HLn.out; omega) (by decide) HRX.out.grown.size ?_; intro g8 c8 w8 hown8 hg8 hat8 hlt8; have HO8 := Lib.hid hown8; have HG8 : Hid (X.grownBy w8 (Value.slice ua m uc).ownBlock) := Lib.hid hg8; clear hown8 hg8 hat8 hlt8)
            have HR8 : Hid (PRw w6 w8 (.slice (some ⟨g8, 0, none⟩) (m + 1) c8) (lasts S (j + 1))) := by
              refine Lib.hid ?_
              rw [HLast.out]
              have h := HRX.out.push ((d, k), v) (g := g8) (c2 := c8) (w2 := w8) (by rw [HM.out]; exact HO8.out) HG8.out
              rw [HM.out] at h
              exact h
            clear HRX HO8 HG8 HLast x0 x1 x2
            exact ⟨⟨j + 1, by push_cast; first | rfl | rw [hl2], by omega, HR8⟩, by simp [intOf]; omega⟩
          · have hl2 : ¬ (j : Int) + 1 = (n : Int) := by omega
            obtain ⟨q, hq⟩ : ∃ q, S[j + 1]? = some q := ⟨S[j + 1]'(by rw [HSl.out]; omega), List.getElem?_eq_getElem _⟩
            obtain ⟨⟨d', k'⟩, v'⟩ := q
            have e0 := (hpw7.pairs (j + 1) _ hq).1
            simp only [Nat.zero_add] at e0
            have HQ := Lib.hid hq
            have hI1 : (j : Int) + 1 < (n : Int) := by omega
            have hI2 : (0 : Int) ≤ (j : Int) + 1 := by omega
            have hI3 : ((j : Int) + 1).toNat = j + 1 := by omega
            clear hpw7 hq
            by_cases hk : k' = k
            · have hk2 : (k'.toList == k.toList) = true := by rw [ba_eq]; simpa using hk
              have HY : Hid (lastB S j ((d, k), v) = false) := by
                refine Lib.hid ?_
                unfold lastB
                rw [HQ.out]
                simp [hk]
              clear hk
              go_quiet (fail)
              have HRX : Hid (PRw w6 (V.drewN nq) (.slice ua m uc) (lasts S (j + 1))) := by
                refine Lib.hid ?_
                rw [lasts_no HP.out HY.out]
                exact HR7.out.below (below_drewN (Below.refl _ _) _)
              go_wp2_with fail
              exact ⟨⟨j + 1, by push_cast; rfl, by omega, HRX⟩, by simp [intOf]; omega⟩
            · have hk2 : (k'.toList == k.toList) = false := by rw [ba_eq]; simpa using hk
              have HY : Hid (lastB S j ((d, k), v) = true) := by
                refine Lib.hid ?_
                unfold lastB
                rw [HQ.out]
                simp [hk]
              clear hk
              go_quiet (fail)
              have HRX : Hid (PRw w6 (V.drewN nq) (.slice ua m uc) (lasts S j)) := Lib.hid (HR7.out.below (below_drewN (Below.refl _ _) _))
              have x0 : (V.drewN nq).cell? ⟨wr.heap.size, 0, none⟩ = some (.string k) := f0
              have x1 : (V.drewN nq).cell? ⟨wr.heap.size, 1, none⟩ = some (.string v) := f1
              have x2 : (V.drewN nq).cell? ⟨wr.heap.size, 2, none⟩ = some (.int .u64 d) := f2
              generalize V.drewN nq = X at *
              clear f0 f1 f2 HR7
              have HLast := Lib.hid (lasts_yes HP.out HY.out)
              go_wp2_with (at_builtin; refine wpList_pushI (w0 := X) rfl _ _ 95 118 _ 3 40 rfl Try.underlying95 Try.infoPlaced rfl (by decide) w6.heap.size m _ (plL.all (lasts S j)) rfl (by have h := HRX.out.own; rw [HM.out] at h; exact h) #[.string k, .string v, .int .u64 d] rfl (by simp [Value.oneCell']) rfl (by have := HLn.out; omega) (by decide) HRX.out.grown.size ?_; intro g8 c8 w8 hown8 hg8 hat8 hlt8; have HO8 := Lib.hid hown8; have HG8 : Hid (X.grownBy w8 (Value.slice ua m uc).ownBlock) := Lib.hid hg8; clear hown8 hg8 hat8 hlt8)
              have HR8 : Hid (PRw w6 w8 (.slice (some ⟨g8, 0, none⟩) (m + 1) c8) (lasts S (j + 1))) := by
                refine Lib.hid ?_
                rw [HLast.out]
                have h := HRX.out.push ((d, k), v) (g := g8) (c2 := c8) (w2 := w8) (by rw [HM.out]; exact HO8.out) HG8.out
                rw [HM.out] at h
                exact h
              clear HRX HO8 HG8 HLast x0 x1 x2
              exact ⟨⟨j + 1, by push_cast; first | rfl | rw [hl2], by omega, HR8⟩, by simp [intOf]; omega⟩
        · obtain rfl : j = n := by omega
          go_wp2_with fail
          go_ret
          exact ⟨_, rfl, by rw [HFin.out]; exact hrow.out.told, HB6.out.trans (hrow.out.grown.mono HB6.out.size), fun g off n c hv => Nat.le_trans HB6.out.size (hrow.out.low g off n c hv)⟩
end Go.Proofs.Ytcbgnmolfdhnfaa
