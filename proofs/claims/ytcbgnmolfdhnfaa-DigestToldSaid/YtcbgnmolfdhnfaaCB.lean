/-
  The pairs of two sides gone through. (Written by gencb.py.)
-/
import Derived.Test.YtcbgnmolfdhnfaaCA
namespace Go.Proofs.Ytcbgnmolfdhnfaa
set_option linter.unusedVariables false
set_option linter.unusedSimpArgs false
open Go.RowKit

def lenV : Value → Nat
  | .slice _ n _ => n
  | _ => 0
/-- How things stand. -/
structure Cs (w wr : World) (M sb dg P L : Nat) (ua ub : Value) (kv : Value) (ks K : List ByteArray) (S T : List Pl) : Prop where
  a : Sf wr M ua S
  b : Sf wr M ub T
  s : Sz wr M sb dg P kv ks
  k : ks ++ mg S T = K
  n : S.length + T.length ≤ L
  l : ks.length ≤ 100000000 + L
  bw : Below M w wr
  m : M ≤ wr.heap.size
theorem Cs.drew {w wr : World} {M sb dg P L : Nat} {ua ub kv : Value} {ks K : List ByteArray} {S T : List Pl} (h : Cs w wr M sb dg P L ua ub kv ks K S T) : Cs w wr.drew M sb dg P L ua ub kv ks K S T :=
  ⟨h.a.block fun _ _ => rfl, h.b.block fun _ _ => rfl, h.s.below (below_drew1 wr), h.k, h.n, h.l, below_drew h.bw, h.m⟩
theorem Cs.drewN {w wr : World} {M sb dg P L : Nat} {ua ub kv : Value} {ks K : List ByteArray} {S T : List Pl} (h : Cs w wr M sb dg P L ua ub kv ks K S T) (q : Nat) : Cs w (wr.drewN q) M sb dg P L ua ub kv ks K S T :=
  ⟨h.a.block fun _ _ => rfl, h.b.block fun _ _ => rfl, h.s.below (below_drewN (Below.refl _ _) q), h.k, h.n, h.l, below_drewN h.bw q, h.m⟩
/-- Behind a key more. -/
theorem Cs.push {w wr w4 : World} {M sb dg P L g4 c4 n : Nat} {ua ub kv ua' ub' : Value} {ks K : List ByteArray} {S T S' T' : List Pl} {x : ByteArray} (h : Cs w wr M sb dg P L ua ub kv ks K S T)
    (hn : n = ks.length + 1) (hown : w4.ownsRow M 9 1 (.slice (some ⟨g4, 0, none⟩) n c4) n (strL.all ks ++ [.string x])) (hg : wr.grownBy w4 kv.ownBlock) (hat : kv.ownBlock = some g4 ∨ wr.heap.size ≤ g4)
    (ha : Sf wr M ua' S') (hb : Sf wr M ub' T') (hm : mg S T = x :: mg S' T') (hd : S'.length + T'.length < S.length + T.length) (hL : ks.length + 1 ≤ 100000000 + L) :
    Cs w (w4.setCell ⟨sb, 2, none⟩ (.slice (some ⟨g4, 0, none⟩) n c4)) M sb dg P L ua' ub' (.slice (some ⟨g4, 0, none⟩) n c4) (ks ++ [x]) K S' T' := by
  have hb2 := h.s.push_below (c4 := c4) (g4 := g4) (n := n) h.m hg
  exact ⟨ha.below hb2, hb.below hb2, h.s.push hn hown hg hat, by rw [List.append_assoc, ← h.k, hm]; rfl, by have := h.n; omega, by rw [List.length_append]; exact hL, h.bw.trans hb2, Nat.le_trans h.m hb2.size⟩
theorem sf_one {w : World} {M g off : Nat} : Sf w M (.slice (some ⟨g, off, none⟩) 0 0) [] := ⟨_, 0, rfl, Nat.le_refl _, by decide, .inl rfl⟩

set_option maxRecDepth 100000 in
set_option maxHeartbeats 12800000 in
theorem comparePairs_any {w : World} {M sb dg pr : Nat} {kv u v : Value} {ks : List ByteArray} {S T : List Pl} (h : Sz w M sb dg pr kv ks) (hM : M ≤ w.heap.size) (hu : Sf w M u S) (hv : Sf w M v T) (hS : S.length + T.length ≤ 200000) (hk : ks.length ≤ 100000000) (hpr : pr ≤ 100000000) :
    Calls Try.prog 85 #[.pointer (some ⟨sb, 0, none⟩), u, v] w fun e w' => ∃ kv', e = .returned (.tuple #[]) ∧ Sz w' M sb dg (pr + (S.length + T.length)) kv' (ks ++ mg S T) ∧ Below M w w' := by
  have H := Lib.hid h
  have HU := Lib.hid hu
  have HV := Lib.hid hv
  have HMl := Lib.hid hM
  obtain ⟨ua, uc, rfl⟩ := hu.slice
  obtain ⟨va, vc, rfl⟩ := hv.slice
  obtain ⟨n, hn⟩ : ∃ n, n = S.length := ⟨_, rfl⟩
  obtain ⟨m, hm⟩ : ∃ m, m = T.length := ⟨_, rfl⟩
  rw [← hn, ← hm] at hS ⊢
  rw [← hn] at HU
  rw [← hm] at HV
  have HN := Lib.hid (show n = S.length ∧ m = T.length from ⟨hn, hm⟩)
  have p0 := h.p
  have z0 := h.z 1
  have HKl := Lib.hid hk
  clear h hM hu hv hn hm
  go_enter Try.func85, Try.ntmps85
  go_upto_region 1 with fail
  have HB1 : Hid (Below M w (w.setCell ⟨sb, 1, none⟩ (.int .i64 ((pr : Int) + ((n : Int) + (m : Int)))))) := Lib.hid ((Below.refl _ _).setCell H.out.m _)
  have HC0 : Hid (Cs w (w.setCell ⟨sb, 1, none⟩ (.int .i64 ((pr : Int) + ((n : Int) + (m : Int))))) M sb dg (pr + (n + m)) 200000 (.slice ua n uc) (.slice va m vc) kv ks (ks ++ mg S T) S T) :=
    Lib.hid ⟨HU.out.below HB1.out, HV.out.below HB1.out, H.out.setp (pr + (n + m)), rfl, by have := HN.out; omega, by omega, HB1.out, Nat.le_trans HMl.out HB1.out.size⟩
  clear p0 z0 H HU HV HB1 hk
  generalize w.setCell ⟨sb, 1, none⟩ (.int .i64 ((pr : Int) + ((n : Int) + (m : Int)))) = w1 at *
  go_loopw [1, 2] (fun u v wr => ∃ (S' T' : List Pl) (kv' : Value) (ks' : List ByteArray), Hid (Cs w wr M sb dg (pr + (n + m)) 200000 u v kv' ks' (ks ++ mg S T) S' T') ∧ Hid (ks'.length + (S'.length + T'.length) ≤ ks.length + (S.length + T.length))) (fun u v _ => lenV u + lenV v)
  case atStart => exact ⟨S, T, kv, ks, HC0, Lib.hid (Nat.le_refl _)⟩
  case round =>
    obtain ⟨S', T', kv', ks', HC, HK⟩ := hrel
    clear HC0
    match S', T', HC, HK with
    | [], T', HC, HK =>
      obtain ⟨a1, c1, rfl⟩ := HC.out.a.slice
      obtain ⟨a2, c2, rfl⟩ := HC.out.b.slice
      obtain ⟨t, ht⟩ : ∃ t, t = T'.length := ⟨_, rfl⟩
      rw [← ht]
      rw [← ht] at HC
      have HT := Lib.hid ht
      clear ht
      simp only [List.length_nil]
      have HLs : Hid (0 = ([] : List Pl).length ∧ T'.length ≤ 1000000 ∧ ([] ++ T').length ≤ 200000) := Lib.hid ⟨rfl, by have := HC.out.n; simp at this; omega, by have := HC.out.n; simpa using this⟩
      go_upto_region 10 with fail
      go_wp2_with (at_builtin; (refine wpList_rest rfl _ _ rfl (M := M) (S := ([] : List Pl)) (T := T') (c1 := c1) rfl HLs.out.1 rfl HC.out.a HC.out.b (by simp) HC.out.m HLs.out.2.1 ?_; intro a5 c5 r w5 hr hrs; have HRl := Lib.hid hr; have HRs := Lib.hid hrs; clear hr hrs))
      have hc5 := HRs.out.2.1
      have hR5 := HRs.out.2.2
      have hmg : mg ([] : List Pl) T' = (([] : List Pl) ++ T').map (·.1.2) := by first | (rw [mg_nil]; rfl) | (rw [mg_nil2, List.append_nil])
      generalize ([] : List Pl) ++ T' = R at *
      have HG5 := Lib.hid HRs.out.1
      have hb5 : Below wr.heap.size wr w5 := ⟨HG5.out.os, HG5.out.tape, HG5.out.output, HG5.out.size, fun k hk => HG5.out.block k hk (by simp)⟩
      have HS5 := Lib.hid (HC.out.s.below hb5)
      have HB5 := Lib.hid (HC.out.bw.trans (hb5.mono HC.out.m))
      have HM5 : Hid (M ≤ w5.heap.size) := Lib.hid (Nat.le_trans HC.out.m hb5.size)
      have HAt : Hid (R = [] ∨ ∃ g off, a5 = some ⟨g, off, none⟩ ∧ g < w5.heap.size ∧ PairsAt w5 g off R ∧ kv'.ownBlock ≠ some g ∧ g ≠ sb) := by
        refine Lib.hid (hR5.imp id ?_)
        rintro ⟨g, off, ha, hg, hp, hor⟩
        have hsb := HC.out.s.lt
        have hsm := HC.out.s.m
        refine ⟨g, off, ha, hg, hp, fun e => ?_, ?_⟩
        · have := HC.out.s.own.lt g e
          omega
        · omega
      have HKe : Hid (ks' ++ R.map (·.1.2) = ks ++ mg S T) := Lib.hid (by rw [← hmg]; exact HC.out.k)
      have HKl2 : Hid (ks'.length ≤ 100200000 ∧ r ≤ 200000) := Lib.hid ⟨HC.out.l, by have := HLs.out.2.2; rw [← HRl.out] at this; omega⟩
      have HR0 : Hid (Sz w5 M sb dg (pr + (n + m)) kv' (ks' ++ (R.take 0).map (·.1.2))) := by
        refine Lib.hid ?_
        rw [List.take_zero, List.map_nil, List.append_nil]; exact HS5.out
      clear hmg hR5 HRs HG5 hb5 HS5 HC
      go_loopw [115] (fun v wr => ∃ (j : Nat) (kv2 : Value), v = .int .i64 j ∧ j ≤ r ∧ Hid (Sz wr M sb dg (pr + (n + m)) kv2 (ks' ++ (R.take j).map (·.1.2))) ∧ Hid (Below M w wr) ∧ Hid (M ≤ wr.heap.size) ∧ Hid (R = [] ∨ ∃ g off, a5 = some ⟨g, off, none⟩ ∧ g < wr.heap.size ∧ PairsAt wr g off R ∧ kv2.ownBlock ≠ some g ∧ g ≠ sb)) (fun v _ => r - (intOf v).toNat)
      case atStart => exact ⟨0, _, rfl, Nat.zero_le _, HR0, HB5, HM5, HAt⟩
      case round =>
        obtain ⟨j, kv2, rfl, hjn, hsz, hbw, hmw, hat⟩ := hrel
        clear HR0 HB5 HM5 HAt
        have ej : IntKind.i64.wrap ((j : Int) + 1) = (j : Int) + 1 := IntWalk.i64_in _ (by have := HKl2.out.2; omega)
        by_cases hlt : j < r
        · obtain ⟨p, hp⟩ : ∃ p, R[j]? = some p := ⟨R[j]'(by rw [← HRl.out]; exact hlt), List.getElem?_eq_getElem _⟩
          obtain ⟨⟨d, k⟩, x⟩ := p
          obtain ⟨g, off, rfl, hg, hpw, hne, hgs⟩ := hat.out.resolve_left (fun e => by rw [e] at hp; simp at hp)
          obtain ⟨c0, c1, c2⟩ := hpw j _ hp
          simp only at c0 c1 c2
          have HT : Hid ((R.take (j + 1)).map (·.1.2) = (R.take j).map (·.1.2) ++ [k]) := by
            refine Lib.hid ?_
            rw [List.take_add_one, hp, List.map_append]; rfl
          have hlen : (ks' ++ (R.take j).map (·.1.2)).length = ks'.length + j := by
            have := HRl.out
            simp only [List.length_append, List.length_map, List.length_take]
            omega
          obtain ⟨q, hq⟩ : ∃ q, q = ks'.length + j := ⟨_, rfl⟩
          rw [← hq] at hlen
          have HLn := Lib.hid hlen
          obtain ⟨kva, kvc, rfl, _⟩ := row_slice hsz.out.own
          rw [hlen] at hsz hne
          have hq2 : q ≤ 200000000 := by have := HKl2.out; omega
          have hI1 : (j : Int) < (r : Int) := by omega
          have hI2 : (0 : Int) ≤ (j : Int) := by omega
          have H2 := Lib.hid (hsz.out.below ((below_alloc wr (.cells #[.string k, .string x, .int .u64 d] 118))))
          have H2d := Lib.hid (hsz.out.below (below_drew (below_alloc wr (.cells #[.string k, .string x, .int .u64 d] 118))))
          have HM2 : Hid (M ≤ (wr.alloc (.cells #[.string k, .string x, .int .u64 d] 118)).drew.heap.size) := Lib.hid (Nat.le_trans hmw.out (below_drew (below_alloc wr _)).size)
          have HBw2 : Hid (Below M w (wr.alloc (.cells #[.string k, .string x, .int .u64 d] 118)).drew) := Lib.hid (hbw.out.trans ((below_drew (below_alloc wr _)).mono hmw.out))
          have HPw : Hid (g < wr.heap.size ∧ PairsAt (wr.alloc (.cells #[.string k, .string x, .int .u64 d] 118)).drew g off R ∧ (Value.slice kva q kvc).ownBlock ≠ some g ∧ g ≠ sb) := Lib.hid ⟨hg, hpw.later (below_drew (below_alloc wr _)), hne, hgs⟩
          have HSzV : Hid (wr.heap.size ≤ (wr.alloc (.cells #[.string k, .string x, .int .u64 d] 118)).heap.size) := Lib.hid (below_alloc wr _).size
          have f0 : (wr.alloc (.cells #[.string k, .string x, .int .u64 d] 118)).cell? ⟨wr.heap.size, 0, none⟩ = some (.string k) := by go_simp
          clear hp hpw hsz hbw hlen hq hne hgs hg hat
          go_upto_region 13 with fail
          clear c0 c1 c2
          generalize wr.alloc (.cells #[.string k, .string x, .int .u64 d] 118) = V at *
          have f1 : V.drew.cell? ⟨wr.heap.size, 0, none⟩ = some (.string k) := f0
          have f2 : (V.alloc (.cells #[.string k] 9)).cell? ⟨wr.heap.size, 0, none⟩ = some (.string k) := cell_later (below_alloc V _) f0
          have k1 : V.drew.cell? ⟨sb, 2, none⟩ = some (.slice kva q kvc) := H2d.out.k
          have k2 : (V.alloc (.cells #[.string k] 9)).cell? ⟨sb, 2, none⟩ = some (.slice kva q kvc) := cell_later (below_alloc V _) H2.out.k
          go_region_law
            (first
              | (refine step_pushI (w0 := V.drew) (by rfl) _ _ 49 9 _ 1 16 (by rfl) Try.underlying49 Try.infoString (by rfl) (by decide) M q _ (strL.all (ks' ++ (R.take j).map (·.1.2))) (by rfl) (by have h := H2d.out.own; rw [HLn.out] at h; exact h) #[.string k] (by rfl) (by simp [Value.oneCell']) (by rfl) (by omega) (by decide) HM2.out ?_; intro g4 cap4 w4 hown4 hg4 hat4 hlt4; have HO4 := Lib.hid hown4; have HG4 : Hid (V.drew.grownBy w4 (Value.slice kva q kvc).ownBlock) := Lib.hid hg4; have HT4 : Hid ((Value.slice kva q kvc).ownBlock = some g4 ∨ V.drew.heap.size ≤ g4) := Lib.hid hat4; have hsame : w4.heap[sb]? = V.drew.heap[sb]? := hg4.block sb H2d.out.lt (fun e => H2d.out.ne e.symm); have s4 : w4.cell? ⟨sb, 2, none⟩ = some (.slice kva q kvc) := (World.cell?_of_block (a := ⟨sb, 2, none⟩) hsame).trans H2d.out.k; have z4 : w4.frozen? ⟨sb, 2, none⟩ = false := (World.frozen?_of_block (a := ⟨sb, 2, none⟩) hsame).trans (H2d.out.z 2); clear hown4 hg4 hat4 hlt4 hsame))
          all_goals
            have H5 := Lib.hid (H2d.out.push (n := q + 1) (by rw [HLn.out]) HO4.out HG4.out HT4.out)
            have HB5 := Lib.hid (HBw2.out.trans (H2d.out.push_below (n := q + 1) (c4 := cap4) (g4 := g4) HM2.out HG4.out))
            have HP5 : Hid (R = [] ∨ ∃ g' off', some (⟨g, off, none⟩ : Addr) = some ⟨g', off', none⟩ ∧ g' < (w4.setCell ⟨sb, 2, none⟩ (.slice (some ⟨g4, 0, none⟩) (q + 1) cap4)).heap.size ∧ PairsAt (w4.setCell ⟨sb, 2, none⟩ (.slice (some ⟨g4, 0, none⟩) (q + 1) cap4)) g' off' R ∧ (Value.slice (some ⟨g4, 0, none⟩) (q + 1) cap4).ownBlock ≠ some g' ∧ g' ≠ sb) := by
              obtain ⟨h1, h2, h3, h4⟩ := HPw.out
              have hz := HSzV.out
              have hgz := HG4.out.size
              have hlt : g < V.drew.heap.size := Nat.lt_of_lt_of_le h1 hz
              refine Lib.hid (.inr ⟨g, off, rfl, ?_, ?_, fun e => ?_, h4⟩)
              · show g < _
                have : (w4.setCell ⟨sb, 2, none⟩ (.slice (some ⟨g4, 0, none⟩) (q + 1) cap4)).heap.size = w4.heap.size := by simp [World.setCell]
                omega
              · exact (h2.block (HG4.out.block g hlt (fun e => h3 e.symm))).block (heap_setCell_other _ _ _ _ h4)
              · have e : g4 = g := by simpa [Value.ownBlock] using e
                subst e
                rcases HT4.out with e | e
                · exact h3 e
                · omega
            rw [List.append_assoc, ← HT.out] at H5
            clear H2 H2d f0 f1 f2 k1 k2 s4 z4 HO4 HG4 HT4 HPw HSzV
            generalize w4.setCell ⟨sb, 2, none⟩ (.slice (some ⟨g4, 0, none⟩) (q + 1) cap4) = w5 at H5 HB5 HP5 ⊢
            have HM5 : Hid (M ≤ w5.heap.size) := Lib.hid (Nat.le_trans HMl.out HB5.out.size)
            go_wp2_with fail
            exact ⟨⟨j + 1, _, by push_cast; rfl, by omega, H5, HB5, HM5, HP5⟩, by simp [intOf]; omega⟩
        · obtain rfl : j = r := by omega
          have hS' : R.take j = R := List.take_of_length_le (by have := HRl.out; omega)
          rw [hS', HKe.out] at hsz
          go_wp2_with fail
          go_end0
          exact ⟨kv2, rfl, hsz.out, hbw.out⟩
    | p :: S1, [], HC, HK =>
      obtain ⟨a1, c1, rfl⟩ := HC.out.a.slice
      obtain ⟨a2, c2, rfl⟩ := HC.out.b.slice
      obtain ⟨t, ht⟩ : ∃ t, t = (p :: S1).length := ⟨_, rfl⟩
      rw [← ht]
      rw [← ht] at HC
      have hpos : (0 : Int) < (t : Int) := by rw [ht]; simp
      simp only [List.length_nil]
      have HLs : Hid (t = (p :: S1).length ∧ ([] : List Pl).length ≤ 1000000 ∧ ((p :: S1) ++ []).length ≤ 200000) := Lib.hid ⟨ht, by simp, by have := HC.out.n; simpa using this⟩
      have htc : (t : Int) ≤ (c1 : Int) := by
        obtain ⟨_, _, hv, h1, _⟩ := HC.out.a
        simp only [Value.slice.injEq] at hv
        obtain ⟨_, _, rfl⟩ := hv
        rw [← ht] at h1
        omega
      clear ht
      go_upto_region 10 with fail
      go_wp2_with (at_builtin; (refine wpList_rest rfl _ _ rfl (M := M) (S := (p :: S1)) (T := ([] : List Pl)) (c1 := c1) rfl HLs.out.1 rfl HC.out.a HC.out.b (by simp) HC.out.m HLs.out.2.1 ?_; intro a5 c5 r w5 hr hrs; have HRl := Lib.hid hr; have HRs := Lib.hid hrs; clear hr hrs))
      have hc5 := HRs.out.2.1
      have hR5 := HRs.out.2.2
      have hmg : mg (p :: S1) ([] : List Pl) = ((p :: S1) ++ ([] : List Pl)).map (·.1.2) := by first | (rw [mg_nil]; rfl) | (rw [mg_nil2, List.append_nil])
      generalize (p :: S1) ++ ([] : List Pl) = R at *
      have HG5 := Lib.hid HRs.out.1
      have hb5 : Below wr.heap.size wr w5 := ⟨HG5.out.os, HG5.out.tape, HG5.out.output, HG5.out.size, fun k hk => HG5.out.block k hk (by simp)⟩
      have HS5 := Lib.hid (HC.out.s.below hb5)
      have HB5 := Lib.hid (HC.out.bw.trans (hb5.mono HC.out.m))
      have HM5 : Hid (M ≤ w5.heap.size) := Lib.hid (Nat.le_trans HC.out.m hb5.size)
      have HAt : Hid (R = [] ∨ ∃ g off, a5 = some ⟨g, off, none⟩ ∧ g < w5.heap.size ∧ PairsAt w5 g off R ∧ kv'.ownBlock ≠ some g ∧ g ≠ sb) := by
        refine Lib.hid (hR5.imp id ?_)
        rintro ⟨g, off, ha, hg, hp, hor⟩
        have hsb := HC.out.s.lt
        have hsm := HC.out.s.m
        refine ⟨g, off, ha, hg, hp, fun e => ?_, ?_⟩
        · have := HC.out.s.own.lt g e
          omega
        · omega
      have HKe : Hid (ks' ++ R.map (·.1.2) = ks ++ mg S T) := Lib.hid (by rw [← hmg]; exact HC.out.k)
      have HKl2 : Hid (ks'.length ≤ 100200000 ∧ r ≤ 200000) := Lib.hid ⟨HC.out.l, by have := HLs.out.2.2; rw [← HRl.out] at this; omega⟩
      have HR0 : Hid (Sz w5 M sb dg (pr + (n + m)) kv' (ks' ++ (R.take 0).map (·.1.2))) := by
        refine Lib.hid ?_
        rw [List.take_zero, List.map_nil, List.append_nil]; exact HS5.out
      clear hmg hR5 HRs HG5 hb5 HS5 HC
      go_loopw [115] (fun v wr => ∃ (j : Nat) (kv2 : Value), v = .int .i64 j ∧ j ≤ r ∧ Hid (Sz wr M sb dg (pr + (n + m)) kv2 (ks' ++ (R.take j).map (·.1.2))) ∧ Hid (Below M w wr) ∧ Hid (M ≤ wr.heap.size) ∧ Hid (R = [] ∨ ∃ g off, a5 = some ⟨g, off, none⟩ ∧ g < wr.heap.size ∧ PairsAt wr g off R ∧ kv2.ownBlock ≠ some g ∧ g ≠ sb)) (fun v _ => r - (intOf v).toNat)
      case atStart => exact ⟨0, _, rfl, Nat.zero_le _, HR0, HB5, HM5, HAt⟩
      case round =>
        obtain ⟨j, kv2, rfl, hjn, hsz, hbw, hmw, hat⟩ := hrel
        clear HR0 HB5 HM5 HAt
        have ej : IntKind.i64.wrap ((j : Int) + 1) = (j : Int) + 1 := IntWalk.i64_in _ (by have := HKl2.out.2; omega)
        by_cases hlt : j < r
        · obtain ⟨p, hp⟩ : ∃ p, R[j]? = some p := ⟨R[j]'(by rw [← HRl.out]; exact hlt), List.getElem?_eq_getElem _⟩
          obtain ⟨⟨d, k⟩, x⟩ := p
          obtain ⟨g, off, rfl, hg, hpw, hne, hgs⟩ := hat.out.resolve_left (fun e => by rw [e] at hp; simp at hp)
          obtain ⟨c0, c1, c2⟩ := hpw j _ hp
          simp only at c0 c1 c2
          have HT : Hid ((R.take (j + 1)).map (·.1.2) = (R.take j).map (·.1.2) ++ [k]) := by
            refine Lib.hid ?_
            rw [List.take_add_one, hp, List.map_append]; rfl
          have hlen : (ks' ++ (R.take j).map (·.1.2)).length = ks'.length + j := by
            have := HRl.out
            simp only [List.length_append, List.length_map, List.length_take]
            omega
          obtain ⟨q, hq⟩ : ∃ q, q = ks'.length + j := ⟨_, rfl⟩
          rw [← hq] at hlen
          have HLn := Lib.hid hlen
          obtain ⟨kva, kvc, rfl, _⟩ := row_slice hsz.out.own
          rw [hlen] at hsz hne
          have hq2 : q ≤ 200000000 := by have := HKl2.out; omega
          have hI1 : (j : Int) < (r : Int) := by omega
          have hI2 : (0 : Int) ≤ (j : Int) := by omega
          have H2 := Lib.hid (hsz.out.below ((below_alloc wr (.cells #[.string k, .string x, .int .u64 d] 118))))
          have H2d := Lib.hid (hsz.out.below (below_drew (below_alloc wr (.cells #[.string k, .string x, .int .u64 d] 118))))
          have HM2 : Hid (M ≤ (wr.alloc (.cells #[.string k, .string x, .int .u64 d] 118)).drew.heap.size) := Lib.hid (Nat.le_trans hmw.out (below_drew (below_alloc wr _)).size)
          have HBw2 : Hid (Below M w (wr.alloc (.cells #[.string k, .string x, .int .u64 d] 118)).drew) := Lib.hid (hbw.out.trans ((below_drew (below_alloc wr _)).mono hmw.out))
          have HPw : Hid (g < wr.heap.size ∧ PairsAt (wr.alloc (.cells #[.string k, .string x, .int .u64 d] 118)).drew g off R ∧ (Value.slice kva q kvc).ownBlock ≠ some g ∧ g ≠ sb) := Lib.hid ⟨hg, hpw.later (below_drew (below_alloc wr _)), hne, hgs⟩
          have HSzV : Hid (wr.heap.size ≤ (wr.alloc (.cells #[.string k, .string x, .int .u64 d] 118)).heap.size) := Lib.hid (below_alloc wr _).size
          have f0 : (wr.alloc (.cells #[.string k, .string x, .int .u64 d] 118)).cell? ⟨wr.heap.size, 0, none⟩ = some (.string k) := by go_simp
          clear hp hpw hsz hbw hlen hq hne hgs hg hat
          go_upto_region 13 with fail
          clear c0 c1 c2
          generalize wr.alloc (.cells #[.string k, .string x, .int .u64 d] 118) = V at *
          have f1 : V.drew.cell? ⟨wr.heap.size, 0, none⟩ = some (.string k) := f0
          have f2 : (V.alloc (.cells #[.string k] 9)).cell? ⟨wr.heap.size, 0, none⟩ = some (.string k) := cell_later (below_alloc V _) f0
          have k1 : V.drew.cell? ⟨sb, 2, none⟩ = some (.slice kva q kvc) := H2d.out.k
          have k2 : (V.alloc (.cells #[.string k] 9)).cell? ⟨sb, 2, none⟩ = some (.slice kva q kvc) := cell_later (below_alloc V _) H2.out.k
          go_region_law
            (first
              | (refine step_pushI (w0 := V.drew) (by rfl) _ _ 49 9 _ 1 16 (by rfl) Try.underlying49 Try.infoString (by rfl) (by decide) M q _ (strL.all (ks' ++ (R.take j).map (·.1.2))) (by rfl) (by have h := H2d.out.own; rw [HLn.out] at h; exact h) #[.string k] (by rfl) (by simp [Value.oneCell']) (by rfl) (by omega) (by decide) HM2.out ?_; intro g4 cap4 w4 hown4 hg4 hat4 hlt4; have HO4 := Lib.hid hown4; have HG4 : Hid (V.drew.grownBy w4 (Value.slice kva q kvc).ownBlock) := Lib.hid hg4; have HT4 : Hid ((Value.slice kva q kvc).ownBlock = some g4 ∨ V.drew.heap.size ≤ g4) := Lib.hid hat4; have hsame : w4.heap[sb]? = V.drew.heap[sb]? := hg4.block sb H2d.out.lt (fun e => H2d.out.ne e.symm); have s4 : w4.cell? ⟨sb, 2, none⟩ = some (.slice kva q kvc) := (World.cell?_of_block (a := ⟨sb, 2, none⟩) hsame).trans H2d.out.k; have z4 : w4.frozen? ⟨sb, 2, none⟩ = false := (World.frozen?_of_block (a := ⟨sb, 2, none⟩) hsame).trans (H2d.out.z 2); clear hown4 hg4 hat4 hlt4 hsame))
          all_goals
            have H5 := Lib.hid (H2d.out.push (n := q + 1) (by rw [HLn.out]) HO4.out HG4.out HT4.out)
            have HB5 := Lib.hid (HBw2.out.trans (H2d.out.push_below (n := q + 1) (c4 := cap4) (g4 := g4) HM2.out HG4.out))
            have HP5 : Hid (R = [] ∨ ∃ g' off', some (⟨g, off, none⟩ : Addr) = some ⟨g', off', none⟩ ∧ g' < (w4.setCell ⟨sb, 2, none⟩ (.slice (some ⟨g4, 0, none⟩) (q + 1) cap4)).heap.size ∧ PairsAt (w4.setCell ⟨sb, 2, none⟩ (.slice (some ⟨g4, 0, none⟩) (q + 1) cap4)) g' off' R ∧ (Value.slice (some ⟨g4, 0, none⟩) (q + 1) cap4).ownBlock ≠ some g' ∧ g' ≠ sb) := by
              obtain ⟨h1, h2, h3, h4⟩ := HPw.out
              have hz := HSzV.out
              have hgz := HG4.out.size
              have hlt : g < V.drew.heap.size := Nat.lt_of_lt_of_le h1 hz
              refine Lib.hid (.inr ⟨g, off, rfl, ?_, ?_, fun e => ?_, h4⟩)
              · show g < _
                have : (w4.setCell ⟨sb, 2, none⟩ (.slice (some ⟨g4, 0, none⟩) (q + 1) cap4)).heap.size = w4.heap.size := by simp [World.setCell]
                omega
              · exact (h2.block (HG4.out.block g hlt (fun e => h3 e.symm))).block (heap_setCell_other _ _ _ _ h4)
              · have e : g4 = g := by simpa [Value.ownBlock] using e
                subst e
                rcases HT4.out with e | e
                · exact h3 e
                · omega
            rw [List.append_assoc, ← HT.out] at H5
            clear H2 H2d f0 f1 f2 k1 k2 s4 z4 HO4 HG4 HT4 HPw HSzV
            generalize w4.setCell ⟨sb, 2, none⟩ (.slice (some ⟨g4, 0, none⟩) (q + 1) cap4) = w5 at H5 HB5 HP5 ⊢
            have HM5 : Hid (M ≤ w5.heap.size) := Lib.hid (Nat.le_trans HMl.out HB5.out.size)
            go_wp2_with fail
            exact ⟨⟨j + 1, _, by push_cast; rfl, by omega, H5, HB5, HM5, HP5⟩, by simp [intOf]; omega⟩
        · obtain rfl : j = r := by omega
          have hS' : R.take j = R := List.take_of_length_le (by have := HRl.out; omega)
          rw [hS', HKe.out] at hsz
          go_wp2_with fail
          go_end0
          exact ⟨kv2, rfl, hsz.out, hbw.out⟩
    | p :: S1, q :: T1, HC, HK =>
      obtain ⟨g1, off1, c1, hu, hc1, hc1b, hg1, x0, x1, x2, ht1⟩ := HC.out.a.cons
      obtain ⟨g2, off2, c2, hv, hc2, hc2b, hg2, y0, y1, y2, ht2⟩ := HC.out.b.cons
      subst hu hv
      obtain ⟨⟨d1, k1⟩, v1⟩ := p
      obtain ⟨⟨d2, k2⟩, v2⟩ := q
      simp only at x0 x1 x2 y0 y1 y2
      obtain ⟨n1, hn1⟩ : ∃ n, n = S1.length := ⟨_, rfl⟩
      obtain ⟨n2, hn2⟩ : ∃ n, n = T1.length := ⟨_, rfl⟩
      rw [← hn1] at hc1 ht1 ⊢
      rw [← hn2] at hc2 ht2 ⊢
      rw [← hn1, ← hn2] at HC
      have HT1 := Lib.hid ht1
      have HT2 := Lib.hid ht2
      have HN1 := Lib.hid (show n1 = S1.length ∧ n2 = T1.length from ⟨hn1, hn2⟩)
      have HX := Lib.hid (show wr.cell? ⟨g1, off1, none⟩ = some (.string k1) ∧ wr.cell? ⟨g1, off1 + 1, none⟩ = some (.string v1) ∧ wr.cell? ⟨g2, off2, none⟩ = some (.string k2) ∧ wr.cell? ⟨g2, off2 + 1, none⟩ = some (.string v2) from ⟨x0, x1, y0, y1⟩)
      clear ht1 ht2 x1 x2 y1 y2 hn1 hn2
      have hp1 : (0 : Int) < (n1 : Int) + 1 := by omega
      have hp2 : (0 : Int) < (n2 : Int) + 1 := by omega
      have ho1 : (1 : Int) ≤ (n1 : Int) + 1 := by omega
      have ho2 : (1 : Int) ≤ (n2 : Int) + 1 := by omega
      obtain ⟨kva, kvc, rfl, _⟩ := row_slice HC.out.s.own
      obtain ⟨q, hq⟩ : ∃ q, q = ks'.length := ⟨_, rfl⟩
      rw [← hq] at HC
      have HQn := Lib.hid hq
      have hq2 : q + 1 ≤ 200000000 := by have := HC.out.l; omega
      have HKq : Hid (ks'.length + (S1.length + 1 + (T1.length + 1)) ≤ ks.length + (S.length + T.length)) := Lib.hid HK.out
      have HKs : Hid (S.length + T.length ≤ 200000 ∧ ks.length ≤ 100000000) := Lib.hid ⟨by have := HN.out; omega, HKl.out⟩
      clear hq HK
      rcases cmpB_cases k1 k2 with ⟨hk, hz⟩ | ⟨hk, hz⟩ | ⟨hk, hz⟩
      · have HQ := Lib.hid (fun V : World => (show Calls Try.prog 69 #[.string k1, .string k2] V fun e w' => e = .returned (.int .i64 (-1)) ∧ w' = V from by have h := Try.strings_Compare k1 k2 V; rw [hz] at h; exact h))
        have HMg := Lib.hid (mg_lt (p := ((d1, k1), v1)) (q := ((d2, k2), v2)) (S := S1) (T := T1) hk)
        clear hz hk
        go_wp2_with fail
        go_quiet ((go_at_call 69; exact Calls.quiet_of_same (HQ.out _)))
        clear x0 y0 HQ
        have HS1 : Hid (Sf (wr.drewN nq) M (.slice (if c1 = 1 then some ⟨g1, off1, none⟩ else some ⟨g1, off1 + 3, none⟩) n1 (c1 - 1)) S1) := Lib.hid (HT1.out.block fun _ _ => rfl)
        have HCd := Lib.hid (HC.out.drewN nq)
        have f0 : (wr.drewN nq).cell? ⟨g1, off1, none⟩ = some (.string k1) := HX.out.1
        have kk0 : (wr.drewN nq).cell? ⟨sb, 2, none⟩ = some (.slice kva q kvc) := HCd.out.s.k
        clear HC HX HT1 HT2
        generalize wr.drewN nq = V at *
        have HD := Lib.hid HCd.out.drew
        go_upto_region 7 with fail
        have f1 : V.drew.cell? ⟨g1, off1, none⟩ = some (.string k1) := f0
        have f2 : (V.alloc (.cells #[.string k1] 9)).cell? ⟨g1, off1, none⟩ = some (.string k1) := cell_later (below_alloc V _) f0
        have kk1 : V.drew.cell? ⟨sb, 2, none⟩ = some (.slice kva q kvc) := HD.out.s.k
        have kk2 : (V.alloc (.cells #[.string k1] 9)).cell? ⟨sb, 2, none⟩ = some (.slice kva q kvc) := cell_later (below_alloc V _) kk0
        go_region_law
          (first
            | (refine step_pushI (w0 := V.drew) (by rfl) _ _ 49 9 _ 1 16 (by rfl) Try.underlying49 Try.infoString (by rfl) (by decide) M q _ (strL.all ks') (by rfl) (by have h := HD.out.s.own; rw [← HQn.out] at h; exact h) #[.string k1] (by rfl) (by simp [Value.oneCell']) (by rfl) (by omega) (by decide) HD.out.m ?_; intro g4 cap4 w4 hown4 hg4 hat4 hlt4; have HO4 := Lib.hid hown4; have HG4 : Hid (V.drew.grownBy w4 (Value.slice kva q kvc).ownBlock) := Lib.hid hg4; have HT4 : Hid ((Value.slice kva q kvc).ownBlock = some g4 ∨ V.drew.heap.size ≤ g4) := Lib.hid hat4; have hsame : w4.heap[sb]? = V.drew.heap[sb]? := hg4.block sb HD.out.s.lt (fun e => HD.out.s.ne e.symm); have s4 : w4.cell? ⟨sb, 2, none⟩ = some (.slice kva q kvc) := (World.cell?_of_block (a := ⟨sb, 2, none⟩) hsame).trans HD.out.s.k; have z4 : w4.frozen? ⟨sb, 2, none⟩ = false := (World.frozen?_of_block (a := ⟨sb, 2, none⟩) hsame).trans (HD.out.s.z 2); clear hown4 hg4 hat4 hlt4 hsame))
        all_goals
          have HN5 := Lib.hid (HD.out.push (n := q + 1) (ua' := (.slice (if c1 = 1 then some ⟨g1, off1, none⟩ else some ⟨g1, off1 + 3, none⟩) n1 (c1 - 1))) (ub' := (.slice (some ⟨g2, off2, none⟩) (n2 + 1) c2)) (S' := S1) (T' := (((d2, k2), v2) :: T1)) (by rw [← HQn.out]) HO4.out HG4.out HT4.out (HS1.out.block fun _ _ => rfl) HD.out.b HMg.out (by simp only [List.length_cons]; omega) (by have := HKs.out; have := HKq.out; omega))
          have HK5 : Hid ((ks' ++ [k1]).length + (S1.length + (((d2, k2), v2) :: T1).length) ≤ ks.length + (S.length + T.length)) := Lib.hid (by have := HKq.out; simp only [List.length_append, List.length_cons, List.length_nil]; omega)
          clear f0 f1 f2 kk0 kk1 kk2 s4 z4 HO4 HG4 HT4 HD HCd
          go_simp
          generalize w4.setCell ⟨sb, 2, none⟩ (.slice (some ⟨g4, 0, none⟩) (q + 1) cap4) = w5 at HN5 ⊢
          go_wp2_with fail
          exact ⟨⟨S1, (((d2, k2), v2) :: T1), _, _, HN5, HK5⟩, by simp only [lenV]; omega⟩
      · have HQ := Lib.hid (fun V : World => (show Calls Try.prog 69 #[.string k1, .string k2] V fun e w' => e = .returned (.int .i64 (0)) ∧ w' = V from by have h := Try.strings_Compare k1 k2 V; rw [hz] at h; exact h))
        have hmg := mg_eq (p := ((d1, k1), v1)) (q := ((d2, k2), v2)) (S := S1) (T := T1) hk
        clear hz hk
        go_wp2_with fail
        go_quiet ((go_at_call 69; exact Calls.quiet_of_same (HQ.out _)))
        clear x0 y0 HQ
        by_cases hv : v1 = v2
        · subst hv
          have hve : (v1.toList == v1.toList) = true := by rw [ba_eq]; simp
          rw [if_pos rfl] at hmg
          have HMg := Lib.hid hmg
          clear hmg
          have j0 : (wr.drewN nq).cell? ⟨g1, off1 + 1, none⟩ = some (.string v1) := HX.out.2.1
          have j1 : (wr.drewN nq).cell? ⟨g2, off2 + 1, none⟩ = some (.string v1) := HX.out.2.2.2
          have HCV := Lib.hid (HC.out.drewN nq)
          have HXV : Hid ((wr.drewN nq).cell? ⟨g1, off1, none⟩ = some (.string k1)) := Lib.hid HX.out.1
          have HU1 : Hid (Sf (wr.drewN nq) M (.slice (if c1 = 1 then some ⟨g1, off1, none⟩ else some ⟨g1, off1 + 3, none⟩) n1 (c1 - 1)) S1) := Lib.hid (HT1.out.block fun _ _ => rfl)
          have HU2 : Hid (Sf (wr.drewN nq) M (.slice (if c2 = 1 then some ⟨g2, off2, none⟩ else some ⟨g2, off2 + 3, none⟩) n2 (c2 - 1)) T1) := Lib.hid (HT2.out.block fun _ _ => rfl)
          generalize wr.drewN nq = V0 at *
          go_upto_region 3 with fail
          go_quiet (fail)
          clear j0 j1
          have HCd := Lib.hid (HCV.out.drewN nq)
          have HN5 : Hid (Cs w (V0.drewN nq) M sb dg (pr + (n + m)) 200000 (.slice (if c1 = 1 then some ⟨g1, off1, none⟩ else some ⟨g1, off1 + 3, none⟩) n1 (c1 - 1)) (.slice (if c2 = 1 then some ⟨g2, off2, none⟩ else some ⟨g2, off2 + 3, none⟩) n2 (c2 - 1)) (.slice kva q kvc) ks' (ks ++ mg S T) S1 T1) := Lib.hid ⟨HU1.out.block fun _ _ => rfl, HU2.out.block fun _ _ => rfl, HCd.out.s, by rw [← HCd.out.k, HMg.out], by have := HCd.out.n; simp only [List.length_cons] at this; omega, HCd.out.l, HCd.out.bw, HCd.out.m⟩
          have HK5 : Hid (ks'.length + (S1.length + T1.length) ≤ ks.length + (S.length + T.length)) := Lib.hid (by have := HKq.out; omega)
          clear HC HX HT1 HT2 HCd HU1 HU2 HCV HXV
          generalize V0.drewN nq = V at *
          go_upto_region 5 with fail
          go_quiet (fail)
          have HN6 := Lib.hid (HN5.out.drewN nq)
          clear HN5
          generalize V.drewN nq = V6 at *
          go_wp2_with fail
          exact ⟨⟨S1, T1, _, _, HN6, HK5⟩, by simp only [lenV]; omega⟩
        · have hve : (v1.toList == v2.toList) = false := by rw [ba_eq]; simpa using hv
          rw [if_neg hv] at hmg
          have HMg := Lib.hid hmg
          clear hmg hv
          have j0 : (wr.drewN nq).cell? ⟨g1, off1 + 1, none⟩ = some (.string v1) := HX.out.2.1
          have j1 : (wr.drewN nq).cell? ⟨g2, off2 + 1, none⟩ = some (.string v2) := HX.out.2.2.2
          have HCV := Lib.hid (HC.out.drewN nq)
          have HXV : Hid ((wr.drewN nq).cell? ⟨g1, off1, none⟩ = some (.string k1)) := Lib.hid HX.out.1
          have HU1 : Hid (Sf (wr.drewN nq) M (.slice (if c1 = 1 then some ⟨g1, off1, none⟩ else some ⟨g1, off1 + 3, none⟩) n1 (c1 - 1)) S1) := Lib.hid (HT1.out.block fun _ _ => rfl)
          have HU2 : Hid (Sf (wr.drewN nq) M (.slice (if c2 = 1 then some ⟨g2, off2, none⟩ else some ⟨g2, off2 + 3, none⟩) n2 (c2 - 1)) T1) := Lib.hid (HT2.out.block fun _ _ => rfl)
          generalize wr.drewN nq = V0 at *
          go_upto_region 3 with fail
          go_quiet (fail)
          clear j0 j1
          have HS1 : Hid (Sf (V0.drewN nq) M (.slice (if c1 = 1 then some ⟨g1, off1, none⟩ else some ⟨g1, off1 + 3, none⟩) n1 (c1 - 1)) S1) := Lib.hid (HU1.out.block fun _ _ => rfl)
          have HS2 : Hid (Sf (V0.drewN nq) M (.slice (if c2 = 1 then some ⟨g2, off2, none⟩ else some ⟨g2, off2 + 3, none⟩) n2 (c2 - 1)) T1) := Lib.hid (HU2.out.block fun _ _ => rfl)
          have HCd := Lib.hid (HCV.out.drewN nq)
          have f0 : (V0.drewN nq).cell? ⟨g1, off1, none⟩ = some (.string k1) := HXV.out
          have kk0 : (V0.drewN nq).cell? ⟨sb, 2, none⟩ = some (.slice kva q kvc) := HCd.out.s.k
          clear HC HX HT1 HT2 HCV HXV HU1 HU2
          generalize V0.drewN nq = V at *
          have HD := Lib.hid HCd.out.drew
          go_upto_region 4 with fail
          have f1 : V.drew.cell? ⟨g1, off1, none⟩ = some (.string k1) := f0
          have f2 : (V.alloc (.cells #[.string k1] 9)).cell? ⟨g1, off1, none⟩ = some (.string k1) := cell_later (below_alloc V _) f0
          have kk1 : V.drew.cell? ⟨sb, 2, none⟩ = some (.slice kva q kvc) := HD.out.s.k
          have kk2 : (V.alloc (.cells #[.string k1] 9)).cell? ⟨sb, 2, none⟩ = some (.slice kva q kvc) := cell_later (below_alloc V _) kk0
          go_region_law
            (first
              | (refine step_pushI (w0 := V.drew) (by rfl) _ _ 49 9 _ 1 16 (by rfl) Try.underlying49 Try.infoString (by rfl) (by decide) M q _ (strL.all ks') (by rfl) (by have h := HD.out.s.own; rw [← HQn.out] at h; exact h) #[.string k1] (by rfl) (by simp [Value.oneCell']) (by rfl) (by omega) (by decide) HD.out.m ?_; intro g4 cap4 w4 hown4 hg4 hat4 hlt4; have HO4 := Lib.hid hown4; have HG4 : Hid (V.drew.grownBy w4 (Value.slice kva q kvc).ownBlock) := Lib.hid hg4; have HT4 : Hid ((Value.slice kva q kvc).ownBlock = some g4 ∨ V.drew.heap.size ≤ g4) := Lib.hid hat4; have hsame : w4.heap[sb]? = V.drew.heap[sb]? := hg4.block sb HD.out.s.lt (fun e => HD.out.s.ne e.symm); have s4 : w4.cell? ⟨sb, 2, none⟩ = some (.slice kva q kvc) := (World.cell?_of_block (a := ⟨sb, 2, none⟩) hsame).trans HD.out.s.k; have z4 : w4.frozen? ⟨sb, 2, none⟩ = false := (World.frozen?_of_block (a := ⟨sb, 2, none⟩) hsame).trans (HD.out.s.z 2); clear hown4 hg4 hat4 hlt4 hsame))
          all_goals
            have HN5 := Lib.hid (HD.out.push (n := q + 1) (ua' := (.slice (if c1 = 1 then some ⟨g1, off1, none⟩ else some ⟨g1, off1 + 3, none⟩) n1 (c1 - 1))) (ub' := (.slice (if c2 = 1 then some ⟨g2, off2, none⟩ else some ⟨g2, off2 + 3, none⟩) n2 (c2 - 1))) (S' := S1) (T' := T1) (by rw [← HQn.out]) HO4.out HG4.out HT4.out (HS1.out.block fun _ _ => rfl) (HS2.out.block fun _ _ => rfl) HMg.out (by simp only [List.length_cons]; omega) (by have := HKs.out; have := HKq.out; omega))
            have HK5 : Hid ((ks' ++ [k1]).length + (S1.length + T1.length) ≤ ks.length + (S.length + T.length)) := Lib.hid (by have := HKq.out; simp only [List.length_append, List.length_cons, List.length_nil]; omega)
            clear f0 f1 f2 kk0 kk1 kk2 s4 z4 HO4 HG4 HT4 HD HCd
            go_simp
            generalize w4.setCell ⟨sb, 2, none⟩ (.slice (some ⟨g4, 0, none⟩) (q + 1) cap4) = w5 at HN5 ⊢
            go_upto_region 5 with fail
            go_quiet (fail)
            have HN6 := Lib.hid (HN5.out.drewN nq)
            clear HN5
            have HN5 := HN6
            clear HN6
            generalize w5.drewN nq = V6 at *
            go_wp2_with fail
            exact ⟨⟨S1, T1, _, _, HN5, HK5⟩, by simp only [lenV]; omega⟩
      · have HQ := Lib.hid (fun V : World => (show Calls Try.prog 69 #[.string k1, .string k2] V fun e w' => e = .returned (.int .i64 (1)) ∧ w' = V from by have h := Try.strings_Compare k1 k2 V; rw [hz] at h; exact h))
        have HMg := Lib.hid (mg_gt (p := ((d1, k1), v1)) (q := ((d2, k2), v2)) (S := S1) (T := T1) hk)
        clear hz hk
        go_wp2_with fail
        go_quiet ((go_at_call 69; exact Calls.quiet_of_same (HQ.out _)))
        clear x0 y0 HQ
        have HS2 : Hid (Sf (wr.drewN nq) M (.slice (if c2 = 1 then some ⟨g2, off2, none⟩ else some ⟨g2, off2 + 3, none⟩) n2 (c2 - 1)) T1) := Lib.hid (HT2.out.block fun _ _ => rfl)
        have HCd := Lib.hid (HC.out.drewN nq)
        have f0 : (wr.drewN nq).cell? ⟨g2, off2, none⟩ = some (.string k2) := HX.out.2.2.1
        have kk0 : (wr.drewN nq).cell? ⟨sb, 2, none⟩ = some (.slice kva q kvc) := HCd.out.s.k
        clear HC HX HT1 HT2
        generalize wr.drewN nq = V at *
        have HD := Lib.hid HCd.out.drew
        go_upto_region 9 with fail
        have f1 : V.drew.cell? ⟨g2, off2, none⟩ = some (.string k2) := f0
        have f2 : (V.alloc (.cells #[.string k2] 9)).cell? ⟨g2, off2, none⟩ = some (.string k2) := cell_later (below_alloc V _) f0
        have kk1 : V.drew.cell? ⟨sb, 2, none⟩ = some (.slice kva q kvc) := HD.out.s.k
        have kk2 : (V.alloc (.cells #[.string k2] 9)).cell? ⟨sb, 2, none⟩ = some (.slice kva q kvc) := cell_later (below_alloc V _) kk0
        go_region_law
          (first
            | (refine step_pushI (w0 := V.drew) (by rfl) _ _ 49 9 _ 1 16 (by rfl) Try.underlying49 Try.infoString (by rfl) (by decide) M q _ (strL.all ks') (by rfl) (by have h := HD.out.s.own; rw [← HQn.out] at h; exact h) #[.string k2] (by rfl) (by simp [Value.oneCell']) (by rfl) (by omega) (by decide) HD.out.m ?_; intro g4 cap4 w4 hown4 hg4 hat4 hlt4; have HO4 := Lib.hid hown4; have HG4 : Hid (V.drew.grownBy w4 (Value.slice kva q kvc).ownBlock) := Lib.hid hg4; have HT4 : Hid ((Value.slice kva q kvc).ownBlock = some g4 ∨ V.drew.heap.size ≤ g4) := Lib.hid hat4; have hsame : w4.heap[sb]? = V.drew.heap[sb]? := hg4.block sb HD.out.s.lt (fun e => HD.out.s.ne e.symm); have s4 : w4.cell? ⟨sb, 2, none⟩ = some (.slice kva q kvc) := (World.cell?_of_block (a := ⟨sb, 2, none⟩) hsame).trans HD.out.s.k; have z4 : w4.frozen? ⟨sb, 2, none⟩ = false := (World.frozen?_of_block (a := ⟨sb, 2, none⟩) hsame).trans (HD.out.s.z 2); clear hown4 hg4 hat4 hlt4 hsame))
        all_goals
          have HN5 := Lib.hid (HD.out.push (n := q + 1) (ua' := (.slice (some ⟨g1, off1, none⟩) (n1 + 1) c1)) (ub' := (.slice (if c2 = 1 then some ⟨g2, off2, none⟩ else some ⟨g2, off2 + 3, none⟩) n2 (c2 - 1))) (S' := (((d1, k1), v1) :: S1)) (T' := T1) (by rw [← HQn.out]) HO4.out HG4.out HT4.out HD.out.a (HS2.out.block fun _ _ => rfl) HMg.out (by simp only [List.length_cons]; omega) (by have := HKs.out; have := HKq.out; omega))
          have HK5 : Hid ((ks' ++ [k2]).length + ((((d1, k1), v1) :: S1).length + T1.length) ≤ ks.length + (S.length + T.length)) := Lib.hid (by have := HKq.out; simp only [List.length_append, List.length_cons, List.length_nil]; omega)
          clear f0 f1 f2 kk0 kk1 kk2 s4 z4 HO4 HG4 HT4 HD HCd
          go_simp
          generalize w4.setCell ⟨sb, 2, none⟩ (.slice (some ⟨g4, 0, none⟩) (q + 1) cap4) = w5 at HN5 ⊢
          go_wp2_with fail
          exact ⟨⟨(((d1, k1), v1) :: S1), T1, _, _, HN5, HK5⟩, by simp only [lenV]; omega⟩end Go.Proofs.Ytcbgnmolfdhnfaa
