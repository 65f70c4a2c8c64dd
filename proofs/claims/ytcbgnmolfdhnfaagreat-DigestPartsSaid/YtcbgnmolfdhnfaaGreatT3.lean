/-
  Pairs sorted by their keys; the pairs of a part.
-/
import Derived.Test.YtcbgnmolfdhnfaaGreatT2
import Derived.Test.YtcbgnmolfdhnfaaGreatShelf3
import Derived.Shelf.SlSortCmp.WholeK
import Derived.Sort.OwnSorted
namespace Go.Proofs.YtcbgnmolfdhnfaaGreat
set_option linter.unusedVariables false
set_option linter.unusedSimpArgs false
open Go.RowKit Go.Shelf Go.Sort

/-- An item's cells in a row, flat. -/
theorem flat_all {α : Type} [Inhabited α] (I : Lay α) (hk : 0 < I.sz) (d : Array α) : (flatK I.enc I.sz d).toList = I.all d.toList := by
  apply List.ext_getElem?
  intro t
  by_cases ht : t < d.size * I.sz
  · have h1 : (flatK I.enc I.sz d).toList[t]? = some ((I.enc d[t / I.sz]!)[t % I.sz]!) := by
      rw [Array.getElem?_toList, Array.getElem?_eq_getElem (by simpa using ht)]
      congr 1
      have := get_flatK I.enc I.sz d t ht
      rwa [getElem!_pos _ _ (by simpa using ht)] at this
    have hi : t / I.sz < d.size := Nat.div_lt_of_lt_mul (by rw [Nat.mul_comm]; exact ht)
    have hj : t % I.sz < I.sz := Nat.mod_lt _ hk
    have h2 := Lay.all_at I d.toList (t / I.sz) (t % I.sz) hj
    have e : t / I.sz * I.sz + t % I.sz = t := by rw [Nat.mul_comm]; exact Nat.div_add_mod t I.sz
    have hd : d.toList[t / I.sz]? = some d[t / I.sz] := by rw [Array.getElem?_toList, Array.getElem?_eq_getElem hi]
    rw [e, hd] at h2
    rw [h1, h2]
    simp only [Option.bind_some]
    rw [getElem!_pos d _ hi, List.getElem?_eq_getElem (by rw [I.len]; exact hj)]
    congr 1
    exact getElem!_pos _ _ (by rw [I.len]; exact hj)
  · rw [List.getElem?_eq_none (by simp; omega), List.getElem?_eq_none (by rw [Lay.all_len]; simp; omega)]
theorem holds_row {α : Type} [Inhabited α] {I : Lay α} (hk : 0 < I.sz) {w : World} {B g n c : Nat} {E : TypeId} {l : List α} (h : w.ownsRow B E I.sz (.slice (some ⟨g, 0, none⟩) n c) n (I.all l)) : HoldsK I.enc I.sz w g 0 l.toArray := by
  intro j hj
  have hf := h.frozenAt (g := g) j
  have he : (I.all l)[j]? = some (flatK I.enc I.sz l.toArray)[j]! := by
    have := flat_all I hk l.toArray
    simp only [List.toList_toArray] at this
    rw [← this, Array.getElem?_toList, Array.getElem?_eq_getElem hj]
    congr 1
    exact (getElem!_pos (flatK I.enc I.sz l.toArray) j hj).symm
  have hc := h.cells (g := g) rfl j _ he
  rw [lay_add] at hc
  refine ⟨hc, ?_⟩
  rw [Nat.zero_add]; exact hf
theorem heap_sortedK {α : Type} [Inhabited α] {enc : α → List Value} {k : Nat} {w : World} {g n : Nat} {os : Array Obj} {cur : Array Value} {e : TypeId} {fr : Nat × Nat} (d : Array α) (hb : w.heap[g]? = some (.cells cur e fr)) :
    (sortWorldK enc k w g 0 n d os).heap[g]? = some (.cells (putCells id 0 (flatK enc k d) cur) e fr) := by
  have hg : g < w.heap.size := (Array.getElem?_eq_some_iff.1 hb).1
  unfold sortWorldK putRowK
  rw [heap_grow_old _ _ (by simpa using hg)]
  simp [putRow, mapBlock, Sort.ahead, Array.getElem?_modify, hb, onCells]
theorem grownBy_sortedK {α : Type} [Inhabited α] {enc : α → List Value} {k : Nat} {w : World} {g n : Nat} {os : Array Obj} (d : Array α) : w.grownBy (sortWorldK enc k w g 0 n d os) (some g) := by
  unfold sortWorldK putRowK
  refine ⟨rfl, rfl, rfl, by simp, fun k hk hne => ?_⟩
  rw [heap_grow_old _ _ (by simpa using hk)]
  have : g ≠ k := fun e => hne (by rw [e])
  simp [putRow, mapBlock, Sort.ahead, Array.getElem?_modify, this]
theorem take_putCellsK (cur : Array Value) (F : Array Value) (h : F.size ≤ cur.size) : (putCells id 0 F cur).toList.take F.size = F.toList := by
  apply List.ext_getElem?
  intro j
  by_cases hj : j < F.size
  · rw [List.getElem?_take_of_lt hj, Array.getElem?_toList, Array.getElem?_toList]
    simp [putCells, hj, show j < cur.size by omega]
  · rw [List.getElem?_take_eq_none (by omega), List.getElem?_eq_none (by simp; omega)]
/-- Behind the sort the same slice owns the sorted list. -/
theorem own_sortedK {α : Type} [Inhabited α] {I : Lay α} (hk : 0 < I.sz) {w : World} {B g n c m : Nat} {E : TypeId} {os : Array Obj} {l : List α} {d : Array α} (h : w.ownsRow B E I.sz (.slice (some ⟨g, 0, none⟩) n c) n (I.all l)) (hn : n = l.length) (hd : d.size = l.length) :
    (sortWorldK I.enc I.sz w g 0 m d os).ownsRow B E I.sz (.slice (some ⟨g, 0, none⟩) n c) n (I.all d.toList) := by
  rcases h.2 with ⟨h0, _⟩ | ⟨g', cap, cur, hv, hbase, hgb, r1, r2, r3, r4⟩
  · cases h0
  · simp only [Value.slice.injEq, Option.some.injEq, Addr.mk.injEq] at hv
    obtain ⟨⟨rfl, _⟩, _, rfl⟩ := hv
    refine ⟨by rw [Lay.all_len]; simp [hd, hn], .inr ⟨g, c, _, rfl, hbase, heap_sortedK d hgb, r1, r2, by simp [putCells, r3], ?_⟩⟩
    have h1 : (flatK I.enc I.sz d).size = n * I.sz := by simp [hd, hn]
    rw [← h1, take_putCellsK cur _ (by rw [h1, r3]; exact Nat.mul_le_mul_right _ r1), flat_all I hk]

/-- What compares pairs. -/
def cfP (x y : Pr) : Int := Lib.compareBytes x.1.data.toList y.1.data.toList
set_option maxRecDepth 100000 in
set_option maxHeartbeats 1600000 in
theorem cmpPr_any (x y : Pr) (W : World) : Calls Tryz.prog 30 #[.agg #[.string x.1, .string x.2], .agg #[.string y.1, .string y.2]] W fun e w' => e = .returned (.int .i64 (cfP x y)) ∧ ∃ q os', w' = grow (W.drewN q) os' := by
  have hcon := fun W' => Tryz.strings_Compare x.1 y.1 W'
  unfold cfP
  generalize Lib.compareBytes x.1.data.toList y.1.data.toList = r at hcon ⊢
  obtain ⟨k1, v1⟩ := x
  obtain ⟨k2, v2⟩ := y
  simp only at hcon ⊢
  go_enter Tryz.func30, Tryz.ntmps30
  go_wp2_with (go_at_call 31; refine (hcon _).mono ?_; rintro e w' ⟨rfl, rfl⟩)
  go_ret
  exact ⟨rfl, 0, _, by rw [alloc_eq_grow, alloc_eq_grow, grow_grow]; rfl⟩
theorem cmpB3 (a b : ByteArray) : (klt a b = true ∧ Lib.compareBytes a.data.toList b.data.toList < 0) ∨ (klt a b = false ∧ ¬ Lib.compareBytes a.data.toList b.data.toList < 0) := by
  cases h : klt a b
  · exact .inr ⟨rfl, fun e => by rw [(compare_klt a b).1 e] at h; cases h⟩
  · exact .inl ⟨rfl, (compare_klt a b).2 h⟩
theorem ltK (x y : Pr) : ltOf cfP x y = klt x.1 y.1 := by
  unfold ltOf cfP
  rcases cmpB3 x.1 y.1 with h | h <;> simp [h]
theorem swoK : SWO (ltOf cfP) where
  irrefl x := by rw [ltK, klt_irr]
  trans x y z h1 h2 := by rw [ltK] at *; exact klt_trans h1 h2
  ntrans x y z h1 h2 := by
    rw [ltK] at *
    cases h : klt x.1 z.1
    · rfl
    · rcases klt_le h1 with e | e
      · rw [e] at h2; rw [h] at h2; cases h2
      · have := klt_trans e h
        rw [this] at h2; cases h2
instance : Inhabited Pr := ⟨(ByteArray.empty, ByteArray.empty)⟩
/-- By rising keys, and the same pairs. -/
def SrtOf (l r : List Pr) : Prop := r.Perm l ∧ r.Pairwise fun p q => klt q.1 p.1 = false
theorem pdqp_none {a : Option Addr} {c : Nat} (x : Int) (f : Value) (w : World) : Calls Tryz.prog 56 #[.slice a 0 c, .int .i64 0, .int .i64 0, .int .i64 x, f] w fun e w' => e = .returned (.tuple #[]) ∧ w = w' := by
  have hi : Calls Tryz.prog 74 #[.slice a 0 c, .int .i64 0, .int .i64 0, f] w fun e w' => e = .returned (.tuple #[]) ∧ w = w' := by
    go_enter Tryz.func74, Tryz.ntmps74
    go_wp2_with fail
    refine wp_loop_rounds 1 ?_
    rw [rounds_succ]
    go_wp2_with fail
    go_end0
    exact ⟨rfl, rfl⟩
  go_enter Tryz.func56, Tryz.ntmps56
  go_wp2_with fail
  refine wp_loop_rounds 1 ?_
  rw [rounds_succ]
  go_wp2_with fail
  go_fit hi
  rintro e w' ⟨rfl, rfl⟩
  go_wp2_with fail
  (try simp only [Exit.inBlock, Exit.then])
  refine bodyPost_ret (results_none rfl _ _ _) rfl ?_
  exact ⟨rfl, rfl⟩
def SortPr (B : Nat) (v : Value) (l : List Pr) (w : World) (e : Ending) (w' : World) : Prop := e = .returned (.tuple #[]) ∧ ∃ r, SrtOf l r ∧ w'.ownsRow B 44 2 v l.length (prL.all r) ∧ w.grownBy w' v.ownBlock
set_option maxRecDepth 100000 in
set_option maxHeartbeats 1600000 in
theorem SortFunc_any {w : World} {B : Nat} {v : Value} {l : List Pr} (h : w.ownsRow B 44 2 v l.length (prL.all l)) (hl : l.length ≤ 1000000000) : Calls Tryz.prog 29 #[v, .func (.func 30) #[] #[]] w (SortPr B v l w) := by
  have h' := h
  rcases h.2 with ⟨rfl, hz⟩ | ⟨g, cap, cur, rfl, hbase, hgb, r1, r2, r3, r4⟩
  · obtain rfl : l = [] := List.eq_nil_of_length_eq_zero hz
    have HO := Lib.hid h
    have hb := Tryz.bits_Len 0 w (by decide) (by decide)
    clear h h' hz hl
    go_enter Tryz.func29, Tryz.ntmps29
    go_wp2_with fail
    refine hb.mono ?_
    rintro e w' ⟨rfl, rfl⟩
    go_wp2_with fail
    go_fit (pdqp_none _ _ w')
    rintro e w2 ⟨rfl, rfl⟩
    go_wp2_with fail
    go_end0
    exact ⟨rfl, [], ⟨List.Perm.refl _, List.Pairwise.nil⟩, HO.out, ⟨rfl, rfl, rfl, Nat.le_refl _, fun _ _ _ => rfl⟩⟩
  · have eg : ∀ args w, (callFunc 30 args).run Tryz.prog w = .ok (.enter 30 args) w := enters_of Tryz.func30 (by kernel_rfl) rfl
    have hcon := AnyQ.slices_SortFunc Tryz.sortF67 2 Tryz.isAgg44 Tryz.sizeOf44 prL.enc (fun _ => rfl) prL.one cfP swoK 30 #[] g 0 cap l.toArray w eg (fun _ _ _ _ x y => cmpPr_any x y _) (holds_row (I := prL) (by decide) h') (Array.getElem?_eq_some_iff.1 hgb).1 (by simp; omega)
    change Calls Tryz.prog 29 _ _ _ at hcon
    simp only [List.size_toArray] at hcon
    refine hcon.mono fun e w' ⟨he, d, n, os, hp, hs, hw⟩ => ?_
    subst hw
    have hds : d.size = l.length := by have := hp.1; simpa using this
    have hperm : d.toList.Perm l := by
      have := hp.2.2
      have e1 : d.extract 0 l.length = d := by rw [← hds]; simp
      have e2 : l.toArray.extract 0 l.length = l.toArray := by simp
      rw [e1, e2] at this
      simpa using this
    refine ⟨he, d.toList, ⟨hperm, ?_⟩, own_sortedK (I := prL) (by decide) h' rfl hds, grownBy_sortedK _⟩
    rw [List.pairwise_iff_getElem]
    intro i j hi hj hij
    simp only [Array.length_toList] at hi hj
    have := hs i j (Nat.zero_le _) hij (by omega)
    rw [ltK, getElem!_pos d _ hj, getElem!_pos d _ hi] at this
    simpa using this
theorem sorted_of {l r : List Pr} (h : SrtOf l r) (hd : l.Pairwise fun p q => p.1 ≠ q.1) : Sorted r := by
  have h1 : r.Pairwise fun p q => p.1 ≠ q.1 := (h.1.pairwise_iff (fun {a b} e => Ne.symm e)).2 hd
  have h2 := h.2
  clear h hd
  induction r with
  | nil => trivial
  | cons p r ih =>
    have a1 := List.pairwise_cons.1 h1
    have a2 := List.pairwise_cons.1 h2
    refine ⟨fun q hq => ?_, ih a1.2 a2.2⟩
    rcases klt_tri p.1 q.1 with h | h | h
    · exact h
    · exact absurd h (a1.1 q hq)
    · rw [a2.1 q hq] at h; cases h
theorem sorted_mem {a b : List Pr} (ha : Sorted a) (hb : Sorted b) (h : ∀ x, x ∈ a ↔ x ∈ b) : a = b := by
  refine sorted_ext ha hb fun k => ?_
  cases e : look a k with
  | some v => exact (look_mem hb ((h (k, v)).1 (look_some e))).symm
  | none =>
    cases e2 : look b k with
    | none => rfl
    | some v =>
      have := look_mem ha ((h (k, v)).2 (look_some e2))
      rw [e] at this; cases this
/-- The pairs of a part, sorted, are the document's. -/
theorem part_sorted {s : Sd} {l : List Pr} {p : List Int} {r : List Pr} (hd : Dig16 p) (hp : p.length ≤ 4) (h : SrtOf ((subI 4 p (s.place l)).map prOf) r) : r = s.inR p (un [] l) := by
  have hdist : ((subI 4 p (s.place l)).map prOf).Pairwise fun p q => p.1 ≠ q.1 := by
    rw [List.pairwise_map]
    have h1 : (subI 4 p (s.place l)).Pairwise fun a b => a ≠ b := (place_nodup s l).sublist (subI_sub p 4 _)
    refine List.Pairwise.imp_of_mem ?_ h1
    intro a b ha hb hab e
    apply hab
    have oa := Sd.mk_own (place_own ((subI_sub p 4 _).subset ha))
    have ob := Sd.mk_own (place_own ((subI_sub p 4 _).subset hb))
    have ma := (place_mem_doc (s := s) l a).1 ((subI_sub p 4 _).subset ha)
    have mb := (place_mem_doc (s := s) l b).1 ((subI_sub p 4 _).subset hb)
    have ka := (doc_mem.1 ma).2
    have kb := (doc_mem.1 mb).2
    have e' : a.1.2 = b.1.2 := e
    rw [e', kb] at ka
    have ev : b.2 = a.2 := Option.some.inj ka
    rw [oa, ob, e', ev]
  refine sorted_mem (sorted_of h hdist) (inR_sorted (un_sorted l (a := []) trivial)) fun x => ?_
  rw [h.1.mem_iff]
  exact part_mem l hd hp x

def PairsP (s : Sd) (p : List Int) (S : List Pl) (w : World) (e : Ending) (w' : World) : Prop :=
  (rightP p 4 = false ∧ e = .returned (.tuple #[.slice none 0 0, .int .i64 1]) ∧ Below w.heap.size w w') ∨ (rightP p 4 = true ∧ ∃ u r, e = .returned (.tuple #[u, .int .i64 0]) ∧ SrtOf ((subI 4 p S).map prOf) r ∧ Rw prL 44 w w' u r)
set_option maxRecDepth 100000 in
set_option maxHeartbeats 3200000 in
theorem Pairs_any {s : Sd} {w : World} {tb : Nat} {S : List Pl} {v : Value} {p : List Int} (ht : TrIn s w tb S) (hS : S.length ≤ 100000) (hp : intL.In w v p) (hl : p.length ≤ 1000000) :
    Calls Tryz.prog 10 #[.pointer (some ⟨tb, 0, none⟩), v] w (PairsP s p S w) := by
  have HA := Lib.hid (at_any (m := 4) ht hp hl (by decide))
  obtain ⟨a, c, rfl, _, _⟩ := hp.slice
  obtain ⟨n, hn⟩ : ∃ n, n = p.length := ⟨_, rfl⟩
  rw [← hn] at HA ⊢
  have HSl := Lib.hid hS
  clear ht hp hn hS
  go_enter Tryz.func10, Tryz.ntmps10
  go_wp2_with fail
  go_fit HA.out
  rintro e w1 ⟨rfl, ⟨hr, rfl⟩ | ⟨hr, q, rfl, hq⟩⟩
  · have HR := Lib.hid hr
    clear hr HA
    go_wp2_with fail
    refine bodyPost_ret (v := .tuple #[.slice none 0 0, .int .i64 1]) (by simp [results, Tryz.results10, go_sem]) rfl ?_
    exact .inl ⟨HR.out, rfl, Below.refl _ _⟩
  · have HR := Lib.hid hr
    have HPs := Lib.hid (pairs_any hq)
    obtain ⟨T, hT⟩ : ∃ T, T = subI 4 p S := ⟨_, rfl⟩
    rw [← hT] at HPs
    have HTe := Lib.hid hT
    have HTl : Hid (T.length ≤ 100000) := Lib.hid (by rw [hT]; exact Nat.le_trans (subI_sub p 4 S).length_le HSl.out)
    clear hr HA hq hT
    go_wp2_with fail
    go_fit HPs.out
    rintro e w2 ⟨v2, rfl, rfl, hin⟩
    obtain ⟨a2, c2, rfl, _, _⟩ := hin.slice
    have HIn := Lib.hid hin
    obtain ⟨m, hm⟩ : ∃ m, m = T.length := ⟨_, rfl⟩
    rw [← hm] at HIn ⊢
    have HM := Lib.hid hm
    clear hin hm HPs
    have HR0 : Hid (Rw prL 44 w w (.slice none 0 0) ((T.take 0).map prOf)) := Lib.hid (Rw.nil w)
    go_wp2_with fail
    go_loopw [8, 23] (fun u i wr => ∃ k : Nat, i = .int .i64 k ∧ k ≤ m ∧ Hid (Rw prL 44 w wr u ((T.take k).map prOf))) (fun _ i _ => m - (intOf i).toNat)
    case atStart => exact ⟨0, rfl, Nat.zero_le _, HR0⟩
    case round =>
      obtain ⟨k, rfl, hk, hrw⟩ := hrel
      clear HR0
      have ek : IntKind.i64.wrap ((k : Int) + 1) = (k : Int) + 1 := IntWalk.i64_in _ (by have := HTl.out; have := HM.out; omega)
      obtain ⟨ad, cc, hu, _, _⟩ := hrw.out.slice
      subst hu
      by_cases hlt : k < m
      · obtain ⟨x, hx⟩ : ∃ x, T[k]? = some x := ⟨T[k]'(by rw [← HM.out]; exact hlt), List.getElem?_eq_getElem _⟩
        obtain ⟨g2, off2, rfl, hcl, hat⟩ := (HIn.out.later hrw.out.grown).cells hx
        clear hcl
        obtain ⟨⟨d, ky⟩, vl⟩ := x
        have k0 : wr.cell? ⟨g2, off2 + k * 3, none⟩ = some (.string ky) := hat 0 _ rfl
        have k1 : wr.cell? ⟨g2, off2 + k * 3 + 1, none⟩ = some (.string vl) := hat 1 _ rfl
        have k2 : wr.cell? ⟨g2, off2 + k * 3 + 2, none⟩ = some (.int .u64 d) := hat 2 _ rfl
        have hI1 : (k : Int) < (m : Int) := by omega
        have hI2 : (0 : Int) ≤ (k : Int) := by omega
        have HSt : Hid ((T.take (k + 1)).map prOf = (T.take k).map prOf ++ [(ky, vl)]) := by
          refine Lib.hid ?_
          rw [List.take_add_one, hx, List.map_append]; rfl
        have hlen : ((T.take k).map prOf).length = k := by rw [List.length_map, List.length_take, ← HM.out]; omega
        have HLn := Lib.hid hlen
        rw [hlen]
        have HW1 := Lib.hid (hrw.out.alloc (Obj.cells #[Value.string ky, .string vl, .int .u64 d] 75))
        have HBB := Lib.hid HW1.out.grown.size
        have HSZ : Hid ((wr.alloc (Obj.cells #[Value.string ky, .string vl, .int .u64 d] 75)).heap.size = wr.heap.size + 1) := Lib.hid (by simp)
        have Hl2 : Hid (k + 1 ≤ 1073741825) := Lib.hid (by have := HTl.out; have := HM.out; omega)
        clear hat hx hlen
        go_wp2_with (at_builtin; go_loud (refine wpList_pushI rfl _ _ 25 44 _ 2 32 rfl Tryz.underlying25 Tryz.infoPair rfl (by decide) w.heap.size k _ (prL.all ((T.take k).map prOf)) rfl (by have h := HW1.out.own; rw [HLn.out] at h; exact h) #[.string ky, .string vl] rfl (by simp [Value.oneCell']) (by rw [HSZ.out]; rfl) Hl2.out (by decide) HBB.out ?_; intro g4 cap4 w4 hown4 hg4 hat4 hlt4; have HO4 := Lib.hid hown4; have HG4 := Lib.hid hg4; clear hown4 hg4 hat4 hlt4))
        have HN2 : Hid (Rw prL 44 w w4 (.slice (some ⟨g4, 0, none⟩) (k + 1) cap4) ((T.take (k + 1)).map prOf)) := by
          have h := HW1.out.push (ky, vl) (g := g4) (c2 := cap4) (w2 := w4) (by rw [HLn.out]; exact HO4.out) (by rw [HLn.out]; exact HG4.out)
          rw [HLn.out, ← HSt.out] at h
          exact Lib.hid h
        exact ⟨⟨k + 1, by push_cast; rfl, by omega, HN2⟩, by simp [intOf]; omega⟩
      · obtain rfl : k = m := by omega
        have hfull : T.take k = T := List.take_of_length_le (by rw [HM.out]; exact Nat.le_refl _)
        rw [hfull] at hrw ⊢
        have hlen : (T.map prOf).length = k := by rw [List.length_map, HM.out]
        have HSo := Lib.hid (SortFunc_any hrw.out.own (by rw [hlen]; have := HTl.out; have := HM.out; omega))
        have HLn := Lib.hid hlen
        rw [hlen] at HSo ⊢
        clear hfull hlen
        go_wp2_with fail
        go_fit HSo.out
        rintro e w5 ⟨rfl, r, hsr, hown5, hg5⟩
        have HSr := Lib.hid hsr
        have HO5 := Lib.hid hown5
        have HG5 := Lib.hid hg5
        clear hsr hown5 hg5 HSo
        go_wp2_with fail
        refine bodyPost_ret (v := .tuple #[.slice ad k cc, .int .i64 0]) (by simp [results, Tryz.results10, go_sem]) rfl ?_
        refine .inr ⟨HR.out, _, r, rfl, by rw [← HTe.out]; exact HSr.out, ?_, ?_⟩
        · have e1 : r.length = k := by rw [HSr.out.1.length_eq, HLn.out]
          rw [e1]
          have h := HO5.out
          rw [HLn.out] at h
          exact h
        · refine hrw.out.grown.trans ⟨HG5.out.os, HG5.out.tape, HG5.out.output, HG5.out.size, fun j hj => HG5.out.block j (Nat.lt_of_lt_of_le hj hrw.out.grown.size) fun e => ?_⟩
          have h := hrw.out.lt j (by rw [HLn.out]; exact e.symm)
          omega
end Go.Proofs.YtcbgnmolfdhnfaaGreat
