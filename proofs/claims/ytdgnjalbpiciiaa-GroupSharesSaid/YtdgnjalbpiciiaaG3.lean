/-
  A group that is turned; what is asked of groups: Check, Low, Get.
-/
import Derived.Test.YtdgnjalbpiciiaaG2
import Derived.Test.YtdgnjalbpiciiaaQN
import Derived.Test.YtdgnjalbpiciiaaSh
namespace Go.Proofs.Ytdgnjalbpiciiaa
set_option linter.unusedVariables false
set_option linter.unusedSimpArgs false
open Go.RowKit Go.Shelf

/-- A group's blocks. -/
def gb (x : Gi) : List Nat := blk x.2.m ++ blk x.2.o ++ blk x.2.a
theorem nodup_mid {P X X' Q : List Nat} {N : Nat} (h : (P ++ (X ++ Q)).Nodup) (hP : ∀ k ∈ P, k < N) (hQ : ∀ k ∈ Q, k < N) (hX : X'.Nodup) (hn : ∀ k ∈ X', k ∈ X ∨ N ≤ k) : (P ++ (X' ++ Q)).Nodup := by
  rw [List.nodup_append, List.nodup_append] at h
  obtain ⟨h1, ⟨h2, h3, h4⟩, h5⟩ := h
  rw [List.nodup_append, List.nodup_append]
  refine ⟨h1, ⟨hX, h3, fun a ha b hb e => ?_⟩, fun a ha b hb e => ?_⟩
  · subst e
    rcases hn a ha with h | h
    · exact h4 a h a hb rfl
    · have := hQ a hb; omega
  · subst e
    rcases List.mem_append.1 hb with hb | hb
    · rcases hn a hb with h | h
      · exact h5 a ha a (List.mem_append.2 (.inl h)) rfl
      · have := hP a ha; omega
    · exact h5 a ha a (List.mem_append.2 (.inr hb)) rfl
theorem flat_set {ys : List Gi} {i : Nat} {x x' : Gi} (hi : ys[i]? = some x) : ys.flatMap gb = (ys.take i).flatMap gb ++ (gb x ++ (ys.drop (i + 1)).flatMap gb) ∧ (ys.set i x').flatMap gb = (ys.take i).flatMap gb ++ (gb x' ++ (ys.drop (i + 1)).flatMap gb) := by
  obtain ⟨hlt, he⟩ := List.getElem?_eq_some_iff.1 hi
  constructor
  · conv => lhs; rw [← List.take_append_drop i ys, List.drop_eq_getElem_cons hlt, he]
    rw [List.flatMap_append, List.flatMap_cons]
  · rw [List.set_eq_take_append_cons_drop, if_pos hlt, List.flatMap_append, List.flatMap_cons]
theorem Gs.mem {w : World} {B b : Nat} {L : List Nat} {ys : List Gi} {s : Sl} (h : Gs w B b L ys s) {i : Nat} {x : Gi} (hi : ys[i]? = some x) : ∀ k ∈ gb x, k ∈ L := fun k hk => by
  rw [h.fp]
  exact List.mem_cons_of_mem _ (List.mem_append.2 (.inr (List.mem_flatMap.2 ⟨x, List.mem_of_getElem? hi, hk⟩)))
/-- One group is turned. -/
theorem Gs.upd {w w' : World} {B b : Nat} {L : List Nat} {ys : List Gi} {s : Sl} {i : Nat} {x x' : Gi} (h : Gs w B b L ys s) (hi : ys[i]? = some x) (hw : w'.os = w.os ∧ w'.tape = w.tape ∧ w'.output = w.output) (hsz : w.heap.size ≤ w'.heap.size)
    (hkeep : ∀ k, k < w.heap.size → k ∉ gb x → k ∉ blk s → w'.heap[k]? = w.heap[k]?) (hlist : Own giL 45 w' s (ys.set i x'))
    (hrows : Own intL 3 w' x'.2.m x'.1.members ∧ Own intL 3 w' x'.2.o x'.1.owners ∧ Own intL 3 w' x'.2.a x'.1.done)
    (hnew : ∀ k ∈ gb x', k ∈ gb x ∨ w.heap.size ≤ k) (hnd : (gb x').Nodup) (hB : B ≤ w.heap.size) :
    ∃ L', Gs w' B b L' (ys.set i x') s ∧ Ext w L w' L' := by
  have hlt := h.llt
  have hfp : L = (b :: (blk s ++ (ys.take i).flatMap gb)) ++ (gb x ++ (ys.drop (i + 1)).flatMap gb) := by
    rw [h.fp, show (fun x : Gi => blk x.2.m ++ blk x.2.o ++ blk x.2.a) = gb from rfl, (flat_set (x' := x') hi).1]; simp
  have hnd0 := h.nd
  rw [hfp] at hnd0
  have hPlt : ∀ k ∈ (b :: (blk s ++ (ys.take i).flatMap gb)), k < w.heap.size := fun k hk => hlt k (by rw [hfp]; exact List.mem_append.2 (.inl hk))
  have hQlt : ∀ k ∈ (ys.drop (i + 1)).flatMap gb, k < w.heap.size := fun k hk => hlt k (by rw [hfp]; exact List.mem_append.2 (.inr (List.mem_append.2 (.inr hk))))
  have hnd1 := nodup_mid hnd0 hPlt hQlt hnd hnew
  have hsep := hnd0
  rw [List.nodup_append] at hsep
  obtain ⟨hPn, hXQ, hPX⟩ := hsep
  rw [List.nodup_append] at hXQ
  have hbs : b ∉ blk s ++ (ys.take i).flatMap gb := (List.nodup_cons.1 hPn).1
  have hsP : (blk s ++ (ys.take i).flatMap gb).Nodup := (List.nodup_cons.1 hPn).2
  have hother : ∀ y, (∃ j, j ≠ i ∧ ys[j]? = some y) → ∀ k ∈ gb y, k < w.heap.size ∧ k ∉ gb x ∧ k ∉ blk s := by
    rintro y ⟨j, hj, hy⟩ k hk
    have hkl := hlt k (h.mem hy k hk)
    rcases Nat.lt_or_gt_of_ne hj with hj | hj
    · have hm : k ∈ (ys.take i).flatMap gb := List.mem_flatMap.2 ⟨y, List.mem_of_getElem? (by rw [List.getElem?_take, if_pos hj]; exact hy), hk⟩
      refine ⟨hkl, fun hx => hPX k (List.mem_cons_of_mem _ (List.mem_append.2 (.inr hm))) k (List.mem_append.2 (.inl hx)) rfl, fun hs => ?_⟩
      rw [List.nodup_append] at hsP
      exact hsP.2.2 k hs k hm rfl
    · have hm : k ∈ (ys.drop (i + 1)).flatMap gb := List.mem_flatMap.2 ⟨y, List.mem_of_getElem? (i := j - (i + 1)) (by rw [List.getElem?_drop, show i + 1 + (j - (i + 1)) = j by omega]; exact hy), hk⟩
      refine ⟨hkl, fun hx => hXQ.2.2 k hx k hm rfl, fun hs => hPX k (List.mem_cons_of_mem _ (List.mem_append.2 (.inl hs))) k (List.mem_append.2 (.inr hm)) rfl⟩
  have hbk : w'.heap[b]? = w.heap[b]? := hkeep b h.box.lt (fun hx => hPX b (List.mem_cons_self ..) b (List.mem_append.2 (.inl hx)) rfl) (fun hs => hbs (List.mem_append.2 (.inl hs)))
  refine ⟨b :: (blk s ++ (ys.set i x').flatMap gb), ⟨h.box.keep hsz hbk, hlist, fun y hy => ?_, rfl, ?_, fun k hk => ?_⟩, ⟨hw.1, hw.2.1, hw.2.2, hsz, fun k hk hn => hkeep k hk (fun hx => hn (h.mem hi k hx)) (fun hs => hn (by rw [h.fp]; exact List.mem_cons_of_mem _ (List.mem_append.2 (.inl hs)))), fun k hk => ?_⟩⟩
  · obtain ⟨j, hj⟩ := List.mem_iff_getElem?.1 hy
    by_cases e : i = j
    · subst e
      rw [List.getElem?_set_self (List.getElem?_eq_some_iff.1 hi).1] at hj
      obtain rfl : x' = y := by simpa using hj
      exact hrows
    · rw [List.getElem?_set_ne e] at hj
      obtain ⟨r1, r2, r3⟩ := h.rows y (List.mem_of_getElem? hj)
      have ho := hother y ⟨j, fun e' => e e'.symm, hj⟩
      exact ⟨r1.kept fun k hk => (fun hq => hkeep k hq.1 hq.2.1 hq.2.2) (ho k (by unfold gb; simp [hk])), r2.kept fun k hk => (fun hq => hkeep k hq.1 hq.2.1 hq.2.2) (ho k (by unfold gb; simp [hk])), r3.kept fun k hk => (fun hq => hkeep k hq.1 hq.2.1 hq.2.2) (ho k (by unfold gb; simp [hk]))⟩
  · rw [(flat_set hi).2]
    simpa using hnd1
  · rw [(flat_set hi).2] at hk
    rcases List.mem_cons.1 hk with rfl | hk
    · exact h.low k (by rw [h.fp]; simp)
    · rcases List.mem_append.1 hk with hk | hk
      · exact h.low k (by rw [h.fp]; exact List.mem_cons_of_mem _ (List.mem_append.2 (.inl hk)))
      · rcases List.mem_append.1 hk with hk | hk
        · exact h.low k (by rw [hfp]; exact List.mem_append.2 (.inl (List.mem_cons_of_mem _ (List.mem_append.2 (.inr hk)))))
        · rcases List.mem_append.1 hk with hk | hk
          · rcases hnew k hk with hx | hx
            · exact h.low k (h.mem hi k hx)
            · omega
          · exact h.low k (by rw [hfp]; exact List.mem_append.2 (.inr (List.mem_append.2 (.inr hk))))
  · rw [(flat_set hi).2] at hk
    rcases List.mem_cons.1 hk with rfl | hk
    · exact .inl (by rw [h.fp]; simp)
    · rcases List.mem_append.1 hk with hk | hk
      · exact .inl (by rw [h.fp]; exact List.mem_cons_of_mem _ (List.mem_append.2 (.inl hk)))
      · rcases List.mem_append.1 hk with hk | hk
        · exact .inl (by rw [hfp]; exact List.mem_append.2 (.inl (List.mem_cons_of_mem _ (List.mem_append.2 (.inr hk)))))
        · rcases List.mem_append.1 hk with hk | hk
          · exact (hnew k hk).imp (h.mem hi k) id
          · exact .inl (by rw [hfp]; exact List.mem_append.2 (.inr (List.mem_append.2 (.inr hk))))

/-- What a group is. -/
structure Gr.Ok (g : Gr) : Prop where
  sub : 1 ≤ g.sub ∧ g.sub ≤ 1099511627776
  term : 0 ≤ g.term ∧ g.term ≤ 1099511627776
  next : 1 ≤ g.next ∧ g.next ≤ 1099511627776
  mem : g.members.length ≤ 6
  mems : ∀ m ∈ g.members, 1 ≤ m ∧ m < g.next
  asc : g.members.Pairwise (· < ·)
  parts : 1 ≤ g.owners.length ∧ g.owners.length ≤ 12
  owns : ∀ m ∈ g.owners, 0 ≤ m ∧ m ≤ 1099511627776
  len : g.done.length = g.owners.length
  dones : ∀ x ∈ g.done, 0 ≤ x ∧ x ≤ 1099511627776
  shr : (g.members = [] → ∀ x ∈ g.owners, x = 0) ∧ (g.members ≠ [] → ∀ x ∈ g.owners, x ∈ g.members)
structure GOk (l : List Gr) : Prop where
  all : ∀ g ∈ l, g.Ok
  len : l.length ≤ 3
  names : l.Pairwise fun a b => a.name ≠ b.name
/-- The group of a name. -/
def gp (l : List Gr) (k : ByteArray) : Option Gr := (plc l k).bind fun i => l[i]?
theorem gp_none {l : List Gr} {k : ByteArray} (h : plc l k = none) : gp l k = none := by unfold gp; rw [h]; rfl
theorem gp_some {l : List Gr} {k : ByteArray} {i : Nat} {g : Gr} (h : plc l k = some i) (hg : l[i]? = some g) : gp l k = some g := by unfold gp; rw [h]; exact hg
theorem plc_item {ys : List Gi} {k : ByteArray} {i : Nat} (h : plc (ys.map (·.1)) k = some i) : ∃ x, ys[i]? = some x ∧ x.1.name = k ∧ gp (ys.map (·.1)) k = some x.1 := by
  obtain ⟨g, h1, h2⟩ := plc_some h
  have h1' := h1
  rw [List.getElem?_map, Option.map_eq_some_iff] at h1
  obtain ⟨x, hx, rfl⟩ := h1
  exact ⟨x, hx, h2, gp_some h h1'⟩

def ckE (k : ByteArray) (parts : Int) : Int := if Tx.madeB k 1 8 Tx.letterB = true ∧ 1 ≤ parts ∧ parts ≤ 12 then 0 else 220
set_option maxHeartbeats 1600000 in
theorem Check_any (k : ByteArray) (parts : Int) (w : World) (hs : k.size ≤ 4611686018427387904) : Calls Try.prog 47 #[.string k, .int .i64 parts] w fun e w' => e = .returned (.int .i64 (ckE k parts)) ∧ Below w.heap.size w w' := by
  cases hm : Tx.madeB k 1 8 Tx.letterB with
  | false =>
    have HE : Hid (ckE k parts = 220) := by show _ = _; unfold ckE; rw [hm]; simp
    have HN := Lib.hid (Tx.Name_big k false 22 hm rfl w (by omega))
    rw [HE.out]
    clear hm HE
    go_enter Try.func47, Try.ntmps47
    go_wp2_with fail
    go_fit HN.out
    rintro e w1 ⟨rfl, hb⟩
    have HB := Lib.hid hb
    clear hb
    go_wp2_with fail
    go_ret
    exact ⟨rfl, HB.out⟩
  | true =>
    have HN := Lib.hid (Tx.Name_big k true 0 hm rfl w (by omega))
    by_cases h1 : parts < 1
    · have HE : Hid (ckE k parts = 220) := by show _ = _; unfold ckE; rw [if_neg (by omega)]
      rw [HE.out]
      clear hm HE
      go_enter Try.func47, Try.ntmps47
      go_wp2_with fail
      go_fit HN.out
      rintro e w1 ⟨rfl, hb⟩
      have HB := Lib.hid hb
      clear hb
      go_wp2_with fail
      go_ret
      exact ⟨rfl, HB.out⟩
    · by_cases h2 : parts ≤ 12
      · have HE : Hid (ckE k parts = 0) := by show _ = _; unfold ckE; rw [if_pos ⟨hm, by omega, h2⟩]
        have h3 : ¬ 12 < parts := by omega
        rw [HE.out]
        clear hm HE h2
        go_enter Try.func47, Try.ntmps47
        go_wp2_with fail
        go_fit HN.out
        rintro e w1 ⟨rfl, hb⟩
        have HB := Lib.hid hb
        clear hb
        go_wp2_with fail
        go_ret
        exact ⟨rfl, HB.out⟩
      · have HE : Hid (ckE k parts = 220) := by show _ = _; unfold ckE; rw [if_neg (by omega)]
        have h3 : 12 < parts := by omega
        rw [HE.out]
        clear hm HE h2
        go_enter Try.func47, Try.ntmps47
        go_wp2_with fail
        go_fit HN.out
        rintro e w1 ⟨rfl, hb⟩
        have HB := Lib.hid hb
        clear hb
        go_wp2_with fail
        go_ret
        exact ⟨rfl, HB.out⟩

theorem Min_any {w : World} {v : Value} {l : List Int} (h : intL.In w v l) (hne : l ≠ []) : Calls Try.prog 53 #[v] w fun e w' => e = .returned (.int .i64 (Lib.minOf l)) ∧ w = w' := by
  obtain ⟨a, c, rfl, h1, h2⟩ := h.slice
  obtain ⟨g, off, rfl, _, _, hc⟩ := intL_cells h hne
  refine (Try.slices_Min_int g off l.length c l w (List.length_pos_iff.2 hne) (Nat.le_refl _) (by omega) hc).mono fun e w' ⟨he, hw⟩ => ⟨?_, hw.symm⟩
  rw [he, List.take_length]
def lowE (l : List Gr) (k : ByteArray) : Int × Int := match gp l k with | none => (0, 220) | some g => (Lib.minOf g.done, 0)
set_option maxRecDepth 100000 in
set_option maxHeartbeats 1600000 in
theorem Low_any {w : World} {B b : Nat} {L : List Nat} {l : List Gr} (h : Gk w B b L l) (ok : GOk l) (k : ByteArray) : Calls Try.prog 21 #[.pointer (some ⟨b, 0, none⟩), .string k] w fun e w' => e = .returned (.tuple #[.int .i64 (lowE l k).1, .int .i64 (lowE l k).2]) ∧ Below w.heap.size w w' := by
  obtain ⟨ys, s, hg, rfl⟩ := h
  have hlen : ys.length ≤ 3 := by have := ok.len; rwa [List.length_map] at this
  have HF := Lib.hid (find_any hg (by omega) k)
  have HG := Lib.hid hg
  have OK := Lib.hid ok
  clear hg ok
  go_enter Try.func21, Try.ntmps21
  go_wp2_with fail
  go_fit HF.out
  rintro e w1 ⟨hb, hm⟩
  have HB := Lib.hid hb
  cases hp : plc (ys.map (·.1)) k with
  | none =>
    rw [hp] at hm
    obtain rfl := hm
    have HE : Hid (lowE (ys.map (·.1)) k = (0, 220)) := by show _ = _; unfold lowE; rw [gp_none hp]
    clear hb hp HF
    go_wp2_with fail
    go_ret2
    exact ⟨by rw [HE.out]; rfl, HB.out⟩
  | some i =>
    rw [hp] at hm
    obtain ⟨g, hga, rfl⟩ := hm
    obtain ⟨x, hx, hxn, hgp⟩ := plc_item hp
    have HE : Hid (lowE (ys.map (·.1)) k = (Lib.minOf x.1.done, 0)) := by show _ = _; unfold lowE; rw [hgp]
    have hG := HG.out.below hb
    have hok : x.1.Ok := OK.out.all x.1 (List.mem_map.2 ⟨x, List.mem_of_getElem? hx, rfl⟩)
    have k6 := hG.list.cell hga hx (j := 6) (u := x.2.a.v) rfl
    have HM := Lib.hid (Min_any (hG.rows x (List.mem_of_getElem? hx)).2.2.told (fun e => by have h1 := hok.len; rw [e, List.length_nil] at h1; have h2 := hok.parts; omega))
    change w1.cell? ⟨g, i * 7 + 6, none⟩ = _ at k6
    unfold Sl.v at k6 HM
    clear hb hp hgp hok hG hx hxn hga HF
    go_wp2_with fail
    go_fit HM.out
    rintro e w2 ⟨rfl, rfl⟩
    go_wp2_with fail
    go_ret2
    exact ⟨by rw [HE.out]; rfl, HB.out⟩

theorem below_set7 {w W : World} {b : Nat} {v0 v1 v2 v3 v4 v5 v6 : Value} (h : Below w.heap.size w W) (hb : w.heap.size ≤ b) : Below w.heap.size w (((((((W.setCell ⟨b, 0, none⟩ v0).setCell ⟨b, 1, none⟩ v1).setCell ⟨b, 2, none⟩ v2).setCell ⟨b, 3, none⟩ v3).setCell ⟨b, 4, none⟩ v4).setCell ⟨b, 5, none⟩ v5).setCell ⟨b, 6, none⟩ v6) :=
  ((((((h.setCell (p := ⟨b, 0, none⟩) hb v0).setCell (p := ⟨b, 1, none⟩) hb v1).setCell (p := ⟨b, 2, none⟩) hb v2).setCell (p := ⟨b, 3, none⟩) hb v3).setCell (p := ⟨b, 4, none⟩) hb v4).setCell (p := ⟨b, 5, none⟩) hb v5).setCell (p := ⟨b, 6, none⟩) hb v6
theorem rw_set7 {α : Type} {I : Lay α} {E : TypeId} {w W : World} {v : Value} {l : List α} {b : Nat} {v0 v1 v2 v3 v4 v5 v6 : Value} (h : Rw I E w W v l) (hn : v.ownBlock ≠ some b) (hb : w.heap.size ≤ b) : Rw I E w (((((((W.setCell ⟨b, 0, none⟩ v0).setCell ⟨b, 1, none⟩ v1).setCell ⟨b, 2, none⟩ v2).setCell ⟨b, 3, none⟩ v3).setCell ⟨b, 4, none⟩ v4).setCell ⟨b, 5, none⟩ v5).setCell ⟨b, 6, none⟩ v6) v l :=
  ((((((h.other hn hb).other hn hb).other hn hb).other hn hb).other hn hb).other hn hb).other hn hb
/-- A group that is told, or that there is none. -/
def gz : Value := .agg #[.string ⟨#[]⟩, .int .i64 0, .int .i64 0, .int .i64 0, .slice none 0 0, .slice none 0 0, .slice none 0 0]
def GetP (l : List Gr) (k : ByteArray) (w : World) (e : Ending) (w' : World) : Prop := match gp l k with
  | none => e = .returned (.tuple #[gz, .int .i64 220]) ∧ Below w.heap.size w w'
  | some x => ∃ u v t : Value, e = .returned (.tuple #[.agg #[.string x.name, .int .i64 x.sub, .int .i64 x.term, .int .i64 x.next, u, v, t], .int .i64 0]) ∧ Rw intL 3 w w' u x.members ∧ Rw intL 3 w w' v x.owners ∧ Rw intL 3 w w' t x.done
set_option maxRecDepth 100000 in
set_option maxHeartbeats 800000 in
theorem Get_any {w : World} {B b : Nat} {L : List Nat} {l : List Gr} (h : Gk w B b L l) (ok : GOk l) (k : ByteArray) : Calls Try.prog 40 #[.pointer (some ⟨b, 0, none⟩), .string k] w (GetP l k w) := by
  obtain ⟨ys, s, hg, rfl⟩ := h
  have hlen : ys.length ≤ 3 := by have := ok.len; rwa [List.length_map] at this
  have HB0 := Lib.hid (below_alloc w (.cells #[.string ⟨#[]⟩, .int .i64 0, .int .i64 0, .int .i64 0, .slice none 0 0, .slice none 0 0, .slice none 0 0] 45))
  have hY := DC.alloc w [.string ⟨#[]⟩, .int .i64 0, .int .i64 0, .int .i64 0, .slice none 0 0, .slice none 0 0, .slice none 0 0] 45
  have hz : (w.alloc (.cells #[.string ⟨#[]⟩, .int .i64 0, .int .i64 0, .int .i64 0, .slice none 0 0, .slice none 0 0, .slice none 0 0] 45)).heap.size = w.heap.size + 1 := by simp
  have HG := Lib.hid (hg.below HB0.out)
  have HF := Lib.hid (find_any HG.out (by omega) k)
  have OK := Lib.hid ok
  have HY := Lib.hid hY
  have HZ := Lib.hid hz
  clear hg ok hY hz
  go_enter Try.func40, Try.ntmps40
  go_wp2_with fail
  generalize w.alloc (.cells #[.string ⟨#[]⟩, .int .i64 0, .int .i64 0, .int .i64 0, .slice none 0 0, .slice none 0 0, .slice none 0 0] 45) = W0 at *
  go_fit HF.out
  rintro e w1 ⟨hb, hm⟩
  have HB := Lib.hid (HB0.out.trans (hb.mono HB0.out.size))
  have HY1 := Lib.hid (HY.out.below hb)
  cases hp : plc (ys.map (·.1)) k with
  | none =>
    rw [hp] at hm
    obtain rfl := hm
    have HE := Lib.hid (gp_none hp)
    have y0 := HY1.out.cells 0 _ rfl
    have y1 := HY1.out.cells 1 _ rfl
    have y2 := HY1.out.cells 2 _ rfl
    have y3 := HY1.out.cells 3 _ rfl
    have y4 := HY1.out.cells 4 _ rfl
    have y5 := HY1.out.cells 5 _ rfl
    have y6 := HY1.out.cells 6 _ rfl
    have f0 := HY1.out.fz 0
    have f1 := HY1.out.fz 1
    have f2 := HY1.out.fz 2
    have f3 := HY1.out.fz 3
    have f4 := HY1.out.fz 4
    have f5 := HY1.out.fz 5
    have f6 := HY1.out.fz 6
    clear hb hp HF
    go_wp2_with fail
    refine bodyPost_ret (v := .tuple #[gz, .int .i64 220]) ?_ rfl ?_
    · rw [results_cell_tmp rfl]
      go_simp
      rfl
    · show GetP _ _ _ _ _
      unfold GetP
      rw [HE.out]
      exact ⟨rfl, below_set7 HB.out (Nat.le_refl _)⟩
  | some i =>
    rw [hp] at hm
    obtain ⟨g, hga, rfl⟩ := hm
    obtain ⟨x, hx, hxn, hgp⟩ := plc_item hp
    have HE := Lib.hid hgp
    have hG := HG.out.below hb
    have hok : x.1.Ok := OK.out.all x.1 (List.mem_map.2 ⟨x, List.mem_of_getElem? hx, rfl⟩)
    have hr := hG.rows x (List.mem_of_getElem? hx)
    have HO := Lib.hid (own_any (x := x.1) hr.1.told hr.2.1.told hr.2.2.told (by have := hok.mem; omega) (by have := hok.parts; omega) (by have := hok.len; have := hok.parts; omega))
    have k0 := hG.list.cell hga hx (j := 0) rfl
    have k1 := hG.list.cell hga hx (j := 1) rfl
    have k2 := hG.list.cell hga hx (j := 2) rfl
    have k3 := hG.list.cell hga hx (j := 3) rfl
    have k4 := hG.list.cell hga hx (j := 4) rfl
    have k5 := hG.list.cell hga hx (j := 5) rfl
    have k6 := hG.list.cell hga hx (j := 6) rfl
    change w1.cell? ⟨g, i * 7, none⟩ = some (.string x.1.name) at k0
    change w1.cell? ⟨g, i * 7 + 1, none⟩ = some (.int .i64 x.1.sub) at k1
    change w1.cell? ⟨g, i * 7 + 2, none⟩ = some (.int .i64 x.1.term) at k2
    change w1.cell? ⟨g, i * 7 + 3, none⟩ = some (.int .i64 x.1.next) at k3
    change w1.cell? ⟨g, i * 7 + 4, none⟩ = some (.slice x.2.m.a x.2.m.n x.2.m.c) at k4
    change w1.cell? ⟨g, i * 7 + 5, none⟩ = some (.slice x.2.o.a x.2.o.n x.2.o.c) at k5
    change w1.cell? ⟨g, i * 7 + 6, none⟩ = some (.slice x.2.a.a x.2.a.n x.2.a.c) at k6
    unfold Sl.v at HO
    clear hb hp hgp hok hG hx hxn hga HF hr
    go_wp2_with fail
    go_fit HO.out
    rintro e w2 ⟨u1, u2, u3, rfl, R1, R2, R3⟩
    have HY2 := HY1.out.below R1.grown
    have y0 := HY2.cells 0 _ rfl
    have y1 := HY2.cells 1 _ rfl
    have y2 := HY2.cells 2 _ rfl
    have y3 := HY2.cells 3 _ rfl
    have y4 := HY2.cells 4 _ rfl
    have y5 := HY2.cells 5 _ rfl
    have y6 := HY2.cells 6 _ rfl
    have f0 := HY2.fz 0
    have f1 := HY2.fz 1
    have f2 := HY2.fz 2
    have f3 := HY2.fz 3
    have f4 := HY2.fz 4
    have f5 := HY2.fz 5
    have f6 := HY2.fz 6
    have HN := Lib.hid (⟨own_apart R1 HY1.out.lt, own_apart R2 HY1.out.lt, own_apart R3 HY1.out.lt⟩ : _ ∧ _ ∧ _)
    have HR := Lib.hid (⟨R1.base HB.out, R2.base HB.out, R3.base HB.out⟩ : _ ∧ _ ∧ _)
    obtain ⟨e1, d1, rfl, _, _⟩ := R1.slice
    obtain ⟨e2, d2, rfl, _, _⟩ := R2.slice
    obtain ⟨e3, d3, rfl, _, _⟩ := R3.slice
    clear R1 R2 R3 HY2 k0 k1 k2 k3 k4 k5 k6 HO
    go_wp2_with fail
    refine bodyPost_ret (v := .tuple #[.agg #[.string x.1.name, .int .i64 x.1.sub, .int .i64 x.1.term, .int .i64 x.1.next, .slice e1 x.1.members.length d1, .slice e2 x.1.owners.length d2, .slice e3 x.1.done.length d3], .int .i64 0]) ?_ rfl ?_
    · rw [results_cell_tmp rfl]
      go_simp
    · show GetP _ _ _ _ _
      unfold GetP
      rw [HE.out]
      obtain ⟨N1, N2, N3⟩ := HN.out
      obtain ⟨S1, S2, S3⟩ := HR.out
      exact ⟨_, _, _, rfl, rw_set7 S1 N1 (Nat.le_refl _), rw_set7 S2 N2 (Nat.le_refl _), rw_set7 S3 N3 (Nat.le_refl _)⟩
end Go.Proofs.Ytdgnjalbpiciiaa
