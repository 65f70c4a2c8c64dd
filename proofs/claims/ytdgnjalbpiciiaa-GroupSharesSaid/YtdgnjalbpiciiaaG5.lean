/-
  A part that is done up to a place.
-/
import Derived.Test.YtdgnjalbpiciiaaG4
namespace Go.Proofs.Ytdgnjalbpiciiaa
set_option linter.unusedVariables false
set_option linter.unusedSimpArgs false
open Go.RowKit Go.Shelf

/-- What a turn of the group of a name makes of groups. -/
def upG (l : List Gr) (k : ByteArray) (f : Gr → Gr) : List Gr := match plc l k with | none => l | some i => match l[i]? with | none => l | some g => l.set i (f g)
theorem upG_some {l : List Gr} {k : ByteArray} {i : Nat} {g : Gr} {f : Gr → Gr} (h : plc l k = some i) (hg : l[i]? = some g) : upG l k f = l.set i (f g) := by unfold upG; rw [h]; simp only [hg]
def comG (l : List Gr) (k : ByteArray) (m t p pos : Int) : Int × List Gr := match gp l k with
  | none => (220, l)
  | some g => if ownG g m t p ≠ 0 then (ownG g m t p, l) else if pos < g.done.getD p.toNat 0 then (82, l) else if 1099511627776 < pos then (5, l) else (0, upG l k fun g => { g with done := g.done.set p.toNat pos })
theorem ownG_zero {g : Gr} {m t p : Int} (h : ownG g m t p = 0) : hasI g.members m = true ∧ t = g.term ∧ 0 ≤ p ∧ p < g.owners.length ∧ g.owners.getD p.toNat 0 = m := by
  unfold ownG at h
  split at h
  · cases h
  · rename_i h1
    split at h
    · cases h
    · rename_i h2
      split at h
      · cases h
      · rename_i h3
        split at h
        · cases h
        · rename_i h4
          refine ⟨by simpa using h1, by simpa using h2, by omega, by omega, by simpa using h4⟩
theorem Own.same {α : Type} {I : Lay α} {E : TypeId} {w : World} {s : Sl} {ys ys' : List α} (h : Own I E w s ys) (hl : ys'.length = ys.length) (he : ∀ (i : Nat) (y' : α), ys'[i]? = Option.some y' → ∃ y, ys[i]? = Option.some y ∧ I.enc y' = I.enc y) : Own I E w s ys' := by
  obtain ⟨h1, h2, h3, h⟩ := h
  refine ⟨by rw [hl]; exact h1, h2, h3, h.imp id ?_⟩
  rintro ⟨g, ha, hs, hat⟩
  refine ⟨g, ha, hs, fun i y' hy' j v hv => ?_⟩
  obtain ⟨y, hy, e⟩ := he i y' hy'
  rw [e] at hv
  exact hat i y hy j v hv
theorem Gs.apart {w : World} {B b : Nat} {L : List Nat} {ys : List Gi} {s : Sl} (h : Gs w B b L ys s) {i : Nat} {x : Gi} (hi : ys[i]? = some x) : (gb x).Nodup ∧ (∀ k ∈ gb x, k ∉ blk s) ∧ b ∉ gb x ∧ b ∉ blk s := by
  have hfp : L = (b :: (blk s ++ (ys.take i).flatMap gb)) ++ (gb x ++ (ys.drop (i + 1)).flatMap gb) := by
    rw [h.fp, show (fun x : Gi => blk x.2.m ++ blk x.2.o ++ blk x.2.a) = gb from rfl, (flat_set (x' := x) hi).1]; simp
  have hnd := h.nd
  rw [hfp, List.nodup_append] at hnd
  obtain ⟨h1, h2, h3⟩ := hnd
  rw [List.nodup_append] at h2
  refine ⟨h2.1, fun k hk hs => h3 k (List.mem_cons_of_mem _ (List.mem_append.2 (.inl hs))) k (List.mem_append.2 (.inl hk)) rfl, fun hx => h3 b (List.mem_cons_self ..) b (List.mem_append.2 (.inl hx)) rfl, fun hs => (List.nodup_cons.1 h1).1 (List.mem_append.2 (.inl hs))⟩
theorem set_size (w : World) (a : Addr) (v : Value) : (w.setCell a v).heap.size = w.heap.size := by simp
theorem gb_parts {x : Gi} (h : (gb x).Nodup) : (∀ k ∈ blk x.2.m, k ∉ blk x.2.o) ∧ (∀ k ∈ blk x.2.m, k ∉ blk x.2.a) ∧ (∀ k ∈ blk x.2.o, k ∉ blk x.2.a) := by
  unfold gb at h
  rw [List.nodup_append, List.nodup_append] at h
  obtain ⟨⟨_, _, h1⟩, _, h2⟩ := h
  exact ⟨fun k hk ho => h1 k hk k ho rfl, fun k hk ha => h2 k (List.mem_append.2 (.inl hk)) k ha rfl, fun k hk ha => h2 k (List.mem_append.2 (.inr hk)) k ha rfl⟩
theorem Did.of {w w1 : World} {B b : Nat} {L : List Nat} {l : List Gr} {v : Value} {e : Ending} (h : Gk w B b L l) (hb : Below w.heap.size w w1) (he : e = .returned v) : Did w B b L l v e w1 := ⟨L, he, h.below hb, Ext.of_below hb⟩

set_option maxRecDepth 100000 in
set_option maxHeartbeats 3200000 in
theorem Commit_any {w : World} {B b : Nat} {L : List Nat} {l : List Gr} (h : Gk w B b L l) (ok : GOk l) (k : ByteArray) (m t p pos : Int) (hB : B ≤ w.heap.size) : Calls Try.prog 45 #[.pointer (some ⟨b, 0, none⟩), .string k, .int .i64 m, .int .i64 t, .int .i64 p, .int .i64 pos] w (Did w B b L (comG l k m t p pos).2 (.int .i64 (comG l k m t p pos).1)) := by
  have HK := Lib.hid h
  obtain ⟨ys, s, hg, rfl⟩ := h
  have HO := Lib.hid (owned_any hg ok k m t p)
  have HG := Lib.hid hg
  have OK := Lib.hid ok
  clear hg ok
  go_enter Try.func45, Try.ntmps45
  go_wp2_with fail
  go_fit HO.out
  rintro e w1 ⟨hb, hm⟩
  have HB := Lib.hid hb
  by_cases h0 : ownE (ys.map (·.1)) k m t p = 0
  · rw [if_pos h0] at hm
    obtain ⟨i, g, hp, hga, rfl⟩ := hm
    obtain ⟨x, hx, hxn, hgp⟩ := plc_item hp
    have hG := HG.out.below hb
    have hok : x.1.Ok := OK.out.all x.1 (List.mem_map.2 ⟨x, List.mem_of_getElem? hx, rfl⟩)
    have hz : ownG x.1 m t p = 0 := by unfold ownE at h0; rw [hgp] at h0; exact h0
    obtain ⟨_, _, hp0, hp1, _⟩ := ownG_zero hz
    obtain ⟨q, rfl⟩ : ∃ q : Nat, p = q := ⟨p.toNat, by omega⟩
    have hq : q < x.1.done.length := by have := hok.len; omega
    have HE : Hid (comG (ys.map (·.1)) k m t q pos = if pos < x.1.done.getD q 0 then (82, ys.map (·.1)) else if 1099511627776 < pos then (5, ys.map (·.1)) else (0, upG (ys.map (·.1)) k fun g => { g with done := g.done.set q pos })) := by
      show _ = _; unfold comG; rw [hgp]; simp only; rw [if_neg (by simpa using hz)]; rfl
    have HU : Hid (upG (ys.map (·.1)) k (fun g => { g with done := g.done.set q pos }) = (ys.set i ({ x.1 with done := x.1.done.set q pos }, x.2)).map (·.1)) := by
      show _ = _
      rw [upG_some hp (by rw [List.getElem?_map, hx]; rfl), List.map_set]
    have k6 := hG.list.cell hga hx (j := 6) rfl
    have hr := hG.rows x (List.mem_of_getElem? hx)
    obtain ⟨ga, hgaa⟩ := hr.2.2.some (fun e => by rw [e] at hq; simp at hq)
    have hdq : x.1.done[q]? = some (x.1.done.getD q 0) := by rw [List.getElem?_eq_getElem hq]; simp [List.getD, hq]
    have hc := OwnI.cell hr.2.2 hgaa hdq
    have hz6 := hr.2.2.fz hgaa q
    have hn6 := hr.2.2.1
    have HGG := Lib.hid hG
    have HX := Lib.hid hx
    have HGA := Lib.hid hgaa
    have HQ := Lib.hid hdq
    change w1.cell? ⟨g, i * 7 + 6, none⟩ = some (.slice x.2.a.a x.2.a.n x.2.a.c) at k6
    rw [hgaa] at k6
    have hI1 : (q : Int) < (x.2.a.n : Int) := by omega
    have hI0 : (0 : Int) ≤ (q : Int) := by omega
    generalize hy : x.1.done.getD q 0 = y at *
    clear hb hp hgp hok hG hx hxn hga HO hr h0 hz hgaa hdq hq hp1 hp0 hy
    by_cases h1 : pos < y
    · have HE2 : Hid (comG (ys.map (·.1)) k m t q pos = (82, ys.map (·.1))) := by show _ = _; rw [HE.out, if_pos h1]
      clear HE
      go_wp2_with fail
      go_ret
      rw [HE2.out]
      exact Did.of HK.out HB.out rfl
    · by_cases h2 : 1099511627776 < pos
      · have HE2 : Hid (comG (ys.map (·.1)) k m t q pos = (5, ys.map (·.1))) := by show _ = _; rw [HE.out, if_neg h1, if_pos h2]
        clear HE
        go_wp2_with fail
        go_ret
        rw [HE2.out]
        exact Did.of HK.out HB.out rfl
      · have HE2 : Hid (comG (ys.map (·.1)) k m t q pos = (0, (ys.set i ({ x.1 with done := x.1.done.set q pos }, x.2)).map (·.1))) := by show _ = _; rw [HE.out, if_neg h1, if_neg h2, HU.out]
        have HF : Hid (∃ L', Gs (w1.setCell ⟨ga, q, none⟩ (.int .i64 pos)) B b L' (ys.set i ({ x.1 with done := x.1.done.set q pos }, x.2)) s ∧ Ext w1 L (w1.setCell ⟨ga, q, none⟩ (.int .i64 pos)) L') := by
          show ∃ L', _
          have hG := HGG.out
          obtain ⟨hnd, hsep, hb1, hb2⟩ := hG.apart HX.out
          obtain ⟨p1, p2, p3⟩ := gb_parts hnd
          have hr := hG.rows x (List.mem_of_getElem? HX.out)
          have hga : ga ∈ gb x := by unfold gb; rw [blk_some HGA.out]; simp
          have hkeep : ∀ k, k ≠ ga → (w1.setCell ⟨ga, q, none⟩ (.int .i64 pos)).heap[k]? = w1.heap[k]? := fun k hk => Below.heap_setCell _ _ _ _ hk
          refine hG.upd HX.out ⟨rfl, rfl, rfl⟩ (by rw [set_size]; exact Nat.le_refl _) (fun k hk hn _ => hkeep k (fun e => hn (e ▸ hga))) ?_ ⟨?_, ?_, ?_⟩ (fun k hk => .inl hk) hnd (Nat.le_trans hB HB.out.size)
          · refine Own.same (hG.list.kept fun k hk => hkeep k (fun e => hsep ga hga (e ▸ hk))) (by simp) fun j y' hy' => ?_
            by_cases e : i = j
            · subst e
              rw [List.getElem?_set_self (List.getElem?_eq_some_iff.1 HX.out).1] at hy'
              exact ⟨x, HX.out, by rw [← Option.some.inj hy']; rfl⟩
            · rw [List.getElem?_set_ne e] at hy'
              exact ⟨y', hy', rfl⟩
          · exact hr.1.kept fun k hk => hkeep k (fun e => p2 k hk (by rw [blk_some HGA.out, e]; simp))
          · exact hr.2.1.kept fun k hk => hkeep k (fun e => p3 k hk (by rw [blk_some HGA.out, e]; simp))
          · have h := hr.2.2.set HGA.out HQ.out (j := 0) (by decide) (.int .i64 pos) (x' := pos) rfl
            rw [show intL.sz = 1 from rfl, Nat.mul_one, Nat.add_zero] at h
            exact h
        clear HE HU
        go_wp2_with fail
        go_ret
        obtain ⟨L', hs', he'⟩ := HF.out
        rw [HE2.out]
        exact ⟨L', rfl, ⟨_, s, hs', rfl⟩, (Ext.of_below HB.out).trans he'⟩
  · rw [if_neg h0] at hm
    obtain rfl := hm
    have HE : Hid (comG (ys.map (·.1)) k m t p pos = (ownE (ys.map (·.1)) k m t p, ys.map (·.1))) := by
      show _ = _; unfold comG ownE
      unfold ownE at h0
      cases hgp : gp (ys.map (·.1)) k with
      | none => rfl
      | some g => rw [hgp] at h0; simp only at h0 ⊢; rw [if_pos h0]
    have hzb : (ownE (ys.map (·.1)) k m t p == 0) = false := by rw [beq_eq_false_iff_ne]; exact h0
    clear hb HO
    go_wp2_with fail
    go_ret
    rw [HE.out]
    exact Did.of HK.out HB.out rfl
end Go.Proofs.Ytdgnjalbpiciiaa
