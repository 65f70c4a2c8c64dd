/-
  What acts leave alone; a disk while a block of bools is written.
-/
import Derived.Test.YtlfknldgfeicmaaG16
namespace Go.Proofs.Ytlfknldgfeicmaa
set_option linter.unusedVariables false
set_option linter.unusedSimpArgs false
open Go.RowKit
variable {w w' : World} {B b : Nat} {L L' : List Nat} {d : Ds}

structure Fits (t0 t1 t2 : Bool) (f g : Fc) : Prop where
  s0 : t0 = false → g.s0 = f.s0
  s1 : t1 = false → g.s1 = f.s1
  tp : t2 = false → f.tp <+: g.tp
structure Ac.Nice (t0 t1 t2 : Bool) (a : Ac) : Prop where
  s0 : a.kind = 1 → a.slot = 0 → t0 = true
  s1 : a.kind = 1 → a.slot ≠ 0 → t1 = true
  tp : a.kind = 3 → t2 = true
theorem Fits.refl (t0 t1 t2 : Bool) (f : Fc) : Fits t0 t1 t2 f f := ⟨fun _ => rfl, fun _ => rfl, fun _ => List.prefix_refl _⟩
theorem Fits.does {t0 t1 t2 : Bool} {f g : Fc} (h : Fits t0 t1 t2 f g) {a : Ac} (ha : a.Nice t0 t1 t2) : Fits t0 t1 t2 f (a.does g) := by
  unfold Ac.does
  split
  · rename_i h1
    split
    · rename_i h2
      exact ⟨fun e => by rw [ha.s0 h1 h2] at e; simp at e, h.s1, h.tp⟩
    · rename_i h2
      exact ⟨h.s0, fun e => by rw [ha.s1 h1 h2] at e; simp at e, h.tp⟩
  · split
    · exact ⟨h.s0, h.s1, fun e => (h.tp e).trans (List.prefix_append _ _)⟩
    · split
      · rename_i h3
        exact ⟨h.s0, h.s1, fun e => by rw [ha.tp h3] at e; simp at e⟩
      · exact h
theorem acts_fits {t0 t1 t2 : Bool} {f : Fc} : ∀ (l : List Ac) (g : Fc), Fits t0 t1 t2 f g → (∀ a ∈ l, a.Nice t0 t1 t2) → Fits t0 t1 t2 f (acts l g)
  | [], g, h, _ => h
  | a :: l, g, h, hl => acts_fits l (a.does g) (h.does (hl a (by simp))) (fun x hx => hl x (by simp [hx]))
theorem Ac.Nice.torn {t0 t1 t2 : Bool} {a : Ac} (h : a.Nice t0 t1 t2) (t : Int) : (a.torn t).Nice t0 t1 t2 := by
  unfold Ac.torn
  split
  · exact ⟨fun e => by simp at e, fun e => by simp at e, fun e => by simp at e⟩
  · exact ⟨h.s0, h.s1, h.tp⟩
/-- A disk whose acts since a Sync are known. -/
structure Touch (d : Ds) (f : Fc) (t0 t1 t2 : Bool) : Prop where
  on : d.on = true
  left : d.left = 0
  lasts : d.lasts = f
  waits : ∀ a ∈ d.waits, a.Nice t0 t1 t2
theorem Touch.last {f : Fc} {t0 t1 t2 : Bool} (h : Touch d f t0 t1 t2) (k t : Int) : Fits t0 t1 t2 f (d.last k t) := by
  have h1 : Fits t0 t1 t2 f (acts (d.waits.take (keepN k d.waits.length)) d.lasts) := by
    rw [h.lasts]
    exact acts_fits _ _ (Fits.refl _ _ _ _) (fun a ha => h.waits a (List.mem_of_mem_take ha))
  unfold Ds.last
  split
  · rename_i a ha
    exact h1.does ((h.waits a (List.mem_of_getElem? ha)).torn t)
  · exact h1
theorem Touch.more {f : Fc} {t0 t1 t2 u0 u1 u2 : Bool} (h : Touch d f t0 t1 t2) (h0 : t0 = true → u0 = true) (h1 : t1 = true → u1 = true) (h2 : t2 = true → u2 = true) : Touch d f u0 u1 u2 :=
  ⟨h.on, h.left, h.lasts, fun a ha => ⟨fun p q => h0 ((h.waits a ha).s0 p q), fun p q => h1 ((h.waits a ha).s1 p q), fun p => h2 ((h.waits a ha).tp p)⟩⟩
theorem Touch.wait {f : Fc} {t0 t1 t2 : Bool} (h : Touch d f t0 t1 t2) {a : Ac} (ha : a.Nice t0 t1 t2) : Touch (d.wait a).2 f t0 t1 t2 := by
  unfold Ds.wait Ds.burn
  rw [if_pos (by simpa using h.left)]
  exact ⟨h.on, h.left, h.lasts, fun x hx => by
    rcases List.mem_append.1 hx with hx | hx
    · exact h.waits x hx
    · simp at hx; rw [hx]; exact ha⟩
theorem Touch.slot {f : Fc} {t0 t1 t2 : Bool} (h : Touch d f t0 t1 t2) (i : Int) (xs : List Int) (h0 : i = 0 → t0 = true) (h1 : i = 1 → t1 = true) : Touch (d.slot i xs).2 f t0 t1 t2 := by
  unfold Ds.slot
  split
  · exact h
  · split
    · exact h
    · rename_i hi
      repeat' split
      all_goals first
        | exact h
        | exact h.wait ⟨fun _ e => h0 e, fun _ e => h1 (by simp only at e; omega), fun e => by simp at e⟩
theorem Touch.append {f : Fc} {t0 t1 t2 : Bool} (h : Touch d f t0 t1 t2) (xs : List Int) : Touch (d.append xs).2 f t0 t1 t2 := by
  unfold Ds.append
  repeat' split
  all_goals first
    | exact h
    | exact h.wait ⟨fun e => by simp at e, fun e => by simp at e, fun e => by simp at e⟩
theorem Touch.clear {f : Fc} {t0 t1 : Bool} (h : Touch d f t0 t1 true) : Touch (d.clear).2 f t0 t1 true := by
  unfold Ds.clear
  repeat' split
  all_goals first
    | exact h
    | exact h.wait ⟨fun e => by simp at e, fun e => by simp at e, fun _ => rfl⟩
theorem Touch.synced (d : Ds) : Touch d.synced d.told false false false := ⟨rfl, rfl, rfl, by simp [Ds.synced]⟩

/-! ### A cell that holds a bool is written -/
theorem Byt.bool {v x : Value} {xs : List Int} {g o : Nat} {y : Bool} (h : Byt w L v xs) (hc : w.cell? ⟨g, o, none⟩ = some (.bool y)) : Byt (w.setCell ⟨g, o, none⟩ x) L v xs := by
  obtain ⟨a, c, hv, h1, h2, h⟩ := h
  refine ⟨a, c, hv, h1, h2, h.imp id ?_⟩
  rintro ⟨p, ha, hp, hlt, hr⟩
  refine ⟨p, ha, hp, by simpa [World.setCell] using hlt, fun j u hj => ?_⟩
  have hru := hr j u hj
  refine (World.cell?_setCell_other _ _ _ _ (fun e => ?_)).trans hru
  rw [← e, hc] at hru
  unfold u8s at hj
  rw [List.getElem?_map, Option.map_eq_some_iff] at hj
  obtain ⟨z, _, rfl⟩ := hj
  simp at hru
theorem kept_put (w : World) (g o : Nat) (x : Value) : w.grownBy (w.setCell ⟨g, o, none⟩ x) (some g) :=
  ⟨rfl, rfl, rfl, by simp [World.setCell], fun j _ hj => Below.heap_setCell _ _ _ _ (fun e => hj (by rw [e]))⟩
theorem Tp.bool {M Lt : List Nat} {v x : Value} {xs : List Int} {g o : Nat} {y : Bool} (h : Tp w M v xs Lt) (hc : w.cell? ⟨g, o, none⟩ = some (.bool y)) (hg : g ∉ Lt) : Tp (w.setCell ⟨g, o, none⟩ x) M v xs Lt := by
  rcases h with ⟨e, h, ha⟩ | ⟨g', c, rfl, hg', rfl, hown⟩
  · exact .inl ⟨e, h.bool hc, ha⟩
  · refine .inr ⟨g', c, rfl, hg', rfl, hown.kept (kept_put w g o x) (.inr ?_)⟩
    intro e
    simp [Value.ownBlock] at e
    exact hg (by simp [e])
theorem Lp.bool {Lt : List Nat} {v t x : Value} {ys xs : List Int} {g o : Nat} {y : Bool} (h : Lp w L v ys t xs Lt) (hc : w.cell? ⟨g, o, none⟩ = some (.bool y)) : Lp (w.setCell ⟨g, o, none⟩ x) L v ys t xs Lt :=
  ⟨h.1, h.2.imp (fun h => h.bool hc) id⟩
theorem Wt.bool {Lw : List Nat} {wt x : Value} {ps : List Pa} {g o : Nat} {y : Bool} (h : Wt w L wt ps Lw) (hc : w.cell? ⟨g, o, none⟩ = some (.bool y)) (hg : g ∉ Lw) : Wt (w.setCell ⟨g, o, none⟩ x) L wt ps Lw := by
  refine ⟨?_, h.at_, fun p hp => (h.byt p hp).bool hc, h.ok⟩
  rcases h.at_ with ⟨_, rfl, rfl⟩ | ⟨g', c, rfl, rfl⟩
  · exact World.ownsRow_nil _ _ _ _
  · refine h.own.kept (kept_put w g o x) (.inr ?_)
    intro e
    simp [Value.ownBlock] at e
    exact hg (by simp [e])
theorem Dk.bool {g o : Nat} {x : Value} {y : Bool} (h : Dk w B b L d) (hc : w.cell? ⟨g, o, none⟩ = some (.bool y)) (hg : g ∉ L) : Dk (w.setCell ⟨g, o, none⟩ x) B b L d := by
  obtain ⟨t0, t1, t2, l0, l1, l2, wt, ps, Lt, Lw, h⟩ := h
  have hL := h.hL
  have hb : b ≠ g := fun e => hg (by rw [hL, e]; simp)
  have hw : g ∉ Lw := fun e => hg (by rw [hL]; simp [e])
  have ht : g ∉ Lt := fun e => hg (by rw [hL]; simp [e])
  exact ⟨t0, t1, t2, l0, l1, l2, wt, ps, Lt, Lw, ⟨h.cells.other hb, h.hL, h.a0.bool hc, h.a1.bool hc, h.ta.bool hc ht, h.e0.bool hc, h.e1.bool hc, h.ea.bool hc, h.wa.bool hc hw, h.ws, h.nb, h.low, h.room, h.tw, h.pre⟩⟩

/-- A disk, what it told at a Sync, and what was touched since. -/
structure Lk (w wr : World) (b : Nat) (L : List Nat) (d : Ds) (n : Nat) (f : Fc) (t0 t1 t2 : Bool) (tg pg : Nat) (va vb vc : Value) : Prop where
  sk : Sk w wr b L d n
  touch : Touch d f t0 t1 t2
  tx : Bx wr L tg [.bool t0, .bool t1, .bool t2]
  px : Bx wr L pg [va, vb, vc]
  y0 : Byt wr L va f.s0
  y1 : Byt wr L vb f.s1
  y2 : Byt wr L vc f.tp
  low : w.heap.size ≤ tg
  ne : pg ≠ tg
variable {wr : World} {n : Nat} {f : Fc} {t0 t1 t2 : Bool} {tg pg : Nat} {va vb vc : Value}
theorem Lk.below (h : Lk w wr b L d n f t0 t1 t2 tg pg va vb vc) (hb : Below wr.heap.size wr w') : Lk w w' b L d n f t0 t1 t2 tg pg va vb vc :=
  ⟨h.sk.later hb, h.touch, h.tx.below hb, h.px.below hb, h.y0.below hb, h.y1.below hb, h.y2.below hb, h.low, h.ne⟩
theorem Lk.ext {d' : Ds} {m : Nat} (h : Lk w wr b L d n f t0 t1 t2 tg pg va vb vc) (hd : Dk w' w.heap.size b L' d') (he : Ext wr L w' L') (hf : d'.Few m) (ht : Touch d' f t0 t1 t2) : Lk w w' b L' d' m f t0 t1 t2 tg pg va vb vc :=
  ⟨h.sk.ext hd he hf, ht, h.tx.ext he, h.px.ext he, h.y0.ext he, h.y1.ext he, h.y2.ext he, h.low, h.ne⟩
theorem Lk.put {o : Nat} {y : Bool} {u0 u1 u2 : Bool} (h : Lk w wr b L d n f t0 t1 t2 tg pg va vb vc) (hc : wr.cell? ⟨tg, o, none⟩ = some (.bool y)) (ho : o < 3) (hs : ([.bool t0, .bool t1, .bool t2] : List Value).set o (.bool true) = [.bool u0, .bool u1, .bool u2])
    (h0 : t0 = true → u0 = true) (h1 : t1 = true → u1 = true) (h2 : t2 = true → u2 = true) : Lk w (wr.setCell ⟨tg, o, none⟩ (.bool true)) b L d n f u0 u1 u2 tg pg va vb vc :=
  ⟨⟨h.sk.disk.bool hc h.tx.2, h.sk.few, h.sk.below.trans (below_put h.low)⟩, h.touch.more h0 h1 h2, ⟨hs ▸ h.tx.1.set o (.bool true) ho, h.tx.2⟩, ⟨h.px.1.other h.ne, h.px.2⟩, h.y0.bool hc, h.y1.bool hc, h.y2.bool hc, h.low, h.ne⟩
theorem start_zero (d : Ds) : d.start = (0, { d with on := true }) := rfl
theorem crash_on (h : d.on = true) (k t : Int) : d.crash k t = (0, d.fall k t) := by unfold Ds.crash; rw [if_neg (by rw [h]; simp)]
theorem fall_few (d : Ds) (k t : Int) (n : Nat) : (d.fall k t).Few n := ⟨by simp [Ds.fall], by simp [Ds.fall]⟩
theorem Byt.heap {v : Value} {xs : List Int} (h : Byt w L v xs) (e : w'.heap = w.heap) : Byt w' L v xs := h.keep (by rw [e]; exact Nat.le_refl _) (fun k _ _ => by rw [e]) (fun k hk => .inl hk)
theorem bytesOf_prefix {xs ys : List Int} (h : ys <+: xs) : Lib.hasPrefix (Lib.bytesOf xs) (Lib.bytesOf ys) = true := by
  unfold Lib.hasPrefix Lib.bytesOf
  rw [List.isPrefixOf_iff_prefix]
  exact h.map _
theorem prefix_byt {a a' : Option Addr} {n m c c' : Nat} {xs ys : List Int} (h : Byt w L (.slice a n c) xs) (h' : Byt w L' (.slice a' m c') ys) (he : ys <+: xs) :
    Calls Try.prog 38 #[.slice a n c, .slice a' m c'] w fun e w' => e = .returned (.bool true) ∧ w = w' := by
  have hn : n ≤ c := by
    obtain ⟨a1, c1, hv, h1, _, _⟩ := h
    simp only [Value.slice.injEq] at hv
    obtain ⟨rfl, rfl, rfl⟩ := hv
    exact h1
  exact (Try.bytes_HasPrefix_all a a' n c m c' xs ys w h.bytesIn.1 h'.bytesIn.1 hn h.bytesIn.2 h'.bytesIn.2).mono fun e w' ⟨h1, h2⟩ => ⟨by rw [h1, bytesOf_prefix he], h2.symm⟩
end Go.Proofs.Ytlfknldgfeicmaa
