/-
  A group more.
-/
import Derived.Test.YtdgnjalbpiciiaaG9
import Derived.Deep.RegionLaw
namespace Go.Proofs.Ytdgnjalbpiciiaa
set_option linter.unusedVariables false
set_option linter.unusedSimpArgs false
open Go.RowKit Go.Shelf

/-- A new group. -/
def newG (k : ByteArray) (parts sub at_ : Int) : Gr := ⟨k, sub, 0, 1, [], List.replicate parts.toNat 0, List.replicate parts.toNat at_⟩
def addG (l : List Gr) (k : ByteArray) (parts sub at_ : Int) : Int × List Gr :=
  if ckE k parts ≠ 0 then (ckE k parts, l) else match gp l k with
  | some _ => (70, l)
  | none => if 3 ≤ l.length then (7, l) else if sub < 1 ∨ 1099511627776 < sub ∨ at_ < 0 ∨ 1099511627776 < at_ then (1, l) else (0, l ++ [newG k parts sub at_])
theorem ckE_two (k : ByteArray) (parts : Int) : ckE k parts = 0 ∨ ckE k parts = 220 := by unfold ckE; split <;> simp
theorem ckE_ok {k : ByteArray} {parts : Int} (h : ckE k parts = 0) : 1 ≤ parts ∧ parts ≤ 12 := by
  unfold ckE at h
  split at h
  · rename_i h1; exact h1.2
  · cases h
/-- The same at a step of a region that draws its order. -/
theorem step_pushI {P : Program} {w0 : World} {ops : Array Oper} {o : Oper} {a : Act} {K : Act → World → Prop} {Q : Exit → Act → World → Prop} {E' : Prop} (hgd : o.guard = none) (s x : Operand) (T E : TypeId) (zero : Value) (size bytes : Nat)
    (ho : o.op = .call { callee := .builtin .append, args := #[s, x], argTypes := #[T, T] })
    (hT : P.underlying T = some (.slice E)) (hinfo : (P.info? E).map (fun i => (i.zero, i.size, i.bytes)) = some (some zero, size, bytes)) (hz : zero.cells.size = size) (hsz : 0 < size)
    (B n : Nat) (v : Value) (xs : List Value) (hs : a.eval s = v) (hown : w0.ownsRow B E size v n xs)
    (us : Array Value) (hul : us.size = size) (hu : ∀ u ∈ us.toList, u.oneCell' = true) (hx : a.eval x = .slice (some ⟨w0.heap.size, 0, none⟩) 1 1) (h63 : n + 1 ≤ 1073741825) (hb : bytes ≤ 65536) (hB : B ≤ w0.heap.size)
    (h : ∀ g c w', w'.ownsRow B E size (.slice (some ⟨g, 0, none⟩) (n + 1) c) (n + 1) (xs ++ us.toList) → w0.grownBy w' v.ownBlock → (v.ownBlock = some g ∨ w0.heap.size ≤ g) → w0.heap.size < w'.heap.size → K (a.put o.dst (.slice (some ⟨g, 0, none⟩) (n + 1) c)) w') :
    if Region.wanted o (yielded ops a.tmps) = true then Oper.wp P o a (w0.alloc (.cells us E)) K Q else E' := by
  obtain ⟨i0, hi, hz0, hz1, hz2⟩ := info_parts hinfo
  have hwz : (w0.alloc (.cells us E)).heap.size = w0.heap.size + 1 := by simp
  refine step_append_lies _ hgd s x T ho B E i0 zero size bytes hT hi hz0 hz1 hz2 hz hsz v n xs hs (hown.alloc _) ⟨w0.heap.size, 0, none⟩ 1 1 us.toList hx (by simp [hul]) (World.news_of_block (Go.heap_alloc_new w0 _)) hu (by omega) (by unfold maxLen; omega)
    (Nat.le_trans (Nat.mul_le_mul h63 hb) (by decide)) (by omega) (w0.heap.size + 1) hwz ?_
  intro g cap w' hown' hgrow hat hlt
  have hg0 : w0.grownBy w' v.ownBlock := ⟨hgrow.os, hgrow.tape, hgrow.output, by have := hgrow.size; omega, fun k hk hne => (hgrow.block k (by omega) hne).trans (Below.heap_alloc _ _ _ hk)⟩
  exact h g cap w' hown' hg0 (hat.imp id (fun e => by omega)) (by have := hgrow.size; omega)
/-- One group more. -/
theorem Gs.more {w w' : World} {B b : Nat} {L : List Nat} {ys : List Gi} {s s' : Sl} {x' : Gi} (h : Gs w B b L ys s) (hw : w'.os = w.os ∧ w'.tape = w.tape ∧ w'.output = w.output) (hsz : w.heap.size ≤ w'.heap.size)
    (hkeep : ∀ k, k < w.heap.size → k ≠ b → k ∉ blk s → w'.heap[k]? = w.heap[k]?) (hbox : DC w' b [s'.v, .bool true]) (hlist : Own giL 45 w' s' (ys ++ [x']))
    (hrows : Own intL 3 w' x'.2.m x'.1.members ∧ Own intL 3 w' x'.2.o x'.1.owners ∧ Own intL 3 w' x'.2.a x'.1.done)
    (hs' : ∀ k ∈ blk s', k ∈ blk s ∨ w.heap.size ≤ k) (hx : ∀ k ∈ gb x', w.heap.size ≤ k) (hnd : (blk s' ++ gb x').Nodup) (hB : B ≤ w.heap.size) :
    ∃ L', Gs w' B b L' (ys ++ [x']) s' ∧ Ext w L w' L' := by
  have hlt := h.llt
  have hfp : L = b :: (blk s ++ ys.flatMap gb) := by rw [h.fp]; rfl
  have hn := h.nd
  rw [hfp] at hn
  obtain ⟨hn1, hn2⟩ := List.nodup_cons.1 hn
  rw [List.nodup_append] at hn2
  obtain ⟨_, hn3, hn4⟩ := hn2
  rw [List.nodup_append] at hnd
  obtain ⟨hd1, hd2, hd3⟩ := hnd
  have hsL : ∀ k ∈ blk s, k ∈ L := fun k hk => by rw [hfp]; exact List.mem_cons_of_mem _ (List.mem_append.2 (.inl hk))
  have hyL : ∀ k ∈ ys.flatMap gb, k ∈ L := fun k hk => by rw [hfp]; exact List.mem_cons_of_mem _ (List.mem_append.2 (.inr hk))
  have hbL : b ∈ L := by rw [hfp]; simp
  have hfl : (ys ++ [x']).flatMap gb = ys.flatMap gb ++ gb x' := by simp
  have hnew : ∀ k ∈ b :: (blk s' ++ (ys ++ [x']).flatMap gb), k ∈ L ∨ w.heap.size ≤ k := fun k hk => by
    rw [hfl] at hk
    rcases List.mem_cons.1 hk with rfl | hk
    · exact .inl hbL
    · rcases List.mem_append.1 hk with hk | hk
      · exact (hs' k hk).imp (hsL k) id
      · rcases List.mem_append.1 hk with hk | hk
        · exact .inl (hyL k hk)
        · exact .inr (hx k hk)
  refine ⟨b :: (blk s' ++ (ys ++ [x']).flatMap gb), ⟨hbox, hlist, fun y hy => ?_, rfl, ?_, fun k hk => ?_⟩, ⟨hw.1, hw.2.1, hw.2.2, hsz, fun k hk hnk => hkeep k hk (fun e => hnk (e ▸ hbL)) (fun hs => hnk (hsL k hs)), hnew⟩⟩
  · rcases List.mem_append.1 hy with hy | hy
    · obtain ⟨r1, r2, r3⟩ := h.rows y hy
      have hq : ∀ k ∈ gb y, w'.heap[k]? = w.heap[k]? := fun k hk => by
        have hm : k ∈ ys.flatMap gb := List.mem_flatMap.2 ⟨y, hy, hk⟩
        exact hkeep k (hlt k (hyL k hm)) (fun e => hn1 (List.mem_append.2 (.inr (e ▸ hm)))) (fun hs => hn4 k hs k hm rfl)
      exact ⟨r1.kept fun k hk => hq k (by unfold gb; simp [hk]), r2.kept fun k hk => hq k (by unfold gb; simp [hk]), r3.kept fun k hk => hq k (by unfold gb; simp [hk])⟩
    · obtain rfl := List.mem_singleton.1 hy
      exact hrows
  · rw [hfl, List.nodup_cons]
    constructor
    · intro hk
      have hbl := hlt b hbL
      rcases List.mem_append.1 hk with hk | hk
      · rcases hs' b hk with hk | hk
        · exact hn1 (List.mem_append.2 (.inl hk))
        · omega
      · rcases List.mem_append.1 hk with hk | hk
        · exact hn1 (List.mem_append.2 (.inr hk))
        · have := hx b hk; omega
    · rw [List.nodup_append, List.nodup_append]
      refine ⟨hd1, ⟨hn3, hd2, fun a ha c hc e => ?_⟩, fun a ha c hc e => ?_⟩
      · subst e; have := hx a hc; have := hlt a (hyL a ha); omega
      · subst e
        rcases List.mem_append.1 hc with hc | hc
        · rcases hs' a ha with hk | hk
          · exact hn4 a hk a hc rfl
          · have := hlt a (hyL a hc); omega
        · exact hd3 a ha a hc rfl
  · rcases hnew k hk with h1 | h1
    · exact h.low k h1
    · omega
/-- What stands when a new group's rows and its box have been made. -/
structure AddX (w W : World) (β go ga n : Nat) (k : ByteArray) (sub at_ : Int) : Prop where
  c0 : W.cell? ⟨β, 0, none⟩ = some (.string k)
  c1 : W.cell? ⟨β, 1, none⟩ = some (.int .i64 sub)
  c2 : W.cell? ⟨β, 2, none⟩ = some (.int .i64 0)
  c3 : W.cell? ⟨β, 3, none⟩ = some (.int .i64 1)
  c4 : W.cell? ⟨β, 4, none⟩ = some (.slice none 0 0)
  c5 : W.cell? ⟨β, 5, none⟩ = some (.slice (some ⟨go, 0, none⟩) n n)
  c6 : W.cell? ⟨β, 6, none⟩ = some (.slice (some ⟨ga, 0, none⟩) n n)
  r1 : IRow W go (List.replicate n 0)
  r2 : IRow W ga (List.replicate n at_)
  hb : Below w.heap.size w W
  ne : go ≠ ga
  g1 : w.heap.size ≤ go
  g2 : w.heap.size ≤ ga
theorem ir_set {w : World} {g b o : Nat} {v : Value} {l : List Int} (h : IRow w g l) (hn : g ≠ b) : IRow (w.setCell ⟨b, o, none⟩ v) g l := h.kept (Below.heap_setCell _ _ _ _ hn)
theorem ir_alloc {w : World} {g : Nat} {o : Obj} {l : List Int} (h : IRow w g l) : IRow (w.alloc o) g l := h.below (below_alloc _ _)
theorem ir_made {w : World} {g n : Nat} (h : g = w.heap.size) : IRow (w.alloc (.cells (madeCells #[.int .i64 0] n) 3)) g (List.replicate n 0) := by subst h; exact IRow.made w n
theorem ir_eq {w : World} {g g' : Nat} {l : List Int} (h : IRow w g l) (e : g' = g) : IRow w g' l := by subst e; exact h
theorem ir_drew {w : World} {g : Nat} {l : List Int} (h : IRow w g l) : IRow w.drew g l := h
theorem bl_set {w W : World} {b o : Nat} {v : Value} (h : Below w.heap.size w W) (hb : w.heap.size ≤ b) : Below w.heap.size w (W.setCell ⟨b, o, none⟩ v) := h.setCell (p := ⟨b, o, none⟩) hb v
theorem bl_alloc {w W : World} {o : Obj} (h : Below w.heap.size w W) : Below w.heap.size w (W.alloc o) := h.alloc h.size o
theorem bl_drew {w W : World} (h : Below w.heap.size w W) : Below w.heap.size w W.drew := below_drew h
theorem bl_trans {w V W : World} (h : Below w.heap.size w V) (h3 : Below V.heap.size V W) : Below w.heap.size w W := h.trans (h3.mono h.size)
theorem alloc_old (w : World) (X : Obj) (b o : Nat) (h : b < w.heap.size) : (w.alloc X).cell? ⟨b, o, none⟩ = w.cell? ⟨b, o, none⟩ := World.cell?_of_block (a := ⟨b, o, none⟩) (Below.heap_alloc w X b h)
theorem alloc_fz (w : World) (X : Obj) (b o : Nat) (h : b < w.heap.size) : (w.alloc X).frozen? ⟨b, o, none⟩ = w.frozen? ⟨b, o, none⟩ := World.frozen?_of_block (a := ⟨b, o, none⟩) (Below.heap_alloc w X b h)
theorem own_pushL {α : Type} {I : Lay α} {E : TypeId} {w' : World} {l : List α} {g c : Nat} {x : α} (hown : w'.ownsRow 0 E I.sz (.slice (some ⟨g, 0, none⟩) (l.length + 1) c) (l.length + 1) (I.all l ++ I.enc x)) : Own I E w' ⟨some ⟨g, 0, none⟩, l.length + 1, c⟩ (l ++ [x]) := by
  have h : w'.ownsRow 0 E I.sz (.slice (some ⟨g, 0, none⟩) (l.length + 1) c) (l ++ [x]).length (I.all (l ++ [x])) := by
    rw [Lay.all_app, Lay.all_one, List.length_append]
    exact hown
  obtain ⟨s, hv, ho, _, _⟩ := own_row h
  have : s = ⟨some ⟨g, 0, none⟩, l.length + 1, c⟩ := by
    obtain ⟨a, n, c'⟩ := s
    simp only [Sl.v, Value.slice.injEq] at hv
    obtain ⟨rfl, rfl, rfl⟩ := hv
    rfl
  rw [← this]; exact ho
theorem own_of_irow {w0 w : World} {g n : Nat} {l : List Int} (h : IRow w g l) (hg : w0.heap.size ≤ g) (hb : Below w0.heap.size w0 w) (hl : l.length ≤ 1000000) (hn : n = l.length) : Own intL 3 w ⟨some ⟨g, 0, none⟩, n, n⟩ l := by
  subst hn
  obtain ⟨s, hv, ho, _, _⟩ := (IRow.own h hg hb hl).own'
  have : s = ⟨some ⟨g, 0, none⟩, l.length, l.length⟩ := by
    obtain ⟨a, n, c'⟩ := s
    simp only [Sl.v, Value.slice.injEq] at hv
    obtain ⟨rfl, rfl, rfl⟩ := hv
    rfl
  rw [← this]; exact ho
theorem add_fin {w2 wc w5 : World} {B b β go ga n g5 c5 : Nat} {L : List Nat} {ys : List Gi} {s : Sl} {k : ByteArray} {sub at_ : Int} (hG : Gs w2 B b L ys s) (HX : AddX w2 wc β go ga n k sub at_) (hB : B ≤ w2.heap.size) (hn : n ≤ 12)
    (hown : w5.ownsRow 0 45 7 (.slice (some ⟨g5, 0, none⟩) (ys.length + 1) c5) (ys.length + 1) (giL.all ys ++ [.string k, .int .i64 sub, .int .i64 0, .int .i64 1, .slice none 0 0, .slice (some ⟨go, 0, none⟩) n n, .slice (some ⟨ga, 0, none⟩) n n]))
    (hgrow : wc.grownBy w5 s.v.ownBlock) (hat : s.v.ownBlock = some g5 ∨ wc.heap.size ≤ g5) :
    ∃ L', Gs (w5.setCell ⟨b, 0, none⟩ (.slice (some ⟨g5, 0, none⟩) (ys.length + 1) c5)) B b L' (ys ++ [(newG k n sub at_, ⟨sl0, ⟨some ⟨go, 0, none⟩, n, n⟩, ⟨some ⟨ga, 0, none⟩, n, n⟩⟩)]) ⟨some ⟨g5, 0, none⟩, ys.length + 1, c5⟩ ∧ Ext w2 L (w5.setCell ⟨b, 0, none⟩ (.slice (some ⟨g5, 0, none⟩) (ys.length + 1) c5)) L' := by
  have hfp : L = b :: (blk s ++ ys.flatMap gb) := by rw [hG.fp]; rfl
  have hnd := hG.nd
  rw [hfp] at hnd
  have hbs : b ∉ blk s := fun h => (List.nodup_cons.1 hnd).1 (List.mem_append.2 (.inl h))
  have hbl := hG.box.lt
  have hsl := hG.list.lt
  have hsz2 := HX.hb.size
  have hb0 : ∀ k, k ∉ blk s → some k ≠ s.v.ownBlock := fun k hk e => hk (ob_blk e)
  have h5 : g5 ∈ blk s ∨ wc.heap.size ≤ g5 := hat.imp (fun e => ob_blk e.symm) id
  have hg5b : g5 ≠ b := fun e => by
    rcases h5 with h | h
    · exact hbs (e ▸ h)
    · omega
  have hgo := HX.r1.lt
  have hga := HX.r2.lt
  have g1 := HX.g1
  have g2 := HX.g2
  have hb5 : w5.heap[b]? = wc.heap[b]? := hgrow.block b (by omega) (hb0 b hbs)
  have hrow : ∀ g, w2.heap.size ≤ g → g < wc.heap.size → (w5.setCell ⟨b, 0, none⟩ (.slice (some ⟨g5, 0, none⟩) (ys.length + 1) c5)).heap[g]? = wc.heap[g]? := fun g h1 h2 =>
    (Below.heap_setCell _ _ _ _ (by show g ≠ b; omega)).trans (hgrow.block g h2 (hb0 g fun h => by have := hsl g h; omega))
  have hD : DC w5 b [s.v, .bool true] := (hG.box.below HX.hb).keep hgrow.size hb5
  have hbk : blk (⟨some ⟨g5, 0, none⟩, ys.length + 1, c5⟩ : Sl) = [g5] := rfl
  have hgx : gb (newG k n sub at_, (⟨sl0, ⟨some ⟨go, 0, none⟩, n, n⟩, ⟨some ⟨ga, 0, none⟩, n, n⟩⟩ : Gv)) = [go, ga] := rfl
  refine hG.more ⟨hgrow.os.trans HX.hb.os, hgrow.tape.trans HX.hb.tape, hgrow.output.trans HX.hb.output⟩ (by rw [set_size]; have := hgrow.size; omega) (fun k hk hkb hks => ?_) (hD.set 0 _ (Nat.succ_pos _)) ?_ ⟨Own.nil _, ?_, ?_⟩ (fun k hk => ?_) (fun k hk => ?_) ?_ hB
  · exact ((Below.heap_setCell _ _ _ _ hkb).trans (hgrow.block k (by omega) (hb0 k hks))).trans (HX.hb.block k hk)
  · exact (own_pushL (I := giL) (x := (newG k n sub at_, ⟨sl0, ⟨some ⟨go, 0, none⟩, n, n⟩, ⟨some ⟨ga, 0, none⟩, n, n⟩⟩)) hown).kept fun k hk => Below.heap_setCell _ _ _ _ (by rw [hbk, List.mem_singleton] at hk; rw [hk]; exact hg5b)
  · exact (own_of_irow (l := (newG k n sub at_).owners) HX.r1 HX.g1 HX.hb (by simp [newG]; omega) (by simp [newG])).kept fun k hk => by
      have : k = go := by simpa [blk] using hk
      subst this; exact hrow _ g1 hgo
  · exact (own_of_irow (l := (newG k n sub at_).done) HX.r2 HX.g2 HX.hb (by simp [newG]; omega) (by simp [newG])).kept fun k hk => by
      have : k = ga := by simpa [blk] using hk
      subst this; exact hrow _ g2 hga
  · rw [hbk, List.mem_singleton] at hk
    subst hk
    exact h5.imp id fun h => by omega
  · rw [hgx] at hk
    rcases List.mem_cons.1 hk with rfl | hk
    · exact g1
    · rw [List.mem_singleton.1 hk]; exact g2
  · rw [hbk, hgx]
    have e1 : g5 ≠ go := fun e => by
      rcases h5 with h | h
      · have := hsl _ h; omega
      · omega
    have e2 : g5 ≠ ga := fun e => by
      rcases h5 with h | h
      · have := hsl _ h; omega
      · omega
    simp [e1, e2, HX.ne]
theorem add_meet {w W : World} {β go ga n : Nat} {k : ByteArray} {sub at_ : Int} {v : Value} (hv : v = .pointer (some ⟨β, 0, none⟩)) (c5 : W.cell? ⟨β, 5, none⟩ = some (.slice (some ⟨go, 0, none⟩) n n)) (c6 : W.cell? ⟨β, 6, none⟩ = some (.slice (some ⟨ga, 0, none⟩) n n))
    (c0 : W.cell? ⟨β, 0, none⟩ = some (.string k)) (c1 : W.cell? ⟨β, 1, none⟩ = some (.int .i64 sub)) (c2 : W.cell? ⟨β, 2, none⟩ = some (.int .i64 0)) (c3 : W.cell? ⟨β, 3, none⟩ = some (.int .i64 1)) (c4 : W.cell? ⟨β, 4, none⟩ = some (.slice none 0 0))
    (r1 : IRow W go (List.replicate n 0)) (r2 : IRow W ga (List.replicate n at_)) (hb : Below w.heap.size w W) (ne : go ≠ ga) (g1 : w.heap.size ≤ go) (g2 : w.heap.size ≤ ga) : ∃ β go ga : Nat, v = .pointer (some ⟨β, 0, none⟩) ∧ Hid (AddX w W β go ga n k sub at_) :=
  ⟨β, go, ga, hv, ⟨c0, c1, c2, c3, c4, c5, c6, r1, r2, hb, ne, g1, g2⟩⟩
end Go.Proofs.Ytdgnjalbpiciiaa
