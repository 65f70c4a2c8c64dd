/-
  Groups, plainly, and in memory.
-/
import Derived.Test.YtdgnjalbpiciiaaG0
namespace Go.Proofs.Ytdgnjalbpiciiaa
set_option linter.unusedVariables false
set_option linter.unusedSimpArgs false
open Go.RowKit Go.Shelf

/-- A group. -/
structure Gr where
  name : ByteArray
  sub : Int
  term : Int
  next : Int
  members : List Int
  owners : List Int
  done : List Int
/-- A group's slices. -/
structure Gv where
  m : Sl
  o : Sl
  a : Sl
abbrev Gi := Gr × Gv
def gcs (x : Gi) : List Value := [.string x.1.name, .int .i64 x.1.sub, .int .i64 x.1.term, .int .i64 x.1.next, x.2.m.v, x.2.o.v, x.2.a.v]
def giL : Lay Gi := ⟨gcs, 7, fun _ => rfl, by
  intro x u hu
  simp only [gcs, List.mem_cons, List.not_mem_nil, or_false] at hu
  rcases hu with rfl | rfl | rfl | rfl | rfl | rfl | rfl <;> rfl⟩
theorem infoG : (Try.prog.info? 45).map (fun i => (i.zero, i.size, i.bytes)) = some (some (.agg #[.string ⟨#[]⟩, .int .i64 0, .int .i64 0, .int .i64 0, .slice none 0 0, .slice none 0 0, .slice none 0 0]), 7, 112) := by kernel_rfl

/-- Where a group stands. -/
def plc : List Gr → ByteArray → Option Nat
  | [], _ => none
  | s :: l, k => if s.name = k then some 0 else (plc l k).map (· + 1)
def plcI (l : List Gr) (k : ByteArray) : Int := match plc l k with | some i => i | none => -1
theorem plc_some : ∀ {l : List Gr} {k : ByteArray} {i : Nat}, plc l k = some i → ∃ s, l[i]? = some s ∧ s.name = k
  | [], k, i, h => by simp [plc] at h
  | s :: l, k, i, h => by
    unfold plc at h
    split at h
    · rename_i e; cases h; exact ⟨s, rfl, e⟩
    · cases hp : plc l k with
      | none => rw [hp] at h; simp at h
      | some j =>
        rw [hp] at h
        simp at h; subst h
        obtain ⟨s', h1, h2⟩ := plc_some hp
        exact ⟨s', by simpa using h1, h2⟩
theorem plc_lt {l : List Gr} {k : ByteArray} {i : Nat} (h : plc l k = some i) : i < l.length := by
  obtain ⟨s, h1, _⟩ := plc_some h
  exact (List.getElem?_eq_some_iff.1 h1).1
theorem plc_none : ∀ {l : List Gr} {k : ByteArray}, plc l k = none → ∀ s ∈ l, s.name ≠ k
  | [], k, _, s, hs => by simp at hs
  | x :: l, k, h, s, hs => by
    unfold plc at h
    split at h
    · cases h
    · rename_i e
      rcases List.mem_cons.1 hs with rfl | hs
      · exact e
      · exact plc_none (by cases hp : plc l k with | none => rfl | some j => rw [hp] at h; simp at h) s hs
theorem plc_hit : ∀ (l : List Gr) (k : ByteArray) (i : Nat) (s : Gr), l[i]? = some s → s.name = k → (∀ (j : Nat) (y : Gr), j < i → l[j]? = some y → y.name ≠ k) → plc l k = some i
  | [], k, i, s, h, _, _ => by simp at h
  | x :: l, k, 0, s, h, e, _ => by simp at h; subst h; simp [plc, e]
  | x :: l, k, i + 1, s, h, e, hn => by
    have h0 := hn 0 x (by omega) rfl
    unfold plc
    rw [if_neg h0, plc_hit l k i s (by simpa using h) e (fun j y hj hy => hn (j + 1) y (by omega) (by simpa using hy))]; rfl
theorem plc_miss : ∀ (l : List Gr) (k : ByteArray), (∀ (j : Nat) (y : Gr), l[j]? = some y → y.name ≠ k) → plc l k = none
  | [], k, _ => rfl
  | x :: l, k, h => by
    unfold plc
    rw [if_neg (h 0 x rfl), plc_miss l k (fun j y hy => h (j + 1) y (by simpa using hy))]; rfl
theorem plcI_hit {l : List Gr} {k : ByteArray} {i : Nat} {s : Gr} (h : l[i]? = some s) (e : s.name = k) (hn : ∀ j y, j < i → l[j]? = some y → y.name ≠ k) : plcI l k = i := by
  unfold plcI; rw [plc_hit l k i s h e hn]
theorem plcI_miss {l : List Gr} {k : ByteArray} (h : ∀ j y, j < l.length → l[j]? = some y → y.name ≠ k) : plcI l k = -1 := by
  unfold plcI; rw [plc_miss l k (fun j y hy => h j y (List.getElem?_eq_some_iff.1 hy).1 hy)]
theorem ba_list (a : ByteArray) : a.toList = a.data.toList := by
  have h : ∀ (n i : Nat) (r : List UInt8), n = a.size - i → ByteArray.toList.loop a i r = r.reverse ++ a.data.toList.drop i := by
    intro n
    induction n with
    | zero =>
      intro i r h
      rw [ByteArray.toList.loop]
      have : ¬ i < a.size := by omega
      simp only [this, if_false]
      rw [List.drop_eq_nil_of_le (by have : a.data.toList.length = a.size := rfl
                                     omega)]
      exact (List.append_nil _).symm
    | succ n ih =>
      intro i r h
      rw [ByteArray.toList.loop]
      have hi : i < a.size := by omega
      simp only [hi, if_true]
      rw [ih (i + 1) _ (by omega)]
      have hl : i < a.data.toList.length := hi
      rw [List.drop_eq_getElem_cons hl]
      have hsz : i < a.data.size := hi
      have e : a.get! i = a.data.toList[i] := by
        cases a with
        | mk d =>
          show d.getD i default = _
          simp [Array.getD, show i < d.size from hi]
      rw [e]
      simp
  have := h a.size 0 [] (by omega)
  simpa [ByteArray.toList] using this
theorem ba_inj {a b : ByteArray} (h : a.toList = b.toList) : a = b := by
  rw [ba_list, ba_list] at h
  cases a; cases b; exact congrArg ByteArray.mk (Array.toList_inj.1 h)
theorem ba_eq (a b : ByteArray) : (a.toList == b.toList) = decide (a = b) := by
  by_cases h : a = b
  · subst h; simp
  · have : ¬ a.toList = b.toList := fun e => h (ba_inj e)
    simp [h, this]

/-- Groups in memory: their block, the row of them, each one's rows. -/
structure Gs (w : World) (B b : Nat) (L : List Nat) (ys : List Gi) (s : Sl) : Prop where
  box : DC w b [s.v, .bool true]
  list : Own giL 45 w s ys
  rows : ∀ x ∈ ys, Own intL 3 w x.2.m x.1.members ∧ Own intL 3 w x.2.o x.1.owners ∧ Own intL 3 w x.2.a x.1.done
  fp : L = b :: (blk s ++ ys.flatMap fun x => blk x.2.m ++ blk x.2.o ++ blk x.2.a)
  nd : L.Nodup
  low : ∀ k ∈ L, B ≤ k
def Gk (w : World) (B b : Nat) (L : List Nat) (l : List Gr) : Prop := ∃ ys s, Gs w B b L ys s ∧ ys.map (·.1) = l
theorem Gs.llt {w : World} {B b : Nat} {L : List Nat} {ys : List Gi} {s : Sl} (h : Gs w B b L ys s) : ∀ k ∈ L, k < w.heap.size := by
  intro k hk
  rw [h.fp] at hk
  rcases List.mem_cons.1 hk with rfl | hk
  · exact h.box.lt
  · rcases List.mem_append.1 hk with hk | hk
    · exact h.list.lt k hk
    · obtain ⟨x, hx, hk⟩ := List.mem_flatMap.1 hk
      obtain ⟨h1, h2, h3⟩ := h.rows x hx
      rcases List.mem_append.1 hk with hk | hk
      · rcases List.mem_append.1 hk with hk | hk
        · exact h1.lt k hk
        · exact h2.lt k hk
      · exact h3.lt k hk
theorem Gs.below {w w' : World} {B b : Nat} {L : List Nat} {ys : List Gi} {s : Sl} (h : Gs w B b L ys s) (hb : Below w.heap.size w w') : Gs w' B b L ys s :=
  ⟨h.box.below hb, h.list.below hb, fun x hx => ⟨(h.rows x hx).1.below hb, (h.rows x hx).2.1.below hb, (h.rows x hx).2.2.below hb⟩, h.fp, h.nd, h.low⟩
theorem Gk.below {w w' : World} {B b : Nat} {L : List Nat} {l : List Gr} (h : Gk w B b L l) (hb : Below w.heap.size w w') : Gk w' B b L l := by
  obtain ⟨ys, s, h, e⟩ := h
  exact ⟨ys, s, h.below hb, e⟩
theorem Gk.llt {w : World} {B b : Nat} {L : List Nat} {l : List Gr} (h : Gk w B b L l) : ∀ k ∈ L, k < w.heap.size := by obtain ⟨ys, s, h, _⟩ := h; exact h.llt
theorem Gk.low {w : World} {B b : Nat} {L : List Nat} {l : List Gr} (h : Gk w B b L l) : ∀ k ∈ L, B ≤ k := by obtain ⟨ys, s, h, _⟩ := h; exact h.low
/-- What a call of groups leaves. -/
def Did (w : World) (B b : Nat) (L : List Nat) (l' : List Gr) (v : Value) (e : Ending) (w' : World) : Prop := ∃ L', e = .returned v ∧ Gk w' B b L' l' ∧ Ext w L w' L'

set_option maxHeartbeats 400000 in
theorem ready_any {w : World} {b : Nat} (h : w.cell? ⟨b, 1, none⟩ = some (.bool true)) : Calls Try.prog 55 #[.pointer (some ⟨b, 0, none⟩)] w fun e w' => e = .returned (.bool true) ∧ w = w' := by
  go_enter Try.func55, Try.ntmps55
  go_wp2_with fail
  go_ret
  exact ⟨rfl, rfl⟩
set_option maxHeartbeats 400000 in
theorem New_any {w : World} : Calls Try.prog 14 #[] w fun e w' => e = .returned (.pointer (some ⟨w.heap.size, 0, none⟩)) ∧ Gk w' w.heap.size w.heap.size [w.heap.size] [] ∧ Below w.heap.size w w' := by
  have HD := DC.alloc w [sl0.v, .bool true] 68
  have HB := Lib.hid (below_alloc w (.cells #[sl0.v, .bool true] 68))
  have H : Hid (Gk (w.alloc (.cells #[sl0.v, .bool true] 68)) w.heap.size w.heap.size [w.heap.size] []) :=
    ⟨[], sl0, ⟨HD, Own.nil _, (fun x hx => by cases hx), rfl, by simp, by simp⟩, rfl⟩
  clear HD
  unfold Sl.v sl0 at HB H
  go_enter Try.func14, Try.ntmps14
  go_wp2_with fail
  go_ret
  exact ⟨rfl, H.out, HB.out⟩
set_option maxRecDepth 100000 in
set_option maxHeartbeats 800000 in
theorem here_any {w : World} {p : Addr} {k : ByteArray} (x : Gi) (hp : w.cell? p = some (.string k)) : Calls Try.prog 75 #[.agg #[.string x.1.name, .int .i64 x.1.sub, .int .i64 x.1.term, .int .i64 x.1.next, x.2.m.v, x.2.o.v, x.2.a.v], .pointer (some p)] w fun e w' => e = .returned (.bool (decide (x.1.name = k))) ∧ Below w.heap.size w w' := by
  obtain ⟨⟨nm, sb, tm, nx, _, _, _⟩, ⟨sm, so, sa⟩⟩ := x
  unfold Sl.v
  have HB := Lib.hid (below_alloc w (.cells #[.string nm, .int .i64 sb, .int .i64 tm, .int .i64 nx, .slice sm.a sm.n sm.c, .slice so.a so.n so.c, .slice sa.a sa.n sa.c] 45))
  have hp2 := cell_later HB.out hp
  have HC := DC.alloc w [.string nm, .int .i64 sb, .int .i64 tm, .int .i64 nx, .slice sm.a sm.n sm.c, .slice so.a so.n so.c, .slice sa.a sa.n sa.c] 45
  have c0 := HC.cells 0 _ rfl
  have HE := Lib.hid (ba_eq nm k)
  clear hp HC
  go_enter Try.func75, Try.ntmps75
  go_wp2_with fail
  go_ret
  exact ⟨by rw [← HE.out]; rfl, HB.out⟩

set_option maxRecDepth 100000 in
set_option maxHeartbeats 1600000 in
theorem index_any {w : World} {v : Value} {ys : List Gi} {p : Addr} {k : ByteArray} (h : giL.In w v ys) (hp : w.cell? p = some (.string k)) (hl : ys.length ≤ 1000000) :
    Calls Try.prog 74 #[v, .func (.func 75) #[] #[.pointer (some p)]] w fun e w' => e = .returned (.int .i64 (plcI (ys.map (·.1)) k)) ∧ Below w.heap.size w w' := by
  obtain ⟨a, c, rfl, h1, h2⟩ := h.slice
  have HD := Lib.hid h
  have HP := Lib.hid hp
  clear h hp
  obtain ⟨n, hn⟩ : ∃ n, n = ys.length := ⟨_, rfl⟩
  rw [← hn] at hl HD h1 ⊢
  have HNn := Lib.hid hn
  clear hn
  go_enter Try.func74, Try.ntmps74
  go_wp2_with fail
  go_loopw [5, 8] (fun _ v wr => ∃ i : Nat, v = .int .i64 i ∧ i ≤ n ∧ Hid (Below w.heap.size w wr) ∧ Hid (∀ j y, j < i → (ys.map (·.1))[j]? = some y → y.name ≠ k))
    (fun _ v _ => n - (intOf v).toNat)
  case atStart => exact ⟨0, rfl, Nat.zero_le _, Below.refl _ _, fun j y hj => by omega⟩
  case round =>
    obtain ⟨i, rfl, hin, HB, HN⟩ := hrel
    by_cases hlt : i < n
    · have ei : IntKind.i64.wrap ((i : Int) + 1) = (i : Int) + 1 := IntWalk.i64_in _ (by omega)
      obtain ⟨x, hx⟩ : ∃ x, ys[i]? = some x := ⟨ys[i]'(by rw [← HNn.out]; exact hlt), List.getElem?_eq_getElem _⟩
      obtain ⟨g, off, rfl, hcl, hat⟩ := (HD.out.later HB.out).cells hx
      clear hcl
      have HC := Lib.hid (here_any x (cell_later HB.out HP.out))
      have HS : Hid ((ys.map (·.1))[i]? = some x.1) := by show _ = _; rw [List.getElem?_map, hx]; rfl
      obtain ⟨⟨nm, sb, tm, nx, mm, oo, dd⟩, ⟨sm, so, sa⟩⟩ := x
      have k0 : wr.cell? ⟨g, off + i * 7, none⟩ = some (.string nm) := hat 0 _ rfl
      have k1 : wr.cell? ⟨g, off + i * 7 + 1, none⟩ = some (.int .i64 sb) := hat 1 _ rfl
      have k2 : wr.cell? ⟨g, off + i * 7 + 2, none⟩ = some (.int .i64 tm) := hat 2 _ rfl
      have k3 : wr.cell? ⟨g, off + i * 7 + 3, none⟩ = some (.int .i64 nx) := hat 3 _ rfl
      have k4 : wr.cell? ⟨g, off + i * 7 + 4, none⟩ = some (.slice sm.a sm.n sm.c) := hat 4 _ rfl
      have k5 : wr.cell? ⟨g, off + i * 7 + 5, none⟩ = some (.slice so.a so.n so.c) := hat 5 _ rfl
      have k6 : wr.cell? ⟨g, off + i * 7 + 6, none⟩ = some (.slice sa.a sa.n sa.c) := hat 6 _ rfl
      unfold Sl.v at HC
      have hI1 : (i : Int) < (n : Int) := by omega
      have hI2 : (0 : Int) ≤ (i : Int) := by omega
      clear hat hx
      go_wp2_with fail
      go_fit HC.out
      rintro e w2 ⟨rfl, hb⟩
      have HB2 := Lib.hid (HB.out.trans (hb.mono HB.out.size))
      clear hb k0 k1 k2 k3 k4 k5 k6 HC
      by_cases e : nm = k
      · rw [decide_eq_true e]
        go_wp2_with fail
        go_ret
        exact ⟨by rw [plcI_hit HS.out e HN.out]; rfl, HB2.out⟩
      · rw [decide_eq_false e]
        go_wp2_with fail
        refine ⟨⟨i + 1, by simp, hlt, HB2, fun j y hj hy => ?_⟩, by show n - ((i : Int) + 1).toNat < n - ((i : Int)).toNat; omega⟩
        by_cases hji : j = i
        · subst hji
          rw [HS.out] at hy
          cases hy
          exact e
        · exact HN.out j y (by omega) hy
    · obtain rfl : i = n := by omega
      have HM : Hid (plcI (ys.map (·.1)) k = -1) := plcI_miss (fun j y hj hy => HN.out j y (by rw [List.length_map] at hj; have := HNn.out; omega) hy)
      go_wp2_with fail
      go_ret
      exact ⟨by rw [HM.out]; rfl, HB.out⟩

/-- Where a group is found: its cells, or nothing and an error. -/
def FindP (ys : List Gi) (s : Sl) (k : ByteArray) (w : World) (e : Ending) (w' : World) : Prop := Below w.heap.size w w' ∧ match plc (ys.map (·.1)) k with
  | none => e = .returned (.tuple #[.pointer none, .int .i64 220])
  | some i => ∃ g, s.a = some ⟨g, 0, none⟩ ∧ e = .returned (.tuple #[.pointer (some ⟨g, i * 7, none⟩), .int .i64 0])
set_option maxRecDepth 100000 in
set_option maxHeartbeats 1600000 in
theorem find_any {w : World} {B b : Nat} {L : List Nat} {ys : List Gi} {s : Sl} (h : Gs w B b L ys s) (hl : ys.length ≤ 1000000) (k : ByteArray) : Calls Try.prog 52 #[.pointer (some ⟨b, 0, none⟩), .string k] w (FindP ys s k w) := by
  have HB0 := Lib.hid (below_alloc w (.cells #[.string k] 9))
  have H0 := h.below HB0.out
  have hk0 : (w.alloc (.cells #[.string k] 9)).cell? ⟨w.heap.size, 0, none⟩ = some (.string k) := by go_simp
  have HX := Lib.hid (index_any H0.list.told hk0 hl)
  have HR := Lib.hid (ready_any (H0.box.cells 1 _ rfl))
  have b0 := H0.box.cells 0 _ rfl
  have HL := Lib.hid H0.list
  clear h H0 hk0
  unfold Sl.v at HX b0
  go_enter Try.func52, Try.ntmps52
  go_wp2_with fail
  generalize w.alloc (.cells #[.string k] 9) = W at *
  go_fit HR.out
  rintro e w1 ⟨rfl, rfl⟩
  go_wp2_with fail
  go_fit HX.out
  rintro e w1 ⟨rfl, hb1⟩
  have b1 := cell_later hb1 b0
  have HB1 := Lib.hid (HB0.out.trans (hb1.mono HB0.out.size))
  have HL1 := Lib.hid (HL.out.below hb1)
  clear hb1 b0 HX HR
  cases hp : plc (ys.map (·.1)) k with
  | none =>
    have HP := Lib.hid hp
    have e1 : plcI (ys.map (·.1)) k = -1 := by unfold plcI; rw [hp]
    rw [e1]
    clear hp e1
    go_wp2_with fail
    go_ret2
    exact ⟨HB1.out, by rw [HP.out]; rfl⟩
  | some i =>
    have HP := Lib.hid hp
    have e1 : plcI (ys.map (·.1)) k = (i : Nat) := by unfold plcI; rw [hp]
    have hlt : i < ys.length := by have := plc_lt hp; rwa [List.length_map] at this
    obtain ⟨g, hg⟩ := HL1.out.some (fun e => by rw [e] at hlt; simp at hlt)
    have hn := HL1.out.1
    obtain ⟨sa, sn, sc⟩ := s
    simp only at hg hn
    subst hg
    rw [e1]
    have h1 : ¬ ((i : Nat) : Int) < 0 := by omega
    have h2 : ((i : Nat) : Int) < (sn : Int) := by omega
    have HG : Hid (∃ g', (⟨some ⟨g, 0, none⟩, sn, sc⟩ : Sl).a = some ⟨g', 0, none⟩ ∧ g' = g) := ⟨g, rfl, rfl⟩
    clear hp e1 hn hlt
    go_wp2_with fail
    go_ret2
    exact ⟨HB1.out, by rw [HP.out]; exact ⟨g, rfl, rfl⟩⟩
end Go.Proofs.Ytdgnjalbpiciiaa
