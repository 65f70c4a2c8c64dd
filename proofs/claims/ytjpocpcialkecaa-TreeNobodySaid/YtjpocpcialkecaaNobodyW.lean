/-
  The walk of TreeNobody.
-/
import Derived.Test.YtjpocpcialkecaaB24
namespace Go.Proofs.Ytjpocpcialkecaa
set_option linter.unusedVariables false
set_option linter.unusedSimpArgs false
open Go.RowKit

theorem T.list_nil {t : T} (h : t.list = []) : t = .nil := by cases t <;> simp_all [T.list]
theorem parted_nil_eq {k : ByteArray} {a b : T} {h : Option Pr} (P : T.Parted .nil k a h b) : a = .nil ∧ h = none ∧ b = .nil := by
  have := P.list
  simp only [T.list] at this
  have h1 := List.append_eq_nil_iff.1 this.symm
  have h2 := List.append_eq_nil_iff.1 h1.2
  exact ⟨T.list_nil h1.1, by cases h <;> simp_all, T.list_nil h2.2⟩
theorem put_one {p : Pr} {u : T} (P : T.IsPut .nil p u) : u.list = [p] :=
  sorted_ext P.sorted ⟨(fun (q : Pr) (hq : q ∈ ([] : List Pr)) => absurd hq (by simp)), trivial⟩ fun x => by
    rw [P.has]
    simp only [T.list, look]
    by_cases e : x = p.1
    · rw [if_pos e, if_pos e.symm]
    · rw [if_neg e, if_neg (fun e' => e e'.symm)]
theorem union_one {b u : T} (hs : Sorted b.list) (U : T.Two T.fU .nil b u) : u.list = b.list :=
  sorted_ext U.sorted hs fun x => by rw [U.has]; simp only [T.list, look, T.fU]; cases look b.list x <;> rfl
theorem good_nil : Good .nil 500000000 := ⟨trivial, trivial, by simp [T.size]⟩

/-- What the law holds on to. -/
structure Nst (w0 w : World) (kb : Nat) (k : Dk) (v : Option Addr) : Prop where
  k0 : w.cell? ⟨kb, 1, none⟩ = some (.string k.key)
  k1 : w.cell? ⟨kb, 2, none⟩ = some (.string k.val)
  tree : Tr w w.heap.size .nil v
  below : Below w0.heap.size w0 w
theorem Nst.later {w0 w w' : World} {kb : Nat} {k : Dk} {v : Option Addr} (h : Nst w0 w kb k v) (hb : Below w.heap.size w w') : Nst w0 w' kb k v :=
  ⟨cell_later hb h.k0, cell_later hb h.k1, h.tree.all hb, h.below.trans (hb.mono h.below.size)⟩

theorem At_none {w : World} {v : Option Addr} (i : Int) (h : Tr w w.heap.size .nil v) (hi : -9223372036854775808 ≤ i ∧ i ≤ 9223372036854775807) : Calls Try.prog 30 #[.pointer v, .int .i64 i] w fun e w' => e = .returned (.tuple #[.agg #[.string ⟨#[]⟩, .string ⟨#[]⟩], .bool false]) ∧ Below w.heap.size w w' := by
  have := At_any i h good_nil hi
  have e : atI .nil i = none := by unfold atI; split <;> rfl
  rw [e] at this
  exact this
theorem Get_none {w : World} {v : Option Addr} (k : ByteArray) (h : Tr w w.heap.size .nil v) : Calls Try.prog 22 #[.pointer v, .string k] w fun e w' => e = .returned (.tuple #[.string ⟨#[]⟩, .bool false]) ∧ Below w.heap.size w w' := Get_any k h trivial
theorem Split_none {w : World} {v : Option Addr} (k : ByteArray) (h : Tr w w.heap.size .nil v) : Calls Try.prog 40 #[.pointer v, .string k] w fun e w' => ∃ va vb, e = .returned (.tuple #[.pointer va, .pointer vb, .string ⟨#[]⟩, .bool false]) ∧ Tr w' w'.heap.size .nil va ∧ Tr w' w'.heap.size .nil vb ∧ Below w.heap.size w w' :=
  (Split_any k h good_nil).mono fun e w' ⟨va, vb, a, h, b, he, P, ha, hb, hw⟩ => by
    obtain ⟨rfl, rfl, rfl⟩ := parted_nil_eq P
    exact ⟨va, vb, he, ha, hb, hw⟩
theorem Join_none {w : World} {v : Option Addr} (h : Tr w w.heap.size .nil v) : Calls Try.prog 42 #[.pointer v, .pointer v] w fun e w' => ∃ va, e = .returned (.tuple #[.pointer va, .bool true]) ∧ Tr w' w'.heap.size .nil va ∧ Below w.heap.size w w' :=
  (Join_any h h good_nil good_nil).mono fun e w' ⟨hw, hj⟩ => by
    rw [if_pos (show joinable T.nil.list T.nil.list = true from rfl)] at hj
    obtain ⟨va, t, he, _, hm, ht⟩ := hj
    obtain rfl := T.list_nil hm.1
    exact ⟨va, he, ht, hw⟩

theorem Len_eq {w : World} {B n : Nat} {t : T} {v : Option Addr} (h : Tr w B t v) (hs : t.size = n) : Calls Try.prog 24 #[.pointer v] w fun e w' => e = .returned (.int .i64 (n : Nat)) ∧ w = w' := by
  subst hs; exact Len_any h
theorem Len_zero {w : World} {B : Nat} {v : Option Addr} (h : Tr w B .nil v) : Calls Try.prog 24 #[.pointer v] w fun e w' => e = .returned (.int .i64 0) ∧ w = w' := Len_any h
theorem Len_one {w : World} {B : Nat} {t : T} {v : Option Addr} (h : Tr w B t v) (hs : t.size = 1) : Calls Try.prog 24 #[.pointer v] w fun e w' => e = .returned (.int .i64 1) ∧ w = w' := Len_eq h hs
theorem Depth_zero {w : World} {B : Nat} {v : Option Addr} (h : Tr w B .nil v) : Calls Try.prog 56 #[.pointer v] w fun e w' => e = .returned (.int .i64 0) ∧ w = w' := Depth_any h
theorem Rank_zero {w : World} {v : Option Addr} (k : ByteArray) (h : Tr w w.heap.size .nil v) : Calls Try.prog 36 #[.pointer v, .string k] w fun e w' => e = .returned (.int .i64 0) ∧ Below w.heap.size w w' := Rank_any k h good_nil
theorem All_none {w : World} {v : Option Addr} (h : Tr w w.heap.size .nil v) : Calls Try.prog 26 #[.pointer v] w fun e w' => (∃ a c, e = .returned (.slice a 0 c)) ∧ Below w.heap.size w w' :=
  (All_any h good_nil).mono fun e w' ⟨v', he, ho, hg, _⟩ => by
    obtain ⟨a, c, rfl, _⟩ := row_slice ho
    exact ⟨⟨a, c, he⟩, grown_below hg⟩
theorem Diff_none {w : World} {v : Option Addr} (h : Tr w w.heap.size .nil v) : Calls Try.prog 51 #[.pointer v, .pointer v] w fun e w' => (∃ a c, e = .returned (.slice a 0 c)) ∧ Below w.heap.size w w' :=
  (Diff_any h h good_nil good_nil).mono fun e w' ⟨v', ds, he, _, hl, ho, hg, _⟩ => by
    obtain rfl : ds = [] := List.eq_nil_of_length_eq_zero (by simp only [T.size] at hl; omega)
    obtain ⟨a, c, rfl, _⟩ := row_slice ho
    exact ⟨⟨a, c, he⟩, grown_below hg⟩
theorem Drop_none {w : World} {v : Option Addr} (k : ByteArray) (h : Tr w w.heap.size .nil v) : Calls Try.prog 55 #[.pointer v, .string k] w fun e w' => ∃ u, e = .returned (.pointer u) ∧ Tr w' w'.heap.size .nil u ∧ Below w.heap.size w w' :=
  (Drop_any k h good_nil).mono fun e w' ⟨u, t, he, hq, ht, hb⟩ => by
    have h0 := hq.size
    have : t = .nil := T.list_nil (List.eq_nil_of_length_eq_zero (by rw [T.size_list]; simp only [T.size] at h0; omega))
    subst this
    exact ⟨u, he, ht, hb⟩
/-- A tree of one pair. -/
theorem Put_one {w : World} {v : Option Addr} (k x : ByteArray) (h : Tr w w.heap.size .nil v) : Calls Try.prog 54 #[.pointer v, .string k, .string x] w fun e w' => ∃ u t, e = .returned (.pointer u) ∧ t.list = [(k, x)] ∧ Good t 500000000 ∧ Tr w' w'.heap.size t u ∧ Below w.heap.size w w' :=
  (Put_any k x h good_nil).mono fun e w' ⟨u, t, he, hq, ht, hb⟩ => ⟨u, t, he, put_one hq, ⟨hq.bal, hq.sorted, by have := hq.size; simp only [T.size] at this; omega⟩, ht, hb⟩
theorem All_in {w : World} {t : T} {v : Option Addr} {xs : List Pr} (h : Tr w w.heap.size t v) (g : Good t 500000000) (hl : t.list = xs) : Calls Try.prog 26 #[.pointer v] w fun e w' => (∃ a c, e = .returned (.slice a xs.length c) ∧ PairsIn w' (.slice a xs.length c) xs) ∧ Below w.heap.size w w' :=
  (All_any h g).mono fun e w' ⟨v', he, ho, hg, _⟩ => by
    rw [hl] at ho
    obtain ⟨a, c, rfl, _⟩ := row_slice ho
    exact ⟨⟨a, c, he, pairs_row ho rfl⟩, grown_below hg⟩
theorem ex9 : dd (isort [(⟨#[97]⟩, ⟨#[98]⟩)]) = [(⟨#[97]⟩, ⟨#[98]⟩)] := by decide +kernel
theorem Of_one {w : World} {g c : Nat} (h : PairsAt w g 0 [(⟨#[97]⟩, ⟨#[98]⟩)]) : Calls Try.prog 27 #[.slice (some ⟨g, 0, none⟩) 1 c] w fun e w' => ∃ u t, e = .returned (.pointer u) ∧ t.list = [(⟨#[97]⟩, ⟨#[98]⟩)] ∧ Good t 500000000 ∧ Tr w' w'.heap.size t u ∧ Below w.heap.size w w' := by
  have := Of_some (c := c) (n := 1) h rfl (by decide) (by decide)
  rw [ex9] at this
  exact this.mono fun e w' ⟨u, t, he, hq, ht, hb⟩ => ⟨u, t, he, hq.1, ⟨hq.2.1, by rw [hq.1]; exact ⟨(fun (q : Pr) (hq : q ∈ ([] : List Pr)) => absurd hq (by simp)), trivial⟩, by rw [← T.size_list, hq.1]; decide⟩, ht, hb⟩
theorem Union_one {w : World} {v u : Option Addr} {t : T} {p : Pr} (h : Tr w w.heap.size .nil v) (h2 : Tr w w.heap.size t u) (g : Good t 500000000) (hl : t.list = [p]) : Calls Try.prog 45 #[.pointer v, .pointer u] w fun e w' => ∃ r s, e = .returned (.pointer r) ∧ s.size = 1 ∧ Tr w' w'.heap.size s r ∧ Below w.heap.size w w' :=
  (Union_any h h2 good_nil g).mono fun e w' ⟨r, s, he, hq, ht, hb⟩ => ⟨r, s, he, by rw [← T.size_list, union_one g.sorted hq.1, hl]; rfl, ht, hb⟩

set_option maxRecDepth 100000 in
set_option maxHeartbeats 6400000 in
theorem Nobody_any (k : Dk) (i : Int) (w : World) (hi : -9223372036854775808 ≤ i ∧ i ≤ 9223372036854775807) : Calls Try.prog 14 #[.agg #[.int .i64 k.op, .string k.key, .string k.val], .int .i64 i] w (Yes w) := by
  have HI := Lib.hid hi
  clear hi
  go_enter Try.func14, Try.ntmps14
  go_wp2_with fail
  have hA1 := below_alloc w (Obj.cells #[Value.int .i64 k.op, .string k.key, .string k.val] 30)
  have hk0 : (w.alloc (Obj.cells #[Value.int .i64 k.op, .string k.key, .string k.val] 30)).cell? ⟨w.heap.size, 1, none⟩ = some (.string k.key) := by rw [World.cell?_alloc_at _ _ _ _ rfl]; rfl
  have hk1 : (w.alloc (Obj.cells #[Value.int .i64 k.op, .string k.key, .string k.val] 30)).cell? ⟨w.heap.size, 2, none⟩ = some (.string k.val) := by rw [World.cell?_alloc_at _ _ _ _ rfl]; rfl
  have hs1 : (w.alloc (Obj.cells #[Value.int .i64 k.op, .string k.key, .string k.val] 30)).heap.size = w.heap.size + 1 := by simp
  generalize w.alloc (Obj.cells #[Value.int .i64 k.op, .string k.key, .string k.val] 30) = W1 at *
  have hA2 := below_alloc W1 (Obj.cells #[Value.int .i64 k.op, .string k.key, .string k.val] 30)
  have hs2 : (W1.alloc (Obj.cells #[Value.int .i64 k.op, .string k.key, .string k.val] 30)).heap.size = w.heap.size + 1 + 1 := by simp [hs1]
  have hat : ∀ j, (W1.alloc (Obj.cells #[Value.int .i64 k.op, .string k.key, .string k.val] 30)).cell? ⟨w.heap.size + 1, j, none⟩ = #[Value.int .i64 k.op, .string k.key, .string k.val][j]? := fun j => by rw [World.cell?_alloc_at _ _ _ _ hs1.symm]
  generalize W1.alloc (Obj.cells #[Value.int .i64 k.op, .string k.key, .string k.val] 30) = W2 at *
  have hA3 := below_alloc W2 (Obj.cells #[.slice (some ⟨w.heap.size + 1, 0, none⟩) 1 1] 22)
  have hat3 : (W2.alloc (Obj.cells #[.slice (some ⟨w.heap.size + 1, 0, none⟩) 1 1] 22)).cell? ⟨w.heap.size + 1 + 1, 0, none⟩ = some (.slice (some ⟨w.heap.size + 1, 0, none⟩) 1 1) := by rw [World.cell?_alloc_at _ _ _ _ hs2.symm]; rfl
  have hL : ListsIn (W2.alloc (Obj.cells #[.slice (some ⟨w.heap.size + 1, 0, none⟩) 1 1] 22)) (.slice (some ⟨w.heap.size + 1 + 1, 0, none⟩) 1 1) [[k]] := by
    refine ⟨_, 0, 1, rfl, fun i l hl => ?_⟩
    match i, hl with
    | 0, hl =>
      obtain rfl : [k] = l := by simpa using hl
      refine ⟨_, hat3, _, 1, rfl, .inr ⟨w.heap.size + 1, 0, rfl, fun j x hx => ?_⟩⟩
      match j, hx with
      | 0, hx =>
        obtain rfl : k = x := by simpa using hx
        exact ⟨cell_later hA3 (hat 0), cell_later hA3 (hat 1), cell_later hA3 (hat 2)⟩
  have h23 := hA2.trans (hA3.mono hA2.size)
  go_fit (short_any hL (by simp))
  rintro e w2 ⟨sb, rfl, _, hb2⟩
  have h12 := h23.trans (hb2.mono h23.size)
  have hk0 := cell_later h12 hk0
  have hk1 := cell_later h12 hk1
  have HB2 := Lib.hid (hA1.trans (h12.mono hA1.size))
  clear hA1 hA2 hA3 hL h23 hb2 h12 hs1 hs2 hat hat3
  cases sb with
  | false =>
    go_wp2_with fail
    go_fit (awake_any w2)
    rintro e w3 ⟨rfl, hb3⟩
    have HB3 := Lib.hid (HB2.out.trans (hb3.mono HB2.out.size))
    clear hb3
    go_wp2_with fail
    go_ret
    exact ⟨rfl, HB3.out⟩
  | true =>
    go_wp2_with fail
    have hA1 := below_alloc w2 (Obj.cells #[Value.pointer none] 79)
    have hs1 : (w2.alloc (Obj.cells #[Value.pointer none] 79)).heap.size = w2.heap.size + 1 := by simp
    have hr1 : (w2.alloc (Obj.cells #[Value.pointer none] 79)).cell? ⟨w2.heap.size, 0, none⟩ = some (.pointer none) := by rw [World.cell?_alloc_at _ _ _ _ rfl]; rfl
    generalize w2.alloc (Obj.cells #[Value.pointer none] 79) = V1 at *
    have hA2 := below_alloc V1 (Obj.cells #[Value.pointer none, Value.pointer (some ⟨w2.heap.size, 0, none⟩)] 25)
    have hat : ∀ j, (V1.alloc (Obj.cells #[Value.pointer none, Value.pointer (some ⟨w2.heap.size, 0, none⟩)] 25)).cell? ⟨w2.heap.size + 1, j, none⟩ = #[Value.pointer none, Value.pointer (some ⟨w2.heap.size, 0, none⟩)][j]? := fun j => by rw [World.cell?_alloc_at _ _ _ _ hs1.symm]
    have hr2 := cell_later hA2 hr1
    have h12 := hA1.trans (hA2.mono hA1.size)
    generalize V1.alloc (Obj.cells #[Value.pointer none, Value.pointer (some ⟨w2.heap.size, 0, none⟩)] 25) = V2 at *
    have hk0 := cell_later h12 hk0
    have hk1 := cell_later h12 hk1
    have HB3 := Lib.hid (HB2.out.trans (h12.mono HB2.out.size))
    have hlt : w2.heap.size < V2.heap.size := World.block_lt_of_cell? V2 _ hr2
    have HIt : Hid (∀ (W : World) (j : Nat), j < 2 → Below V2.heap.size V2 W → ∃ v, W.cell? ⟨w2.heap.size + 1, j, none⟩ = some (.pointer v) ∧ Nst w W w.heap.size k v) := fun W j hj hW => by
      have hb : Below w.heap.size w W := HB3.out.trans (hW.mono HB3.out.size)
      match j, hj with
      | 0, _ => exact ⟨none, cell_later hW (hat 0), cell_later hW hk0, cell_later hW hk1, .inl ⟨rfl, rfl⟩, hb⟩
      | 1, _ => exact ⟨_, cell_later hW (hat 1), cell_later hW hk0, cell_later hW hk1, .inr ⟨w2.heap.size, none, rfl, Nat.lt_of_lt_of_le hlt hW.size, cell_later hW hr2, rfl⟩, hb⟩
    clear hA1 hA2 hs1 hr1 hat hr2 h12 hk0 hk1 hlt HB2
    go_loopw [27] (fun u wr => ∃ j : Nat, u = .int .i64 j ∧ j ≤ 2 ∧ Hid (Below V2.heap.size V2 wr))
      (fun u _ => 2 - (intOf u).toNat)
    case atStart => exact ⟨0, rfl, by omega, Below.refl _ _⟩
    case round =>
      obtain ⟨j, rfl, hj, hbw⟩ := hrel
      have ej : IntKind.i64.wrap ((j : Int) + 1) = (j : Int) + 1 := IntWalk.i64_in _ (by omega)
      by_cases hlt : j < 2
      · obtain ⟨v, hcell, hst⟩ := HIt.out wr j hlt hbw.out
        have hJ1 : (j : Int) < 2 := by omega
        have hJ2 : (0 : Int) ≤ (j : Int) := by omega
        have HS := Lib.hid hst
        clear hst
        go_wp2_with fail
        go_fit (At_none i HS.out.tree HI.out)
        rintro e w3 ⟨rfl, hb3⟩
        have hb3 := hb3.trans ((below_alloc w3 (Obj.cells #[Value.string { data := #[] }, Value.string { data := #[] }] 34)).mono hb3.size)
        have HS := Lib.hid (HS.out.later hb3)
        have HW := Lib.hid (hbw.out.trans (hb3.mono hbw.out.size))
        have x0 := HS.out.k0
        have x1 := HS.out.k1
        clear hb3
        go_wp2_with fail
        generalize w3.alloc (Obj.cells #[Value.string { data := #[] }, Value.string { data := #[] }] 34) = w3 at *
        go_fit (Get_none k.key HS.out.tree)
        rintro e w4 ⟨rfl, hb4⟩
        have HS := Lib.hid (HS.out.later hb4)
        have HW := Lib.hid (HW.out.trans (hb4.mono HW.out.size))
        have x0 := HS.out.k0
        have x1 := HS.out.k1
        clear hb4
        go_wp2_with fail
        go_fit (Split_none k.key HS.out.tree)
        rintro e w5 ⟨va, vb, rfl, ha5, hb5, hw5⟩
        have HS := Lib.hid (HS.out.later hw5)
        have HW := Lib.hid (HW.out.trans (hw5.mono HW.out.size))
        have HTa := Lib.hid ha5
        have HTb := Lib.hid hb5
        have x0 := HS.out.k0
        have x1 := HS.out.k1
        clear ha5 hb5 hw5
        go_wp2_with fail
        go_fit (Join_none HS.out.tree)
        rintro e w6 ⟨vj, rfl, hj6, hw6⟩
        have HS := Lib.hid (HS.out.later hw6)
        have HW := Lib.hid (HW.out.trans (hw6.mono HW.out.size))
        have HTa := Lib.hid (HTa.out.all hw6)
        have HTb := Lib.hid (HTb.out.all hw6)
        have HTj := Lib.hid hj6
        have x0 := HS.out.k0
        have x1 := HS.out.k1
        clear hj6 hw6
        go_wp2_with fail
        have hdr := below_drew1 w6
        have HS := Lib.hid (HS.out.later hdr)
        have HW := Lib.hid (HW.out.trans (hdr.mono HW.out.size))
        have x0 := HS.out.k0
        have x1 := HS.out.k1
        have HTa := Lib.hid (HTa.out.all hdr)
        have HTb := Lib.hid (HTb.out.all hdr)
        have HTj := Lib.hid (HTj.out.all hdr)
        clear hdr
        go_region_held3 (fun V => V.cell? ⟨w.heap.size, 1, none⟩ = some (.string k.key) ∧ V.cell? ⟨w.heap.size, 2, none⟩ = some (.string k.val)) (go_keep)
          (first
            | (go_at_call 24; (with_reducible refine (Len_zero HS.out.tree).mono ?_); rintro e w' ⟨rfl, rfl⟩)
            | (go_at_call 24; (with_reducible refine (Len_zero HTa.out).mono ?_); rintro e w' ⟨rfl, rfl⟩)
            | (go_at_call 24; (with_reducible refine (Len_zero HTb.out).mono ?_); rintro e w' ⟨rfl, rfl⟩)
            | (go_at_call 24; (with_reducible refine (Len_zero HTj.out).mono ?_); rintro e w' ⟨rfl, rfl⟩)
            | (go_at_call 24; (with_reducible refine (Len_zero HTd.out).mono ?_); rintro e w' ⟨rfl, rfl⟩)
            | (go_at_call 56; (with_reducible refine (Depth_zero HS.out.tree).mono ?_); rintro e w' ⟨rfl, rfl⟩)
            | (go_at_call 36; (with_reducible refine (Rank_zero k.key HS.out.tree).mono ?_); rintro e w7 ⟨rfl, hb7⟩; have HS := Lib.hid (HS.out.later hb7); have HW := Lib.hid (HW.out.trans (hb7.mono HW.out.size)); have x0 := HS.out.k0; have x1 := HS.out.k1; have HTa := Lib.hid (HTa.out.all hb7); have HTb := Lib.hid (HTb.out.all hb7); have HTj := Lib.hid (HTj.out.all hb7); clear hb7)
            | (go_at_call 26; (with_reducible refine (All_none HS.out.tree).mono ?_); rintro e w7 ⟨⟨aa, ca, rfl⟩, hb7⟩; have HS := Lib.hid (HS.out.later hb7); have HW := Lib.hid (HW.out.trans (hb7.mono HW.out.size)); have x0 := HS.out.k0; have x1 := HS.out.k1; have HTa := Lib.hid (HTa.out.all hb7); have HTb := Lib.hid (HTb.out.all hb7); have HTj := Lib.hid (HTj.out.all hb7); clear hb7)
            | (go_at_call 51; (with_reducible refine (Diff_none HS.out.tree).mono ?_); rintro e w7 ⟨⟨ab, cb, rfl⟩, hb7⟩; have HS := Lib.hid (HS.out.later hb7); have HW := Lib.hid (HW.out.trans (hb7.mono HW.out.size)); have x0 := HS.out.k0; have x1 := HS.out.k1; have HTa := Lib.hid (HTa.out.all hb7); have HTb := Lib.hid (HTb.out.all hb7); have HTj := Lib.hid (HTj.out.all hb7); clear hb7)
            | (go_at_call 55; (with_reducible refine (Drop_none k.key HS.out.tree).mono ?_); rintro e w7 ⟨vd, rfl, ht7, hb7⟩; have HTd := Lib.hid ht7; have HS := Lib.hid (HS.out.later hb7); have HW := Lib.hid (HW.out.trans (hb7.mono HW.out.size)); have x0 := HS.out.k0; have x1 := HS.out.k1; have HTa := Lib.hid (HTa.out.all hb7); have HTb := Lib.hid (HTb.out.all hb7); have HTj := Lib.hid (HTj.out.all hb7); clear hb7 ht7))
        clear HTa HTb HTj
        go_wp2_with fail
        have hdr := below_drew1 w7
        have HS := Lib.hid (HS.out.later hdr)
        have HW := Lib.hid (HW.out.trans (hdr.mono HW.out.size))
        have x0 := HS.out.k0
        have x1 := HS.out.k1
        clear hdr
        go_region_held3 (fun V => V.cell? ⟨w.heap.size, 1, none⟩ = some (.string k.key) ∧ V.cell? ⟨w.heap.size, 2, none⟩ = some (.string k.val)) (go_keep)
          (first
            | (go_at_call 54; (with_reducible refine (Put_one k.key k.val HS.out.tree).mono ?_); rintro e w8 ⟨vp, tp, rfl, hlp, gp, htp, hb8⟩; have HPl := Lib.hid hlp; have HPg := Lib.hid gp; have HPt := Lib.hid htp; have HS := Lib.hid (HS.out.later hb8); have HW := Lib.hid (HW.out.trans (hb8.mono HW.out.size)); have x0 := HS.out.k0; have x1 := HS.out.k1; clear hb8 hlp gp htp)
            | (go_at_call 26; refine (All_in HPt.out HPg.out HPl.out).mono ?_; rintro e w9 ⟨⟨aa, ca, rfl, hin⟩, hb9⟩; have HPa := Lib.hid hin; have HS := Lib.hid (HS.out.later hb9); have HW := Lib.hid (HW.out.trans (hb9.mono HW.out.size)); have x0 := HS.out.k0; have x1 := HS.out.k1; clear hb9 hin)
            | (go_at_call 20; refine (pair_any _ _ _).mono ?_; rintro e wp ⟨rfl, hbp⟩; have HPa := Lib.hid (HPa.out.later hbp); have HS := Lib.hid (HS.out.later hbp); have HW := Lib.hid (HW.out.trans (hbp.mono HW.out.size)); have x0 := HS.out.k0; have x1 := HS.out.k1; clear hbp)
            | (go_at_call 57; refine (EqualP_true (HPa.out.later (below_alloc _ _)) ⟨_, 1, rfl, .inr ⟨_, 0, rfl, pairs_block _ [(k.key, k.val)] _ _ rfl⟩⟩ (by simp)).mono ?_; rintro e wq ⟨rfl, hbq0⟩; have hbq := (below_alloc _ _).trans (hbq0.mono (below_alloc _ _).size); have HPa := Lib.hid (HPa.out.later hbq); have HS := Lib.hid (HS.out.later hbq); have HW := Lib.hid (HW.out.trans (hbq.mono HW.out.size)); have x0 := HS.out.k0; have x1 := HS.out.k1; clear hbq hbq0)
            | (go_at_call 27; refine (Of_one (pairs_block _ [(⟨#[97]⟩, ⟨#[98]⟩)] _ _ rfl)).mono ?_; rintro e wo ⟨vo, to, rfl, hlo, go, hto, hbo0⟩; have hbo := (below_alloc _ _).trans (hbo0.mono (below_alloc _ _).size); have HOl := Lib.hid hlo; have HOg := Lib.hid go; have HOt := Lib.hid hto; have HS := Lib.hid (HS.out.later hbo); have HW := Lib.hid (HW.out.trans (hbo.mono HW.out.size)); have x0 := HS.out.k0; have x1 := HS.out.k1; clear hbo hbo0 hlo go hto)
            | (go_at_call 45; (with_reducible refine (Union_one HS.out.tree HOt.out HOg.out HOl.out).mono ?_); rintro e wu ⟨vu, tu, rfl, hsu, htu, hbu⟩; have HUs := Lib.hid hsu; have HUt := Lib.hid htu; have HS := Lib.hid (HS.out.later hbu); have HW := Lib.hid (HW.out.trans (hbu.mono HW.out.size)); have x0 := HS.out.k0; have x1 := HS.out.k1; clear hbu hsu htu)
            | (go_at_call 24; (with_reducible refine (Len_one HUt.out HUs.out).mono ?_); rintro e w' ⟨rfl, rfl⟩))
        go_wp2_with fail
        exact ⟨⟨j + 1, by simp, hlt, HW⟩, by show 2 - ((j : Int) + 1).toNat < 2 - ((j : Int)).toNat; omega⟩
      · obtain rfl : j = 2 := by omega
        have HB4 := Lib.hid (HB3.out.trans (hbw.out.mono HB3.out.size))
        go_wp2_with fail
        go_fit (awake_any wr)
        rintro e w3 ⟨rfl, hb3⟩
        have HB5 := Lib.hid (HB4.out.trans (hb3.mono HB4.out.size))
        clear hb3
        go_wp2_with fail
        go_ret
        exact ⟨rfl, HB5.out⟩
end Go.Proofs.Ytjpocpcialkecaa
