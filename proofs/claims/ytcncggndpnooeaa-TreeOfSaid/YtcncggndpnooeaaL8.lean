/-
  The document's lists, walked: two lists joined. (Written by genl.py.)
-/
import Derived.Test.YtcncggndpnooeaaL3
import Derived.Test.YtcncggndpnooeaaM6
namespace Go.Proofs.Ytcncggndpnooeaa
set_option linter.unusedVariables false
set_option linter.unusedSimpArgs false
open Go.RowKit

/-- Pairs that are told are put behind a row. -/
theorem row_cat {w0 w : World} {v u : Value} {xs ys : List Pr} (ty : TypeId) (h : Row w0 w v xs) (hu : PairsIn w u ys) (hl : xs.length + ys.length ≤ 1073741825) :
    ∃ v' w', (Builtin.append_ #[28, 28] ty #[v, u]).run Try.prog w = .ok v' w' ∧ Row w0 w' v' (xs ++ ys) ∧ w.grownBy w' v.ownBlock := by
  obtain ⟨i0, hi, hz0, hz1, hz2⟩ := info_parts Try.infoPair
  obtain ⟨a, c, rfl, hu⟩ := hu
  by_cases hy : ys = []
  · subst hy
    have ho := h.own
    refine ⟨v, w, ?_, by rw [List.append_nil]; exact h, World.grownBy.refl w _⟩
    rcases ho.2 with ⟨rfl, hn⟩ | ⟨g, cap, cur, rfl, _, _, hnc, _⟩
    · cases a <;> simp [Builtin.append_, run_underlying Try.underlying28, sizeOf, typeInfo, hi, Builtin.lenOf, Builtin.firstCells, loadCellsFrom, loadCells]
    · cases a <;> simp [Builtin.append_, run_underlying Try.underlying28, sizeOf, typeInfo, hi, Builtin.lenOf, Builtin.firstCells, hnc, storeCells, loadCellsFrom, loadCells]
  · obtain ⟨g, off, rfl, hp⟩ := hu.resolve_left hy
    obtain ⟨v', w', hr, h2, h3, _, h5⟩ := run_append_own_at (P := Try.prog) w w0.heap.size 28 ty 34 i0 (.agg #[.string ByteArray.empty, .string ByteArray.empty]) 2 32 Try.underlying28 hi hz0 hz1 hz2 rfl (by decide) v xs.length (prs xs) h.own ⟨g, off, none⟩ ys.length c (prs ys) (prs_length ys) (fun j x hj => by
        rw [Addr.add_lit]
        have hlt : j < (prs ys).length := (List.getElem?_eq_some_iff.1 hj).1
        rw [prs_length] at hlt
        obtain ⟨q, hq⟩ : ∃ q, ys[j / 2]? = some q := ⟨ys[j / 2]'(by omega), List.getElem?_eq_getElem _⟩
        obtain ⟨e1, e2⟩ := hp (j / 2) q hq
        obtain ⟨f1, f2⟩ := prs_at ys (j / 2)
        rcases Nat.mod_two_eq_zero_or_one j with m | m
        · have e : 2 * (j / 2) = j := by omega
          rw [e, hj, hq] at f1
          simp only [Option.map, Option.some.injEq] at f1
          rw [f1, show off + j = off + j / 2 * 2 from by omega]; exact e1
        · have e : 2 * (j / 2) + 1 = j := by omega
          rw [e, hj, hq] at f2
          simp only [Option.map, Option.some.injEq] at f2
          rw [f2, show off + j = off + j / 2 * 2 + 1 from by omega]; exact e2) (prs_one ys) (by unfold maxLen; omega) (by omega) h.grown.size
    refine ⟨v', w', hr, ⟨by rw [prs_app, List.length_append]; exact h2, grown_seq h.grown h3 h.new, ?_⟩, h3⟩
    rcases h5 with h5 | h5
    · rw [h5]; exact h.new
    · exact .inr fun g hg => by
        rw [h5] at hg
        simp only [Option.some.injEq] at hg
        rw [← hg]; exact h.grown.size
theorem wpList_cat {w0 w : World} {v u : Value} {xs ys : List Pr} {ops : Array Oper} {rest : List Oper} {o : Oper} {a : Act} {Q : Exit → Act → World → Prop} (hgd : o.guard = none) (s x : Operand)
    (ho : o.op = .call { callee := .builtin .append, args := #[s, x], argTypes := #[28, 28] })
    (h : Row w0 w v xs) (hu : PairsIn w u ys) (hl : xs.length + ys.length ≤ 1073741825) (hs : a.eval s = v) (hx : a.eval x = u)
    (hk : ∀ v' w', Row w0 w' v' (xs ++ ys) → w.grownBy w' v.ownBlock → wpList Try.prog ops Q rest (a.put o.dst v') w') : wpList Try.prog ops Q (o :: rest) a w :=
  wpList_plain hgd fun _ hK => by
    obtain ⟨v', w', hr, h2, h3⟩ := row_cat o.type h hu hl
    unfold Oper.wp execOp
    simp only [ho, resolve, invoke, builtin, Sem.run_bind, Sem.run_pure, Result.andThen_ok, List.map_toArray, List.map_cons, List.map_nil, hs, hx, hr]
    exact hK _ _ (hk v' w' h2 h3)
theorem Row.empty {w0 w : World} (hb : w0.grownBy w none) : Row w0 (w.alloc (.cells #[] 34)) (.slice (some ⟨w.heap.size, 0, none⟩) 0 0) [] :=
  ⟨⟨rfl, .inr ⟨w.heap.size, 0, #[], rfl, hb.size, Go.heap_alloc_new w _, Nat.le_refl _, by decide, rfl, rfl⟩⟩, grown_alloc hb _, .inr fun g hg => by
    simp [Value.ownBlock] at hg; subst hg; exact hb.size⟩

/-- What is told of two lists that are joined. -/
def JoinsL (xs zs : List Pr) (w : World) (e : Ending) (w' : World) : Prop :=
  Below w.heap.size w w' ∧ if jn xs zs = true then ∃ v, e = .returned (.tuple #[v, .bool true]) ∧ PairsIn w' v (xs ++ zs) else e = .returned (.tuple #[.slice none 0 0, .bool false])

set_option maxRecDepth 100000 in
set_option maxHeartbeats 3200000 in
theorem RJoin_any {w : World} {u v : Value} {xs zs : List Pr} (hu : PairsIn w u xs) (hv : PairsIn w v zs) (hl : xs.length + zs.length ≤ 1073741822) :
    Calls Try.prog 43 #[u, v] w (JoinsL xs zs w) := by
  obtain ⟨a, c, rfl, hx⟩ := hu
  have HX := Lib.hid hx
  obtain ⟨a', c', rfl, hz⟩ := hv
  have HZ := Lib.hid hz
  clear hx hz
  go_enter Try.func43, Try.ntmps43
  go_wp2_with fail
  go_loopw [12] (fun v wr => ∃ i : Nat, v = .int .i64 i ∧ i ≤ xs.length ∧ Hid (∀ p ∈ xs.take i, ∀ q ∈ zs, klt p.1 q.1 = true) ∧ Hid (Below w.heap.size w wr))
    (fun v _ => xs.length - (intOf v).toNat)
  case atStart => exact ⟨0, rfl, Nat.zero_le _, (fun p hp => by simp at hp : ∀ p ∈ xs.take 0, ∀ q ∈ zs, klt p.1 q.1 = true), Below.refl _ _⟩
  case round =>
    obtain ⟨i, rfl, hin, hall, hb⟩ := hrel
    have ei : IntKind.i64.wrap ((i : Int) + 1) = (i : Int) + 1 := IntWalk.i64_in _ (by omega)
    by_cases hlt : i < xs.length
    · obtain ⟨p, hp1⟩ : ∃ p, xs[i]? = some p := ⟨xs[i], List.getElem?_eq_getElem hlt⟩
      obtain ⟨g2, off2, rfl, hpa⟩ := HX.out.resolve_left (fun e => by rw [e] at hp1; simp at hp1)
      obtain ⟨k0, k1⟩ := hpa i p hp1
      have k0 := cell_later hb.out k0
      have k1 := cell_later hb.out k1
      have hI1p : (i : Int) < ((xs.length : Nat) : Int) := by omega
      have hI2p : (0 : Int) ≤ (i : Int) := by omega
      have HBp := Lib.hid (hb.out.trans ((below_alloc wr (Obj.cells #[Value.string p.1, .string p.2] 34)).mono hb.out.size))
      have Hp1 := Lib.hid hp1
      clear hpa hp1
      have hBx := box_alloc wr p.1 p.2 34
      have HBx := Lib.hid hBx
      clear hb hBx
      go_wp2_with fail
      generalize hW : wr.alloc (Obj.cells #[Value.string p.1, .string p.2] 34) = W at *
      clear hW
      generalize hPB : wr.heap.size = PB at *
      clear hPB
      go_loopw [18] (fun v wr => ∃ j : Nat, v = .int .i64 j ∧ j ≤ zs.length ∧ Hid (∀ q ∈ zs.take j, klt p.1 q.1 = true) ∧ Hid (Below w.heap.size w wr) ∧ Hid (Box wr PB p.1 p.2))
        (fun v _ => zs.length - (intOf v).toNat)
      case atStart => exact ⟨0, rfl, Nat.zero_le _, (fun q hq => by simp at hq : ∀ q ∈ zs.take 0, klt p.1 q.1 = true), HBp, HBx⟩
      case round =>
        obtain ⟨j, rfl, hjn, hallq, hb, hbx⟩ := hrel
        have ej : IntKind.i64.wrap ((j : Int) + 1) = (j : Int) + 1 := IntWalk.i64_in _ (by omega)
        by_cases hjlt : j < zs.length
        · obtain ⟨q, hq1⟩ : ∃ p, zs[j]? = some p := ⟨zs[j], List.getElem?_eq_getElem hjlt⟩
          obtain ⟨g3, off3, rfl, hpa⟩ := HZ.out.resolve_left (fun e => by rw [e] at hq1; simp at hq1)
          obtain ⟨q0, q1⟩ := hpa j q hq1
          have q0 := cell_later hb.out q0
          have q1 := cell_later hb.out q1
          have hI1q : (j : Int) < ((zs.length : Nat) : Int) := by omega
          have hI2q : (0 : Int) ≤ (j : Int) := by omega
          have HBq := Lib.hid (hb.out.trans ((below_alloc wr (Obj.cells #[Value.string q.1, .string q.2] 34)).mono hb.out.size))
          have Hq1 := Lib.hid hq1
          clear hpa hq1
          have hbx2 := hbx.out.later (below_alloc wr (Obj.cells #[Value.string q.1, .string q.2] 34))
          have HBx2 := Lib.hid hbx2
          have x0 := hbx2.c0
          have x1 := hbx2.c1
          clear hb hbx hbx2
          cases hk : klt p.1 q.1
          · have he : Go.Op.bytesLess p.1.toList q.1.toList = false := hk
            have HE : Hid (jn xs zs = false) := by
              show _ = _
              cases hj : jn xs zs
              · rfl
              · have h1 := List.all_eq_true.1 hj p (List.mem_of_getElem? Hp1.out)
                have h2 := List.all_eq_true.1 h1 q (List.mem_of_getElem? Hq1.out)
                rw [hk] at h2; cases h2
            clear hk
            go_wp2_with fail
            go_ret2
            exact ⟨HBq.out, by rw [HE.out]; rfl⟩
          · have he : Go.Op.bytesLess p.1.toList q.1.toList = true := hk
            have HE : Hid (∀ r ∈ zs.take (j + 1), klt p.1 r.1 = true) := by
              intro r hr
              rw [List.take_add_one, Hq1.out] at hr
              rcases List.mem_append.1 hr with h | h
              · exact hallq.out r h
              · simp at h; rw [h]; exact hk
            clear hk
            go_wp2_with fail
            exact ⟨⟨j + 1, by simp, hjlt, HE, HBq, HBx2⟩, by show zs.length - ((j : Int) + 1).toNat < zs.length - ((j : Int)).toNat; omega⟩
        · obtain rfl : j = zs.length := by omega
          have HE : Hid (∀ r ∈ xs.take (i + 1), ∀ q ∈ zs, klt r.1 q.1 = true) := by
            intro r hr q hq
            rw [List.take_add_one, Hp1.out] at hr
            rcases List.mem_append.1 hr with h | h
            · exact hall.out r h q hq
            · simp at h; rw [h]; exact hallq.out q (by rw [List.take_length]; exact hq)
          go_wp2_with fail
          exact ⟨⟨i + 1, by simp, hlt, HE, hb⟩, by show xs.length - ((i : Int) + 1).toNat < xs.length - ((i : Int)).toNat; omega⟩
    · obtain rfl : i = xs.length := by omega
      have HE : Hid (jn xs zs = true) := by
        refine List.all_eq_true.2 fun p hp => List.all_eq_true.2 fun q hq => hall.out p (by rw [List.take_length]; exact hp) q hq
      have HPX : Hid (PairsIn w (.slice a xs.length c) xs) := ⟨a, c, rfl, HX.out⟩
      have HPZ : Hid (PairsIn w (.slice a' zs.length c') zs) := ⟨a', c', rfl, HZ.out⟩
      have HR0 := Lib.hid (Row.empty (grown_refl wr none))
      have HA := Lib.hid (below_alloc wr (.cells #[] 34))
      have HB1 := Lib.hid (hb.out.trans (HA.out.mono hb.out.size))
      clear hall
      go_wp2_with (first
        | (at_builtin; refine wpList_cat rfl _ _ rfl HR0.out (HPX.out.later HB1.out) (by simp; omega) rfl rfl ?_; intro v2 w2 hr2 hg2; have HR2 := Lib.hid hr2; clear hr2 hg2)
        | (at_builtin; refine wpList_cat rfl _ _ rfl HR2.out (HPZ.out.later (hb.out.trans (HR2.out.below.mono hb.out.size))) (by simp; omega) rfl rfl ?_; intro v3 w3 hr3 hg3; have HR3 := Lib.hid hr3; clear hr3 hg3))
      go_ret2
      refine ⟨hb.out.trans (HR3.out.below.mono hb.out.size), ?_⟩
      rw [HE.out, if_pos rfl]
      refine ⟨_, rfl, ?_⟩
      have h := HR3.out.pairs
      rw [List.nil_append] at h
      exact h
end Go.Proofs.Ytcncggndpnooeaa
