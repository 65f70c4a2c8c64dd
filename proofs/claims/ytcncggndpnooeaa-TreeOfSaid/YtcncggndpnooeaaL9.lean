/-
  The document's lists, walked: what leads from one list to another one. (Written by genl.py.)
-/
import Derived.Test.YtcncggndpnooeaaL6
import Derived.Test.YtcncggndpnooeaaL2
import Derived.Test.YtcncggndpnooeaaM7
namespace Go.Proofs.Ytcncggndpnooeaa
set_option linter.unusedVariables false
set_option linter.unusedSimpArgs false
open Go.RowKit

/-- A list of events that is being written, in a block of its own. -/
structure ERow (w0 w : World) (v : Value) (ys : List Ev) : Prop where
  own : w.ownsRow w0.heap.size 72 6 v ys.length (evs ys)
  grown : w0.grownBy w none
  new : v.ownBlock = none ∨ ∀ g, v.ownBlock = some g → w0.heap.size ≤ g
theorem ERow.nil (w : World) : ERow w w (.slice none 0 0) [] := ⟨World.ownsRow_nil _ _ _ _, grown_refl _ _, .inl rfl⟩
theorem ERow.alloc {w0 w : World} {v : Value} {ys : List Ev} (h : ERow w0 w v ys) (o : Obj) : ERow w0 (w.alloc o) v ys := ⟨h.own.alloc o, grown_alloc h.grown o, h.new⟩
theorem grown_bw {w w' : World} (hb : Below w.heap.size w w') : w.grownBy w' none := ⟨hb.os, hb.tape, hb.output, hb.size, fun k hk _ => hb.block k hk⟩
theorem ERow.later {w0 w w' : World} {v : Value} {ys : List Ev} (h : ERow w0 w v ys) (hb : Below w.heap.size w w') : ERow w0 w' v ys :=
  ⟨h.own.kept (grown_bw hb) (by cases hv : v.ownBlock <;> simp), grown_seq h.grown (grown_bw hb) (.inl rfl), h.new⟩
theorem ERow.slice {w0 w : World} {v : Value} {ys : List Ev} (h : ERow w0 w v ys) : ∃ a c, v = .slice a ys.length c := by
  obtain ⟨a, c, e, _⟩ := row_slice h.own
  exact ⟨a, c, e⟩
theorem ERow.below {w0 w : World} {v : Value} {ys : List Ev} (h : ERow w0 w v ys) : Below w0.heap.size w0 w := grown_below h.grown
theorem ERow.push {w0 w w2 : World} {v : Value} {g c2 : Nat} {ys : List Ev} (e : Ev) (h : ERow w0 w v ys)
    (hown : w2.ownsRow w0.heap.size 72 6 (.slice (some ⟨g, 0, none⟩) (ys.length + 1) c2) (ys.length + 1) (evs ys ++ [.int .i64 0, .string e.key, .bool e.had, .string e.old, .bool e.has, .string e.now]))
    (hg : w.grownBy w2 v.ownBlock) (hat : v.ownBlock = some g ∨ w.heap.size ≤ g) : ERow w0 w2 (.slice (some ⟨g, 0, none⟩) (ys.length + 1) c2) (ys ++ [e]) := by
  refine ⟨by rw [evs_app, List.length_append]; exact hown, grown_seq h.grown hg h.new, .inr fun g' hg' => ?_⟩
  simp [Value.ownBlock] at hg'; subst hg'
  rcases hat with e | e
  · exact (h.new.resolve_left (by rw [e]; simp)) _ e
  · exact Nat.le_trans h.grown.size e
/-- What is told: a list of events. -/
def Events (es : List Ev) (w : World) (e : Ending) (w' : World) : Prop := ∃ v, e = .returned v ∧ EvsIn w' v es ∧ Below w.heap.size w w'
set_option maxRecDepth 100000 in
set_option maxHeartbeats 3200000 in
theorem RDiff_any {w : World} {u v : Value} {xs zs : List Pr} (hu : PairsIn w u xs) (hv : PairsIn w v zs) (hs : Sorted xs) (hl : xs.length + zs.length ≤ 1073741822) :
    Calls Try.prog 53 #[u, v] w (Events (di xs zs (un xs zs)) w) := by
  have HU := Lib.hid hu
  have HV := Lib.hid hv
  have HS := Lib.hid hs
  clear hu hv hs
  go_enter Try.func53, Try.ntmps53
  go_wp2_with fail
  go_fit (RUnion_any HU.out HV.out HS.out hl)
  rintro e w1 ⟨v1, rfl, hp1, hb1⟩
  have HUL := Lib.hid (un_len zs xs)
  have HB1 := Lib.hid hb1
  have HU1 := Lib.hid (HU.out.later hb1)
  have HV1 := Lib.hid (HV.out.later hb1)
  clear HU HV
  generalize hus : un xs zs = us at *
  clear hus
  obtain ⟨a1, c1, rfl, hx1⟩ := hp1
  have HX := Lib.hid hx1
  have hul := HUL.out
  clear hx1 hb1
  go_wp2_with fail
  go_loopw [5, 16] (fun u' v wr => ∃ (i : Nat) (es : List Ev), v = .int .i64 i ∧ i ≤ us.length ∧ Hid (es = di xs zs (us.take i)) ∧ Hid (es.length ≤ i) ∧ Hid (ERow w1 wr u' es))
    (fun _ v _ => us.length - (intOf v).toNat)
  case atStart => exact ⟨0, [], rfl, Nat.zero_le _, rfl, Nat.le_refl _, ERow.nil w1⟩
  case round =>
    obtain ⟨i, es, rfl, hin, hes, hel, hR⟩ := hrel
    have ei : IntKind.i64.wrap ((i : Int) + 1) = (i : Int) + 1 := IntWalk.i64_in _ (by omega)
    by_cases hlt : i < us.length
    · obtain ⟨p, hp1⟩ : ∃ p, us[i]? = some p := ⟨us[i], List.getElem?_eq_getElem hlt⟩
      obtain ⟨g2, off2, rfl, hpa⟩ := HX.out.resolve_left (fun e => by rw [e] at hp1; simp at hp1)
      obtain ⟨k0, k1⟩ := hpa i p hp1
      have k0 := cell_later hR.out.below k0
      have k1 := cell_later hR.out.below k1
      have hI1 : (i : Int) < ((us.length : Nat) : Int) := by omega
      have hI2 : (0 : Int) ≤ (i : Int) := by omega
      have hA := below_alloc wr (Obj.cells #[Value.string p.1, .string p.2] 34)
      have HR1 := Lib.hid (hR.out.later hA)
      have HBX := Lib.hid (box_alloc wr p.1 p.2 34)
      have HUa := Lib.hid ((HU1.out.later hR.out.below).later hA)
      have HVa := Lib.hid ((HV1.out.later hR.out.below).later hA)
      have HD := Lib.hid (di_step xs zs hp1)
      rw [← hes.out] at HD
      have Hlen : Hid (es.length + 1 ≤ 1073741825) := by show _ ≤ _; have := hel.out; omega
      have He0 : Hid (es.length ≤ i + 1) := by show _ ≤ _; have := hel.out; omega
      have He1 : ∀ e : Ev, Hid ((es ++ [e]).length ≤ i + 1) := fun e => by show _ ≤ _; have := hel.out; simp; omega
      have HE1 := Lib.hid He1
      clear hpa hp1 hes hel hR hA He1
      have hcase : (look xs p.1 = look zs p.1) ∨ (∃ x, look xs p.1 = none ∧ look zs p.1 = some x) ∨ (∃ x, look xs p.1 = some x ∧ look zs p.1 = none) ∨ (∃ x y, look xs p.1 = some x ∧ look zs p.1 = some y ∧ x ≠ y) := by
        cases look xs p.1 with
        | none => cases look zs p.1 with
          | none => exact .inl rfl
          | some x => exact .inr (.inl ⟨x, rfl, rfl⟩)
        | some x => cases look zs p.1 with
          | none => exact .inr (.inr (.inl ⟨x, rfl, rfl⟩))
          | some y => by_cases e : x = y
                      · exact .inl (by rw [e])
                      · exact .inr (.inr (.inr ⟨x, y, rfl, rfl, e⟩))
      rcases hcase with hc | ⟨x, h1, h2⟩ | ⟨x, h1, h2⟩ | ⟨x, y, h1, h2, hxy⟩
      · have HE : Hid (es = di xs zs (us.take (i + 1))) := by show _ = _; rw [HD.out, hc]; simp [ev]
        obtain ⟨old, had, hg⟩ : ∃ g b, gotV (look xs p.1) = .tuple #[.string g, .bool b] := ⟨_, _, rfl⟩
        have HG1 := Lib.hid hg
        have HG2 : Hid (gotV (look zs p.1) = .tuple #[.string old, .bool had]) := by rw [← hc]; exact hg
        clear hg hc
        obtain ⟨ad, cc, hu⟩ := HR1.out.slice
        subst hu
        have HC1 := Lib.hid (RGet_any p.1 HUa.out (by omega))
        rw [HG1.out] at HC1
        go_wp2_with fail
        go_fit HC1.out
        rintro e w2 ⟨rfl, hb2⟩
        have HR2 := Lib.hid (HR1.out.later hb2)
        have HBX2 := Lib.hid (HBX.out.later hb2)
        have HVb := Lib.hid (HVa.out.later hb2)
        have x0 := HBX2.out.c0
        have HC2 := Lib.hid (RGet_any p.1 HVb.out (by omega))
        rw [HG2.out] at HC2
        clear hb2 HC1 HUa HVa HR1 HBX
        go_wp2_with fail
        go_fit HC2.out
        rintro e' w3 ⟨rfl, hb3⟩
        have HR3 := Lib.hid (HR2.out.later hb3)
        have HBX3 := Lib.hid (HBX2.out.later hb3)
        have y0 := HBX3.out.c0
        clear hb3 HC2 HVb HR2 HBX2 x0
        go_wp2_with fail
        exact ⟨⟨i + 1, es, by simp, hlt, HE, He0, HR3⟩, by show us.length - ((i : Int) + 1).toNat < us.length - ((i : Int)).toNat; omega⟩
      · obtain ⟨e, He⟩ : ∃ e : Ev, Hid (e = ⟨p.1, false, ByteArray.empty, true, x⟩) := ⟨_, rfl⟩
        have HE : Hid (es ++ [e] = di xs zs (us.take (i + 1))) := by show _ = _; rw [HD.out, h1, h2, He.out]; rfl
        have HG1 : Hid (gotV (look xs p.1) = .tuple #[.string ByteArray.empty, .bool false]) := by show _ = _; rw [h1]; rfl
        have HG2 : Hid (gotV (look zs p.1) = .tuple #[.string x, .bool true]) := by show _ = _; rw [h2]; rfl
        clear h1 h2
        obtain ⟨ad, cc, hu⟩ := HR1.out.slice
        subst hu
        have HC1 := Lib.hid (RGet_any p.1 HUa.out (by omega))
        rw [HG1.out] at HC1
        go_wp2_with fail
        go_fit HC1.out
        rintro e w2 ⟨rfl, hb2⟩
        have HR2 := Lib.hid (HR1.out.later hb2)
        have HBX2 := Lib.hid (HBX.out.later hb2)
        have HVb := Lib.hid (HVa.out.later hb2)
        have x0 := HBX2.out.c0
        have HC2 := Lib.hid (RGet_any p.1 HVb.out (by omega))
        rw [HG2.out] at HC2
        clear hb2 HC1 HUa HVa HR1 HBX
        go_wp2_with fail
        go_fit HC2.out
        rintro e' w3 ⟨rfl, hb3⟩
        have HR3 := Lib.hid (HR2.out.later hb3)
        have HBX3 := Lib.hid (HBX2.out.later hb3)
        have y0 := HBX3.out.c0
        clear hb3 HC2 HVb HR2 HBX2 x0
        have HSZ := HR3.out.grown.size
        have HSZ' := Lib.hid HSZ
        clear HSZ
        go_wp2_with (at_builtin; go_loud (refine wpList_pushs rfl _ _ 68 72 _ 6 72 rfl Try.underlying68 Try.infoEvent rfl (by decide) w1.heap.size _ _ _ rfl HR3.out.own #[.int .i64 0, .string p.1, .bool false, .string ByteArray.empty, .bool true, .string x] rfl (by simp [Value.oneCell']) rfl Hlen.out (by decide) HSZ'.out ?_; intro g2 cap2 w4 hown2 hg2 hat2 hlt2; have HR4 := Lib.hid (ERow.push e HR3.out (by rw [He.out]; exact hown2) hg2 hat2); clear hown2 hg2 hat2 hlt2))
        exact ⟨⟨i + 1, es ++ [e], by simp, hlt, HE, HE1.out e, HR4⟩, by show us.length - ((i : Int) + 1).toNat < us.length - ((i : Int)).toNat; omega⟩
      · obtain ⟨e, He⟩ : ∃ e : Ev, Hid (e = ⟨p.1, true, x, false, ByteArray.empty⟩) := ⟨_, rfl⟩
        have HE : Hid (es ++ [e] = di xs zs (us.take (i + 1))) := by show _ = _; rw [HD.out, h1, h2, He.out]; rfl
        have HG1 : Hid (gotV (look xs p.1) = .tuple #[.string x, .bool true]) := by show _ = _; rw [h1]; rfl
        have HG2 : Hid (gotV (look zs p.1) = .tuple #[.string ByteArray.empty, .bool false]) := by show _ = _; rw [h2]; rfl
        clear h1 h2
        obtain ⟨ad, cc, hu⟩ := HR1.out.slice
        subst hu
        have HC1 := Lib.hid (RGet_any p.1 HUa.out (by omega))
        rw [HG1.out] at HC1
        go_wp2_with fail
        go_fit HC1.out
        rintro e w2 ⟨rfl, hb2⟩
        have HR2 := Lib.hid (HR1.out.later hb2)
        have HBX2 := Lib.hid (HBX.out.later hb2)
        have HVb := Lib.hid (HVa.out.later hb2)
        have x0 := HBX2.out.c0
        have HC2 := Lib.hid (RGet_any p.1 HVb.out (by omega))
        rw [HG2.out] at HC2
        clear hb2 HC1 HUa HVa HR1 HBX
        go_wp2_with fail
        go_fit HC2.out
        rintro e' w3 ⟨rfl, hb3⟩
        have HR3 := Lib.hid (HR2.out.later hb3)
        have HBX3 := Lib.hid (HBX2.out.later hb3)
        have y0 := HBX3.out.c0
        clear hb3 HC2 HVb HR2 HBX2 x0
        have HSZ := HR3.out.grown.size
        have HSZ' := Lib.hid HSZ
        clear HSZ
        go_wp2_with (at_builtin; go_loud (refine wpList_pushs rfl _ _ 68 72 _ 6 72 rfl Try.underlying68 Try.infoEvent rfl (by decide) w1.heap.size _ _ _ rfl HR3.out.own #[.int .i64 0, .string p.1, .bool true, .string x, .bool false, .string ByteArray.empty] rfl (by simp [Value.oneCell']) rfl Hlen.out (by decide) HSZ'.out ?_; intro g2 cap2 w4 hown2 hg2 hat2 hlt2; have HR4 := Lib.hid (ERow.push e HR3.out (by rw [He.out]; exact hown2) hg2 hat2); clear hown2 hg2 hat2 hlt2))
        exact ⟨⟨i + 1, es ++ [e], by simp, hlt, HE, HE1.out e, HR4⟩, by show us.length - ((i : Int) + 1).toNat < us.length - ((i : Int)).toNat; omega⟩
      · obtain ⟨e, He⟩ : ∃ e : Ev, Hid (e = ⟨p.1, true, x, true, y⟩) := ⟨_, rfl⟩
        have HE : Hid (es ++ [e] = di xs zs (us.take (i + 1))) := by show _ = _; rw [HD.out, h1, h2, He.out]; simp [ev, hxy]
        have HG1 : Hid (gotV (look xs p.1) = .tuple #[.string x, .bool true]) := by show _ = _; rw [h1]; rfl
        have HG2 : Hid (gotV (look zs p.1) = .tuple #[.string y, .bool true]) := by show _ = _; rw [h2]; rfl
        have he : (x.toList == y.toList) = false := by rw [ba_eq]; simp [hxy]
        clear h1 h2 hxy
        obtain ⟨ad, cc, hu⟩ := HR1.out.slice
        subst hu
        have HC1 := Lib.hid (RGet_any p.1 HUa.out (by omega))
        rw [HG1.out] at HC1
        go_wp2_with fail
        go_fit HC1.out
        rintro e w2 ⟨rfl, hb2⟩
        have HR2 := Lib.hid (HR1.out.later hb2)
        have HBX2 := Lib.hid (HBX.out.later hb2)
        have HVb := Lib.hid (HVa.out.later hb2)
        have x0 := HBX2.out.c0
        have HC2 := Lib.hid (RGet_any p.1 HVb.out (by omega))
        rw [HG2.out] at HC2
        clear hb2 HC1 HUa HVa HR1 HBX
        go_wp2_with fail
        go_fit HC2.out
        rintro e' w3 ⟨rfl, hb3⟩
        have HR3 := Lib.hid (HR2.out.later hb3)
        have HBX3 := Lib.hid (HBX2.out.later hb3)
        have y0 := HBX3.out.c0
        clear hb3 HC2 HVb HR2 HBX2 x0
        have HSZ := HR3.out.grown.size
        have HSZ' := Lib.hid HSZ
        clear HSZ
        go_wp2_with (at_builtin; go_loud (refine wpList_pushs rfl _ _ 68 72 _ 6 72 rfl Try.underlying68 Try.infoEvent rfl (by decide) w1.heap.size _ _ _ rfl HR3.out.own #[.int .i64 0, .string p.1, .bool true, .string x, .bool true, .string y] rfl (by simp [Value.oneCell']) rfl Hlen.out (by decide) HSZ'.out ?_; intro g2 cap2 w4 hown2 hg2 hat2 hlt2; have HR4 := Lib.hid (ERow.push e HR3.out (by rw [He.out]; exact hown2) hg2 hat2); clear hown2 hg2 hat2 hlt2))
        exact ⟨⟨i + 1, es ++ [e], by simp, hlt, HE, HE1.out e, HR4⟩, by show us.length - ((i : Int) + 1).toNat < us.length - ((i : Int)).toNat; omega⟩
    · obtain rfl : i = us.length := by omega
      have h2 := hes.out
      rw [List.take_length] at h2
      have HF := Lib.hid h2
      clear h2 hes
      go_wp2_with fail
      go_ret
      rw [← HF.out]
      exact ⟨_, rfl, events_row hR.out.own rfl, HB1.out.trans (hR.out.below.mono HB1.out.size)⟩
end Go.Proofs.Ytcncggndpnooeaa
