/-
  SessNobody: the walk. (Written by gennob.py.)
-/
import Derived.Test.YtdcmefkejgjdeaaNb2
namespace Go.Proofs.Ytdcmefkejgjdeaa
set_option linter.unusedVariables false
set_option linter.unusedSimpArgs false
open Go.RowKit
variable {w : World}

/-- What the law looks at. -/
structure Nw (w W : World) (k : Kd) : Prop where
  kd : DC W w.heap.size [.int .i64 k.op, .int .i64 k.k, .int .i64 k.q, .int .i64 k.err, .int .i64 k.n]
  tb : W.cell? ⟨w.heap.size + 1, 2, none⟩ = some (.bool false)
  s0 : W.cell? ⟨w.heap.size + 1 + 1, 0, none⟩ = some (.pointer none)
  s1 : W.cell? ⟨w.heap.size + 1 + 1, 1, none⟩ = some (.pointer (some ⟨w.heap.size + 1, 0, none⟩))
  below : Below w.heap.size w W
theorem Nw.later {w W W' : World} {k : Kd} (h : Nw w W k) (hb : Below W.heap.size W W') : Nw w W' k :=
  ⟨h.kd.below hb, cell_later hb h.tb, cell_later hb h.s0, cell_later hb h.s1, h.below.trans (hb.mono h.below.size)⟩
theorem Nw.no {w W : World} {k : Kd} (h : Nw w W k) : NoT W (.pointer (some ⟨w.heap.size + 1, 0, none⟩)) := .inr ⟨_, rfl, h.tb⟩
theorem nw_start (w : World) (k : Kd) : Nw w (((w.alloc (.cells #[.int .i64 k.op, .int .i64 k.k, .int .i64 k.q, .int .i64 k.err, .int .i64 k.n] 34)).alloc (.cells #[.int .i64 0, .slice none 0 0, .bool false] 68)).alloc (.cells #[.pointer none, .pointer (some ⟨w.heap.size + 1, 0, none⟩)] 24)) k := by
  have h0 := below_alloc w (.cells #[.int .i64 k.op, .int .i64 k.k, .int .i64 k.q, .int .i64 k.err, .int .i64 k.n] 34)
  have d0 := DC.alloc w [.int .i64 k.op, .int .i64 k.k, .int .i64 k.q, .int .i64 k.err, .int .i64 k.n] 34
  have hs : (w.alloc (.cells #[.int .i64 k.op, .int .i64 k.k, .int .i64 k.q, .int .i64 k.err, .int .i64 k.n] 34)).heap.size = w.heap.size + 1 := by simp
  generalize w.alloc (.cells #[.int .i64 k.op, .int .i64 k.k, .int .i64 k.q, .int .i64 k.err, .int .i64 k.n] 34) = A at *
  have h1 := below_alloc A (.cells #[.int .i64 0, .slice none 0 0, .bool false] 68)
  have d1 := DC.alloc A [.int .i64 0, .slice none 0 0, .bool false] 68
  have hs1 : (A.alloc (.cells #[.int .i64 0, .slice none 0 0, .bool false] 68)).heap.size = w.heap.size + 1 + 1 := by simp [hs]
  rw [hs] at d1
  generalize A.alloc (.cells #[.int .i64 0, .slice none 0 0, .bool false] 68) = C at *
  have h2 := below_alloc C (.cells #[.pointer none, .pointer (some ⟨w.heap.size + 1, 0, none⟩)] 24)
  have d2 := DC.alloc C [.pointer none, .pointer (some ⟨w.heap.size + 1, 0, none⟩)] 24
  rw [hs1] at d2
  exact ⟨(d0.below h1).below h2, cell_later h2 (d1.cells 2 _ rfl), d2.cells 0 _ rfl, d2.cells 1 _ rfl, (h0.trans (h1.mono h0.size)).trans (h2.mono (h0.trans (h1.mono h0.size)).size)⟩
theorem conv_own {w : World} {g n cap B : Nat} {xs : List Int} (h : w.ownsRow B 5 1 (.slice (some ⟨g, 0, none⟩) n cap) n (xs.map (Value.int .u8))) :
    (convert 52 9 (.slice (some ⟨g, 0, none⟩) n cap)).run Try.prog w = .ok (.string (strOfNums xs)) w :=
  (owns_in h).convert (owns_len h) cap _ _ _ Try.underlying52 Try.underlying5 Try.underlying9

set_option maxRecDepth 100000 in
set_option maxHeartbeats 25600000 in
theorem Nobody_none (k : Kd) :
    Calls Try.prog 10 #[.agg #[.int .i64 k.op, .int .i64 k.k, .int .i64 k.q, .int .i64 k.err, .int .i64 k.n], .slice none 0 0] w (Yes w) := by
  have HN0 := Lib.hid (nw_start w k)
  have HCV : Hid (∀ W : World, (convert 52 9 (.slice none 0 0)).run Try.prog W = .ok (.string (strOfNums [])) W) := fun W => (Lib.BytesIn.nil W none []).convert rfl 0 _ _ _ Try.underlying52 Try.underlying5 Try.underlying9
  go_enter Try.func10, Try.ntmps10
  go_wp2_with fail
  generalize ((w.alloc _).alloc _).alloc _ = W0 at *
  go_loopw [20] (fun v wr => ∃ i : Nat, v = .int .i64 i ∧ i ≤ 2 ∧ Hid (Nw w wr k))
    (fun v _ => 2 - (intOf v).toNat)
  case atStart => exact ⟨0, rfl, by omega, HN0⟩
  case round =>
    clear HN0
    obtain ⟨i, rfl, hi, HN⟩ := hrel
    have hi3 : i = 0 ∨ i = 1 ∨ i = 2 := by omega
    rcases hi3 with rfl | rfl | rfl
    · have y0 := HN.out.s0
      go_wp2_with fail
      go_fit (Open_no (w := wr) (v := .pointer none) (.inl rfl))
      rintro e w1 ⟨rfl, rfl⟩
      have d1 := HN.out.kd.cells 1 _ rfl
      have d2 := HN.out.kd.cells 2 _ rfl
      have HA := Lib.hid (Ask_no (w := wr) (v := .pointer none) k.k k.q (.inl rfl))
      go_wp2_with fail
      go_fit HA.out
      rintro e w2 ⟨rfl, hb⟩
      have HN2 := Lib.hid ((HN.out.later hb).later (below_alloc w2 (.cells #[.int .i64 0, .int .i64 0] 32)))
      have HR2 := Lib.hid (DC.alloc w2 [.int .i64 0, .int .i64 0] 32)
      clear hb HA y0 d1 d2
      have hdr : Below (w2.alloc (.cells #[.int .i64 0, .int .i64 0] 32)).heap.size (w2.alloc (.cells #[.int .i64 0, .int .i64 0] 32)) (w2.alloc (.cells #[.int .i64 0, .int .i64 0] 32)).drew := ⟨rfl, rfl, rfl, Nat.le_refl _, fun _ _ => rfl⟩
      have HN3 := Lib.hid (HN2.out.later hdr)
      have HR3 := Lib.hid (HR2.out.below hdr)
      have d1 := HN3.out.kd.cells 1 _ rfl
      have d2 := HN3.out.kd.cells 2 _ rfl
      have d3 := HN3.out.kd.cells 3 _ rfl
      have d4 := HN3.out.kd.cells 4 _ rfl
      have r0 := HR3.out.cells 0 _ rfl
      have r1 := HR3.out.cells 1 _ rfl
      have cv0 := HCV.out (w2.alloc (.cells #[.int .i64 0, .int .i64 0] 32)).drew
      have HCl := Lib.hid (Close_no (w := (w2.alloc (.cells #[.int .i64 0, .int .i64 0] 32)).drew) (v := .pointer none) k.k (.inl rfl))
      clear hdr
      go_wp2_with fail
      go_region_held3 (fun V => (convert 52 9 (.slice none 0 0)).run Try.prog V = .ok (.string (strOfNums [])) V ∧ V.cell? ⟨w.heap.size, 1, none⟩ = some (.int .i64 k.k) ∧ V.cell? ⟨w.heap.size, 2, none⟩ = some (.int .i64 k.q) ∧ V.cell? ⟨w.heap.size, 3, none⟩ = some (.int .i64 k.err) ∧ V.cell? ⟨w.heap.size, 4, none⟩ = some (.int .i64 k.n) ∧ V.cell? ⟨w2.heap.size, 0, none⟩ = some (.int .i64 0) ∧ V.cell? ⟨w2.heap.size, 1, none⟩ = some (.int .i64 0)) (go_keep)
        (first
        | (go_at_call 17; (with_reducible refine HCl.out.mono ?_); rintro e w5 ⟨rfl, hb⟩; have HN5 := Lib.hid (HN3.out.later hb); have e1 := HN5.out.kd.cells 1 _ rfl; have e2 := HN5.out.kd.cells 2 _ rfl; have e3 := HN5.out.kd.cells 3 _ rfl; have e4 := HN5.out.kd.cells 4 _ rfl; have HKp := Lib.hid (Keep_no (w := w5) (v := .pointer none) k.k k.q k.err k.n (.inl rfl)); have HR5 := Lib.hid (HR3.out.below hb); have p0 := HR5.out.cells 0 _ rfl; have cv5 := HCV.out w5; have p1 := HR5.out.cells 1 _ rfl; clear hb)
        | (go_at_call 19; (with_reducible refine HKp.out.mono ?_); rintro e w6 ⟨rfl, hb⟩; have HN6 := Lib.hid (HN5.out.later hb); have HLs := Lib.hid (List_no (w := w6) (v := .pointer none) (.inl rfl)); have HPT := Lib.hid (Put_none (w := w6) (v := .pointer none) 0 (.inl rfl)); have cv6 := HCV.out w6; have HR6 := Lib.hid (HR5.out.below hb); have q0 := HR6.out.cells 0 _ rfl; have q1 := HR6.out.cells 1 _ rfl; have f1 := HN6.out.kd.cells 1 _ rfl; have f2 := HN6.out.kd.cells 2 _ rfl; have f3 := HN6.out.kd.cells 3 _ rfl; have f4 := HN6.out.kd.cells 4 _ rfl; clear hb)
        | (go_at_call 21; (with_reducible refine HLs.out.mono ?_); rintro e w7 ⟨rfl, rfl⟩)
        | (go_at_call 28; (with_reducible refine (HPT.out).mono ?_); rintro e w8 ⟨rfl, rfl⟩; have HN8 := Lib.hid HN6.out))
      all_goals
        go_wp2_with fail
        exact ⟨⟨1, rfl, by omega, HN8⟩, by show 2 - (1 : Int).toNat < 2 - (0 : Int).toNat; decide⟩
    · have y1 := HN.out.s1
      go_wp2_with fail
      go_fit (Open_no (w := wr) (v := .pointer (some ⟨w.heap.size + 1, 0, none⟩)) HN.out.no)
      rintro e w1 ⟨rfl, rfl⟩
      have d1 := HN.out.kd.cells 1 _ rfl
      have d2 := HN.out.kd.cells 2 _ rfl
      have HA := Lib.hid (Ask_no (w := wr) (v := .pointer (some ⟨w.heap.size + 1, 0, none⟩)) k.k k.q HN.out.no)
      go_wp2_with fail
      go_fit HA.out
      rintro e w2 ⟨rfl, hb⟩
      have HN2 := Lib.hid ((HN.out.later hb).later (below_alloc w2 (.cells #[.int .i64 0, .int .i64 0] 32)))
      have HR2 := Lib.hid (DC.alloc w2 [.int .i64 0, .int .i64 0] 32)
      clear hb HA y1 d1 d2
      have hdr : Below (w2.alloc (.cells #[.int .i64 0, .int .i64 0] 32)).heap.size (w2.alloc (.cells #[.int .i64 0, .int .i64 0] 32)) (w2.alloc (.cells #[.int .i64 0, .int .i64 0] 32)).drew := ⟨rfl, rfl, rfl, Nat.le_refl _, fun _ _ => rfl⟩
      have HN3 := Lib.hid (HN2.out.later hdr)
      have HR3 := Lib.hid (HR2.out.below hdr)
      have d1 := HN3.out.kd.cells 1 _ rfl
      have d2 := HN3.out.kd.cells 2 _ rfl
      have d3 := HN3.out.kd.cells 3 _ rfl
      have d4 := HN3.out.kd.cells 4 _ rfl
      have r0 := HR3.out.cells 0 _ rfl
      have r1 := HR3.out.cells 1 _ rfl
      have cv0 := HCV.out (w2.alloc (.cells #[.int .i64 0, .int .i64 0] 32)).drew
      have HCl := Lib.hid (Close_no (w := (w2.alloc (.cells #[.int .i64 0, .int .i64 0] 32)).drew) (v := .pointer (some ⟨w.heap.size + 1, 0, none⟩)) k.k HN3.out.no)
      clear hdr
      go_wp2_with fail
      go_region_held3 (fun V => (convert 52 9 (.slice none 0 0)).run Try.prog V = .ok (.string (strOfNums [])) V ∧ V.cell? ⟨w.heap.size, 1, none⟩ = some (.int .i64 k.k) ∧ V.cell? ⟨w.heap.size, 2, none⟩ = some (.int .i64 k.q) ∧ V.cell? ⟨w.heap.size, 3, none⟩ = some (.int .i64 k.err) ∧ V.cell? ⟨w.heap.size, 4, none⟩ = some (.int .i64 k.n) ∧ V.cell? ⟨w2.heap.size, 0, none⟩ = some (.int .i64 0) ∧ V.cell? ⟨w2.heap.size, 1, none⟩ = some (.int .i64 0)) (go_keep)
        (first
        | (go_at_call 17; (with_reducible refine HCl.out.mono ?_); rintro e w5 ⟨rfl, hb⟩; have HN5 := Lib.hid (HN3.out.later hb); have e1 := HN5.out.kd.cells 1 _ rfl; have e2 := HN5.out.kd.cells 2 _ rfl; have e3 := HN5.out.kd.cells 3 _ rfl; have e4 := HN5.out.kd.cells 4 _ rfl; have HKp := Lib.hid (Keep_no (w := w5) (v := .pointer (some ⟨w.heap.size + 1, 0, none⟩)) k.k k.q k.err k.n HN5.out.no); have HR5 := Lib.hid (HR3.out.below hb); have p0 := HR5.out.cells 0 _ rfl; have cv5 := HCV.out w5; have p1 := HR5.out.cells 1 _ rfl; clear hb)
        | (go_at_call 19; (with_reducible refine HKp.out.mono ?_); rintro e w6 ⟨rfl, hb⟩; have HN6 := Lib.hid (HN5.out.later hb); have HLs := Lib.hid (List_no (w := w6) (v := .pointer (some ⟨w.heap.size + 1, 0, none⟩)) HN6.out.no); have HPT := Lib.hid (Put_none (w := w6) (v := .pointer (some ⟨w.heap.size + 1, 0, none⟩)) 0 HN6.out.no); have cv6 := HCV.out w6; have HR6 := Lib.hid (HR5.out.below hb); have q0 := HR6.out.cells 0 _ rfl; have q1 := HR6.out.cells 1 _ rfl; have f1 := HN6.out.kd.cells 1 _ rfl; have f2 := HN6.out.kd.cells 2 _ rfl; have f3 := HN6.out.kd.cells 3 _ rfl; have f4 := HN6.out.kd.cells 4 _ rfl; clear hb)
        | (go_at_call 21; (with_reducible refine HLs.out.mono ?_); rintro e w7 ⟨rfl, rfl⟩)
        | (go_at_call 28; (with_reducible refine (HPT.out).mono ?_); rintro e w8 ⟨rfl, rfl⟩; have HN8 := Lib.hid HN6.out))
      all_goals
        go_wp2_with fail
        exact ⟨⟨2, rfl, by omega, HN8⟩, by show 2 - (2 : Int).toNat < 2 - (1 : Int).toNat; decide⟩
    · go_wp2_with fail
      go_fit (awake_any _)
      rintro e w4 ⟨rfl, hb⟩
      have HB := Lib.hid (HN.out.below.trans (hb.mono HN.out.below.size))
      clear hb
      go_wp2_with fail
      go_ret
      exact ⟨rfl, HB.out⟩

end Go.Proofs.Ytdcmefkejgjdeaa
