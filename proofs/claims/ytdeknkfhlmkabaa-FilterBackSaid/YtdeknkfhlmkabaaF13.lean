/-
  Walks: the document's Check, Holds and Pass.
-/
import Derived.Test.YtdeknkfhlmkabaaF12
namespace Go.Proofs.Ytdeknkfhlmkabaa
set_option linter.unusedVariables false
set_option linter.unusedSimpArgs false
open Go.RowKit

theorem rwalk_any : ∀ (m : Nat) (f : Fl), RwkOk m f
  | 0, f => rwalk_zero f
  | m + 1, f => rwalk_step m f (fun k _ => rwalk_any m k)
set_option maxHeartbeats 1600000 in
theorem rCheck_any {w : World} {u : Value} (f : Fl) (hl : Light f) (hk : KidsIn w w.heap.size u f.kids) : Calls Try.prog 15 #[flV f u] w (ErrP (ckF f) w) := by
  obtain ⟨a, cap, rfl, _, _⟩ := hk.slice
  have hb0 := lay_alloc w (.cells #[.int .i64 f.kind, .string f.name, .string f.text, .slice a f.kids.length cap] 24)
  have hC := rwalk_any 6 f _ 0 _ (hk.on hb0) (by omega) hl (Nat.le_refl _)
  have HC := Lib.hid hC
  have HB0 := Lib.hid hb0
  unfold flV at HC ⊢
  unfold ckF
  clear hk hb0 hC
  generalize ec 6 f 0 = R at *
  obtain ⟨R1, R2⟩ := R
  go_enter Try.func15, Try.ntmps15
  go_wp2_with fail
  go_fit HC.out
  rintro e w1 ⟨n, rfl, hn, hb⟩
  have HB := Lib.hid (HB0.out.trans (hb.mono HB0.out.size))
  clear hb hn
  go_wp2_with fail
  go_ret
  exact ⟨rfl, HB.out⟩

theorem prefix_cut (s t : ByteArray) (h : t.size ≤ s.size) : ((s.extract 0 t.size).toList == t.toList) = beginsB s t := by
  unfold beginsB Lib.hasPrefix
  rw [Lib.toList_data, Lib.toList_data]
  have e : (s.extract 0 t.size).data.toList = s.data.toList.take t.size := by
    rw [ByteArray.data_extract, Array.toList_extract]; simp
  rw [e]
  have hl : t.size = t.data.toList.length := Lib.size_eq t
  rw [Bool.eq_iff_iff, beq_iff_eq, List.isPrefixOf_iff_prefix]
  constructor
  · intro h1
    rw [← h1]; exact List.take_prefix _ _
  · intro h1
    rw [hl]
    exact (List.prefix_iff_eq_take.1 h1).symm
theorem prefix_long (s t : ByteArray) (h : ¬ t.size ≤ s.size) : beginsB s t = false := by
  unfold beginsB Lib.hasPrefix
  rw [Bool.eq_false_iff]
  intro h1
  rw [List.isPrefixOf_iff_prefix] at h1
  have := h1.length_le
  rw [← Lib.size_eq, ← Lib.size_eq] at this
  exact h this
variable {w : World} {f : Fl} {a : Option Addr} {cap : Nat}

set_option maxRecDepth 100000 in
set_option maxHeartbeats 3200000 in
theorem rholds_0 (ev : Kev) : Calls Try.prog 41 #[.agg #[.int .i64 0, .string f.name, .string f.text, .slice a f.kids.length cap], evV ev] w (HoldP true w) := by
  unfold evV
  have hb1 := lay_alloc w (.cells #[.int .i64 0, .string f.name, .string f.text, .slice a f.kids.length cap] 24)
  have hb2 := lay_alloc (w.alloc (.cells #[.int .i64 0, .string f.name, .string f.text, .slice a f.kids.length cap] 24)) (.cells #[.int .i64 ev.pos, .string ev.key, .bool ev.had, .string ev.old, .bool ev.has, .string ev.now] 32)
  have hb := hb1.trans (hb2.mono hb1.size)
  have HB := Lib.hid hb
  have hF := (DC.alloc w [.int .i64 0, .string f.name, .string f.text, .slice a f.kids.length cap] 24).below hb2
  have hY := DC.alloc (w.alloc (.cells #[.int .i64 0, .string f.name, .string f.text, .slice a f.kids.length cap] 24)) [.int .i64 ev.pos, .string ev.key, .bool ev.had, .string ev.old, .bool ev.has, .string ev.now] 32
  have hsz : (w.alloc (.cells #[.int .i64 0, .string f.name, .string f.text, .slice a f.kids.length cap] 24)).heap.size = w.heap.size + 1 := by simp
  rw [hsz] at hY
  have HF := Lib.hid hF
  have HY := Lib.hid hY
  clear hF hY hsz hb1 hb2
  go_enter Try.func41, Try.ntmps41
  go_wp2_with fail
  go_ret
  exact ⟨rfl, HB.out⟩

set_option maxRecDepth 100000 in
set_option maxHeartbeats 3200000 in
theorem rholds_3 (ev : Kev) : Calls Try.prog 41 #[.agg #[.int .i64 3, .string f.name, .string f.text, .slice a f.kids.length cap], evV ev] w (HoldP ev.has w) := by
  unfold evV
  have hb1 := lay_alloc w (.cells #[.int .i64 3, .string f.name, .string f.text, .slice a f.kids.length cap] 24)
  have hb2 := lay_alloc (w.alloc (.cells #[.int .i64 3, .string f.name, .string f.text, .slice a f.kids.length cap] 24)) (.cells #[.int .i64 ev.pos, .string ev.key, .bool ev.had, .string ev.old, .bool ev.has, .string ev.now] 32)
  have hb := hb1.trans (hb2.mono hb1.size)
  have HB := Lib.hid hb
  have hF := (DC.alloc w [.int .i64 3, .string f.name, .string f.text, .slice a f.kids.length cap] 24).below hb2
  have hY := DC.alloc (w.alloc (.cells #[.int .i64 3, .string f.name, .string f.text, .slice a f.kids.length cap] 24)) [.int .i64 ev.pos, .string ev.key, .bool ev.had, .string ev.old, .bool ev.has, .string ev.now] 32
  have hsz : (w.alloc (.cells #[.int .i64 3, .string f.name, .string f.text, .slice a f.kids.length cap] 24)).heap.size = w.heap.size + 1 := by simp
  rw [hsz] at hY
  have HF := Lib.hid hF
  have HY := Lib.hid hY
  clear hF hY hsz hb1 hb2
  go_enter Try.func41, Try.ntmps41
  go_wp2_with fail
  go_ret
  exact ⟨rfl, HB.out⟩

set_option maxRecDepth 100000 in
set_option maxHeartbeats 3200000 in
theorem rholds_1 (ev : Kev) (hs1 : ev.key.size ≤ 1073741824) (hs2 : f.text.size ≤ 1073741824) : Calls Try.prog 41 #[.agg #[.int .i64 1, .string f.name, .string f.text, .slice a f.kids.length cap], evV ev] w (HoldP (beginsB ev.key f.text) w) := by
  unfold evV
  have hb1 := lay_alloc w (.cells #[.int .i64 1, .string f.name, .string f.text, .slice a f.kids.length cap] 24)
  have hb2 := lay_alloc (w.alloc (.cells #[.int .i64 1, .string f.name, .string f.text, .slice a f.kids.length cap] 24)) (.cells #[.int .i64 ev.pos, .string ev.key, .bool ev.had, .string ev.old, .bool ev.has, .string ev.now] 32)
  have hb := hb1.trans (hb2.mono hb1.size)
  have HB := Lib.hid hb
  have hF := (DC.alloc w [.int .i64 1, .string f.name, .string f.text, .slice a f.kids.length cap] 24).below hb2
  have hY := DC.alloc (w.alloc (.cells #[.int .i64 1, .string f.name, .string f.text, .slice a f.kids.length cap] 24)) [.int .i64 ev.pos, .string ev.key, .bool ev.had, .string ev.old, .bool ev.has, .string ev.now] 32
  have hsz : (w.alloc (.cells #[.int .i64 1, .string f.name, .string f.text, .slice a f.kids.length cap] 24)).heap.size = w.heap.size + 1 := by simp
  rw [hsz] at hY
  have HF := Lib.hid hF
  have HY := Lib.hid hY
  clear hF hY hsz hb1 hb2
  have f2 := HF.out.cells 2 _ rfl
  have y1 := HY.out.cells 1 _ rfl
  by_cases hp : f.text.size ≤ ev.key.size
  · have hc := prefix_cut ev.key f.text hp
    have hi : (f.text.size : Int) ≤ (ev.key.size : Int) := by omega
    generalize beginsB ev.key f.text = b at *
    go_enter Try.func41, Try.ntmps41
    go_wp2_with fail
    go_quiet (fail)
    go_wp2_with fail
    go_ret
    exact ⟨rfl, below_drewN HB.out _⟩
  · have hc := prefix_long ev.key f.text hp
    have hi : ¬ (f.text.size : Int) ≤ (ev.key.size : Int) := by omega
    rw [hc]
    go_enter Try.func41, Try.ntmps41
    go_wp2_with fail
    go_quiet (fail)
    go_wp2_with fail
    go_ret
    exact ⟨rfl, below_drewN HB.out _⟩

set_option maxRecDepth 100000 in
set_option maxHeartbeats 3200000 in
theorem rholds_2 (ev : Kev) (hs1 : ev.now.size ≤ 1073741824) (hs2 : f.name.size ≤ 1073741824) : Calls Try.prog 41 #[.agg #[.int .i64 2, .string f.name, .string f.text, .slice a f.kids.length cap], evV ev] w (HoldP (eqB f.name f.text ev) w) := by
  unfold evV
  have hb1 := lay_alloc w (.cells #[.int .i64 2, .string f.name, .string f.text, .slice a f.kids.length cap] 24)
  have hb2 := lay_alloc (w.alloc (.cells #[.int .i64 2, .string f.name, .string f.text, .slice a f.kids.length cap] 24)) (.cells #[.int .i64 ev.pos, .string ev.key, .bool ev.had, .string ev.old, .bool ev.has, .string ev.now] 32)
  have hb := hb1.trans (hb2.mono hb1.size)
  have HB := Lib.hid hb
  have hF := (DC.alloc w [.int .i64 2, .string f.name, .string f.text, .slice a f.kids.length cap] 24).below hb2
  have hY := DC.alloc (w.alloc (.cells #[.int .i64 2, .string f.name, .string f.text, .slice a f.kids.length cap] 24)) [.int .i64 ev.pos, .string ev.key, .bool ev.had, .string ev.old, .bool ev.has, .string ev.now] 32
  have hsz : (w.alloc (.cells #[.int .i64 2, .string f.name, .string f.text, .slice a f.kids.length cap] 24)).heap.size = w.heap.size + 1 := by simp
  rw [hsz] at hY
  have HF := Lib.hid hF
  have HY := Lib.hid hY
  clear hF hY hsz hb1 hb2
  have hF := Tx.rField_any ev.now f.name ((w.alloc (.cells #[.int .i64 2, .string f.name, .string f.text, .slice a f.kids.length cap] 24)).alloc (.cells #[.int .i64 ev.pos, .string ev.key, .bool ev.had, .string ev.old, .bool ev.has, .string ev.now] 32)) hs1 hs2
  have HE : Hid (eqB f.name f.text ev = (ev.has && ((Tx.fieldOf f.name (Tx.partsOf ev.now 32)).2 && decide ((Tx.fieldOf f.name (Tx.partsOf ev.now 32)).1 = f.text)))) := rfl
  unfold Tx.FieldP at hF
  generalize Tx.fieldOf f.name (Tx.partsOf ev.now 32) = r at *
  obtain ⟨r1, r2⟩ := r
  simp only at hF HE
  have hq : (r1.toList == f.text.toList) = decide (r1 = f.text) := by rw [← beq_toListBytes, Tx.beq_bytes]
  have HFi := Lib.hid hF
  clear hF hb hs1 hs2
  go_enter Try.func41, Try.ntmps41
  go_wp2_with fail
  go_fit HFi.out
  rintro e w1 ⟨rfl, hb1⟩
  have HB1 := Lib.hid (HB.out.trans (hb1.mono HB.out.size))
  have f2 := (HF.out.below hb1).cells 2 _ rfl
  have y4 := (HY.out.below hb1).cells 4 _ rfl
  have f2 : w1.cell? ⟨w.heap.size, 2, none⟩ = some (.string f.text) := f2
  have y4 : w1.cell? ⟨w.heap.size + 1, 4, none⟩ = some (.bool ev.has) := y4
  clear hb1
  generalize ev.has = eh at *
  cases eh
  · go_wp2_with fail
    go_ret
    exact ⟨by rw [HE.out]; rfl, HB1.out⟩
  · cases r2
    · go_wp2_with fail
      go_ret
      exact ⟨by rw [HE.out]; rfl, HB1.out⟩
    · go_wp2_with fail
      go_ret
      exact ⟨by rw [HE.out]; simp, HB1.out⟩

set_option maxRecDepth 100000 in
set_option maxHeartbeats 3200000 in
theorem rholds_4 (ev : Kev) (k : Fl) (b : Bool) (hk : f.kids = [k]) (hku : KidsIn w w.heap.size (.slice a f.kids.length cap) f.kids)
    (IH : ∀ W u, KidsIn W W.heap.size u k.kids → Calls Try.prog 41 #[flV k u, evV ev] W (HoldP b W)) : Calls Try.prog 41 #[.agg #[.int .i64 4, .string f.name, .string f.text, .slice a f.kids.length cap], evV ev] w (HoldP (!b) w) := by
  unfold evV at IH ⊢
  have hb1 := lay_alloc w (.cells #[.int .i64 4, .string f.name, .string f.text, .slice a f.kids.length cap] 24)
  have hb2 := lay_alloc (w.alloc (.cells #[.int .i64 4, .string f.name, .string f.text, .slice a f.kids.length cap] 24)) (.cells #[.int .i64 ev.pos, .string ev.key, .bool ev.had, .string ev.old, .bool ev.has, .string ev.now] 32)
  have hb := hb1.trans (hb2.mono hb1.size)
  have HB := Lib.hid hb
  have hF := (DC.alloc w [.int .i64 4, .string f.name, .string f.text, .slice a f.kids.length cap] 24).below hb2
  have hY := DC.alloc (w.alloc (.cells #[.int .i64 4, .string f.name, .string f.text, .slice a f.kids.length cap] 24)) [.int .i64 ev.pos, .string ev.key, .bool ev.had, .string ev.old, .bool ev.has, .string ev.now] 32
  have hsz : (w.alloc (.cells #[.int .i64 4, .string f.name, .string f.text, .slice a f.kids.length cap] 24)).heap.size = w.heap.size + 1 := by simp
  rw [hsz] at hY
  have HF := Lib.hid hF
  have HY := Lib.hid hY
  clear hF hY hsz hb1 hb2
  have hkb := hku.on hb
  obtain ⟨g, off, u, rfl, _, _, k0, k1, k2, k3, hkk⟩ := hkb.at_ (i := 0) (k := k) (by rw [hk]; rfl)
  obtain ⟨ua, uc, rfl, _, _⟩ := hkk.slice
  have hC := IH _ _ hkk
  unfold flV at hC
  have HC := Lib.hid hC
  have f3 := HF.out.cells 3 _ rfl
  have y0 := HY.out.cells 0 _ rfl
  have y1 := HY.out.cells 1 _ rfl
  have y2 := HY.out.cells 2 _ rfl
  have y3 := HY.out.cells 3 _ rfl
  have y4 := HY.out.cells 4 _ rfl
  have y5 := HY.out.cells 5 _ rfl
  have hlen : ((f.kids.length : Nat) : Int) = 1 := by rw [hk]; rfl
  have hlen1 : f.kids.length = 1 := by rw [hk]; rfl
  rw [hlen1] at f3 HC HB HF HY hkk y0 y1 y2 y3 y4 y5 k0 k1 k2 k3 ⊢
  have hD : Below w.heap.size w (((w.alloc (.cells #[.int .i64 4, .string f.name, .string f.text, .slice (some ⟨g, off, none⟩) 1 cap] 24)).alloc (.cells #[.int .i64 ev.pos, .string ev.key, .bool ev.had, .string ev.old, .bool ev.has, .string ev.now] 32))).drew := lay_drew HB.out
  have HD := Lib.hid hD
  have hC2 := IH (((w.alloc (.cells #[.int .i64 4, .string f.name, .string f.text, .slice (some ⟨g, off, none⟩) 1 cap] 24)).alloc (.cells #[.int .i64 ev.pos, .string ev.key, .bool ev.had, .string ev.old, .bool ev.has, .string ev.now] 32))).drew (.slice ua k.kids.length uc) (hkk.on (lay_drew (Below.refl _ _)))
  unfold flV at hC2
  have HC2 := Lib.hid hC2
  clear hb hku hkb hkk hC IH hlen hlen1 hD hC2 HC
  simp only [Nat.zero_mul, Nat.add_zero] at k0 k1 k2 k3
  go_enter Try.func41, Try.ntmps41
  go_wp2_with fail
  go_region_with (go_at_call 41; (with_reducible refine HC2.out.mono ?_); rintro e w5 ⟨rfl, hb5⟩; have HB5 := Lib.hid (HD.out.trans (hb5.mono HD.out.size)); clear hb5)
  all_goals
    go_wp2_with fail
    go_ret
    exact ⟨rfl, HB5.out⟩
end Go.Proofs.Ytdeknkfhlmkabaa
