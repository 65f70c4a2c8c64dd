/-
  Is an event of this key in a list? What is told is unlike; what isn't told is hidden. (Written by gentb.py.)
-/
import Derived.Test.YtcbgnmolfdhnfaaTA
import Derived.Test.YtcbgnmolfdhnfaaT2
namespace Go.Proofs.Ytcbgnmolfdhnfaa
set_option linter.unusedVariables false
set_option linter.unusedSimpArgs false
open Go.RowKit

def IdxK (b : Prop) (w : World) (e : Ending) (w' : World) : Prop := ∃ z : Int, e = .returned (.int .i64 z) ∧ (b → 0 ≤ z) ∧ Below w.heap.size w w'
set_option maxRecDepth 100000 in
set_option maxHeartbeats 3200000 in
theorem IndexEv_any {w : World} {v : Value} {E : List Dv} {k : ByteArray} {b : Nat} (h : dvL.In w v E) (hk : w.cell? ⟨b, 0, none⟩ = some (.string k)) (hl : E.length ≤ 1000000) : Calls Try.prog 63 #[v, .func (.func 34) #[] #[.pointer (some ⟨b, 0, none⟩)]] w (IdxK (k ∈ E.map (·.1)) w) := by
  obtain ⟨a, c, rfl, _, _⟩ := h.slice
  have HI := Lib.hid h
  have HKc := Lib.hid hk
  clear h hk
  obtain ⟨n, hn⟩ : ∃ n, n = E.length := ⟨_, rfl⟩
  rw [← hn] at hl HI ⊢
  have HN := Lib.hid hn
  clear hn
  go_enter Try.func63, Try.ntmps63
  go_wp2_with fail
  go_loopw [8] (fun i wr => ∃ j : Nat, i = .int .i64 j ∧ j ≤ n ∧ Hid (k ∉ (E.take j).map (·.1)) ∧ Hid (Below w.heap.size w wr)) (fun i _ => n - (intOf i).toNat)
  case atStart => exact ⟨0, rfl, Nat.zero_le _, Lib.hid (by simp), Lib.hid (Below.refl _ _)⟩
  case round =>
    obtain ⟨j, rfl, hj, HL, HB⟩ := hrel
    have ek : IntKind.i64.wrap ((j : Int) + 1) = (j : Int) + 1 := IntWalk.i64_in _ (by omega)
    by_cases hlt : j < n
    · obtain ⟨⟨x, o1, o2⟩, hx⟩ : ∃ x, E[j]? = some x := ⟨E[j]'(by rw [← HN.out]; exact hlt), List.getElem?_eq_getElem _⟩
      obtain ⟨g, off, rfl, hcl, hat⟩ := (HI.out.later HB.out).cells hx
      clear hcl
      obtain ⟨b1, hb1⟩ : ∃ b, b = o1.isSome := ⟨_, rfl⟩
      obtain ⟨y1, hy1⟩ : ∃ y, y = o1.getD e0 := ⟨_, rfl⟩
      obtain ⟨b2, hb2⟩ : ∃ b, b = o2.isSome := ⟨_, rfl⟩
      obtain ⟨y2, hy2⟩ : ∃ y, y = o2.getD e0 := ⟨_, rfl⟩
      have k0 : wr.cell? ⟨g, off + j * 6, none⟩ = some (.int .i64 0) := hat 0 _ rfl
      have k1 : wr.cell? ⟨g, off + j * 6 + 1, none⟩ = some (.string x) := hat 1 _ rfl
      have k2 : wr.cell? ⟨g, off + j * 6 + 2, none⟩ = some (.bool b1) := by rw [hb1]; exact hat 2 _ rfl
      have k3 : wr.cell? ⟨g, off + j * 6 + 3, none⟩ = some (.string y1) := by rw [hy1]; exact hat 3 _ rfl
      have k4 : wr.cell? ⟨g, off + j * 6 + 4, none⟩ = some (.bool b2) := by rw [hb2]; exact hat 4 _ rfl
      have k5 : wr.cell? ⟨g, off + j * 6 + 5, none⟩ = some (.string y2) := by rw [hy2]; exact hat 5 _ rfl
      have HC := Lib.hid (told1_any k 0 x y1 y2 b1 b2 b wr (cell_later HB.out HKc.out))
      have HT : Hid (x ≠ k → k ∉ (E.take (j + 1)).map (·.1)) := Lib.hid fun hne hm => by
        rw [List.take_add_one, hx, List.map_append, List.mem_append] at hm
        rcases hm with hm | hm
        · exact HL.out hm
        · exact hne (by simpa [eq_comm] using hm)
      have hI1 : (j : Int) < (n : Int) := by omega
      have hI2 : (0 : Int) ≤ (j : Int) := by omega
      clear hat hx hb1 hy1 hb2 hy2
      by_cases hp : x = k
      · rw [decide_eq_true hp] at HC
        clear hp
        go_wp2_with fail
        go_fit HC.out
        rintro e w2 ⟨rfl, hb2⟩
        have HB2 := Lib.hid (HB.out.trans (hb2.mono HB.out.size))
        clear hb2 k0 k1 k2 k3 k4 k5
        go_wp2_with fail
        go_ret
        exact ⟨(j : Int), rfl, fun _ => by omega, HB2.out⟩
      · rw [decide_eq_false hp] at HC
        have HT2 := Lib.hid (HT.out hp)
        clear hp
        go_wp2_with fail
        go_fit HC.out
        rintro e w2 ⟨rfl, hb2⟩
        have HB2 := Lib.hid (HB.out.trans (hb2.mono HB.out.size))
        clear hb2 k0 k1 k2 k3 k4 k5
        go_wp2_with fail
        exact ⟨⟨j + 1, by push_cast; rfl, by omega, HT2, HB2⟩, by simp [intOf]; omega⟩
    · obtain rfl : j = n := by omega
      have hL := HL.out
      rw [List.take_of_length_le (by rw [← HN.out]; exact Nat.le_refl _)] at hL
      have HLL := Lib.hid hL
      clear hL
      go_wp2_with fail
      go_ret
      exact ⟨-1, rfl, fun h => absurd h HLL.out, HB.out⟩
set_option maxHeartbeats 1600000 in
theorem ContEv_any {w : World} {v : Value} {E : List Dv} {k : ByteArray} {b : Nat} (h : dvL.In w v E) (hk : w.cell? ⟨b, 0, none⟩ = some (.string k)) (hl : E.length ≤ 1000000) (hm : k ∈ E.map (·.1)) : Calls Try.prog 33 #[v, .func (.func 34) #[] #[.pointer (some ⟨b, 0, none⟩)]] w (SortE w) := by
  have HI := Lib.hid (IndexEv_any h hk hl)
  have HM := Lib.hid hm
  obtain ⟨a, c, rfl, _, _⟩ := h.slice
  clear h hk hm
  go_enter Try.func33, Try.ntmps33
  go_wp2_with fail
  go_fit HI.out
  rintro e w2 ⟨z, rfl, hz, hb⟩
  have h0 := hz HM.out
  have HB := Lib.hid hb
  clear hz hb
  go_wp2_with fail
  go_ret
  exact ⟨by first | done | rfl | simp [h0], HB.out⟩
theorem look_keyed {A : List Pr} (hA : Sorted A) (f : ByteArray → Bool) (k : ByteArray) : look (A.filter fun p => f p.1) k = if f k = true then look A k else none := by
  rw [look_filter hA (fun p => f p.1) k]
  cases look A k with
  | none => simp
  | some v => simp
/-- A key's digit. -/
noncomputable def kd (s : Sd) (n : Nat) (k : ByteArray) : Nat := dgt n (s.mk' (k, e0))
theorem sub_keyed (s : Sd) (n i : Nat) {A : List Pr} (hA : Sorted A) : ∃ A', sub n i (A.map s.mk') = A'.map s.mk' ∧ Sorted A' ∧ ∀ k, look A' k = if kd s n k = i then look A k else none := by
  refine ⟨_, sub_map s n i A, filter_sorted hA _, fun k => ?_⟩
  have h := look_keyed hA (fun k => decide (kd s n k = i)) k
  simp only [decide_eq_true_eq] at h
  rw [← h]; rfl
theorem vk_diff (s : Sd) : ∀ (n : Nat) {A B : List Pr}, Sorted A → Sorted B → ∀ k ∈ s.vk n (A.map s.mk') (B.map s.mk'), look A k ≠ look B k
  | 0, A, B, hA, hB, k, hk => by
    rw [Sd.vk] at hk
    split at hk
    · cases hk
    · exact ((mg_facts s _ A B rfl hA hB).1 k).1 hk
  | n + 1, A, B, hA, hB, k, hk => by
    rw [Sd.vk] at hk
    split at hk
    · cases hk
    · obtain ⟨i, _, hi⟩ := cat_mem 16 hk
      obtain ⟨A', eA, sA, lA⟩ := sub_keyed s n i hA
      obtain ⟨B', eB, sB, lB⟩ := sub_keyed s n i hB
      rw [eA, eB] at hi
      have h := vk_diff s n sA sB k hi
      rw [lA, lB] at h
      intro e
      rw [e] at h
      exact h rfl
theorem cat_in {α : Type} {f : Nat → List α} {x : α} {i : Nat} : ∀ k, i < k → x ∈ f i → x ∈ catTo f k
  | 0, h, _ => by omega
  | k + 1, h, hx => by
    refine List.mem_append.2 ?_
    by_cases e : i = k
    · exact .inr (by rw [← e]; exact hx)
    · exact .inl (cat_in k (by omega) hx)
theorem kd_lt (s : Sd) (n : Nat) (k : ByteArray) : kd s n k < 16 := Nat.mod_lt _ (by decide)
/-- How far a key that is not told is hidden. -/
structure Hn (s : Sd) (k : ByteArray) (A B : List Pr) (path : List Int) (n : Nat) (h : Bool) : Prop where
  len : path.length + n = 4
  dg : Dig16 path
  no : h = false → s.tr n (subI 4 path (A.map s.mk')) ≠ s.tr n (subI 4 path (B.map s.mk')) ∧ (k ∈ s.vk n (subI 4 path (A.map s.mk')) (subI 4 path (B.map s.mk')) → k ∈ s.vk 4 (A.map s.mk') (B.map s.mk'))
  pa : ∃ A', subI 4 path (A.map s.mk') = A'.map s.mk' ∧ Sorted A' ∧ look A' k = look A k
  pb : ∃ A', subI 4 path (B.map s.mk') = A'.map s.mk' ∧ Sorted A' ∧ look A' k = look B k
theorem Hn.start (s : Sd) (k : ByteArray) {A B : List Pr} (hA : Sorted A) (hB : Sorted B) {h : Bool} (hh : h = decide (s.tr 4 (A.map s.mk') = s.tr 4 (B.map s.mk'))) : Hn s k A B [] 4 h := by
  subst hh
  refine ⟨rfl, fun d hd => (by cases hd), fun h => ?_, ⟨A, subI_nil 4 _, hA, rfl⟩, ⟨B, subI_nil 4 _, hB, rfl⟩⟩
  rw [subI_nil, subI_nil]
  exact ⟨of_decide_eq_false h, id⟩
theorem Hn.step {s : Sd} {k : ByteArray} {A B : List Pr} {path : List Int} {n : Nat} {h h' : Bool} (H : Hn s k A B path (n + 1) h) (hh : h' = (h || decide (s.tr n (sub n (kd s n k) (subI 4 path (A.map s.mk'))) = s.tr n (sub n (kd s n k) (subI 4 path (B.map s.mk')))))) : Hn s k A B (path ++ [((kd s n k : Nat) : Int)]) n h' := by
  have hl := H.len
  have e : ∀ S : List Pl, subI 4 (path ++ [((kd s n k : Nat) : Int)]) S = sub n (kd s n k) (subI 4 path S) := fun S => by
    rw [subI_snoc _ path 4 S n hl]; rfl
  refine ⟨by simp; omega, fun d hd => ?_, fun h0 => ?_, ?_, ?_⟩
  · rcases List.mem_append.1 hd with hd | hd
    · exact H.dg d hd
    · obtain rfl : d = ((kd s n k : Nat) : Int) := by simpa using hd
      have := kd_lt s n k
      exact ⟨by omega, by omega⟩
  · rw [hh, Bool.or_eq_false_iff] at h0
    obtain ⟨h1, h2⟩ := H.no h0.1
    rw [e, e]
    refine ⟨of_decide_eq_false h0.2, fun hk => h2 ?_⟩
    rw [Sd.vk, if_neg h1]
    exact cat_in 16 (kd_lt s n k) hk
  · obtain ⟨A', eA, sA, lA⟩ := H.pa
    obtain ⟨A2, eA2, sA2, lA2⟩ := sub_keyed s n (kd s n k) sA
    exact ⟨A2, by rw [e, eA, eA2], sA2, by rw [lA2, if_pos rfl, lA]⟩
  · obtain ⟨A', eA, sA, lA⟩ := H.pb
    obtain ⟨A2, eA2, sA2, lA2⟩ := sub_keyed s n (kd s n k) sA
    exact ⟨A2, by rw [e, eA, eA2], sA2, by rw [lA2, if_pos rfl, lA]⟩
theorem Hn.done {s : Sd} {k : ByteArray} {A B : List Pr} {path : List Int} {h : Bool} (H : Hn s k A B path 0 h) (hd : look A k ≠ look B k) (hn : k ∉ s.vk 4 (A.map s.mk') (B.map s.mk')) : h = true := by
  cases e : h with
  | true => rfl
  | false =>
    obtain ⟨h1, h2⟩ := H.no e
    obtain ⟨A', eA, sA, lA⟩ := H.pa
    obtain ⟨B', eB, sB, lB⟩ := H.pb
    refine absurd (h2 ?_) hn
    rw [eA, eB] at h1 ⊢
    rw [Sd.vk, if_neg h1]
    exact ((mg_facts s _ A' B' rfl sA sB).1 k).2 (by rw [lA, lB]; exact hd)
/-- The digests of a part's parts, of the places and of the map. -/
theorem ts_same {s : Sd} (hs : s.Ok) (l : List Pr) {p : List Int} {n : Nat} (hd : Dig16 p) (hp : p.length + (n + 1) = 4) : s.ts n (subI 4 p (s.place l)) 16 = s.ts n (subI 4 p ((un [] l).map s.mk')) 16 := by
  have h := LeafEq.subI p 4 (n + 1) hd (by omega) (place_leaf hs l)
  unfold Sd.ts
  refine List.map_congr_left fun i hi => ?_
  exact (h.sub (List.mem_range.1 hi)).tr s
end Go.Proofs.Ytcbgnmolfdhnfaa
