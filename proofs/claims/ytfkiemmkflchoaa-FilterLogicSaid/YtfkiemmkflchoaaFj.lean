/-
  Pairs of a region's values: what a step has to show of the new variables' blocks.
-/
import Derived.Test.YtfkiemmkflchoaaFk
namespace Go.Proofs.Ytfkiemmkflchoaa
set_option linter.unusedVariables false
set_option linter.unusedSimpArgs false
open Go.RowKit

theorem AVk_fil {w : World} {g : Nat} {f : Fl} {a : Option Addr} {c : Nat} (h : AVk (.fil f) w g (flV f (.slice a f.kids.length c))) : KidsS w (fun b => b ≠ g) (.slice a f.kids.length c) f.kids := by
  obtain ⟨a', c', e, h'⟩ := h
  unfold flV at e
  simp only [Value.agg.injEq, Array.mk.injEq, List.cons.injEq, Value.slice.injEq, true_and, and_true] at e
  obtain ⟨rfl, rfl⟩ := e
  exact h'
theorem dl_build {ks : List Kl} {m M B i : Nat} {ki : Kl} (hks : ∀ k, m ≤ k → k < M → ks[k]? = some (.fresh B)) (hki : ks[i]? = some ki) (hi : i < m) {w w' : World} {v u : Value} {k : Nat} (hk : k < M) (hs : SLl ks k w u)
    (h : m ≤ k → ∀ g, u = .pointer (some ⟨g, 0, none⟩) → B ≤ g → g < w.heap.size → AVk ki w' g v) : DLl ks m i k w' v u ∧ DLl ks m k i w' u v := by
  refine ⟨fun h' => absurd h' (by omega), fun hm g e => ?_⟩
  rw [hki]
  unfold SLl at hs
  rw [hks k hm hk] at hs
  obtain ⟨g', e', hB, c0, c1, c2, c3, hd⟩ := hs
  subst e
  injection e' with e'; injection e' with e'; injection e' with e'
  subst e'
  exact h hm g rfl hB hd.lt
theorem dl_alloc {ks : List Kl} {m M B i : Nat} (hks : ∀ k, m ≤ k → k < M → ks[k]? = some (.fresh B)) (hi : m ≤ i) (hiM : i < M) {w w' : World} {u : Value} {k : Nat} (hk : k < M) (hs : SLl ks k w u) (hb : Below w.heap.size w w') :
    DLl ks m i k w' (.pointer (some ⟨w.heap.size, 0, none⟩)) u ∧ DLl ks m k i w' u (.pointer (some ⟨w.heap.size, 0, none⟩)) := by
  refine ⟨fun _ g e => ?_, fun hm g e => ?_⟩
  · injection e with e; injection e with e; injection e with e
    subst e
    unfold SLl at hs
    cases hkk : ks[k]? with
    | none => trivial
    | some kk => rw [hkk] at hs; exact AVk_later hb (AVk_new hs)
  · rw [hks i hi hiM]
    unfold SLl at hs
    rw [hks k hm hk] at hs
    obtain ⟨g', e', hB, c0, c1, c2, c3, hd⟩ := hs
    subst e
    injection e' with e'; injection e' with e'; injection e' with e'
    subst e'
    intro h
    injection h with h; injection h with h; injection h with h
    have := hd.lt; omega
/-- A filter that lay in a world, told as one that avoids a later block. -/
theorem AVk_low {W w' : World} {g : Nat} {f : Fl} {a : Option Addr} {c : Nat} (h : KidsIn W W.heap.size (.slice a f.kids.length c) f.kids) (hg : W.heap.size ≤ g) (hb : Below W.heap.size W w') : AVk (.fil f) w' g (flV f (.slice a f.kids.length c)) :=
  ⟨a, c, rfl, ((h.below_s (Nat.le_refl _)).wide fun k hk => by omega).later hb⟩
theorem KidsS.inv {w : World} {S : Nat → Prop} {v : Value} {ks : List Fl} (h : KidsS w S v ks) : (∃ (a : Option Addr) (c : Nat), v = .slice a 0 c ∧ ks = [] ∧ c ≤ 9223372036854775807) ∨
    ∃ (g off c : Nat) (us : Nat → Value), v = .slice (some ⟨g, off, none⟩) ks.length c ∧ S g ∧ (∀ (i : Nat) (k : Fl), ks[i]? = some k → w.cell? ⟨g, off + i * 4 + 3, none⟩ = some (us i)) ∧ ∀ (i : Nat) (k : Fl), ks[i]? = some k → KidsS w S (us i) k.kids := by
  cases h with
  | nul a c hc => exact .inl ⟨a, c, rfl, rfl, hc⟩
  | more g off c ks us hS hg h0 hc1 hc2 hcell hk => exact .inr ⟨g, off, c, us, rfl, hS, fun i k hi => (hcell i k hi).2.2.2, hk⟩
theorem KidsS.both {w : World} {S S' : Nat → Prop} {v : Value} {ks : List Fl} (h : KidsS w S v ks) : KidsS w S' v ks → KidsS w (fun k => S k ∧ S' k) v ks := by
  induction h with
  | nul a c' hc' => intro _; exact .nul a c' hc'
  | more g off c' ks us hS hg h0 hc1 hc2 hcell hk ih =>
    intro hx
    rcases hx.inv with ⟨a, c, hv, rfl, _⟩ | ⟨g2, off2, c2, us2, hv, hS2, hcell2, hk2⟩
    · simp at h0
    · simp only [Value.slice.injEq, Option.some.injEq, Addr.mk.injEq, true_and, and_true] at hv
      obtain ⟨⟨rfl, rfl⟩, rfl⟩ := hv
      refine .more g off c' ks us ⟨hS, hS2⟩ hg h0 hc1 hc2 hcell fun i k hi => ih i k hi ?_
      have e1 := (hcell i k hi).2.2.2
      rw [hcell2 i k hi] at e1
      injection e1 with e2
      rw [← e2]; exact hk2 i k hi
theorem kidsS_set {w : World} {b c : Nat} {v : Value} {ks : List Fl} (o : Nat) (x : Value) (h : KidsS w (fun k => k ≠ b) v ks) (hc : KidsS w (fun k => k ≠ c) v ks) : KidsS (w.setCell ⟨b, o, none⟩ x) (fun k => k ≠ b ∧ k ≠ c) v ks :=
  (h.both hc).keep (by simp [World.setCell]) (fun k hk _ => Below.heap_setCell _ _ _ _ hk.1) (fun k h _ => h)
theorem kidsS_l {w : World} {b c : Nat} {v : Value} {ks : List Fl} (o : Nat) (x : Value) (h : KidsS w (fun k => k ≠ b ∧ k ≠ c) v ks) : KidsS (w.setCell ⟨b, o, none⟩ x) (fun k => k ≠ b ∧ k ≠ c) v ks :=
  h.keep (by simp [World.setCell]) (fun k hk _ => Below.heap_setCell _ _ _ _ hk.1) (fun k h _ => h)
theorem kidsS_r {w : World} {b c : Nat} {v : Value} {ks : List Fl} (o : Nat) (x : Value) (h : KidsS w (fun k => k ≠ b ∧ k ≠ c) v ks) : KidsS (w.setCell ⟨c, o, none⟩ x) (fun k => k ≠ b ∧ k ≠ c) v ks :=
  h.keep (by simp [World.setCell]) (fun k hk _ => Below.heap_setCell _ _ _ _ hk.2) (fun k h _ => h)
/-- Four cells laid in a block. -/
def put4 (w : World) (b : Nat) (v0 v1 v2 v3 : Value) : World := (((w.setCell ⟨b, 0, none⟩ v0).setCell ⟨b, 1, none⟩ v1).setCell ⟨b, 2, none⟩ v2).setCell ⟨b, 3, none⟩ v3
theorem put4_dc {w : World} {b : Nat} {x0 x1 x2 x3 v0 v1 v2 v3 : Value} (h : DC w b [x0, x1, x2, x3]) : DC (put4 w b v0 v1 v2 v3) b [v0, v1, v2, v3] :=
  (((h.set 0 v0 (by simp)).set 1 v1 (by simp)).set 2 v2 (by simp)).set 3 v3 (by simp)
theorem put4_other {w : World} {b c : Nat} {v0 v1 v2 v3 : Value} {cs : List Value} (h : DC w c cs) (hne : c ≠ b) : DC (put4 w b v0 v1 v2 v3) c cs :=
  (((h.other hne).other hne).other hne).other hne
theorem put4_below {B b : Nat} {w w' : World} (v0 v1 v2 v3 : Value) (h : Below B w w') (hB : B ≤ b) : Below B w (put4 w' b v0 v1 v2 v3) :=
  (((h.setCell (p := ⟨b, 0, none⟩) hB v0).setCell (p := ⟨b, 1, none⟩) hB v1).setCell (p := ⟨b, 2, none⟩) hB v2).setCell (p := ⟨b, 3, none⟩) hB v3
theorem put4_l {w : World} {b c : Nat} {v : Value} {ks : List Fl} (v0 v1 v2 v3 : Value) (h : KidsS w (fun k => k ≠ b ∧ k ≠ c) v ks) : KidsS (put4 w b v0 v1 v2 v3) (fun k => k ≠ b ∧ k ≠ c) v ks :=
  kidsS_l _ _ (kidsS_l _ _ (kidsS_l _ _ (kidsS_l _ _ h)))
theorem put4_r {w : World} {b c : Nat} {v : Value} {ks : List Fl} (v0 v1 v2 v3 : Value) (h : KidsS w (fun k => k ≠ b ∧ k ≠ c) v ks) : KidsS (put4 w c v0 v1 v2 v3) (fun k => k ≠ b ∧ k ≠ c) v ks :=
  kidsS_r _ _ (kidsS_r _ _ (kidsS_r _ _ (kidsS_r _ _ h)))
theorem two_light {k : Int} {f g : Fl} (hf : Light f) (hg : Light g) : Light (.mk k ByteArray.empty ByteArray.empty [f, g]) := kk_light (fun x hx => by
  rcases List.mem_cons.1 hx with rfl | hx
  · exact hf
  · obtain rfl := List.mem_singleton.1 hx
    exact hg) (by simp)
end Go.Proofs.Ytfkiemmkflchoaa
