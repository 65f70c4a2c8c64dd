/-
  R1 R2 R3 R4 R5 R6 R7 R8 R9 RA in one text.
-/
import Derived.Test.YtcbgnmolfdhnfaaE0
import Derived.Test.YtcbgnmolfdhnfaaG0
import Derived.Test.YtcbgnmolfdhnfaaG1
import Derived.Test.YtcbgnmolfdhnfaaG2
import Derived.Test.YtcbgnmolfdhnfaaH1

/- R1 -/
namespace Go.Proofs.Ytcbgnmolfdhnfaa
set_option linter.unusedVariables false
set_option linter.unusedSimpArgs false

/-- Pairs by rising keys. -/
def Sorted : List Pr → Prop
  | [] => True
  | p :: l => (∀ q ∈ l, klt p.1 q.1 = true) ∧ Sorted l
/-- What a list has at a key. -/
def look : List Pr → ByteArray → Option ByteArray
  | [], _ => none
  | p :: l, k => if p.1 = k then some p.2 else look l k
def Under (l : List Pr) (k : ByteArray) : Prop := ∀ q ∈ l, klt q.1 k = true
def Over (l : List Pr) (k : ByteArray) : Prop := ∀ q ∈ l, klt k q.1 = true
theorem sorted_app : ∀ (a b : List Pr), Sorted (a ++ b) ↔ Sorted a ∧ Sorted b ∧ ∀ p ∈ a, ∀ q ∈ b, klt p.1 q.1 = true
  | [], b => by simp [Sorted]
  | p :: a, b => by
    simp only [List.cons_append, Sorted, sorted_app a b, List.mem_append, List.mem_cons]
    constructor
    · rintro ⟨h, ha, hb, hab⟩
      refine ⟨⟨fun q hq => h q (.inl hq), ha⟩, hb, ?_⟩
      rintro q (rfl | hq) r hr
      · exact h r (.inr hr)
      · exact hab q hq r hr
    · rintro ⟨⟨h, ha⟩, hb, hab⟩
      refine ⟨?_, ha, hb, fun q hq => hab q (.inr hq)⟩
      rintro q (hq | hq)
      · exact h q hq
      · exact hab p (.inl rfl) q hq
theorem sorted_mid (a : List Pr) (p : Pr) (b : List Pr) : Sorted (a ++ p :: b) ↔ Sorted a ∧ Sorted b ∧ Under a p.1 ∧ Over b p.1 := by
  rw [sorted_app]
  simp only [Sorted, Under, Over, List.mem_cons]
  constructor
  · rintro ⟨ha, ⟨hb, hb'⟩, h⟩
    exact ⟨ha, hb', fun q hq => h q hq p (.inl rfl), hb⟩
  · rintro ⟨ha, hb, hu, ho⟩
    refine ⟨ha, ⟨ho, hb⟩, ?_⟩
    rintro q hq r (rfl | hr)
    · exact hu q hq
    · exact klt_trans (hu q hq) (ho r hr)
theorem look_none {l : List Pr} {k : ByteArray} (h : ∀ q ∈ l, q.1 ≠ k) : look l k = none := by
  induction l with
  | nil => rfl
  | cons p l ih =>
    rw [look, if_neg (h p (by simp)), ih (fun q hq => h q (by simp [hq]))]
theorem look_some {l : List Pr} {k v : ByteArray} (h : look l k = some v) : (k, v) ∈ l := by
  induction l with
  | nil => cases h
  | cons p l ih =>
    rw [look] at h
    split at h
    · rename_i e; cases h; rw [← e]; simp
    · exact List.mem_cons_of_mem _ (ih h)
theorem look_mem {l : List Pr} (hs : Sorted l) {p : Pr} (h : p ∈ l) : look l p.1 = some p.2 := by
  induction l with
  | nil => cases h
  | cons q l ih =>
    rw [look]
    rcases List.mem_cons.1 h with rfl | h
    · rw [if_pos rfl]
    · rw [if_neg (klt_ne (hs.1 p h)), ih hs.2 h]
theorem look_app (a b : List Pr) (k : ByteArray) : look (a ++ b) k = (look a k).or (look b k) := by
  induction a with
  | nil => rfl
  | cons p a ih =>
    rw [List.cons_append, look, look]
    split
    · rfl
    · exact ih
theorem look_under {l : List Pr} {k x : ByteArray} (h : Under l k) (hx : klt x k = false) : look l x = none :=
  look_none fun q hq e => by rw [← e, h q hq] at hx; cases hx
theorem look_over {l : List Pr} {k x : ByteArray} (h : Over l k) (hx : klt k x = false) : look l x = none :=
  look_none fun q hq e => by rw [← e, h q hq] at hx; cases hx
/-- What a list in the midst of which a pair stands has. -/
theorem look_mid {a : List Pr} {p : Pr} {b : List Pr} (hu : Under a p.1) (ho : Over b p.1) (k : ByteArray) :
    look (a ++ p :: b) k = if klt k p.1 = true then look a k else if klt p.1 k = true then look b k else some p.2 := by
  rw [look_app, look]
  rcases klt_tri k p.1 with h | h | h
  · rw [if_pos h, if_neg (fun e => klt_ne h e.symm), look_over ho (klt_asym h)]; simp
  · subst h; rw [if_pos rfl, klt_irr, look_under hu (klt_irr _)]; simp
  · rw [klt_asym h, if_pos h, if_neg (klt_ne h), look_under hu (klt_asym h)]; simp
/-- Two sorted lists that have the same are the same. -/
theorem sorted_ext : ∀ {a b : List Pr}, Sorted a → Sorted b → (∀ k, look a k = look b k) → a = b
  | [], [], _, _, _ => rfl
  | [], p :: b, _, _, h => by have := h p.1; simp [look] at this
  | p :: a, [], _, _, h => by have := h p.1; simp [look] at this
  | p :: a, q :: b, ha, hb, h => by
    have e : p = q := by
      have h1 := look_some ((h p.1).symm.trans (by rw [look, if_pos rfl]))
      have h2 := look_some ((h q.1).trans (by rw [look, if_pos rfl]))
      rcases List.mem_cons.1 h1 with h1 | h1
      · exact h1
      · rcases List.mem_cons.1 h2 with h2 | h2
        · exact h2.symm
        · have := klt_trans (ha.1 _ h2) (hb.1 _ h1)
          rw [klt_irr] at this; cases this
    subst e
    congr 1
    refine sorted_ext ha.2 hb.2 fun k => ?_
    have := h k
    simp only [look] at this
    split at this
    · rename_i e
      subst e
      rw [look_over ha.1 (klt_irr _), look_over hb.1 (klt_irr _)]
    · exact this
theorem filter_sorted {l : List Pr} (h : Sorted l) (f : Pr → Bool) : Sorted (l.filter f) := by
  induction l with
  | nil => trivial
  | cons p l ih =>
    rw [List.filter_cons]
    split
    · exact ⟨fun q hq => h.1 q (List.mem_filter.1 hq).1, ih h.2⟩
    · exact ih h.2
theorem look_filter {l : List Pr} (h : Sorted l) (f : Pr → Bool) (k : ByteArray) : look (l.filter f) k = (look l k).bind fun v => if f (k, v) = true then some v else none := by
  induction l with
  | nil => rfl
  | cons p l ih =>
    rw [List.filter_cons, look]
    by_cases e : p.1 = k
    · subst e
      rw [if_pos rfl]
      by_cases g : f p = true
      · rw [if_pos g, look, if_pos rfl]; simp [g]
      · rw [if_neg g, ih h.2, look_over h.1 (klt_irr _)]; simp [g]
    · rw [if_neg e, ← ih h.2]
      by_cases g : f p = true
      · rw [if_pos g, look, if_neg e]
      · rw [if_neg g]
theorem filter_all {l : List Pr} {f : Pr → Bool} (h : ∀ q ∈ l, f q = true) : l.filter f = l := List.filter_eq_self.2 h
theorem filter_none {l : List Pr} {f : Pr → Bool} (h : ∀ q ∈ l, f q = false) : l.filter f = [] := List.filter_eq_nil_iff.2 fun q hq => by simp [h q hq]
/-- The list without a key. -/
def wo (xs : List Pr) (k : ByteArray) : List Pr := xs.filter fun p => decide (p.1 ≠ k)
theorem wo_step {xs : List Pr} {k : ByteArray} {i : Nat} {p : Pr} (h : xs[i]? = some p) : wo (xs.take (i + 1)) k = if p.1 = k then wo (xs.take i) k else wo (xs.take i) k ++ [p] := by
  rw [List.take_add_one, h]
  by_cases e : p.1 = k <;> simp [wo, List.filter_append, e]
theorem wo_len (xs : List Pr) (k : ByteArray) : (wo xs k).length ≤ xs.length := List.length_filter_le _ _
theorem wo_length (xs : List Pr) (k : ByteArray) (i : Nat) : (wo (xs.take i) k).length ≤ i := by
  have := wo_len (xs.take i) k
  have := List.length_take_le i xs; omega
theorem wo_sorted {xs : List Pr} (h : Sorted xs) (k : ByteArray) : Sorted (wo xs k) := filter_sorted h _
theorem wo_look {xs : List Pr} (h : Sorted xs) (k x : ByteArray) : look (wo xs k) x = if x = k then none else look xs x := by
  rw [wo, look_filter h]
  by_cases e : x = k
  · subst e; cases look xs x <;> simp
  · cases look xs x <;> simp [e]
/-- The list with a pair. -/
def wi (xs : List Pr) (p : Pr) : List Pr := xs.filter (fun q => klt q.1 p.1) ++ p :: xs.filter (fun q => klt p.1 q.1)
theorem wi_under (xs : List Pr) (p : Pr) : Under (xs.filter (fun q => klt q.1 p.1)) p.1 := fun q hq => (List.mem_filter.1 hq).2
theorem wi_over (xs : List Pr) (p : Pr) : Over (xs.filter (fun q => klt p.1 q.1)) p.1 := fun q hq => (List.mem_filter.1 hq).2
theorem wi_sorted {xs : List Pr} (h : Sorted xs) (p : Pr) : Sorted (wi xs p) :=
  (sorted_mid _ _ _).2 ⟨filter_sorted h _, filter_sorted h _, wi_under _ _, wi_over _ _⟩
theorem wi_look {xs : List Pr} (h : Sorted xs) (p : Pr) (x : ByteArray) : look (wi xs p) x = if x = p.1 then some p.2 else look xs x := by
  unfold wi
  rw [look_mid (wi_under _ _) (wi_over _ _), look_filter h, look_filter h]
  rcases klt_tri x p.1 with g | g | g
  · rw [if_pos g, if_neg (klt_ne g)]; cases look xs x <;> simp [g]
  · subst g; simp [klt_irr]
  · have e : ¬ x = p.1 := fun e => klt_ne g e.symm
    rw [klt_asym g, if_neg Bool.false_ne_true, if_pos g, if_neg e]; cases look xs x <;> simp [g]
theorem filt2 (f g : Pr → Bool) (hfg : ∀ q, ¬ (f q = true ∧ g q = true)) : ∀ l : List Pr, (l.filter f).length + (l.filter g).length ≤ l.length
  | [] => Nat.le_refl _
  | q :: l => by
    have ih := filt2 f g hfg l
    have h := hfg q
    rw [List.filter_cons, List.filter_cons]
    split <;> split <;> simp_all <;> omega
theorem wi_len (xs : List Pr) (p : Pr) : (wi xs p).length ≤ xs.length + 1 := by
  have := filt2 (fun q => klt q.1 p.1) (fun q => klt p.1 q.1) (fun q ⟨h1, h2⟩ => by rw [klt_asym h1] at h2; cases h2) xs
  simp only [wi, List.length_append, List.length_cons]; omega
theorem wi_wo (xs : List Pr) (p : Pr) : wi (wo xs p.1) p = wi xs p := by
  unfold wi wo
  rw [List.filter_filter, List.filter_filter]
  congr 1
  · refine List.filter_congr fun q _ => ?_
    cases h : klt q.1 p.1
    · simp
    · simp [klt_ne h]
  · congr 1
    refine List.filter_congr fun q _ => ?_
    cases h : klt p.1 q.1
    · simp
    · simp [(klt_ne h).symm]
/-- Whether some key is more. -/
def wst (A : List Pr) (p : Pr) : Bool := A.any fun q => klt p.1 q.1
/-- With's list in the midst. -/
def wm (A : List Pr) (p : Pr) : List Pr := if wst A p = true then wi A p else A
theorem wm_nil (p : Pr) : wm [] p = [] := rfl
theorem wst_step {zs : List Pr} {i : Nat} {x p : Pr} (h : zs[i]? = some x) : wst (zs.take (i + 1)) p = (wst (zs.take i) p || klt p.1 x.1) := by
  rw [List.take_add_one, h]; simp [wst]
theorem wst_none {A : List Pr} {p : Pr} (h : wst A p = false) (hk : ∀ q ∈ A, q.1 ≠ p.1) : A.filter (fun q => klt q.1 p.1) = A ∧ A.filter (fun q => klt p.1 q.1) = [] := by
  have h0 : ∀ q ∈ A, klt p.1 q.1 = false := fun q hq => by
    cases e : klt p.1 q.1
    · rfl
    · have : wst A p = true := List.any_eq_true.2 ⟨q, hq, e⟩
      rw [h] at this; cases this
  refine ⟨filter_all fun q hq => ?_, filter_none h0⟩
  rcases klt_tri q.1 p.1 with g | g | g
  · exact g
  · exact absurd g (hk q hq)
  · rw [h0 q hq] at g; cases g
theorem wm_step {zs : List Pr} (hs : Sorted zs) {i : Nat} {x p : Pr} (h : zs[i]? = some x) (hk : ∀ q ∈ zs, q.1 ≠ p.1) :
    wm (zs.take (i + 1)) p = if (!wst (zs.take i) p && klt p.1 x.1) = true then wm (zs.take i) p ++ [p] ++ [x] else wm (zs.take i) p ++ [x] := by
  have hx : x ∈ zs := List.mem_of_getElem? h
  have hk' : ∀ q ∈ zs.take i, q.1 ≠ p.1 := fun q hq => hk q (List.mem_of_mem_take hq)
  have e : zs.take (i + 1) = zs.take i ++ [x] := by rw [List.take_add_one, h]; rfl
  have hlt : ∀ q ∈ zs.take i, klt q.1 x.1 = true := by
    have h1 := hs
    rw [← List.take_append_drop i zs, sorted_app] at h1
    refine fun q hq => h1.2.2 q hq x ?_
    rw [List.mem_iff_getElem?]
    exact ⟨0, by rw [List.getElem?_drop]; exact h⟩
  unfold wm
  rw [wst_step h]
  cases hw : wst (zs.take i) p
  · obtain ⟨h1, h2⟩ := wst_none hw hk'
    cases g : klt p.1 x.1
    · rw [e]; simp
    · have : wi (zs.take (i + 1)) p = zs.take i ++ [p] ++ [x] := by
        rw [e]; unfold wi
        rw [List.filter_append, List.filter_append, h1, h2]
        simp [klt_asym g, g]
      simp [this]
  · obtain ⟨q, hq, hg⟩ := List.any_eq_true.1 hw
    have hpx := klt_trans hg (hlt q hq)
    have : wi (zs.take (i + 1)) p = wi (zs.take i) p ++ [x] := by
      rw [e]; unfold wi
      rw [List.filter_append, List.filter_append]
      simp [klt_asym hpx, hpx]
    simp [this]
theorem wm_end {zs : List Pr} {p : Pr} (hk : ∀ q ∈ zs, q.1 ≠ p.1) : (if wst zs p = true then wm zs p else wm zs p ++ [p]) = wi zs p := by
  unfold wm
  cases hw : wst zs p
  · obtain ⟨h1, h2⟩ := wst_none hw hk
    unfold wi; rw [h1, h2]; simp
  · simp
theorem wm_len (A : List Pr) (p : Pr) : (wm A p).length ≤ A.length + 1 := by
  unfold wm; split
  · exact wi_len A p
  · omega
theorem wo_not {xs : List Pr} {k : ByteArray} : ∀ q ∈ wo xs k, q.1 ≠ k := fun q hq => by simpa using (List.mem_filter.1 hq).2
/-- All pairs of two lists; of the second one, where both have a key. -/
def un (a b : List Pr) : List Pr := b.foldl wi a
theorem foldl_step {α β : Type} (f : β → α → β) (z : β) {l : List α} {i : Nat} {x : α} (h : l[i]? = some x) : (l.take (i + 1)).foldl f z = f ((l.take i).foldl f z) x := by
  rw [List.take_add_one, h]; simp
theorem un_step (a : List Pr) {b : List Pr} {i : Nat} {x : Pr} (h : b[i]? = some x) : un a (b.take (i + 1)) = wi (un a (b.take i)) x := foldl_step wi a h
theorem un_sorted : ∀ (b : List Pr) {a : List Pr}, Sorted a → Sorted (un a b)
  | [], _, h => h
  | p :: b, a, h => un_sorted b (wi_sorted h p)
theorem un_len : ∀ (b a : List Pr), (un a b).length ≤ a.length + b.length
  | [], a => Nat.le_refl _
  | p :: b, a => by have h1 := un_len b (wi a p); have h2 := wi_len a p; simp only [un, List.foldl_cons, List.length_cons] at h1 ⊢; omega
end Go.Proofs.Ytcbgnmolfdhnfaa

/- R2 -/
namespace Go.Proofs.Ytcbgnmolfdhnfaa
set_option linter.unusedVariables false
set_option linter.unusedSimpArgs false
open Go.RowKit

theorem Try.infoPair : (Try.prog.info? 27).map (fun i => (i.zero, i.size, i.bytes)) = some (some (.agg #[.string ByteArray.empty, .string ByteArray.empty]), 2, 32) := by kernel_rfl
theorem prL_enc (p : Pr) : prL.enc p = [.string p.1, .string p.2] := rfl
set_option maxRecDepth 100000 in
set_option maxHeartbeats 3200000 in
theorem Without_any {w : World} {v : Value} {xs : List Pr} (k : ByteArray) (h : prL.In w v xs) (hl : xs.length ≤ 1073741824) :
    Calls Try.prog 88 #[v, .string k] w fun e w' => ∃ u, e = .returned u ∧ Rw prL 27 w w' u (wo xs k) := by
  have HX := Lib.hid h
  obtain ⟨a, c, rfl, _, _⟩ := h.slice
  clear h
  go_enter Try.func88, Try.ntmps88
  go_wp2_with fail
  have HR0 : Hid (Rw prL 27 w w (.slice none 0 0) (wo (xs.take 0) k)) := Lib.hid (Rw.nil w)
  go_loopw [5, 10] (fun u v wr => ∃ i : Nat, v = .int .i64 i ∧ i ≤ xs.length ∧ Hid (Rw prL 27 w wr u (wo (xs.take i) k)))
    (fun _ v _ => xs.length - (intOf v).toNat)
  case atStart => exact ⟨0, rfl, Nat.zero_le _, HR0⟩
  case round =>
    obtain ⟨i, rfl, hin, hR⟩ := hrel
    clear HR0
    obtain ⟨ad, cc, hu, _, _⟩ := hR.out.slice
    subst hu
    have ei : IntKind.i64.wrap ((i : Int) + 1) = (i : Int) + 1 := IntWalk.i64_in _ (by omega)
    by_cases hlt : i < xs.length
    · obtain ⟨p, hp1⟩ : ∃ p, xs[i]? = some p := ⟨xs[i], List.getElem?_eq_getElem hlt⟩
      obtain ⟨g2, off2, rfl, _, hpa⟩ := (HX.out.later hR.out.grown).cells hp1
      have k0 : wr.cell? ⟨g2, off2 + i * 2, none⟩ = some (.string p.1) := hpa 0 _ rfl
      have k1 : wr.cell? ⟨g2, off2 + i * 2 + 1, none⟩ = some (.string p.2) := hpa 1 _ rfl
      have hI1 : (i : Int) < ((xs.length : Nat) : Int) := by omega
      have hI2 : (0 : Int) ≤ (i : Int) := by omega
      have Hp1 := Lib.hid hp1
      have Hst := Lib.hid (wo_step (k := k) hp1)
      have Hln : Hid ((wo (xs.take i) k).length + 1 ≤ 1073741825) := by show _ ≤ _; have := wo_length xs k i; omega
      generalize wo (xs.take i) k = ys at *
      have HW1 := Lib.hid (hR.out.alloc (Obj.cells #[Value.string p.1, .string p.2] 27))
      clear hpa hp1 hR
      by_cases hk : p.1 = k
      · have hkl : p.1.toList = k.toList := by rw [hk]
        have HN : Hid (Rw prL 27 w (wr.alloc (Obj.cells #[Value.string p.1, .string p.2] 27)) (.slice ad ys.length cc) (wo (xs.take (i + 1)) k)) := by
          have e := Hst.out
          rw [if_pos hk] at e
          exact Lib.hid (by rw [e]; exact HW1.out)
        rw [hk] at HN
        go_wp2_with fail
        exact ⟨⟨i + 1, by simp, hlt, HN⟩, by show xs.length - ((i : Int) + 1).toNat < xs.length - ((i : Int)).toNat; omega⟩
      · have hkl : ¬ p.1.toList = k.toList := fun e => hk (ba_inj e)
        have hk2 : (p.1.toList == k.toList) = false := by simpa using hkl
        have HSZ : Hid ((wr.alloc (Obj.cells #[Value.string p.1, .string p.2] 27)).heap.size = wr.heap.size + 1) := by show _ = _; simp
        have HBB := Lib.hid HW1.out.grown.size
        go_wp2_with (at_builtin; go_loud (refine wpList_pushI rfl _ _ 45 27 _ 2 32 rfl Try.underlying45 Try.infoPair rfl (by decide) w.heap.size ys.length _ (prL.all ys) rfl HW1.out.own #[.string p.1, .string p.2] rfl (by simp [Value.oneCell']) (by rw [HSZ.out]; rfl) Hln.out (by decide) HBB.out ?_; intro g2 cap2 w2 hown2 hg2 hat2 hlt2; have HR2 := Lib.hid (Rw.push p HW1.out hown2 hg2); clear hown2 hg2 hat2 hlt2))
        have HN : Hid (Rw prL 27 w w2 (.slice (some ⟨g2, 0, none⟩) (ys.length + 1) cap2) (wo (xs.take (i + 1)) k)) := by
          have e := Hst.out
          rw [if_neg hk] at e
          exact Lib.hid (by rw [e]; exact HR2.out)
        exact ⟨⟨i + 1, by simp, hlt, HN⟩, by show xs.length - ((i : Int) + 1).toNat < xs.length - ((i : Int)).toNat; omega⟩
    · obtain rfl : i = xs.length := by omega
      have et : xs.take xs.length = xs := List.take_length
      rw [et] at hR ⊢
      clear et
      go_wp2_with fail
      go_ret
      exact ⟨_, rfl, hR.out⟩
/-- A pair in a block of its own. -/
structure Box (w : World) (g : Nat) (k v : ByteArray) : Prop where
  c0 : w.cell? ⟨g, 0, none⟩ = some (.string k)
  c1 : w.cell? ⟨g, 1, none⟩ = some (.string v)
theorem box_alloc (w : World) (k v : ByteArray) (t : TypeId) : Box (w.alloc (Obj.cells #[.string k, .string v] t)) w.heap.size k v := by
  refine ⟨?_, ?_⟩
  all_goals rw [World.cell?_alloc_at _ _ _ _ rfl]; rfl
theorem Box.lt {w : World} {g : Nat} {k v : ByteArray} (h : Box w g k v) : g < w.heap.size := World.block_lt_of_cell? w _ h.c0
theorem Box.later {w w' : World} {g : Nat} {k v : ByteArray} (h : Box w g k v) (hb : Below w.heap.size w w') : Box w' g k v := ⟨cell_later hb h.c0, cell_later hb h.c1⟩
section
variable {α : Type} {I : Lay α} {E : TypeId} {w0 w : World} {v : Value} {ys : List α}
theorem Rw.ne_new (h : Rw I E w0 w v ys) {b : Nat} (hb : w.heap.size ≤ b) : some b ≠ v.ownBlock := fun e => by have := (h.lt b e.symm).2; omega
theorem Rw.ne_old (h : Rw I E w0 w v ys) {b : Nat} (hb : b < w0.heap.size) : some b ≠ v.ownBlock := fun e => by have := (h.lt b e.symm).1; omega
end
set_option maxRecDepth 100000 in
set_option maxHeartbeats 3200000 in
theorem With_row {w : World} {v : Value} {xs : List Pr} (p : Pr) (h : prL.In w v xs) (hs : Sorted xs) (hl : xs.length ≤ 1073741822) :
    Calls Try.prog 59 #[v, .agg #[.string p.1, .string p.2]] w (fun e w' => ∃ v, e = .returned v ∧ Rw prL 27 w w' v (wi xs p)) := by
  have H := Lib.hid h
  have HP := Lib.hid (box_alloc w p.1 p.2 27)
  have hA := below_alloc w (Obj.cells #[Value.string p.1, .string p.2] 27)
  have HA := Lib.hid hA
  have HW := Lib.hid (Without_any p.1 (h.later hA) (by omega))
  have HZ : Hid (wi (wo xs p.1) p = wi xs p) := wi_wo xs p
  have HS := Lib.hid (wo_sorted hs p.1)
  have HK := Lib.hid (wo_not (xs := xs) (k := p.1))
  have HL : Hid ((wo xs p.1).length ≤ 1073741822) := Nat.le_trans (wo_len xs p.1) hl
  obtain ⟨a, c, rfl, hx⟩ := h
  clear hx hA H hs
  go_enter Try.func59, Try.ntmps59
  go_wp2_with fail
  have x0 := HP.out.c0
  go_wp2_with fail
  go_fit HW.out
  rintro e w1 ⟨v1, rfl, hsc⟩
  have hp1 := hsc.told
  have hb1 := hsc.grown
  generalize hzs : wo xs p.1 = zs at *
  clear hzs hsc HW x0
  have HX := Lib.hid hp1
  obtain ⟨a1, c1, rfl, hx1⟩ := hp1
  have HB1 := Lib.hid (HA.out.trans (hb1.mono HA.out.size))
  have HP1 := Lib.hid (HP.out.later hb1)
  have hl1 := HL.out
  clear hx1 hb1 HA HP hl
  go_wp2_with fail
  generalize hPB : w.heap.size = PB at *
  have HPB := Lib.hid hPB
  clear hPB
  go_loopw [5, 6, 14] (fun u d v wr => ∃ (i : Nat) (b : Bool) (ys : List Pr), v = .int .i64 i ∧ d = .bool b ∧ i ≤ zs.length ∧ Hid (b = wst (zs.take i) p) ∧ Hid (ys = wm (zs.take i) p) ∧ Hid (Rw prL 27 w1 wr u ys))
    (fun _ _ v _ => zs.length - (intOf v).toNat)
  case atStart => exact ⟨0, false, [], rfl, rfl, Nat.zero_le _, rfl, rfl, Rw.nil w1⟩
  case round =>
    obtain ⟨i, b, ys, rfl, rfl, hin, hbb, hys, hR⟩ := hrel
    have ei : IntKind.i64.wrap ((i : Int) + 1) = (i : Int) + 1 := IntWalk.i64_in _ (by omega)
    obtain ⟨ad, cc, hu, _, _⟩ := hR.out.slice
    subst hu
    have Hlen : Hid (ys.length + 1 ≤ 1073741825) := by show _ ≤ _; have := wm_len (zs.take i) p; have := List.length_take_le i zs; rw [hys.out]; omega
    have Hlen2 : Hid (ys.length + 1 + 1 ≤ 1073741825) := by show _ ≤ _; have := wm_len (zs.take i) p; have := List.length_take_le i zs; rw [hys.out]; omega
    have hp0 := (HP1.out.later hR.out.grown).c0
    have hp1 := (HP1.out.later hR.out.grown).c1
    by_cases hlt : i < zs.length
    · obtain ⟨x, hx1⟩ : ∃ x, zs[i]? = some x := ⟨zs[i], List.getElem?_eq_getElem hlt⟩
      obtain ⟨g2, off2, rfl, _, hpa⟩ := (HX.out.later hR.out.grown).cells hx1
      have k0 : wr.cell? ⟨g2, off2 + i * 2, none⟩ = some (.string x.1) := hpa 0 _ rfl
      have k1 : wr.cell? ⟨g2, off2 + i * 2 + 1, none⟩ = some (.string x.2) := hpa 1 _ rfl
      have hI1 : (i : Int) < ((zs.length : Nat) : Int) := by omega
      have hI2 : (0 : Int) ≤ (i : Int) := by omega
      have HW1 := Lib.hid (hR.out.alloc (Obj.cells #[Value.string x.1, .string x.2] 27))
      have hba := below_alloc wr (Obj.cells #[Value.string x.1, .string x.2] 27)
      have hp0 := cell_later hba hp0
      have hp1 := cell_later hba hp1
      have HSZ : Hid ((wr.alloc (Obj.cells #[Value.string x.1, .string x.2] 27)).heap.size = wr.heap.size + 1) := by show _ = _; simp
      have HST := Lib.hid (wst_step (p := p) hx1)
      have HWM := Lib.hid (wm_step (p := p) HS.out hx1 HK.out)
      have HNE := Lib.hid (hR.out.ne_new (Nat.le_refl _))
      have HNP := Lib.hid (HW1.out.ne_old HP1.out.lt)
      have HBX := Lib.hid (box_alloc wr x.1 x.2 27)
      clear hpa hx1 hba
      rw [← hbb.out] at HST HWM
      rw [← hys.out] at HWM
      clear hbb hys hR
      cases b with
      | true =>
        have Hs : Hid (true = wst (zs.take (i + 1)) p) := by show _ = _; rw [HST.out]; rfl
        have Hy : Hid (ys ++ [x] = wm (zs.take (i + 1)) p) := by show _ = _; rw [HWM.out]; simp
        clear hp0 hp1
        go_wp2_with (at_builtin; go_loud (refine wpList_pushI rfl _ _ 45 27 _ 2 32 rfl Try.underlying45 Try.infoPair rfl (by decide) w1.heap.size _ _ _ rfl HW1.out.own #[.string x.1, .string x.2] rfl (by simp [Value.oneCell']) (by rw [HSZ.out]; rfl) Hlen.out (by decide) HW1.out.grown.size ?_; intro g2 cap2 w2 hown2 hg2 hat2 hlt2; have HR2 := Lib.hid (Rw.push x HW1.out hown2 hg2); clear hown2 hg2 hat2 hlt2 ))
        exact ⟨⟨i + 1, true, ys ++ [x], by simp, rfl, hlt, Hs, Hy, HR2⟩, by show zs.length - ((i : Int) + 1).toNat < zs.length - ((i : Int)).toNat; omega⟩
      | false =>
        by_cases hk : klt p.1 x.1 = true
        · have Hs : Hid (true = wst (zs.take (i + 1)) p) := by show _ = _; rw [HST.out, hk]; rfl
          have Hy : Hid (ys ++ [p] ++ [x] = wm (zs.take (i + 1)) p) := by show _ = _; rw [HWM.out, hk]; simp
          have he : Go.Op.bytesLess p.1.toList x.1.toList = true := hk
          clear hk
          have Hlen3 : Hid ((ys ++ [p]).length + 1 ≤ 1073741825) := by have := Hlen2.out; show _ ≤ _; simp; omega
          go_wp2_with (first | (at_builtin; go_loud (refine wpList_pushI rfl _ _ 45 27 _ 2 32 rfl Try.underlying45 Try.infoPair rfl (by decide) w1.heap.size _ _ _ rfl HW1.out.own #[.string p.1, .string p.2] rfl (by simp [Value.oneCell']) (by rw [HSZ.out]; rfl) Hlen.out (by decide) HW1.out.grown.size ?_; intro g2 cap2 w2 hown2 hg2 hat2 hlt2; have HR2 := Lib.hid (Rw.push p HW1.out hown2 hg2); have q0 := hg2.cell HBX.out.c0 HNE.out; have q1 := hg2.cell HBX.out.c1 HNE.out; clear hown2 hg2 hat2 hlt2 hp0 hp1)) | (at_builtin; go_loud (refine wpList_pushI rfl _ _ 45 27 _ 2 32 rfl Try.underlying45 Try.infoPair rfl (by decide) w1.heap.size _ _ _ rfl HR2.out.own #[.string x.1, .string x.2] rfl (by simp [Value.oneCell']) rfl Hlen3.out (by decide) HR2.out.grown.size ?_; intro g2 cap2 w2 hown2 hg2 hat2 hlt2; have HR3 := Lib.hid (Rw.push x HR2.out hown2 hg2); clear hown2 hg2 hat2 hlt2 )))
          exact ⟨⟨i + 1, true, ys ++ [p] ++ [x], by simp, rfl, hlt, Hs, Hy, (by have h := HR3; rw [show (ys ++ [p]).length = ys.length + 1 from by simp] at h; exact h)⟩, by show zs.length - ((i : Int) + 1).toNat < zs.length - ((i : Int)).toNat; omega⟩
        · have Hs : Hid (false = wst (zs.take (i + 1)) p) := by show _ = _; rw [HST.out]; simp [hk]
          have Hy : Hid (ys ++ [x] = wm (zs.take (i + 1)) p) := by show _ = _; rw [HWM.out]; simp [hk]
          have he : Go.Op.bytesLess p.1.toList x.1.toList = false := by simpa [klt] using hk
          clear hk
          go_wp2_with (at_builtin; go_loud (refine wpList_pushI rfl _ _ 45 27 _ 2 32 rfl Try.underlying45 Try.infoPair rfl (by decide) w1.heap.size _ _ _ rfl HW1.out.own #[.string x.1, .string x.2] rfl (by simp [Value.oneCell']) (by rw [HSZ.out]; rfl) Hlen.out (by decide) HW1.out.grown.size ?_; intro g2 cap2 w2 hown2 hg2 hat2 hlt2; have HR2 := Lib.hid (Rw.push x HW1.out hown2 hg2); clear hown2 hg2 hat2 hlt2 ))
          exact ⟨⟨i + 1, false, ys ++ [x], by simp, rfl, hlt, Hs, Hy, HR2⟩, by show zs.length - ((i : Int) + 1).toNat < zs.length - ((i : Int)).toNat; omega⟩
    · obtain rfl : i = zs.length := by omega
      have HE := Lib.hid (wm_end HK.out)
      have h1 := hbb.out
      have h2 := hys.out
      rw [List.take_length] at h1 h2
      rw [← h1, ← h2, HZ.out] at HE
      clear h1 h2 hbb hys
      cases b with
      | true =>
        have HF : Hid (ys = wi xs p) := by show _ = _; have := HE.out; simpa using this
        go_wp2_with fail
        go_ret
        rw [← HF.out]
        exact ⟨_, rfl, hR.out.base (by rw [HPB.out]; exact HB1.out)⟩
      | false =>
        have HF : Hid (ys ++ [p] = wi xs p) := by show _ = _; have := HE.out; simpa using this
        go_wp2_with (at_builtin; go_loud (refine wpList_pushI rfl _ _ 45 27 _ 2 32 rfl Try.underlying45 Try.infoPair rfl (by decide) w1.heap.size _ _ _ rfl hR.out.own #[.string p.1, .string p.2] rfl (by simp [Value.oneCell']) rfl Hlen.out (by decide) hR.out.grown.size ?_; intro g2 cap2 w2 hown2 hg2 hat2 hlt2; have HR2 := Lib.hid (Rw.push p hR.out hown2 hg2); clear hown2 hg2 hat2 hlt2 ))
        go_ret
        rw [← HF.out]
        exact ⟨_, rfl, HR2.out.base (by rw [HPB.out]; exact HB1.out)⟩

set_option maxRecDepth 100000 in
set_option maxHeartbeats 3200000 in
theorem ROf_any {w : World} {v : Value} {xs : List Pr} (h : prL.In w v xs) (hl : xs.length ≤ 1000000) :
    Calls Try.prog 29 #[v] w fun e w' => ∃ u, e = .returned u ∧ Rw prL 27 w w' u (un [] xs) := by
  have HX := Lib.hid h
  obtain ⟨a, c, rfl, hx⟩ := h
  clear hx
  go_enter Try.func29, Try.ntmps29
  go_wp2_with fail
  go_loopw [3, 8] (fun u v wr => ∃ (i : Nat), v = .int .i64 i ∧ i ≤ xs.length ∧ Hid (Rw prL 27 w wr u (un [] (xs.take i))))
    (fun _ v _ => xs.length - (intOf v).toNat)
  case atStart => exact ⟨0, rfl, Nat.zero_le _, Rw.nil w⟩
  case round =>
    obtain ⟨i, rfl, hin, hR⟩ := hrel
    have ei : IntKind.i64.wrap ((i : Int) + 1) = (i : Int) + 1 := IntWalk.i64_in _ (by omega)
    by_cases hlt : i < xs.length
    · obtain ⟨p, hp1⟩ : ∃ p, xs[i]? = some p := ⟨xs[i], List.getElem?_eq_getElem hlt⟩
      obtain ⟨g2, off2, rfl, _, hpa⟩ := (HX.out.later hR.out.grown).cells hp1
      have k0 : wr.cell? ⟨g2, off2 + i * 2, none⟩ = some (.string p.1) := hpa 0 _ rfl
      have k1 : wr.cell? ⟨g2, off2 + i * 2 + 1, none⟩ = some (.string p.2) := hpa 1 _ rfl
      have hI1 : (i : Int) < ((xs.length : Nat) : Int) := by omega
      have hI2 : (0 : Int) ≤ (i : Int) := by omega
      have HRA := Lib.hid (hR.out.alloc (Obj.cells #[Value.string p.1, .string p.2] 27))
      have HB := Lib.hid (box_alloc wr p.1 p.2 27)
      have HSt := Lib.hid (un_step [] hp1)
      have HLn : Hid ((un [] (xs.take i)).length ≤ 1073741822) := by show _ ≤ _; have := un_len (xs.take i) []; rw [List.length_take] at this; simp at this; omega
      clear hpa hp1 hR
      have x0 := HB.out.c0
      have x1 := HB.out.c1
      obtain ⟨ua, uc, hu, _, _⟩ := HRA.out.slice
      subst hu
      go_wp2_with fail
      go_fit (With_row p HRA.out.told (un_sorted _ trivial) HLn.out)
      rintro e w2 ⟨u2, rfl, hr2⟩
      have H2 : Hid (Rw prL 27 w w2 u2 (un [] (xs.take (i + 1)))) := by show Rw _ _ _ _ _ _; rw [HSt.out]; exact hr2.base HRA.out.grown
      clear hr2 HRA HB x0 x1
      go_wp2_with fail
      exact ⟨⟨i + 1, by simp, hlt, H2⟩, by show xs.length - ((i : Int) + 1).toNat < xs.length - ((i : Int)).toNat; omega⟩
    · obtain rfl : i = xs.length := by omega
      have HF : Hid (Rw prL 27 w wr (u3) (un [] xs)) := by show Rw _ _ _ _ _ _; have h := hR.out; rw [List.take_length] at h; exact h
      clear hR
      go_wp2_with fail
      go_ret
      exact ⟨_, rfl, HF.out⟩

end Go.Proofs.Ytcbgnmolfdhnfaa

/- R3 -/
namespace Go.Proofs.Ytcbgnmolfdhnfaa
set_option linter.unusedVariables false
set_option linter.unusedSimpArgs false
open Go.RowKit

/-- A place's digit, from the highest on. -/
def dig (x i : Nat) : Nat := x / 16 ^ (15 - i) % 16
set_option maxRecDepth 100000 in
set_option maxHeartbeats 1600000 in
theorem rdigit_any (x i : Nat) (w : World) (hx : x < 18446744073709551616) (hi : i ≤ 15) : Calls Try.prog 84 #[.int .u64 x, .int .i64 i] w fun e w' => e = .returned (.int .i64 (dig x i : Nat)) ∧ w = w' := by
  obtain ⟨m, hm⟩ : ∃ m, m = 15 - i := ⟨_, rfl⟩
  have e15 : IntKind.i64.wrap (15 - (i : Int)) = (m : Int) := by rw [IntWalk.i64_in _ (by omega)]; omega
  have HD : Hid (dig x i = x / 16 ^ m % 16) := by rw [hm]; exact Lib.hid rfl
  have hm15 : m ≤ 15 := by omega
  clear hm
  go_enter Try.func84, Try.ntmps84
  go_wp2_with fail
  go_loopw [0, 7] (fun u v wr => ∃ j y : Nat, v = .int .i64 j ∧ j ≤ m ∧ u = .int .u64 y ∧ Hid (y = x / 16 ^ j) ∧ wr = w) (fun _ v _ => m - (intOf v).toNat)
  case atStart => exact ⟨0, x, rfl, Nat.zero_le _, rfl, Lib.hid (by simp), rfl⟩
  case round =>
    obtain ⟨j, y, rfl, hj, rfl, hy, rfl⟩ := hrel
    have ej : IntKind.i64.wrap ((j : Int) + 1) = (j : Int) + 1 := IntWalk.i64_in _ (by omega)
    have ed : (y : Int).tdiv 16 = ((y / 16 : Nat) : Int) := by rw [Int.tdiv_eq_ediv_of_nonneg (by omega)]; rfl
    have em : (y : Int).tmod 16 = ((y % 16 : Nat) : Int) := by rw [Int.tmod_eq_emod_of_nonneg (by omega)]; rfl
    have hyl : y < 18446744073709551616 := by rw [hy.out]; exact Nat.lt_of_le_of_lt (Nat.div_le_self _ _) hx
    have ew : IntKind.u64.wrap ((y / 16 : Nat) : Int) = ((y / 16 : Nat) : Int) := IntWalk.u64_in _ (by omega)
    have ew2 : IntKind.u64.wrap ((y % 16 : Nat) : Int) = ((y % 16 : Nat) : Int) := IntWalk.u64_in _ (by omega)
    have ew3 : IntKind.i64.wrap ((y % 16 : Nat) : Int) = ((y % 16 : Nat) : Int) := IntWalk.i64_in _ (by omega)
    by_cases hlt : j < m
    · have hN : Hid (y / 16 = x / 16 ^ (j + 1)) := by rw [hy.out, Nat.pow_succ, Nat.div_div_eq_div_mul]; exact Lib.hid rfl
      have hjI : (j : Int) < (m : Int) := by omega
      generalize y / 16 = z at *
      generalize y % 16 = z2 at *
      go_wp2_with fail
      exact ⟨⟨j + 1, z, by push_cast; rfl, by omega, rfl, hN, trivial⟩, by simp [intOf]; omega⟩
    · obtain rfl : j = m := by omega
      have hN : Hid (y % 16 = dig x i) := by rw [hy.out, HD.out]; exact Lib.hid rfl
      generalize y / 16 = z at *
      generalize y % 16 = z2 at *
      go_wp2_with fail
      go_ret
      exact ⟨by rw [hN.out]; rfl, rfl⟩

/-- The document's tree in memory. -/
structure RTr (s : Sd) (w : World) (tb : Nat) (R : List Pr) : Prop where
  a : w.cell? ⟨tb, 0, none⟩ = some (.int .u64 s.a)
  b : w.cell? ⟨tb, 1, none⟩ = some (.int .u64 s.b)
  l : ∃ v, w.cell? ⟨tb, 2, none⟩ = some v ∧ prL.In w v R
theorem RTr.later {s : Sd} {w w' : World} {tb : Nat} {R : List Pr} (h : RTr s w tb R) (hb : Below w.heap.size w w') : RTr s w' tb R := by
  obtain ⟨v, hv, hl⟩ := h.l
  exact ⟨cell_later hb h.a, cell_later hb h.b, v, cell_later hb hv, hl.later hb⟩
/-- The same, of which it is known that it lies at B and above. -/
structure RAt (s : Sd) (w : World) (B tb : Nat) (R : List Pr) : Prop where
  a : w.cell? ⟨tb, 0, none⟩ = some (.int .u64 s.a)
  b : w.cell? ⟨tb, 1, none⟩ = some (.int .u64 s.b)
  l : ∃ v, w.cell? ⟨tb, 2, none⟩ = some v ∧ prL.In w v R ∧ LowV B v
  lo : B ≤ tb
theorem RAt.tr {s : Sd} {w : World} {B tb : Nat} {R : List Pr} (h : RAt s w B tb R) : RTr s w tb R := by
  obtain ⟨v, hv, hl, _⟩ := h.l
  exact ⟨h.a, h.b, v, hv, hl⟩
theorem in_keep {α : Type} {I : Lay α} {w w' : World} {B : Nat} {v : Value} {l : List α} (h : I.In w v l) (hv : LowV B v) (hs : w.heap.size ≤ w'.heap.size) (hb : ∀ k, B ≤ k → k < w.heap.size → w'.heap[k]? = w.heap[k]?) : I.In w' v l := by
  obtain ⟨a, c, rfl, h1, h2, h⟩ := h
  refine ⟨a, c, rfl, h1, h2, h.imp id ?_⟩
  rintro ⟨g, off, rfl, hg, h⟩
  exact ⟨g, off, rfl, Nat.lt_of_lt_of_le hg hs, h.block (hb g (hv g off _ c rfl) hg)⟩
theorem RAt.keep {s : Sd} {w w' : World} {B tb : Nat} {R : List Pr} (h : RAt s w B tb R) (hs : w.heap.size ≤ w'.heap.size) (hb : ∀ k, B ≤ k → k < w.heap.size → w'.heap[k]? = w.heap[k]?) : RAt s w' B tb R := by
  obtain ⟨v, hv, hl, hlo⟩ := h.l
  have e := hb tb h.lo (World.block_lt_of_cell? w _ hv)
  exact ⟨(World.cell?_of_block (a := ⟨tb, 0, none⟩) e).trans h.a, (World.cell?_of_block (a := ⟨tb, 1, none⟩) e).trans h.b, ⟨v, (World.cell?_of_block (a := ⟨tb, 2, none⟩) e).trans hv, in_keep hl hlo hs hb, hlo⟩, h.lo⟩
theorem RAt.later {s : Sd} {w w' : World} {B tb : Nat} {R : List Pr} (h : RAt s w B tb R) (hb : Below w.heap.size w w') : RAt s w' B tb R := h.keep hb.size fun k _ hk => hb.block k hk
theorem RAt.set {s : Sd} {w : World} {B tb g o : Nat} {v : Value} {R : List Pr} (h : RAt s w B tb R) (hg : g < B) : RAt s (w.setCell ⟨g, o, none⟩ v) B tb R := h.keep (by simp [World.setCell]) fun k hk _ => heap_setCell_other _ _ _ _ (by show k ≠ g; omega)
def MadeR (s : Sd) (R : List Pr) (w : World) (e : Ending) (w' : World) : Prop := ∃ tb, e = .returned (.pointer (some ⟨tb, 0, none⟩)) ∧ RAt s w' w.heap.size tb R ∧ Below w.heap.size w w'

set_option maxRecDepth 100000 in
set_option maxHeartbeats 3200000 in
theorem ROfT_at {s : Sd} {w : World} {v : Value} {l : List Pr} (h : prL.In w v l) (hl : l.length ≤ 1000000) :
    Calls Try.prog 22 #[.agg #[.int .u64 s.a, .int .u64 s.b], v] w (MadeR s (un [] l) w) := by
  have HIn := Lib.hid h
  obtain ⟨a, c, rfl, _⟩ := h
  have HB := Lib.hid (below_alloc w (.cells #[.int .u64 s.a, .int .u64 s.b] 24))
  have k0 : (w.alloc (.cells #[.int .u64 s.a, .int .u64 s.b] 24)).cell? ⟨w.heap.size, 0, none⟩ = some (.int .u64 s.a) := by go_simp
  have k1 : (w.alloc (.cells #[.int .u64 s.a, .int .u64 s.b] 24)).cell? ⟨w.heap.size, 1, none⟩ = some (.int .u64 s.b) := by go_simp
  go_enter Try.func22, Try.ntmps22
  go_upto_region 1 with fail
  generalize w.alloc (.cells #[.int .u64 s.a, .int .u64 s.b] 24) = V at *
  have HOf := Lib.hid (ROf_any (HIn.out.later (below_drew HB.out)) hl)
  obtain ⟨N, hN⟩ : ∃ N, N = w.heap.size := ⟨_, rfl⟩
  rw [← hN] at k0 k1 ⊢
  have HNw := Lib.hid hN
  clear hN
  go_region_held3 (fun W => W.cell? ⟨N, 0, none⟩ = some (.int .u64 s.a) ∧ W.cell? ⟨N, 1, none⟩ = some (.int .u64 s.b)) (go_keep)
    (first
      | (go_at_call 29; (with_reducible refine HOf.out.mono ?_); rintro e w2 ⟨u2, rfl, hr2⟩; have hbd : Below V.heap.size V w2 := (below_drew1 V).trans hr2.grown; have HIn2 := Lib.hid hr2.told; have HLo2 : Hid (LowV w.heap.size u2) := Lib.hid (fun g off n c hv => Nat.le_trans HB.out.size (hr2.low g off n c hv)); obtain ⟨ua, uc, rfl, _, _⟩ := hr2.slice; have z0 := cell_later hbd k0; have z1 := cell_later hbd k1; have HB2 := Lib.hid hbd; clear hbd hr2))
  all_goals
    have HT : Hid (RAt s (w2.alloc (.cells #[.int .u64 s.a, .int .u64 s.b, .slice ua (un [] l).length uc] 47)) w.heap.size w2.heap.size (un [] l)) := by
      refine Lib.hid ⟨by go_simp, by go_simp, ⟨.slice ua (un [] l).length uc, by go_simp, HIn2.out.later (below_alloc _ _), HLo2.out⟩, Nat.le_trans HB.out.size HB2.out.size⟩
    have HBe : Hid (Below w.heap.size w (w2.alloc (.cells #[.int .u64 s.a, .int .u64 s.b, .slice ua (un [] l).length uc] 47))) := by
      have h1 := HB.out.trans (HB2.out.mono HB.out.size)
      exact Lib.hid (h1.alloc h1.size _)
    go_wp2_with fail
    go_ret
    exact ⟨_, rfl, HT.out, HBe.out⟩
theorem ROfT_any {s : Sd} {w : World} {v : Value} {l : List Pr} (h : prL.In w v l) (hl : l.length ≤ 1000000) :
    Calls Try.prog 22 #[.agg #[.int .u64 s.a, .int .u64 s.b], v] w fun e w' => ∃ tb, e = .returned (.pointer (some ⟨tb, 0, none⟩)) ∧ RTr s w' tb (un [] l) ∧ Below w.heap.size w w' :=
  (ROfT_at h hl).mono fun e w' ⟨tb, he, ht, hb⟩ => ⟨tb, he, ht.tr, hb⟩
end Go.Proofs.Ytcbgnmolfdhnfaa

/- R4 -/
namespace Go.Proofs.Ytcbgnmolfdhnfaa
set_option linter.unusedVariables false
set_option linter.unusedSimpArgs false
open Go.RowKit

def intL : Lay Int := ⟨fun x => [.int .i64 x], 1, fun _ => rfl, by intro x u hu; simp at hu; subst hu; rfl⟩
/-- Do a place's first digits lead along a path? -/
def okT (x : Nat) (path : List Int) : Nat → Bool
  | 0 => true
  | i + 1 => okT x path i && decide ((dig x i : Int) = path.getD i 0)
def okP (x : Nat) (path : List Int) : Bool := okT x path path.length
noncomputable def Sd.inR (s : Sd) (path : List Int) (R : List Pr) : List Pr := R.filter fun p => okP (s.at p.1) path
theorem inR_step {s : Sd} {path : List Int} {R : List Pr} {i : Nat} {p : Pr} (h : R[i]? = some p) : s.inR path (R.take (i + 1)) = if okP (s.at p.1) path = true then s.inR path (R.take i) ++ [p] else s.inR path (R.take i) := by
  unfold Sd.inR
  rw [List.take_add_one, h, List.filter_append]
  by_cases hp : okP (s.at p.1) path = true <;> simp [hp]
theorem inR_len (s : Sd) (path : List Int) (R : List Pr) (i : Nat) : (s.inR path (R.take i)).length ≤ i := by
  unfold Sd.inR
  exact Nat.le_trans (List.length_filter_le _ _) (List.length_take_le _ _)

set_option maxRecDepth 100000 in
set_option maxHeartbeats 6400000 in
theorem In_any {s : Sd} {w : World} {tb : Nat} {R : List Pr} {v : Value} {path : List Int} (hs : s.Ok) (ht : RTr s w tb R) (hR : R.length ≤ 1000000) (hsl : Slim R) (hp : intL.In w v path) (hpl : path.length ≤ 10) :
    Calls Try.prog 52 #[.pointer (some ⟨tb, 0, none⟩), v] w fun e w' => ∃ u, e = .returned u ∧ Rw prL 27 w w' u (s.inR path R) := by
  obtain ⟨rv, hrv, hrl⟩ := ht.l
  obtain ⟨ra, rc, rfl, _, _⟩ := hrl.slice
  obtain ⟨pa, pc, rfl, _, _⟩ := hp.slice
  have HT := Lib.hid ht
  have HL := Lib.hid hrl
  have HP := Lib.hid hp
  have HS := Lib.hid hs
  have HSl := Lib.hid hsl
  obtain ⟨n, hn⟩ : ∃ n, n = R.length := ⟨_, rfl⟩
  obtain ⟨m, hm⟩ : ∃ m, m = path.length := ⟨_, rfl⟩
  rw [← hn] at hrv hR
  rw [← hn] at HL
  rw [← hm] at HP hpl ⊢
  have HN := Lib.hid hn
  have HM := Lib.hid hm
  clear ht hrl hp hs hsl hn hm
  go_enter Try.func52, Try.ntmps52
  go_wp2_with fail
  have HR0 : Hid (Rw prL 27 w w (.slice none 0 0) (s.inR path (R.take 0))) := Lib.hid (Rw.nil w)
  clear hrv
  go_loopw [5, 17] (fun u v wr => ∃ i : Nat, v = .int .i64 i ∧ i ≤ n ∧ Hid (Rw prL 27 w wr u (s.inR path (R.take i)))) (fun _ v _ => n - (intOf v).toNat)
  case atStart => exact ⟨0, rfl, Nat.zero_le _, HR0⟩
  case round =>
    obtain ⟨i, rfl, hin, hrw⟩ := hrel
    clear HR0
    obtain ⟨ad, cc, hu, _, _⟩ := hrw.out.slice
    subst hu
    have ei : IntKind.i64.wrap ((i : Int) + 1) = (i : Int) + 1 := IntWalk.i64_in _ (by omega)
    by_cases hlt : i < n
    · obtain ⟨p, hp1⟩ : ∃ p, R[i]? = some p := ⟨R[i]'(by rw [← HN.out]; exact hlt), List.getElem?_eq_getElem _⟩
      obtain ⟨g2, off2, rfl, hcl, hpa⟩ := (HL.out.later hrw.out.grown).cells hp1
      clear hcl
      have k0 : wr.cell? ⟨g2, off2 + i * 2, none⟩ = some (.string p.1) := hpa 0 _ rfl
      have k1 : wr.cell? ⟨g2, off2 + i * 2 + 1, none⟩ = some (.string p.2) := hpa 1 _ rfl
      have hI1 : (i : Int) < (n : Int) := by omega
      have hI2 : (0 : Int) ≤ (i : Int) := by omega
      have Hst := Lib.hid (inR_step (s := s) (path := path) hp1)
      have Hln : Hid ((s.inR path (R.take i)).length + 1 ≤ 1073741825) := by show _ ≤ _; have := inR_len s path R i; omega
      have HKs : Hid (p.1.size ≤ 140737488355328) := by show _ ≤ _; have := HSl.out p (List.mem_of_getElem? hp1); omega
      generalize s.inR path (R.take i) = ys at *
      obtain ⟨k, x⟩ := p
      simp only at k0 k1
      have HW1 := Lib.hid (hrw.out.alloc (Obj.cells #[Value.string k, .string x] 27))
      have HBx := Lib.hid (box_alloc wr k x 27)
      clear hpa hp1 hrw
      go_upto_region 5 with fail
      clear k0 k1
      generalize wr.alloc (Obj.cells #[Value.string k, .string x] 27) = W1 at *
      generalize wr.heap.size = bx at *
      have HT1 := HT.out.later HW1.out.grown
      have t0 := HT1.a
      have t1 := HT1.b
      have b0 := HBx.out.c0
      have HC := Lib.hid (RPlace_any (w := W1.drew) (s := k) HS.out.1 HS.out.2 HKs.out)
      clear HT1
      go_region_held3 (fun W => W.cell? ⟨tb, 0, none⟩ = some (.int .u64 s.a) ∧ W.cell? ⟨tb, 1, none⟩ = some (.int .u64 s.b) ∧ W.cell? ⟨bx, 0, none⟩ = some (.string k)) (go_keep)
        (first
          | (go_at_call 16; (with_reducible refine HC.out.mono ?_); rintro e w3 ⟨rfl, hb3⟩; have hbd : Below W1.heap.size W1 w3 := (below_drew1 W1).trans hb3; have y0 := cell_later hbd t0; have y1 := cell_later hbd t1; have y2 := cell_later hbd b0; have HW3 := Lib.hid (HW1.out.below hbd); have HB3 := Lib.hid (HBx.out.later hbd); clear hbd hb3))
      all_goals
        obtain ⟨X, hX⟩ : ∃ X, X = s.at k := ⟨_, rfl⟩
        have hXe : sumN s.a s.b (Wi.sb k) = X := hX.symm
        have HX : Hid (X = s.at k) := Lib.hid hX
        have HXl : Hid (X < 18446744073709551616) := Lib.hid (by rw [hX]; exact Sd.at_lt HS.out k)
        rw [hXe]
        clear hX hXe y0 y1 y2 t0 t1 b0 HC
        have HP3 := Lib.hid (HP.out.later HW3.out.grown)
        go_wp2_with fail
        go_loopw [9, 30] (fun u v wr => ∃ (j : Nat) (b : Bool), v = .int .i64 j ∧ j ≤ m ∧ u = .bool b ∧ Hid (b = okT X path j) ∧ wr = w3) (fun _ v _ => m - (intOf v).toNat)
        case atStart => exact ⟨0, true, rfl, Nat.zero_le _, rfl, Lib.hid rfl, rfl⟩
        case round =>
          obtain ⟨j, b, rfl, hj, rfl, hb, rfl⟩ := hrel
          have ej : IntKind.i64.wrap ((j : Int) + 1) = (j : Int) + 1 := IntWalk.i64_in _ (by omega)
          by_cases hjl : j < m
          · obtain ⟨q, hq⟩ : ∃ q, path[j]? = some q := ⟨path[j]'(by rw [← HM.out]; exact hjl), List.getElem?_eq_getElem _⟩
            obtain ⟨g3, off3, rfl, hcl, hqa⟩ := HP3.out.cells hq
            clear hcl
            have q0 : wr.cell? ⟨g3, off3 + j, none⟩ = some (.int .i64 q) := by
              have h := hqa 0 _ rfl
              simpa [intL] using h
            have HQ : Hid (path.getD j 0 = q) := Lib.hid (by rw [List.getD_eq_getElem?_getD, hq]; rfl)
            have hjI : (j : Int) < (m : Int) := by omega
            have hj0 : (0 : Int) ≤ (j : Int) := by omega
            clear hqa hq
            cases b
            · have HNx : Hid (false = okT X path (j + 1)) := Lib.hid (by rw [okT, ← hb.out]; rfl)
              go_wp2_with fail
              exact ⟨⟨j + 1, false, by push_cast; rfl, by omega, rfl, HNx, trivial⟩, by simp [intOf]; omega⟩
            · have HDg := Lib.hid (rdigit_any X j wr HXl.out (by omega))
              obtain ⟨D, hD⟩ : ∃ D, D = dig X j := ⟨_, rfl⟩
              rw [← hD] at HDg
              have HDd := Lib.hid hD
              clear hD
              by_cases hDq : (D : Int) = q
              · have hDb : ((D : Int) == q) = true := by simpa using hDq
                have HNx : Hid (true = okT X path (j + 1)) := Lib.hid (by rw [okT, ← hb.out, HQ.out, ← HDd.out, decide_eq_true hDq]; rfl)
                go_wp2_with fail
                go_fit HDg.out
                rintro e w' ⟨rfl, rfl⟩
                go_wp2_with fail
                exact ⟨⟨j + 1, true, by push_cast; rfl, by omega, rfl, HNx, trivial⟩, by simp [intOf]; omega⟩
              · have hDb : ((D : Int) == q) = false := by simpa using hDq
                have HNx : Hid (false = okT X path (j + 1)) := Lib.hid (by rw [okT, ← hb.out, HQ.out, ← HDd.out, decide_eq_false hDq]; rfl)
                go_wp2_with fail
                go_fit HDg.out
                rintro e w' ⟨rfl, rfl⟩
                go_wp2_with fail
                exact ⟨⟨j + 1, false, by push_cast; rfl, by omega, rfl, HNx, trivial⟩, by simp [intOf]; omega⟩
          · obtain rfl : j = m := by omega
            have HOk : Hid (b = okP (s.at k) path) := Lib.hid (by unfold okP; rw [← HM.out, ← HX.out]; exact hb.out)
            clear hb
            have e0 := HB3.out.c0
            have e1 := HB3.out.c1
            cases b
            · have HN2 : Hid (Rw prL 27 w wr (.slice ad ys.length cc) (s.inR path (R.take (i + 1)))) := by
                have e := Hst.out
                rw [if_neg (by rw [← HOk.out]; decide)] at e
                exact Lib.hid (by rw [e]; exact HW3.out)
              clear e0 e1
              go_wp2_with fail
              exact ⟨⟨i + 1, by simp, hlt, HN2⟩, by show n - ((i : Int) + 1).toNat < n - ((i : Int)).toNat; omega⟩
            · have HBB := Lib.hid HW3.out.grown.size
              go_wp2_with (at_builtin; go_loud (refine wpList_pushI rfl _ _ 29 27 _ 2 32 rfl Try.underlying29 Try.infoPair rfl (by decide) w.heap.size ys.length _ (prL.all ys) rfl HW3.out.own #[.string k, .string x] rfl (by simp [Value.oneCell']) rfl Hln.out (by decide) HBB.out ?_; intro g4 cap4 w4 hown4 hg4 hat4 hlt4; have HR4 := Lib.hid (Rw.push (I := prL) (k, x) HW3.out hown4 hg4); clear hown4 hg4 hat4 hlt4))
              have HN2 : Hid (Rw prL 27 w w4 (.slice (some ⟨g4, 0, none⟩) (ys.length + 1) cap4) (s.inR path (R.take (i + 1)))) := by
                have e := Hst.out
                rw [if_pos (by rw [← HOk.out])] at e
                exact Lib.hid (by rw [e]; exact HR4.out)
              exact ⟨⟨i + 1, by simp, hlt, HN2⟩, by show n - ((i : Int) + 1).toNat < n - ((i : Int)).toNat; omega⟩
    · obtain rfl : i = n := by omega
      have HE : Hid (s.inR path (R.take i) = s.inR path R) := Lib.hid (by rw [HN.out, List.take_length])
      rw [HE.out] at hrw ⊢
      go_wp2_with fail
      go_ret
      exact ⟨_, rfl, hrw.out⟩
end Go.Proofs.Ytcbgnmolfdhnfaa

/- R5 -/
namespace Go.Proofs.Ytcbgnmolfdhnfaa.Wi
set_option linter.unusedVariables false
set_option linter.unusedSimpArgs false
open Go.Proofs.Ytcbgnmolfdhnfaa
open Go.RowKit

set_option maxHeartbeats 1600000 in
theorem RSigned_any (p : Option Addr) (n c : Nat) (xs : List Int) (v : Int) (w : World) (hx : xs.length = n) (hb : Lib.BytesIn w p n xs) (hp : p = none → n = 0 ∧ c = 0) (h1 : n + 9 ≤ 140737488355328) :
    Calls Try.prog 54 #[.slice p n c, .int .i64 v] w (Made w.heap.size w (xs ++ be (u64 v) 8)) := by
  have Hx := Lib.hid hx
  have Hb := Lib.hid hb
  have hU := wrap_u64 v
  have hul := u64_lt v
  generalize u64 v = u at *
  clear hx hb
  go_enter Try.func54, Try.ntmps54
  go_wp2_with fail
  go_loopw [5, 6, 9] (fun s i j wr => ∃ (k m q d : Nat) (ys : List Int) (r : Option Addr), k ≤ 8 ∧ j = .int .i64 k ∧ m < 18446744073709551616 ∧ i = .int .u64 m ∧ s = .slice r q d ∧ Lib.BytesIn wr r q ys ∧ Hid (ys.length = q) ∧ q = k ∧ (r = none → q = 0 ∧ d = 0) ∧ Below w.heap.size w wr ∧ Hid (be m (8 - k) ++ ys = be u 8))
    (fun _ _ j _ => (8 - (intOf j).toNat))
  case atStart => exact ⟨0, u, 0, 0, [], none, by omega, rfl, hul, rfl, rfl, Lib.BytesIn.nil _ _ _, rfl, rfl, fun _ => ⟨rfl, rfl⟩, Below.refl _ _, by show _ ++ [] = _; rw [List.append_nil]⟩
  case round =>
    obtain ⟨k, m, q, d, ys, r, hk, rfl, hm, rfl, rfl, hys, Hq, hqk, hr, hbel, He⟩ := hrel
    have hBw : w.heap.size ≤ wr.heap.size := hbel.size
    by_cases hlt : k < 8
    · have hst := be_snoc m (7 - k)
      have He2 : Hid (be (m / 256) (7 - k) ++ (((m : Int) % 256) :: ys) = be u 8) := by
        show _ = _
        rw [← He.out, show 8 - k = 7 - k + 1 from by omega, hst]; simp
      have hin1 := later hys ((Below.refl wr.heap.size wr).alloc (Nat.le_refl _) (.cells #[.int .u8 ((m : Int) % 256)] 5))
      have Hqk := Lib.hid hqk
      have hq8 : q ≤ 8 := by omega
      have h8 : Hid (8 - (k + 1) = 7 - k) := by show _ = _; omega
      clear hst He hys hqk
      go_wp2_with (at_builtin; go_loud (refine wpList_push rfl _ _ rfl w.heap.size wr.heap.size 1 1 [(m : Int) % 256] rfl (own_lit w.heap.size _ [(m : Int) % 256] rfl hBw (by simp)) r q d ys rfl hin1 Hq.out hr (by omega) (by simp; omega) ?_; intro g2 c2 w2 hown2 hgrow2))
      go_roundw
      case rel => exact ⟨k + 1, m / 256, 1 + q, c2, _, some ⟨g2, 0, none⟩, by omega, by go_num, by omega, by go_num, rfl, owns_in hown2, owns_len hown2, by have := Hqk.out; omega, (by intro h; cases h), made_grown (hbel.alloc hBw _) hgrow2 (by simp; omega) hBw, by show _ = _; rw [h8.out]; exact He2.out⟩
      case measure => simp [intOf]; omega
    · have He2 : Hid (ys = be u 8) := by
        show _ = _
        rw [← He.out, show 8 - k = 0 from by omega]; rfl
      have hq8 : q ≤ 8 := by omega
      have hb0 := (Below.refl wr.heap.size wr).alloc (Nat.le_refl _) (.cells #[] 5)
      have hin0 := later Hb.out (hbel.trans (hb0.mono hBw))
      have Hys := Lib.hid hys
      have Hfin : Hid (xs ++ ys = xs ++ be u 8) := by show _ = _; rw [He2.out]
      clear hys He hqk
      go_wp2_with (first
        | (at_builtin; (refine wpList_push rfl (.tmp 20) (.tmp 21) rfl wr.heap.size wr.heap.size 0 0 [] rfl (own_lit wr.heap.size _ [] rfl (Nat.le_refl _) (by simp)) p n c xs rfl hin0 Hx.out hp (by omega) (by simp) ?_; intro g1 c1 w1 hown1 hgrow1; have hbel1 := made_grown hb0 hgrow1 (by simp) (Nat.le_refl _); have hat1 := owns_at hown1; have hys2 := later Hys.out hbel1; simp only [Nat.zero_add, List.nil_append] at hown1))
        | (at_builtin; (refine wpList_push rfl (.tmp 22) (.tmp 23) rfl wr.heap.size g1 n c1 xs rfl hown1 r q d ys rfl hys2 Hq.out hr (by omega) hbel1.size ?_; intro g3 c3 w3 hown3 hgrow3)))
      go_ret
      rw [Hfin.out] at hown3
      exact ⟨g3, _, c3, rfl, owns_weaken hown3 hBw, hbel.trans ((made_grown hbel1 hgrow3 hbel1.size hat1.1).mono hBw)⟩
end Go.Proofs.Ytcbgnmolfdhnfaa.Wi

/- R6 -/
namespace Go.Proofs.Ytcbgnmolfdhnfaa
set_option linter.unusedVariables false
set_option linter.unusedSimpArgs false
open Go.RowKit

theorem u64_of2 (d : Nat) (h : d < 18446744073709551616) : Wi.u64 (IntKind.i64.wrap (d : Int)) = d := by
  rw [IntWalk.i64_left]; exact u64_of d h
theorem okT_app (x : Nat) (path : List Int) (d : Int) : ∀ i, i ≤ path.length → okT x (path ++ [d]) i = okT x path i
  | 0, _ => rfl
  | i + 1, h => by
    rw [okT, okT, okT_app x path d i (by omega), List.getD_eq_getElem?_getD, List.getD_eq_getElem?_getD, List.getElem?_append_left (by omega)]
theorem okP_app (x : Nat) (path : List Int) (d : Int) : okP x (path ++ [d]) = (okP x path && decide ((dig x path.length : Int) = d)) := by
  unfold okP
  rw [List.length_append, List.length_singleton, okT, okT_app x path d _ (Nat.le_refl _), List.getD_eq_getElem?_getD, List.getElem?_append_right (Nat.le_refl _)]
  simp
theorem dig_dgt (s : Sd) (p : Pr) {n m : Nat} (h : m + (n + 1) = 4) : dig (s.at p.1) m = dgt n (s.mk' p) := by
  unfold dig dgt Sd.mk'
  have e : 15 - m = 12 + n := by omega
  rw [e, Nat.pow_add, ← Nat.div_div_eq_div_mul]
/-- The pairs of a part as the program has them. -/
noncomputable def Sd.mp (s : Sd) (path : List Int) (R : List Pr) : List Pl := (s.inR path R).map s.mk'
theorem mp_app (s : Sd) (path : List Int) (R : List Pr) {n i : Nat} (h : path.length + (n + 1) = 4) : s.mp (path ++ [(i : Int)]) R = sub n i (s.mp path R) := by
  unfold Sd.mp Sd.inR sub
  rw [List.filter_map, List.filter_filter]
  congr 1
  apply List.filter_congr
  intro p _
  rw [okP_app, dig_dgt s p h, Bool.and_comm]
  congr 1
  simp [Int.natCast_inj]
theorem mp_len (s : Sd) (path : List Int) (R : List Pr) : (s.mp path R).length ≤ R.length := by
  unfold Sd.mp Sd.inR
  rw [List.length_map]
  exact List.length_filter_le _ _
def DigOk (s : Sd) (n : Nat) : Prop := ∀ (w : World) (tb : Nat) (R : List Pr) (v : Value) (path : List Int), RTr s w tb R → R.length ≤ 100000 → Slim R → intL.In w v path → path.length + n = 4 →
  Calls Try.prog 24 #[.pointer (some ⟨tb, 0, none⟩), v] w fun e w' => e = .returned (.int .u64 (s.tr n (s.mp path R) : Nat)) ∧ Below w.heap.size w w'

set_option maxRecDepth 100000 in
set_option maxHeartbeats 1200000 in
theorem dig_leaf {s : Sd} (hs : s.Ok) : DigOk s 0 := by
  intro w tb R v path ht hR hsl hp hpl
  have HIn := Lib.hid (In_any hs ht (by omega) hsl hp (by omega))
  obtain ⟨pa, pc, rfl, _, _⟩ := hp.slice
  have hpl4 : path.length = 4 := by omega
  rw [hpl4]
  rw [hpl4] at HIn
  have HT := Lib.hid ht
  have HS := Lib.hid hs
  have HL0 : Hid ((s.inR path R).length ≤ 100000) := by show _ ≤ _; have := mp_len s path R; unfold Sd.mp at this; rw [List.length_map] at this; omega
  have HSl : Hid (Slim (s.inR path R)) := Lib.hid fun p hp => hsl p (List.mem_filter.1 hp).1
  have HMp : Hid (s.mp path R = (s.inR path R).map s.mk') := Lib.hid rfl
  generalize s.mp path R = S at *
  generalize s.inR path R = L at *
  obtain ⟨n, hn⟩ : ∃ n, n = L.length := ⟨_, rfl⟩
  rw [← hn] at HL0
  have HN := Lib.hid hn
  have hl0 := HL0.out
  clear ht hp hpl hpl4 hsl hn
  go_enter Try.func24, Try.ntmps24
  go_wp2_with fail
  go_fit HIn.out
  rintro e w1 ⟨u1, rfl, hr1⟩
  obtain ⟨la, lc, rfl, hlc, _⟩ := hr1.slice
  have HB1 := Lib.hid hr1.grown
  have HLi := Lib.hid hr1.told
  rw [← HN.out] at HLi hlc ⊢
  clear hr1 HIn
  by_cases hn0 : n = 0
  · subst hn0
    have hL : L = [] := List.eq_nil_of_length_eq_zero HN.out.symm
    have HE : Hid (s.tr 0 S = 0) := Lib.hid (by rw [HMp.out, hL]; rfl)
    go_wp2_with fail
    go_ret
    exact ⟨by rw [HE.out]; rfl, HB1.out⟩
  · have hnI : ¬ (n : Int) = 0 := by omega
    have hnb : ((n : Int) == 0) = false := by simpa using hnI
    have HNu := Lib.hid (Wi.RNumber_any none 0 0 [] (n : Int) w1 rfl (fun h => by cases h) (fun _ => ⟨rfl, rfl⟩) (by omega) (by omega))
    go_wp2_with fail
    go_fit HNu.out
    rintro e w2 ⟨g2, n2, c2, rfl, hown2, hb2⟩
    have HSN : Hid (S.length = n) := Lib.hid (by rw [HMp.out, List.length_map, HN.out])
    have HQ0 : Hid (Lib.BytesIn w2 (some ⟨g2, 0, none⟩) n2 (Wi.num n ++ s.sums (S.take 0)) ∧ (Wi.num n ++ s.sums (S.take 0)).length = n2 ∧ Below w1.heap.size w1 w2) := by
      have e0 : Wi.num n ++ s.sums (S.take 0) = [] ++ Wi.num (n : Int).toNat := by simp [Sd.sums]
      rw [e0]
      exact Lib.hid ⟨Wi.owns_in hown2, Wi.owns_len hown2, hb2⟩
    clear hown2 hb2 HNu
    go_wp2_with fail
    go_loopw [6, 24] (fun u v wr => ∃ (j g q c : Nat), v = .int .i64 j ∧ j ≤ n ∧ u = .slice (some ⟨g, 0, none⟩) q c ∧ Hid (Lib.BytesIn wr (some ⟨g, 0, none⟩) q (Wi.num n ++ s.sums (S.take j)) ∧ (Wi.num n ++ s.sums (S.take j)).length = q ∧ Below w1.heap.size w1 wr)) (fun _ v _ => n - (intOf v).toNat)
    case atStart => exact ⟨0, g2, n2, c2, rfl, Nat.zero_le _, rfl, HQ0⟩
    case round =>
      obtain ⟨j, g, q, c, rfl, hj, rfl, hst⟩ := hrel
      clear HQ0
      have ej : IntKind.i64.wrap ((j : Int) + 1) = (j : Int) + 1 := IntWalk.i64_in _ (by omega)
      have HTr := Lib.hid (HT.out.later (HB1.out.trans (hst.out.2.2.mono HB1.out.size)))
      by_cases hlt : j < n
      · obtain ⟨p, hp⟩ : ∃ p, L[j]? = some p := ⟨L[j]'(by rw [← HN.out]; exact hlt), List.getElem?_eq_getElem _⟩
        obtain ⟨g3, off3, rfl, hcl, hpa⟩ := (HLi.out.later hst.out.2.2).cells hp
        obtain ⟨k, x⟩ := p
        have k0 : wr.cell? ⟨g3, off3 + j * 2, none⟩ = some (.string k) := hpa 0 _ rfl
        have k1 : wr.cell? ⟨g3, off3 + j * 2 + 1, none⟩ = some (.string x) := hpa 1 _ rfl
        have hjI : (j : Int) < (n : Int) := by omega
        have hj0 : (0 : Int) ≤ (j : Int) := by omega
        have HSp := Lib.hid (HSl.out _ (List.mem_of_getElem? hp))
        have HStp : Hid (s.sums (S.take (j + 1)) = s.sums (S.take j) ++ Wi.be (sumN s.a s.b (pairB k x)) 8) := by
          have h : S[j]? = some (s.mk' (k, x)) := by rw [HMp.out, List.getElem?_map, hp]; rfl
          have e := s.sums_step h
          simp only [Sd.mk', Sd.pair] at e
          exact Lib.hid e
        have HLn : Hid (q ≤ 1000000000) := by
          refine Lib.hid ?_
          have h1 := Wi.num_le n (by omega)
          have h2 : (S.take j).length ≤ j := List.length_take_le _ _
          have h3 := hst.out.2.1
          rw [List.length_append, Sd.sums_len] at h3
          omega
        have HPl : Hid (sumN s.a s.b (pairB k x) < 18446744073709551616) := by
          have h := Sd.pair_lt HS.out HSp.out
          unfold Sd.pair at h
          exact Lib.hid h
        have HBx := Lib.hid (box_alloc wr k x 27)
        have hba := below_alloc wr (.cells #[.string k, .string x] 27)
        have HTx := Lib.hid (HTr.out.later hba)
        have HSx := Lib.hid (show Lib.BytesIn (wr.alloc (.cells #[.string k, .string x] 27)) (some ⟨g, 0, none⟩) q (Wi.num n ++ s.sums (S.take j)) ∧ (Wi.num n ++ s.sums (S.take j)).length = q ∧ Below w1.heap.size w1 (wr.alloc (.cells #[.string k, .string x] 27)) from ⟨in_later hst.out.1 hba, hst.out.2.1, hst.out.2.2.trans (hba.mono hst.out.2.2.size)⟩)
        clear hpa hp hcl hst HTr hba
        go_upto_region 10 with fail
        clear k0 k1
        generalize wr.alloc (.cells #[.string k, .string x] 27) = W at *
        generalize wr.heap.size = bx at *
        have t0 := HTx.out.a
        have t1 := HTx.out.b
        have b0 := HBx.out.c0
        have b1 := HBx.out.c1
        have HC1 := Lib.hid (RPair_big (w := W.drew) (k := k) (v := x) HS.out.1 HS.out.2 HSp.out)
        go_region_held3 (fun V => V.cell? ⟨tb, 0, none⟩ = some (.int .u64 s.a) ∧ V.cell? ⟨tb, 1, none⟩ = some (.int .u64 s.b) ∧ V.cell? ⟨bx, 0, none⟩ = some (.string k) ∧ V.cell? ⟨bx, 1, none⟩ = some (.string x)) (go_keep)
          (first
            | (go_at_call 18; (with_reducible refine HC1.out.mono ?_); rintro e w3 ⟨rfl, hb3⟩; have hbd : Below W.heap.size W w3 := (below_drew1 W).trans hb3; have y0 := cell_later hbd t0; have y1 := cell_later hbd t1; have y2 := cell_later hbd b0; have y3 := cell_later hbd b1; have HB3 := Lib.hid hbd; have HC2 := Lib.hid (Wi.RSigned_any (some ⟨g, 0, none⟩) q c (Wi.num n ++ s.sums (S.take j)) (IntKind.i64.wrap ((sumN s.a s.b (pairB k x) : Nat) : Int)) w3 HSx.out.2.1 (in_later HSx.out.1 hbd) (fun h => by cases h) (by have := HLn.out; omega)); clear hbd hb3)
            | (go_at_call 54; (with_reducible refine HC2.out.mono ?_); rintro e w4 ⟨g4, n4, c4, rfl, hown4, hb4⟩; have hbd4 : Below W.heap.size W w4 := HB3.out.trans (hb4.mono HB3.out.size); have x0 := cell_later hbd4 t0; have x1 := cell_later hbd4 t1; have x2 := cell_later hbd4 b0; have x3 := cell_later hbd4 b1; have HB4 := Lib.hid hbd4; have HO4 := Lib.hid hown4; clear hbd4 hb4 hown4))
        all_goals
          have HNx : Hid (Lib.BytesIn w4 (some ⟨g4, 0, none⟩) n4 (Wi.num n ++ s.sums (S.take (j + 1))) ∧ (Wi.num n ++ s.sums (S.take (j + 1))).length = n4 ∧ Below w1.heap.size w1 w4) := by
            have h := HO4.out
            rw [u64_of2 _ HPl.out, List.append_assoc, ← HStp.out] at h
            exact Lib.hid ⟨Wi.owns_in h, Wi.owns_len h, HSx.out.2.2.trans (HB4.out.mono HSx.out.2.2.size)⟩
          clear x0 x1 x2 x3 y0 y1 y2 y3 t0 t1 b0 b1 HC1 HC2 HO4
          go_wp2_with fail
          exact ⟨⟨j + 1, g4, n4, c4, by push_cast; rfl, by omega, rfl, HNx⟩, by simp [intOf]; omega⟩
      · obtain rfl : j = n := by omega
        have hS : S.take j = S := List.take_of_length_le (by have := HSN.out; omega)
        rw [hS] at hst
        have HLf : Hid (Wi.num j ++ s.sums S = s.leafB S) := by refine Lib.hid ?_; unfold Sd.leafB; rw [HSN.out]
        rw [HLf.out] at hst
        have t0 := HTr.out.a
        have t1 := HTr.out.b
        have HLn : Hid (q ≤ 140737488355328) := by
          refine Lib.hid ?_
          have h1 := Wi.num_le j (by omega)
          have h3 := hst.out.2.1
          rw [← HLf.out, List.length_append, Sd.sums_len, HSN.out] at h3
          omega
        have HC := Lib.hid (RSum_any (c := c) HS.out.1 HS.out.2 hst.out.1 hst.out.2.1 (s.oct_leaf S (by rw [HSN.out]; exact hl0)) HLn.out)
        have HE : Hid (s.tr 0 S = sumN s.a s.b (s.leafB S)) := Lib.hid (s.tr_leaf (fun e => by have h := HSN.out; rw [e] at h; exact hn0 h.symm))
        have HBr : Hid (Below w.heap.size w wr) := Lib.hid (HB1.out.trans (hst.out.2.2.mono HB1.out.size))
        clear hst
        go_wp2_with fail
        go_fit HC.out
        rintro e w5 ⟨rfl, hb5⟩
        have HBe : Hid (Below w.heap.size w w5) := Lib.hid (HBr.out.trans (hb5.mono HBr.out.size))
        clear hb5 t0 t1
        go_wp2_with fail
        go_ret
        exact ⟨by rw [HE.out]; rfl, HBe.out⟩
end Go.Proofs.Ytcbgnmolfdhnfaa

/- R7 -/
namespace Go.Proofs.Ytcbgnmolfdhnfaa
set_option linter.unusedVariables false
set_option linter.unusedSimpArgs false
open Go.RowKit

theorem Try.infoInt : (Try.prog.info? 3).map (fun i => (i.zero, i.size, i.bytes)) = some (some (.int .i64 0), 1, 8) := by kernel_rfl
theorem kid_len (s : Sd) (n i : Nat) (S : List Pl) : (s.kidB n i S).length = 8 * i := by
  induction i with
  | zero => rfl
  | succ i ih => rw [s.kidB_step, List.length_append, ih, Wi.be_length]; omega
set_option maxRecDepth 100000 in
set_option maxHeartbeats 1200000 in
theorem dig_step {s : Sd} (hs : s.Ok) {n : Nat} (hn4 : n < 4) (HIH0 : DigOk s n) : DigOk s (n + 1) := by
  intro w tb R v path ht hR hsl hp hpl
  have HIn := Lib.hid (In_any hs ht (by omega) hsl hp (by omega))
  obtain ⟨pa, pc, rfl, _, _⟩ := hp.slice
  have HP := Lib.hid hp
  have HIH := Lib.hid HIH0
  obtain ⟨m, hm⟩ : ∃ m, m = path.length := ⟨_, rfl⟩
  have hm4 : m < 4 := by omega
  rw [← hm] at HIn HP ⊢
  have HM := Lib.hid hm
  have HPl := Lib.hid hpl
  have HR := Lib.hid hR
  have HSm := Lib.hid hsl
  have HT := Lib.hid ht
  have HS := Lib.hid hs
  have HLS : Hid ((s.mp path R).length = (s.inR path R).length) := by show _ = _; unfold Sd.mp; rw [List.length_map]
  have HSR : Hid ((s.mp path R).length ≤ 100000) := by show _ ≤ _; have := mp_len s path R; omega
  have HMA : Hid (∀ i : Nat, s.mp (path ++ [(i : Int)]) R = sub n i (s.mp path R)) := Lib.hid fun i => mp_app s path R hpl
  generalize s.mp path R = S at *
  generalize s.inR path R = L at *
  obtain ⟨l, hl⟩ : ∃ l, l = L.length := ⟨_, rfl⟩
  have HN := Lib.hid hl
  clear ht hp hpl hsl hl hm HIH0 hs hR
  have hb4 : ((m : Int) == 4) = false := by simp; omega
  have hm4I : ¬ (m : Int) = 4 := by omega
  go_enter Try.func24, Try.ntmps24
  go_wp2_with fail
  go_fit HIn.out
  rintro e w1 ⟨u1, rfl, hr1⟩
  obtain ⟨la, lc, rfl, hlc, _⟩ := hr1.slice
  have HB1 := Lib.hid hr1.grown
  rw [← HN.out]
  clear hr1 HIn hlc
  by_cases hn0 : l = 0
  · subst hn0
    have hS : S = [] := List.eq_nil_of_length_eq_zero (by rw [HLS.out, ← HN.out])
    have HE : Hid (s.tr (n + 1) S = 0) := Lib.hid (by rw [hS, s.tr_nil])
    go_wp2_with fail
    go_ret
    exact ⟨by rw [HE.out]; rfl, HB1.out⟩
  · have hnI : ¬ (l : Int) = 0 := by omega
    have hnb : ((l : Int) == 0) = false := by simpa using hnI
    go_wp2_with fail
    have HQ0 : Hid (Lib.BytesIn w1 none 0 (s.kidB n 0 S) ∧ (s.kidB n 0 S).length = 0 ∧ Below w1.heap.size w1 w1) := Lib.hid ⟨fun h => absurd h (by omega), rfl, Below.refl _ _⟩
    go_loopw [6, 38] (fun u v wr => ∃ (i q c : Nat) (a : Option Addr), v = .int .i64 i ∧ i ≤ 16 ∧ u = .slice a q c ∧ (a = none → q = 0 ∧ c = 0) ∧ Hid (Lib.BytesIn wr a q (s.kidB n i S) ∧ (s.kidB n i S).length = q ∧ Below w1.heap.size w1 wr)) (fun _ v _ => 16 - (intOf v).toNat)
    case atStart => exact ⟨0, 0, 0, none, rfl, Nat.zero_le _, rfl, fun _ => ⟨rfl, rfl⟩, HQ0⟩
    case round =>
      obtain ⟨i, q, c, a, rfl, hi, rfl, ha, hst⟩ := hrel
      clear HQ0
      have ei : IntKind.i64.wrap ((i : Int) + 1) = (i : Int) + 1 := IntWalk.i64_in _ (by omega)
      have HBr : Hid (Below w.heap.size w wr) := Lib.hid (HB1.out.trans (hst.out.2.2.mono HB1.out.size))
      by_cases hlt : i < 16
      · have hltI : (i : Int) < 16 := by omega
        have HAn := Lib.hid ha
        have hba := below_alloc wr (.cells #[] 3)
        have HIp := Lib.hid (HP.out.later (HBr.out.trans (hba.mono HBr.out.size)))
        have HOwn : Hid ((wr.alloc (.cells #[] 3)).ownsRow wr.heap.size 3 intL.sz (.slice (some ⟨wr.heap.size, 0, none⟩) 0 0) ([] : List Int).length (intL.all [])) := World.ownsRow_made wr #[] 0 (Nat.le_refl _) (by decide) rfl
        have HL1 : Hid (([] : List Int).length + path.length ≤ 1073741825) := by show 0 + path.length ≤ _; have := HM.out; omega
        have HL2 : Hid (m + 1 ≤ 1073741825) := by show _ ≤ _; omega
        have HSz := Lib.hid hba.size
        have HBa := Lib.hid hba
        clear ha hba
        go_wp2_with (first
          | (at_builtin; (refine wpList_catI (I := intL) rfl (.tmp 43) (.tmp 44) 70 3 rfl Try.underlying70 Try.infoInt rfl (by decide) (by decide) HOwn.out HIp.out HL1.out HSz.out rfl rfl ?_; intro v2 w2 hown2 hg2; have HO2 : Hid (w2.ownsRow wr.heap.size 3 1 v2 m (intL.all path)) := (by have h := hown2; rw [List.nil_append, ← HM.out] at h; exact Lib.hid h); have HG2 := Lib.hid hg2; have HZ2 : Hid (wr.heap.size ≤ w2.heap.size) := Lib.hid (Nat.le_trans HSz.out hg2.size); clear hown2 hg2))
          | (at_builtin; (refine wpList_pushI rfl (.tmp 45) (.tmp 47) 70 3 _ 1 8 rfl Try.underlying70 Try.infoInt rfl (by decide) wr.heap.size m v2 (intL.all path) rfl HO2.out #[.int .i64 i] rfl (by simp [Value.oneCell']) rfl HL2.out (by decide) HZ2.out ?_; intro g3 c3 w3 hown3 hg3 hat3 hlt3; have HO3 := Lib.hid hown3; have HG3 := Lib.hid hg3; clear hown3 hg3 hat3 hlt3)))
        have HB3 : Hid (Below wr.heap.size wr w3) := by
          have h2 : Below wr.heap.size (wr.alloc (.cells #[] 3)) w2 := ⟨HG2.out.os, HG2.out.tape, HG2.out.output, HG2.out.size, fun k hk => HG2.out.block k (Nat.lt_of_lt_of_le hk HSz.out) (fun e => by simp [Value.ownBlock] at e; omega)⟩
          have h3 : Below wr.heap.size w2 w3 := ⟨HG3.out.os, HG3.out.tape, HG3.out.output, HG3.out.size, fun k hk => HG3.out.block k (Nat.lt_of_lt_of_le hk HZ2.out) (fun e => by have := (HO2.out.lt k e.symm).1; omega)⟩
          exact Lib.hid ((HBa.out.trans h2).trans h3)
        have HI3 : Hid (intL.In w3 (.slice (some ⟨g3, 0, none⟩) (m + 1) c3) (path ++ [(i : Int)])) := Lib.hid (Lay.in_own (n := m + 1) (by rw [Lay.all_app, Lay.all_one]; exact HO3.out) (by rw [List.length_append, ← HM.out]; rfl))
        have HDg := Lib.hid (HIH.out w3 tb R _ (path ++ [(i : Int)]) (HT.out.later (HBr.out.trans (HB3.out.mono HBr.out.size))) HR.out HSm.out HI3.out (by rw [List.length_append]; have := HPl.out; simp; omega))
        rw [HMA.out i] at HDg
        have HTl : Hid (s.tr n (sub n i S) < 18446744073709551616) := Lib.hid (Sd.tr_lt HS.out n _ (Nat.le_trans (sub_len n i S) HSR.out))
        go_fit HDg.out
        rintro e w4 ⟨rfl, hb4'⟩
        have HB4 : Hid (Below wr.heap.size wr w4) := Lib.hid (HB3.out.trans (hb4'.mono HB3.out.size))
        have HSg := Lib.hid (Wi.RSigned_any a q c (s.kidB n i S) (wrap64 ((s.tr n (sub n i S) : Nat) : Int)) w4 hst.out.2.1 (in_later hst.out.1 HB4.out) HAn.out (by have := hst.out.2.1; rw [kid_len] at this; omega))
        clear hb4' HDg
        go_wp2_with fail
        go_fit HSg.out
        rintro e w5 ⟨g5, n5, c5, rfl, hown5, hb5⟩
        have HNx : Hid (Lib.BytesIn w5 (some ⟨g5, 0, none⟩) n5 (s.kidB n (i + 1) S) ∧ (s.kidB n (i + 1) S).length = n5 ∧ Below w1.heap.size w1 w5) := by
          have h := hown5
          rw [u64_of _ HTl.out, ← s.kidB_step] at h
          exact Lib.hid ⟨Wi.owns_in h, Wi.owns_len h, hst.out.2.2.trans ((HB4.out.trans (hb5.mono HB4.out.size)).mono hst.out.2.2.size)⟩
        clear hown5 hb5 hst
        go_wp2_with fail
        exact ⟨⟨i + 1, n5, c5, some ⟨g5, 0, none⟩, by push_cast; rfl, by omega, rfl, (fun h => by cases h), HNx⟩, by simp [intOf]; omega⟩
      · obtain rfl : i = 16 := by omega
        have HTr := HT.out.later HBr.out
        have t0 := HTr.a
        have t1 := HTr.b
        have HC := Lib.hid (RSum_any (c := c) HS.out.1 HS.out.2 hst.out.1 hst.out.2.1 (s.oct_kid n 16 S) (by have := hst.out.2.1; rw [kid_len] at this; omega))
        have HE : Hid (s.tr (n + 1) S = sumN s.a s.b (s.kidB n 16 S)) := Lib.hid (s.tr_node (fun e => by have h := HLS.out; rw [e, ← HN.out] at h; exact hn0 h.symm))
        clear hst HTr
        go_wp2_with fail
        go_fit HC.out
        rintro e w5 ⟨rfl, hb5⟩
        have HBe : Hid (Below w.heap.size w w5) := Lib.hid (HBr.out.trans (hb5.mono HBr.out.size))
        clear hb5 t0 t1
        go_wp2_with fail
        go_ret
        exact ⟨by rw [HE.out]; rfl, HBe.out⟩
theorem dig_any {s : Sd} (hs : s.Ok) : ∀ n, n ≤ 4 → DigOk s n
  | 0, _ => dig_leaf hs
  | n + 1, h => dig_step hs (by omega) (dig_any hs n (by omega))
end Go.Proofs.Ytcbgnmolfdhnfaa

/- R8 -/
namespace Go.Proofs.Ytcbgnmolfdhnfaa
set_option linter.unusedVariables false
set_option linter.unusedSimpArgs false
open Go.RowKit

theorem row_slice5 {w : World} {B n sz : Nat} {t : TypeId} {v : Value} {cs : List Value} (h : w.ownsRow B t sz v n cs) : ∃ a c, v = .slice a n c := by
  rcases h.2 with ⟨h0, h1⟩ | ⟨g', cap, cur, hv, _, _, hn, hm, _⟩
  · exact ⟨none, 0, by rw [h0, h1]⟩
  · exact ⟨_, cap, hv⟩
theorem eql_pairs (a : Option Addr) (n c : Nat) (W : World) : (binOp .eql 29 (.slice a n c) (.slice none 0 0)).run Try.prog W = .ok (.bool a.isNone) W := by
  cases a <;> kernel_rfl
set_option maxRecDepth 100000 in
set_option maxHeartbeats 1600000 in
theorem CloneP {w : World} {v : Value} {l : List Pr} (h : prL.In w v l) (hl : l.length ≤ 1000000) : Calls Try.prog 20 #[v] w fun e w' => ∃ u, e = .returned u ∧ Rw prL 27 w w' u l := by
  obtain ⟨a, c, rfl, _, _⟩ := h.slice
  have H := Lib.hid h
  cases a with
  | none =>
    have hn : l = [] := by
      obtain ⟨a', c', hv, _, _, h'⟩ := h
      rcases h' with e | ⟨g, off, e, _⟩
      · exact e
      · simp only [Value.slice.injEq] at hv
        rw [← hv.1] at e; cases e
    subst hn
    have e1 := fun W => eql_pairs none 0 c W
    clear h H
    go_enter Try.func20, Try.ntmps20
    go_wp2_with fail
    go_ret
    exact ⟨_, rfl, Rw.nil w⟩
  | some a =>
    have e1 := fun W => eql_pairs (some a) l.length c W
    have HB := Lib.hid (lay_alloc w (.cells #[] 27))
    have HI := Lib.hid (h.later HB.out)
    have HOwn : Hid ((w.alloc (.cells #[] 27)).ownsRow w.heap.size 27 prL.sz (.slice (some ⟨w.heap.size, 0, none⟩) 0 0) ([] : List Pr).length (prL.all [])) := World.ownsRow_made w #[] 0 (Nat.le_refl _) (by decide) rfl
    have HL : Hid (([] : List Pr).length + l.length ≤ 1073741825) := by show 0 + l.length ≤ _; omega
    clear h H hl
    go_enter Try.func20, Try.ntmps20
    go_wp2_with (at_builtin; refine wpList_catI (I := prL) rfl _ _ 29 27 rfl Try.underlying29 Try.infoPair rfl (by decide) (by decide) HOwn.out HI.out HL.out HB.out.size rfl rfl ?_; intro v2 w2 hown hgrow; have HO := Lib.hid hown; have HG := Lib.hid hgrow; clear hown hgrow)
    obtain ⟨va, vc, hv⟩ := row_slice5 HO.out
    subst hv
    go_ret
    exact ⟨_, rfl, HO.out, HB.out.trans ⟨HG.out.os, HG.out.tape, HG.out.output, HG.out.size, fun k hk => HG.out.block k (Nat.lt_of_lt_of_le hk HB.out.size) (fun e => by simp [Value.ownBlock] at e; omega)⟩⟩

end Go.Proofs.Ytcbgnmolfdhnfaa

/- R9 -/
namespace Go.Proofs.Ytcbgnmolfdhnfaa
set_option linter.unusedVariables false
set_option linter.unusedSimpArgs false
open Go.RowKit

def leafOf (n c : Nat) (S : List Pl) : List Pl := S.filter fun p => decide (p.1.1 % 16 ^ n = c)
theorem leaf_nil {n : Nat} {S : List Pl} (h : ∀ c, leafOf n c S = []) : S = [] := by
  cases S with
  | nil => rfl
  | cons p S =>
    have := h (p.1.1 % 16 ^ n)
    simp [leafOf] at this
theorem leaf_sub (n c i : Nat) (S : List Pl) (hc : c < 16 ^ n) (hi : i < 16) : leafOf n c (sub n i S) = leafOf (n + 1) (c + 16 ^ n * i) S := by
  unfold leafOf sub
  rw [List.filter_filter]
  apply List.filter_congr
  intro p _
  unfold dgt
  have h1 : p.1.1 % 16 ^ n < 16 ^ n := Nat.mod_lt _ (by exact Nat.pow_pos (by decide))
  rw [← Bool.decide_and]
  apply decide_eq_decide.2
  rw [mod_split]
  constructor
  · rintro ⟨h2, h3⟩
    rw [h2, h3]
  · intro h
    have e1 : (p.1.1 % 16 ^ n + 16 ^ n * (p.1.1 / 16 ^ n % 16)) % 16 ^ n = (c + 16 ^ n * i) % 16 ^ n := by rw [h]
    rw [Nat.add_mul_mod_self_left, Nat.add_mul_mod_self_left, Nat.mod_eq_of_lt h1, Nat.mod_eq_of_lt hc] at e1
    refine ⟨e1, ?_⟩
    rw [e1] at h
    exact Nat.eq_of_mul_eq_mul_left (Nat.pow_pos (by decide)) (Nat.add_left_cancel h)
theorem leaf_big (n c : Nat) (S : List Pl) (hc : ¬ c < 16 ^ n) : leafOf n c S = [] := by
  refine List.filter_eq_nil_iff.2 fun p _ => ?_
  have h1 : p.1.1 % 16 ^ n < 16 ^ n := Nat.mod_lt _ (Nat.pow_pos (by decide))
  simp
  omega
theorem tr_ext (s : Sd) : ∀ (n : Nat) {S T : List Pl}, (∀ c, leafOf n c S = leafOf n c T) → s.tr n S = s.tr n T
  | 0, S, T, h => by
    have h0 := h 0
    unfold leafOf at h0
    simp only [Nat.pow_zero, Nat.mod_one, decide_true] at h0
    have e : ∀ l : List Pl, l.filter (fun _ => true) = l := fun l => List.filter_eq_self.2 (by simp)
    rw [e, e] at h0
    rw [h0]
  | n + 1, S, T, h => by
    by_cases hS : S = []
    · subst hS
      have hT : T = [] := leaf_nil (n := n + 1) fun c => by rw [← h c]; rfl
      rw [hT]
    · have hT : T ≠ [] := fun e => hS (leaf_nil (n := n + 1) fun c => by rw [h c, e]; rfl)
      rw [s.tr_node hS, s.tr_node hT]
      have e : s.kidB n 16 S = s.kidB n 16 T := by
        have hk : ∀ i, i ≤ 16 → s.kidB n i S = s.kidB n i T := by
          intro i
          induction i with
          | zero => intro _; rfl
          | succ i ih =>
            intro hi
            rw [s.kidB_step, s.kidB_step, ih (by omega), tr_ext s n (S := sub n i S) (T := sub n i T) fun c => by
              by_cases hc : c < 16 ^ n
              · rw [leaf_sub n c i S hc (by omega), leaf_sub n c i T hc (by omega), h]
              · rw [leaf_big n c _ hc, leaf_big n c _ hc]]
        exact hk 16 (Nat.le_refl _)
      rw [e]
/-- In strict order. -/
def StrictP (l : List Pl) : Prop := l.Pairwise fun p q => plt p.1 q.1 = true
theorem strict_ext : ∀ {a b : List Pl}, StrictP a → StrictP b → (∀ p, p ∈ a ↔ p ∈ b) → a = b
  | [], [], _, _, _ => rfl
  | [], q :: b, _, _, h => by have := (h q).2 (List.mem_cons_self ..); cases this
  | p :: a, [], _, _, h => by have := (h p).1 (List.mem_cons_self ..); cases this
  | p :: a, q :: b, ha, hb, h => by
    have ha' := List.pairwise_cons.1 ha
    have hb' := List.pairwise_cons.1 hb
    have e : p = q := by
      rcases List.mem_cons.1 ((h p).1 (List.mem_cons_self ..)) with e | h1
      · exact e
      · rcases List.mem_cons.1 ((h q).2 (List.mem_cons_self ..)) with e | h2
        · exact e.symm
        · have h3 := hb'.1 p h1
          have h4 := ha'.1 q h2
          rw [plt_asym h3] at h4
          cases h4
    subst e
    rw [strict_ext ha'.2 hb'.2 fun r => ?_]
    constructor
    · intro hr
      rcases List.mem_cons.1 ((h r).1 (List.mem_cons_of_mem _ hr)) with e | h1
      · have h3 := ha'.1 r hr
        rw [e, plt_irr] at h3; cases h3
      · exact h1
    · intro hr
      rcases List.mem_cons.1 ((h r).2 (List.mem_cons_of_mem _ hr)) with e | h1
      · have h3 := hb'.1 r hr
        rw [e, plt_irr] at h3; cases h3
      · exact h1
theorem StrictP.filter {l : List Pl} (h : StrictP l) (f : Pl → Bool) : StrictP (l.filter f) := List.Pairwise.sublist List.filter_sublist h
/-- Two lists of which each one's leaves are in strict order and that have the same: one digest. -/
theorem tr_same (s : Sd) {n : Nat} {S T : List Pl} (hS : ∀ c, StrictP (leafOf n c S)) (hT : ∀ c, StrictP (leafOf n c T)) (h : ∀ p, p ∈ S ↔ p ∈ T) : s.tr n S = s.tr n T :=
  tr_ext s n fun c => strict_ext (hS c) (hT c) fun p => by
    unfold leafOf
    rw [List.mem_filter, List.mem_filter, h p]
end Go.Proofs.Ytcbgnmolfdhnfaa

/- RA -/
namespace Go.Proofs.Ytcbgnmolfdhnfaa
set_option linter.unusedVariables false
set_option linter.unusedSimpArgs false
open Go.RowKit

/-- The last ones of each key, from the front. -/
def lst : List Pl → List Pl
  | [] => []
  | [p] => [p]
  | p :: q :: r => if q.1.2 = p.1.2 then lst (q :: r) else p :: lst (q :: r)
theorem lst_drop {S : List Pl} {i : Nat} {p : Pl} (h : S[i]? = some p) : lst (S.drop i) = (if lastB S i p = true then [p] else []) ++ lst (S.drop (i + 1)) := by
  have hlt := (List.getElem?_eq_some_iff.1 h).1
  have hp : S[i] = p := (List.getElem?_eq_some_iff.1 h).2
  rw [List.drop_eq_getElem_cons hlt, hp]
  unfold lastB
  cases hn : S[i + 1]? with
  | none =>
    have : S.drop (i + 1) = [] := List.drop_eq_nil_of_le (List.getElem?_eq_none_iff.1 hn)
    rw [this]
    simp [lst]
  | some q =>
    have hlt1 := (List.getElem?_eq_some_iff.1 hn).1
    have hq : S[i + 1] = q := (List.getElem?_eq_some_iff.1 hn).2
    rw [List.drop_eq_getElem_cons hlt1, hq, lst]
    by_cases e : q.1.2 = p.1.2 <;> simp [e]
theorem lasts_lst (S : List Pl) : ∀ i, i ≤ S.length → lasts S i ++ lst (S.drop i) = lst S
  | 0, _ => by simp [lasts]
  | i + 1, h => by
    have hi : S[i]? = some (S[i]'(by omega)) := List.getElem?_eq_getElem _
    have ih := lasts_lst S i (by omega)
    rw [lst_drop hi, ← List.append_assoc] at ih
    rw [← ih]
    congr 1
    simp only [lasts, hi]
theorem lasts_all (S : List Pl) : lasts S S.length = lst S := by
  have h := lasts_lst S S.length (Nat.le_refl _)
  rw [List.drop_length] at h
  simpa [lst] using h
theorem lst_mem : ∀ {S : List Pl} {p : Pl}, p ∈ lst S → p ∈ S
  | [], p, h => by cases h
  | [q], p, h => h
  | a :: b :: r, p, h => by
    rw [lst] at h
    split at h
    · exact List.mem_cons_of_mem _ (lst_mem h)
    · rcases List.mem_cons.1 h with e | h
      · rw [e]; exact List.mem_cons_self ..
      · exact List.mem_cons_of_mem _ (lst_mem h)
/-- A key tells its digits. -/
def OneKey (S : List Pl) : Prop := ∀ p ∈ S, ∀ q ∈ S, p.1.2 = q.1.2 → p.1 = q.1
theorem lst_facts : ∀ (S : List Pl), SortedW S → OneKey S → StrictP (lst S) ∧ ∀ x, x ∈ lst S ↔ (kf x.1 S).getLast? = some x
  | [], _, _ => ⟨List.Pairwise.nil, fun x => by simp [lst, kf]⟩
  | [p], _, _ => ⟨List.pairwise_singleton _ _, fun x => by
    rw [lst, kf_cons]
    by_cases e : p.1 = x.1
    · rw [if_pos e]
      have : kf x.1 [] = [] := rfl
      rw [this]
      simp [eq_comm]
    · rw [if_neg e]
      have : kf x.1 [] = [] := rfl
      rw [this]
      simp
      intro h; exact e (by rw [h])⟩
  | p :: q :: r, hs, ho => by
    have hs' := List.pairwise_cons.1 hs
    obtain ⟨ih1, ih2⟩ := lst_facts (q :: r) hs'.2 (fun a ha b hb => ho a (List.mem_cons_of_mem _ ha) b (List.mem_cons_of_mem _ hb))
    rw [lst]
    by_cases e : q.1.2 = p.1.2
    · rw [if_pos e]
      have eq : q.1 = p.1 := ho q (by simp) p (by simp) e
      refine ⟨ih1, fun x => ?_⟩
      rw [ih2 x, kf_cons x.1 p]
      by_cases ex : p.1 = x.1
      · rw [if_pos ex, kf_cons, if_pos (eq.trans ex), List.getLast?_cons_cons]
      · rw [if_neg ex]
    · rw [if_neg e]
      have hq : plt p.1 q.1 = true := by
        rcases plt_le (hs'.1 q (by simp)) with h | h
        · exact absurd (by rw [h]) e
        · exact h
      have hall : ∀ t ∈ q :: r, plt p.1 t.1 = true := by
        intro t ht
        rcases List.mem_cons.1 ht with rfl | ht'
        · exact hq
        · exact plt_trans_le hq ((List.pairwise_cons.1 hs'.2).1 t ht')
      have hne : ∀ t ∈ q :: r, t.1 ≠ p.1 := fun t ht h => by have := hall t ht; rw [h, plt_irr] at this; cases this
      refine ⟨List.pairwise_cons.2 ⟨fun t ht => hall t (lst_mem ht), ih1⟩, fun x => ?_⟩
      rw [kf_cons]
      by_cases ex : p.1 = x.1
      · rw [if_pos ex]
        have hk : kf x.1 (q :: r) = [] := List.filter_eq_nil_iff.2 fun t ht => by
          have := hne t ht
          rw [ex] at this
          simpa using this
        rw [hk]
        constructor
        · intro h
          rcases List.mem_cons.1 h with h | h
          · rw [h]; rfl
          · exact absurd ex.symm (hne x (lst_mem h))
        · intro h
          have : p = x := by simpa using h
          rw [this]; exact List.mem_cons_self ..
      · rw [if_neg ex, ← ih2 x]
        constructor
        · intro h
          rcases List.mem_cons.1 h with h | h
          · exact absurd (by rw [h]) ex
          · exact h
        · exact List.mem_cons_of_mem _
end Go.Proofs.Ytcbgnmolfdhnfaa
