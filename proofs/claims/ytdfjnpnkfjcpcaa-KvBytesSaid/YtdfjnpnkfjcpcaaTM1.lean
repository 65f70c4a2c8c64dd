/-
  Plain facts: keys in order, sorted lists of pairs, and what they have.
-/
import GoSem.Op.String
namespace Go.Proofs.Ytdfjnpnkfjcpcaa
set_option linter.unusedVariables false
set_option linter.unusedSimpArgs false

/-- A key is less than another one. -/
def klt (a b : ByteArray) : Bool := Go.Op.bytesLess a.toList b.toList

theorem bl_irr : ∀ l : List UInt8, Go.Op.bytesLess l l = false
  | [] => rfl
  | a :: l => by simp [Go.Op.bytesLess, bl_irr l, UInt8.lt_irrefl]

theorem bl_trans : ∀ a b c : List UInt8, Go.Op.bytesLess a b = true → Go.Op.bytesLess b c = true → Go.Op.bytesLess a c = true
  | _, _, [], _, h => by cases ‹List UInt8› <;> simp [Go.Op.bytesLess] at h
  | _, [], _ :: _, h, _ => by cases ‹List UInt8› <;> simp [Go.Op.bytesLess] at h
  | [], _ :: _, _ :: _, _, _ => rfl
  | x :: a, y :: b, z :: c, h, g => by
    simp only [Go.Op.bytesLess, Bool.or_eq_true, decide_eq_true_eq, Bool.and_eq_true, beq_iff_eq] at h g ⊢
    rcases h with h | ⟨rfl, h⟩
    · rcases g with g | ⟨rfl, g⟩
      · exact .inl (UInt8.lt_trans h g)
      · exact .inl h
    · rcases g with g | ⟨rfl, g⟩
      · exact .inl g
      · exact .inr ⟨rfl, bl_trans a b c h g⟩

theorem bl_tri : ∀ a b : List UInt8, Go.Op.bytesLess a b = true ∨ a = b ∨ Go.Op.bytesLess b a = true
  | [], [] => .inr (.inl rfl)
  | [], _ :: _ => .inl rfl
  | _ :: _, [] => .inr (.inr rfl)
  | x :: a, y :: b => by
    simp only [Go.Op.bytesLess, Bool.or_eq_true, decide_eq_true_eq, Bool.and_eq_true, beq_iff_eq]
    rcases Nat.lt_trichotomy x.toNat y.toNat with h | h | h
    · exact .inl (.inl (UInt8.lt_iff_toNat_lt.2 h))
    · obtain rfl := UInt8.toNat_inj.1 h
      rcases bl_tri a b with h | rfl | h
      · exact .inl (.inr ⟨rfl, h⟩)
      · exact .inr (.inl rfl)
      · exact .inr (.inr (.inr ⟨rfl, h⟩))
    · exact .inr (.inr (.inl (UInt8.lt_iff_toNat_lt.2 h)))

theorem ba_list (a : ByteArray) : a.toList = a.data.toList := by
  have h : ∀ (n i : Nat) (r : List UInt8), n = a.size - i → ByteArray.toList.loop a i r = r.reverse ++ a.data.toList.drop i := by
    intro n
    induction n with
    | zero =>
      intro i r h
      rw [ByteArray.toList.loop]
      have : ¬ i < a.size := by omega
      simp only [this, if_false]
      rw [List.drop_eq_nil_of_le (by have : a.data.toList.length = a.size := rfl
                                     omega)]
      exact (List.append_nil _).symm
    | succ n ih =>
      intro i r h
      rw [ByteArray.toList.loop]
      have hi : i < a.size := by omega
      simp only [hi, if_true]
      rw [ih (i + 1) _ (by omega)]
      have hl : i < a.data.toList.length := hi
      rw [List.drop_eq_getElem_cons hl]
      have hsz : i < a.data.size := hi
      have e : a.get! i = a.data.toList[i] := by
        cases a with
        | mk d =>
          show d.getD i default = _
          simp [Array.getD, show i < d.size from hi]
      rw [e]
      simp
  have := h a.size 0 [] (by omega)
  simpa [ByteArray.toList] using this

theorem ba_inj {a b : ByteArray} (h : a.toList = b.toList) : a = b := by
  rw [ba_list, ba_list] at h
  cases a; cases b; exact congrArg ByteArray.mk (Array.toList_inj.1 h)

theorem klt_irr (a : ByteArray) : klt a a = false := bl_irr _
theorem klt_trans {a b c : ByteArray} (h : klt a b = true) (g : klt b c = true) : klt a c = true := bl_trans _ _ _ h g
theorem klt_tri (a b : ByteArray) : klt a b = true ∨ a = b ∨ klt b a = true := by
  rcases bl_tri a.toList b.toList with h | h | h
  · exact .inl h
  · exact .inr (.inl (ba_inj h))
  · exact .inr (.inr h)
theorem klt_asym {a b : ByteArray} (h : klt a b = true) : klt b a = false := by
  cases hb : klt b a
  · rfl
  · have := klt_trans h hb; rw [klt_irr] at this; cases this
theorem klt_ne {a b : ByteArray} (h : klt a b = true) : a ≠ b := by
  rintro rfl; rw [klt_irr] at h; cases h
theorem ba_eq (a b : ByteArray) : (a.toList == b.toList) = decide (a = b) := by
  by_cases h : a = b
  · subst h; simp
  · have : ¬ a.toList = b.toList := fun e => h (ba_inj e)
    simp [h, this]
theorem klt_le {a b : ByteArray} (h : klt a b = false) : b = a ∨ klt b a = true := by
  rcases klt_tri a b with g | g | g
  · rw [g] at h; cases h
  · exact .inl g.symm
  · exact .inr g
theorem klt_le_trans {a b c : ByteArray} (h : klt b a = false) (g : klt b c = true) : klt a c = true := by
  rcases klt_le h with rfl | h'
  · exact g
  · exact klt_trans h' g
theorem klt_trans_le {a b c : ByteArray} (h : klt a b = true) (g : klt c b = false) : klt a c = true := by
  rcases klt_le g with rfl | h'
  · exact h
  · exact klt_trans h h'

abbrev Pr := ByteArray × ByteArray

/-- Pairs by rising keys. -/
def Sorted : List Pr → Prop
  | [] => True
  | p :: l => (∀ q ∈ l, klt p.1 q.1 = true) ∧ Sorted l

/-- What a list has at a key. -/
def look : List Pr → ByteArray → Option ByteArray
  | [], _ => none
  | p :: l, k => if p.1 = k then some p.2 else look l k

def Under (l : List Pr) (k : ByteArray) : Prop := ∀ q ∈ l, klt q.1 k = true
def Over (l : List Pr) (k : ByteArray) : Prop := ∀ q ∈ l, klt k q.1 = true

theorem sorted_app : ∀ (a b : List Pr), Sorted (a ++ b) ↔ Sorted a ∧ Sorted b ∧ ∀ p ∈ a, ∀ q ∈ b, klt p.1 q.1 = true
  | [], b => by simp [Sorted]
  | p :: a, b => by
    simp only [List.cons_append, Sorted, sorted_app a b, List.mem_append, List.mem_cons]
    constructor
    · rintro ⟨h, ha, hb, hab⟩
      refine ⟨⟨fun q hq => h q (.inl hq), ha⟩, hb, ?_⟩
      rintro q (rfl | hq) r hr
      · exact h r (.inr hr)
      · exact hab q hq r hr
    · rintro ⟨⟨h, ha⟩, hb, hab⟩
      refine ⟨?_, ha, hb, fun q hq => hab q (.inr hq)⟩
      rintro q (hq | hq)
      · exact h q hq
      · exact hab p (.inl rfl) q hq

theorem sorted_mid (a : List Pr) (p : Pr) (b : List Pr) : Sorted (a ++ p :: b) ↔ Sorted a ∧ Sorted b ∧ Under a p.1 ∧ Over b p.1 := by
  rw [sorted_app]
  simp only [Sorted, Under, Over, List.mem_cons]
  constructor
  · rintro ⟨ha, ⟨hb, hb'⟩, h⟩
    exact ⟨ha, hb', fun q hq => h q hq p (.inl rfl), hb⟩
  · rintro ⟨ha, hb, hu, ho⟩
    refine ⟨ha, ⟨ho, hb⟩, ?_⟩
    rintro q hq r (rfl | hr)
    · exact hu q hq
    · exact klt_trans (hu q hq) (ho r hr)

theorem look_none {l : List Pr} {k : ByteArray} (h : ∀ q ∈ l, q.1 ≠ k) : look l k = none := by
  induction l with
  | nil => rfl
  | cons p l ih =>
    rw [look, if_neg (h p (by simp)), ih (fun q hq => h q (by simp [hq]))]

theorem look_some {l : List Pr} {k v : ByteArray} (h : look l k = some v) : (k, v) ∈ l := by
  induction l with
  | nil => cases h
  | cons p l ih =>
    rw [look] at h
    split at h
    · rename_i e; cases h; rw [← e]; simp
    · exact List.mem_cons_of_mem _ (ih h)

theorem look_mem {l : List Pr} (hs : Sorted l) {p : Pr} (h : p ∈ l) : look l p.1 = some p.2 := by
  induction l with
  | nil => cases h
  | cons q l ih =>
    rw [look]
    rcases List.mem_cons.1 h with rfl | h
    · rw [if_pos rfl]
    · rw [if_neg (klt_ne (hs.1 p h)), ih hs.2 h]

theorem look_app (a b : List Pr) (k : ByteArray) : look (a ++ b) k = (look a k).or (look b k) := by
  induction a with
  | nil => rfl
  | cons p a ih =>
    rw [List.cons_append, look, look]
    split
    · rfl
    · exact ih

theorem look_under {l : List Pr} {k x : ByteArray} (h : Under l k) (hx : klt x k = false) : look l x = none :=
  look_none fun q hq e => by rw [← e, h q hq] at hx; cases hx
theorem look_over {l : List Pr} {k x : ByteArray} (h : Over l k) (hx : klt k x = false) : look l x = none :=
  look_none fun q hq e => by rw [← e, h q hq] at hx; cases hx

/-- What a list in the midst of which a pair stands has. -/
theorem look_mid {a : List Pr} {p : Pr} {b : List Pr} (hu : Under a p.1) (ho : Over b p.1) (k : ByteArray) :
    look (a ++ p :: b) k = if klt k p.1 = true then look a k else if klt p.1 k = true then look b k else some p.2 := by
  rw [look_app, look]
  rcases klt_tri k p.1 with h | h | h
  · rw [if_pos h, if_neg (fun e => klt_ne h e.symm), look_over ho (klt_asym h)]; simp
  · subst h; rw [if_pos rfl, klt_irr, look_under hu (klt_irr _)]; simp
  · rw [klt_asym h, if_pos h, if_neg (klt_ne h), look_under hu (klt_asym h)]; simp

/-- Two sorted lists that have the same are the same. -/
theorem sorted_ext : ∀ {a b : List Pr}, Sorted a → Sorted b → (∀ k, look a k = look b k) → a = b
  | [], [], _, _, _ => rfl
  | [], p :: b, _, _, h => by have := h p.1; simp [look] at this
  | p :: a, [], _, _, h => by have := h p.1; simp [look] at this
  | p :: a, q :: b, ha, hb, h => by
    have e : p = q := by
      have h1 := look_some ((h p.1).symm.trans (by rw [look, if_pos rfl]))
      have h2 := look_some ((h q.1).trans (by rw [look, if_pos rfl]))
      rcases List.mem_cons.1 h1 with h1 | h1
      · exact h1
      · rcases List.mem_cons.1 h2 with h2 | h2
        · exact h2.symm
        · have := klt_trans (ha.1 _ h2) (hb.1 _ h1)
          rw [klt_irr] at this; cases this
    subst e
    congr 1
    refine sorted_ext ha.2 hb.2 fun k => ?_
    have := h k
    simp only [look] at this
    split at this
    · rename_i e
      subst e
      rw [look_over ha.1 (klt_irr _), look_over hb.1 (klt_irr _)]
    · exact this

end Go.Proofs.Ytdfjnpnkfjcpcaa
