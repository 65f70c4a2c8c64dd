/-
  Plain facts: what is split, put, joined, and what two trees have together.
-/
import Derived.Test.YtdfjnpnkfjcpcaaTM2
namespace Go.Proofs.Ytdfjnpnkfjcpcaa
set_option linter.unusedVariables false
set_option linter.unusedSimpArgs false

theorem under_app {a b : List Pr} {k : ByteArray} : Under (a ++ b) k ↔ Under a k ∧ Under b k := by
  simp only [Under, List.mem_append]
  exact ⟨fun h => ⟨fun q hq => h q (.inl hq), fun q hq => h q (.inr hq)⟩, fun h q hq => hq.elim (h.1 q) (h.2 q)⟩
theorem over_app {a b : List Pr} {k : ByteArray} : Over (a ++ b) k ↔ Over a k ∧ Over b k := by
  simp only [Over, List.mem_append]
  exact ⟨fun h => ⟨fun q hq => h q (.inl hq), fun q hq => h q (.inr hq)⟩, fun h q hq => hq.elim (h.1 q) (h.2 q)⟩
theorem under_nil (k : ByteArray) : Under [] k := fun q hq => by cases hq
theorem over_nil (k : ByteArray) : Over [] k := fun q hq => by cases hq
theorem Under.up {a : List Pr} {k j : ByteArray} (h : Under a k) (g : klt k j = true) : Under a j := fun q hq => klt_trans (h q hq) g
theorem Over.down {a : List Pr} {k j : ByteArray} (h : Over a k) (g : klt j k = true) : Over a j := fun q hq => klt_trans g (h q hq)
theorem under_cons {p : Pr} {a : List Pr} {k : ByteArray} : Under (p :: a) k ↔ klt p.1 k = true ∧ Under a k := by simp [Under]
theorem over_cons {p : Pr} {a : List Pr} {k : ByteArray} : Over (p :: a) k ↔ klt k p.1 = true ∧ Over a k := by simp [Over]
theorem under_look {l : List Pr} (hs : Sorted l) {k : ByteArray} : Under l k ↔ ∀ x, klt x k = false → look l x = none :=
  ⟨fun h x hx => look_under h hx, fun h q hq => by
    cases e : klt q.1 k
    · have := h _ e; rw [look_mem hs hq] at this; cases this
    · rfl⟩
theorem over_look {l : List Pr} (hs : Sorted l) {k : ByteArray} : Over l k ↔ ∀ x, klt k x = false → look l x = none :=
  ⟨fun h x hx => look_over h hx, fun h q hq => by
    cases e : klt k q.1
    · have := h _ e; rw [look_mem hs hq] at this; cases this
    · rfl⟩

namespace T

theorem node_sorted {l : T} {p : Pr} {r : T} (h : Sorted (node l p r).list) : Sorted l.list ∧ Sorted r.list ∧ Under l.list p.1 ∧ Over r.list p.1 := (sorted_mid _ _ _).1 h

/-- What is less than a key, what the key has, and what is more. -/
structure Parted (t : T) (k : ByteArray) (l : T) (h : Option Pr) (m : T) : Prop where
  list : t.list = l.list ++ (h.toList ++ m.list)
  under : Under l.list k
  over : Over m.list k
  here : ∀ p, h = some p → p.1 = k
  lbal : l.Bal
  mbal : m.Bal

theorem Parted.sorted {t : T} {k : ByteArray} {l : T} {h : Option Pr} {m : T} (P : Parted t k l h m) (hs : Sorted t.list) : Sorted l.list ∧ Sorted m.list := by
  rw [P.list, sorted_app, sorted_app] at hs
  exact ⟨hs.1, hs.2.1.2.1⟩

theorem Parted.has {t : T} {k : ByteArray} {l : T} {h : Option Pr} {m : T} (P : Parted t k l h m) (x : ByteArray) :
    look t.list x = if klt x k = true then look l.list x else if klt k x = true then look m.list x else h.map (·.2) := by
  rw [P.list, look_app, look_app]
  have hh : look h.toList x = if x = k then h.map (·.2) else none := by
    cases h with
    | none => simp [look]
    | some p =>
      have := P.here p rfl
      subst this
      simp only [Option.toList, look, Option.map]
      by_cases e : p.1 = x
      · rw [if_pos e, if_pos e.symm]
      · rw [if_neg e, if_neg (fun e' => e e'.symm)]
  rw [hh]
  rcases klt_tri x k with g | g | g
  · rw [if_pos g, if_neg (klt_ne g), look_over P.over (klt_asym g)]; simp
  · subst g; rw [if_pos rfl, klt_irr, look_under P.under (klt_irr _), look_over P.over (klt_irr _)]; simp
  · rw [klt_asym g, if_pos g, if_neg (fun e => klt_ne g e.symm), look_under P.under (klt_asym g)]; simp

theorem parted_nil (k : ByteArray) : Parted nil k nil none nil := ⟨rfl, under_nil _, over_nil _, fun _ h => (by cases h), trivial, trivial⟩
theorem parted_here {l : T} {p : Pr} {r : T} (hb : (node l p r).Bal) (hs : Sorted (node l p r).list) : Parted (node l p r) p.1 l (some p) r := by
  obtain ⟨_, _, hu, ho⟩ := node_sorted hs
  exact ⟨rfl, hu, ho, fun q h => (by cases h; rfl), hb.1, hb.2.1⟩
theorem parted_less {l : T} {p : Pr} {r : T} {k : ByteArray} {a : T} {h : Option Pr} {b u : T} (hs : Sorted (node l p r).list) (hk : klt k p.1 = true) (P : Parted l k a h b) (J : Joined b p r u) : Parted (node l p r) k a h u := by
  obtain ⟨_, _, hu, ho⟩ := node_sorted hs
  refine ⟨by rw [J.list]; simp [T.list, P.list], P.under, ?_, P.here, P.lbal, J.bal⟩
  rw [J.list, over_app, over_cons]
  exact ⟨P.over, hk, ho.down hk⟩
theorem parted_more {l : T} {p : Pr} {r : T} {k : ByteArray} {a : T} {h : Option Pr} {b u : T} (hs : Sorted (node l p r).list) (hk : klt p.1 k = true) (P : Parted r k a h b) (J : Joined l p a u) : Parted (node l p r) k u h b := by
  obtain ⟨_, _, hu, ho⟩ := node_sorted hs
  refine ⟨by rw [J.list]; simp [T.list, P.list], ?_, P.over, P.here, J.bal, P.mbal⟩
  rw [J.list, under_app, under_cons]
  exact ⟨hu.up hk, hk, P.under⟩

/-- A tree behind a put. -/
structure IsPut (t : T) (p : Pr) (u : T) : Prop where
  bal : u.Bal
  sorted : Sorted u.list
  has : ∀ k, look u.list k = if k = p.1 then some p.2 else look t.list k
  low : t.deep ≤ u.deep
  high : u.deep ≤ t.deep + 1
  size : u.size ≤ t.size + 1

theorem IsPut.under {t : T} {p : Pr} {u : T} (P : IsPut t p u) (hs : Sorted t.list) {k : ByteArray} (h : Under t.list k) (hp : klt p.1 k = true) : Under u.list k :=
  (under_look P.sorted).2 fun x hx => by
    rw [P.has, if_neg (fun e => by rw [e, hp] at hx; cases hx)]
    exact (under_look hs).1 h x hx
theorem IsPut.over {t : T} {p : Pr} {u : T} (P : IsPut t p u) (hs : Sorted t.list) {k : ByteArray} (h : Over t.list k) (hp : klt k p.1 = true) : Over u.list k :=
  (over_look P.sorted).2 fun x hx => by
    rw [P.has, if_neg (fun e => by rw [e, hp] at hx; cases hx)]
    exact (over_look hs).1 h x hx

theorem put_nil (p : Pr) : IsPut nil p (node nil p nil) := by
  refine ⟨⟨trivial, trivial, by simp [deep], by simp [deep]⟩, by simp [T.list, Sorted], fun k => ?_, by simp [deep], by simp [deep], by simp [T.size]⟩
  simp only [T.list, List.nil_append, look]
  by_cases e : p.1 = k
  · rw [if_pos e, if_pos e.symm]
  · rw [if_neg e, if_neg (fun e' => e e'.symm)]
theorem put_here {l : T} {q p : Pr} {r : T} (hb : (node l q r).Bal) (hs : Sorted (node l q r).list) (hk : p.1 = q.1) : IsPut (node l q r) p (node l p r) := by
  have h := node_sorted hs
  obtain ⟨h1, h2, hu, ho⟩ := h
  refine ⟨hb, (sorted_mid _ _ _).2 ⟨h1, h2, hk ▸ hu, hk ▸ ho⟩, fun k => ?_, by simp [deep], by simp [deep], by simp [T.size]⟩
  simp only [T.list]
  rw [look_mid (p := p) (hk ▸ hu) (hk ▸ ho), look_mid hu ho, hk]
  rcases klt_tri k q.1 with g | g | g
  · have := klt_ne g; simp [g, this]
  · subst g; simp [klt_irr]
  · have := (klt_ne g).symm; simp [g, klt_asym g, this]
theorem put_less {l : T} {q p : Pr} {r u t : T} (hb : (node l q r).Bal) (hs : Sorted (node l q r).list) (hk : klt p.1 q.1 = true) (P : IsPut l p u) (J : Joined u q r t) : IsPut (node l q r) p t := by
  obtain ⟨h1, h2, hu, ho⟩ := node_sorted hs
  have hu' := P.under h1 hu hk
  have := P.low; have := P.high; have := J.low; have := J.high; have := J.near
  obtain ⟨_, _, h3, h4⟩ := hb
  refine ⟨J.bal, by rw [J.list]; exact (sorted_mid _ _ _).2 ⟨P.sorted, h2, hu', ho⟩, fun k => ?_, by simp only [deep]; omega, by simp only [deep]; omega, by rw [J.size]; have := P.size; simp only [T.size]; omega⟩
  rw [J.list, look_mid hu' ho, P.has]
  simp only [T.list]
  rw [look_mid hu ho]
  rcases klt_tri k q.1 with g | g | g
  · simp [g]
  · subst g; have := (klt_ne hk).symm; simp [klt_irr, this]
  · have : k ≠ p.1 := fun e => by rw [e] at g; rw [klt_asym g] at hk; cases hk
    simp [g, klt_asym g, this]
theorem put_more {l : T} {q p : Pr} {r u t : T} (hb : (node l q r).Bal) (hs : Sorted (node l q r).list) (hk : klt q.1 p.1 = true) (P : IsPut r p u) (J : Joined l q u t) : IsPut (node l q r) p t := by
  obtain ⟨h1, h2, hu, ho⟩ := node_sorted hs
  have ho' := P.over h2 ho hk
  have := P.low; have := P.high; have := J.low; have := J.high; have := J.near
  obtain ⟨_, _, h3, h4⟩ := hb
  refine ⟨J.bal, by rw [J.list]; exact (sorted_mid _ _ _).2 ⟨h1, P.sorted, hu, ho'⟩, fun k => ?_, by simp only [deep]; omega, by simp only [deep]; omega, by rw [J.size]; have := P.size; simp only [T.size]; omega⟩
  rw [J.list, look_mid hu ho', P.has]
  simp only [T.list]
  rw [look_mid hu ho]
  rcases klt_tri k q.1 with g | g | g
  · have : k ≠ p.1 := fun e => by rw [e] at g; rw [klt_asym g] at hk; cases hk
    simp [g, this]
  · subst g; have := klt_ne hk; simp [klt_irr, this]
  · simp [g, klt_asym g]
theorem put_level {l : T} {q : Pr} {r : T} (hb : (node l q r).Bal) {p : Pr} {u : T} (P : IsPut l p u) : u.Bal ∧ r.Bal ∧ u.deep ≤ r.deep + 2 ∧ r.deep ≤ u.deep + 2 := by
  have := P.low; have := P.high
  obtain ⟨_, h2, h3, h4⟩ := hb
  exact ⟨P.bal, h2, by omega, by omega⟩
theorem put_level' {l : T} {q : Pr} {r : T} (hb : (node l q r).Bal) {p : Pr} {u : T} (P : IsPut r p u) : l.Bal ∧ u.Bal ∧ l.deep ≤ u.deep + 2 ∧ u.deep ≤ l.deep + 2 := by
  have := P.low; have := P.high
  obtain ⟨h1, _, h3, h4⟩ := hb
  exact ⟨h1, P.bal, by omega, by omega⟩

/-- What two trees make by what each key has in both. -/
structure Two (f : Option ByteArray → Option ByteArray → Option ByteArray) (a b t : T) : Prop where
  bal : t.Bal
  sorted : Sorted t.list
  has : ∀ k, look t.list k = f (look a.list k) (look b.list k)

theorem Two.under {f : Option ByteArray → Option ByteArray → Option ByteArray} {a b t : T} (P : Two f a b t) (h0 : f none none = none) (ha : Sorted a.list) (hb : Sorted b.list) {k : ByteArray} (h : Under a.list k) (g : Under b.list k) : Under t.list k :=
  (under_look P.sorted).2 fun x hx => by rw [P.has, (under_look ha).1 h x hx, (under_look hb).1 g x hx, h0]
theorem Two.over {f : Option ByteArray → Option ByteArray → Option ByteArray} {a b t : T} (P : Two f a b t) (h0 : f none none = none) (ha : Sorted a.list) (hb : Sorted b.list) {k : ByteArray} (h : Over a.list k) (g : Over b.list k) : Over t.list k :=
  (over_look P.sorted).2 fun x hx => by rw [P.has, (over_look ha).1 h x hx, (over_look hb).1 g x hx, h0]

theorem two_join {f : Option ByteArray → Option ByteArray → Option ByteArray} (h0 : f none none = none) {a b : T} (ha : Sorted a.list) (hb : Sorted b.list) {k : ByteArray} {a1 a2 b1 b2 u v t : T} {ha' hb' : Option Pr}
    (A : Parted a k a1 ha' a2) (B : Parted b k b1 hb' b2) (U : Two f a1 b1 u) (V : Two f a2 b2 v) {p : Pr} (hp : p.1 = k) (hf : f (ha'.map (·.2)) (hb'.map (·.2)) = some p.2) (J : Joined u p v t) : Two f a b t := by
  have sa := A.sorted ha
  have sb := B.sorted hb
  have hu := U.under h0 sa.1 sb.1 A.under B.under
  have ho := V.over h0 sa.2 sb.2 A.over B.over
  subst hp
  refine ⟨J.bal, by rw [J.list]; exact (sorted_mid _ _ _).2 ⟨U.sorted, V.sorted, hu, ho⟩, fun x => ?_⟩
  rw [J.list, look_mid hu ho, A.has, B.has, U.has, V.has]
  rcases klt_tri x p.1 with g | g | g
  · simp [g]
  · subst g; simp [klt_irr, hf]
  · simp [g, klt_asym g]
theorem two_meet {f : Option ByteArray → Option ByteArray → Option ByteArray} (h0 : f none none = none) {a b : T} (ha : Sorted a.list) (hb : Sorted b.list) {k : ByteArray} {a1 a2 b1 b2 u v t : T} {ha' hb' : Option Pr}
    (A : Parted a k a1 ha' a2) (B : Parted b k b1 hb' b2) (U : Two f a1 b1 u) (V : Two f a2 b2 v) (hf : f (ha'.map (·.2)) (hb'.map (·.2)) = none) (htb : t.Bal) (J : t.list = u.list ++ v.list) : Two f a b t := by
  have sa := A.sorted ha
  have sb := B.sorted hb
  have hu := U.under h0 sa.1 sb.1 A.under B.under
  have ho := V.over h0 sa.2 sb.2 A.over B.over
  refine ⟨htb, by rw [J, sorted_app]; exact ⟨U.sorted, V.sorted, fun p hp q hq => klt_trans (hu p hp) (ho q hq)⟩, fun x => ?_⟩
  rw [J, look_app, A.has, B.has, U.has, V.has]
  rcases klt_tri x k with g | g | g
  · have e1 := look_over A.over (klt_asym g); have e2 := look_over B.over (klt_asym g)
    simp [g, e1, e2, h0]
  · subst g
    have e1 := look_over A.over (klt_irr _); have e2 := look_over B.over (klt_irr _)
    have e3 := look_under A.under (klt_irr _); have e4 := look_under B.under (klt_irr _)
    simp [klt_irr, hf, e1, e2, e3, e4, h0]
  · have e3 := look_under A.under (klt_asym g); have e4 := look_under B.under (klt_asym g)
    simp [g, klt_asym g, e3, e4, h0]

def fU (a b : Option ByteArray) : Option ByteArray := b.or a
def fM (a b : Option ByteArray) : Option ByteArray := if b.isSome then none else a
def fB (a b : Option ByteArray) : Option ByteArray := if b.isSome then a else none
end T
end Go.Proofs.Ytdfjnpnkfjcpcaa
