/-
  Plain facts: trees of knots.
-/
import Derived.Test.YtdfjnpnkfjcpcaaTM1
namespace Go.Proofs.Ytdfjnpnkfjcpcaa
set_option linter.unusedVariables false
set_option linter.unusedSimpArgs false

inductive T
  | nil
  | node (l : T) (p : Pr) (r : T)

namespace T

def size : T → Nat
  | nil => 0
  | node l _ r => l.size + 1 + r.size
def deep : T → Nat
  | nil => 0
  | node l _ r => max l.deep r.deep + 1
def list : T → List Pr
  | nil => []
  | node l p r => l.list ++ p :: r.list
def Bal : T → Prop
  | nil => True
  | node l _ r => l.Bal ∧ r.Bal ∧ l.deep ≤ r.deep + 1 ∧ r.deep ≤ l.deep + 1

theorem size_list : ∀ t : T, t.list.length = t.size
  | nil => rfl
  | node l p r => by simp [list, size, size_list l, size_list r]; omega
theorem deep_zero {t : T} (h : t.deep = 0) : t = nil := by cases t <;> simp_all [deep]
theorem deep_size : ∀ t : T, t.deep ≤ t.size
  | nil => Nat.le_refl _
  | node l p r => by have := deep_size l; have := deep_size r; simp only [deep, size]; omega

/-- What stands where two sides and a pair between them were put together. -/
structure Joined (l : T) (p : Pr) (r t : T) : Prop where
  list : t.list = l.list ++ p :: r.list
  bal : t.Bal
  low : max l.deep r.deep ≤ t.deep
  high : t.deep ≤ max l.deep r.deep + 1
  near : l.deep ≤ r.deep + 1 → r.deep ≤ l.deep + 1 → t.deep = max l.deep r.deep + 1

theorem Joined.size {l : T} {p : Pr} {r t : T} (h : Joined l p r t) : t.size = l.size + 1 + r.size := by
  rw [← size_list, h.list]; simp [size_list]; omega

theorem joined_tie {l : T} {p : Pr} {r : T} (hl : l.Bal) (hr : r.Bal) (h1 : l.deep ≤ r.deep + 1) (h2 : r.deep ≤ l.deep + 1) : Joined l p r (node l p r) :=
  ⟨rfl, ⟨hl, hr, h1, h2⟩, by simp only [deep]; omega, by simp only [deep]; omega, fun _ _ => rfl⟩

theorem joined_ll {a : T} {q : Pr} {b : T} {p : Pr} {r : T} (hl : (node a q b).Bal) (hr : r.Bal) (h1 : (node a q b).deep = r.deep + 2) (h : b.deep ≤ a.deep) : Joined (node a q b) p r (node a q (node b p r)) := by
  obtain ⟨ha, hb, h3, h4⟩ := hl
  simp only [deep] at h1
  refine ⟨by simp [list], ⟨ha, ⟨hb, hr, by omega, by omega⟩, by simp only [deep]; omega, by simp only [deep]; omega⟩, by simp only [deep]; omega, by simp only [deep]; omega, fun h5 => by simp only [deep] at h5; omega⟩

theorem joined_lr {a : T} {q : Pr} {b : T} {m : Pr} {c : T} {p : Pr} {r : T} (hl : (node a q (node b m c)).Bal) (hr : r.Bal) (h1 : (node a q (node b m c)).deep = r.deep + 2) (h : a.deep < (node b m c).deep) : Joined (node a q (node b m c)) p r (node (node a q b) m (node c p r)) := by
  obtain ⟨ha, ⟨hb, hc, h5, h6⟩, h3, h4⟩ := hl
  simp only [deep] at h1 h h3 h4
  refine ⟨by simp [list], ⟨⟨ha, hb, by omega, by omega⟩, ⟨hc, hr, by omega, by omega⟩, by simp only [deep]; omega, by simp only [deep]; omega⟩, by simp only [deep]; omega, by simp only [deep]; omega, fun h5 => by simp only [deep] at h5; omega⟩

theorem joined_rr {l : T} {p : Pr} {b : T} {q : Pr} {a : T} (hl : l.Bal) (hr : (node b q a).Bal) (h1 : (node b q a).deep = l.deep + 2) (h : b.deep ≤ a.deep) : Joined l p (node b q a) (node (node l p b) q a) := by
  obtain ⟨hb, ha, h3, h4⟩ := hr
  simp only [deep] at h1
  refine ⟨by simp [list], ⟨⟨hl, hb, by omega, by omega⟩, ha, by simp only [deep]; omega, by simp only [deep]; omega⟩, by simp only [deep]; omega, by simp only [deep]; omega, fun _ h5 => by simp only [deep] at h5; omega⟩

theorem joined_rl {l : T} {p : Pr} {b : T} {m : Pr} {c : T} {q : Pr} {a : T} (hl : l.Bal) (hr : (node (node b m c) q a).Bal) (h1 : (node (node b m c) q a).deep = l.deep + 2) (h : a.deep < (node b m c).deep) : Joined l p (node (node b m c) q a) (node (node l p b) m (node c q a)) := by
  obtain ⟨⟨hb, hc, h5, h6⟩, ha, h3, h4⟩ := hr
  simp only [deep] at h1 h h3 h4
  refine ⟨by simp [list], ⟨⟨hl, hb, by omega, by omega⟩, ⟨hc, ha, by omega, by omega⟩, by simp only [deep]; omega, by simp only [deep]; omega⟩, by simp only [deep]; omega, by simp only [deep]; omega, fun _ h5 => by simp only [deep] at h5; omega⟩

/-- join, where the first side is the deeper one. -/
theorem joined_left {a : T} {q : Pr} {b : T} {p : Pr} {r t u : T} (hl : (node a q b).Bal) (h : r.deep + 1 < (node a q b).deep) (ht : Joined b p r t) (hu : Joined a q t u) : Joined (node a q b) p r u := by
  have := ht.low; have := ht.high; have := hu.low; have := hu.high; have := hu.near
  obtain ⟨ha, hb, h3, h4⟩ := hl
  simp only [deep] at h
  refine ⟨by rw [hu.list, ht.list]; simp [list], hu.bal, by simp only [deep]; omega, by simp only [deep]; omega, fun h5 => by simp only [deep] at h5; omega⟩
theorem joined_left_ok {a : T} {q : Pr} {b : T} {p : Pr} {r t : T} (hl : (node a q b).Bal) (h : r.deep + 1 < (node a q b).deep) (ht : Joined b p r t) : a.deep ≤ t.deep + 2 ∧ t.deep ≤ a.deep + 2 := by
  have := ht.low; have := ht.high; have := ht.near
  obtain ⟨ha, hb, h3, h4⟩ := hl
  simp only [deep] at h
  omega
theorem joined_right {l : T} {p : Pr} {b : T} {q : Pr} {a : T} {t u : T} (hr : (node b q a).Bal) (h : l.deep + 1 < (node b q a).deep) (ht : Joined l p b t) (hu : Joined t q a u) : Joined l p (node b q a) u := by
  have := ht.low; have := ht.high; have := hu.low; have := hu.high; have := hu.near
  obtain ⟨ha, hb, h3, h4⟩ := hr
  simp only [deep] at h
  refine ⟨by rw [hu.list, ht.list]; simp [list], hu.bal, by simp only [deep]; omega, by simp only [deep]; omega, fun _ h5 => by simp only [deep] at h5; omega⟩
theorem joined_right_ok {l : T} {p : Pr} {b : T} {q : Pr} {a : T} {t : T} (hr : (node b q a).Bal) (h : l.deep + 1 < (node b q a).deep) (ht : Joined l p b t) : a.deep ≤ t.deep + 2 ∧ t.deep ≤ a.deep + 2 := by
  have := ht.low; have := ht.high; have := ht.near
  obtain ⟨ha, hb, h3, h4⟩ := hr
  simp only [deep] at h
  omega

/-- Fewer than so many pairs are not deeper. -/
def fib : Nat → Nat
  | 0 => 0
  | 1 => 1
  | n + 2 => fib n + fib (n + 1) + 1
theorem fib_mono (n : Nat) : fib n ≤ fib (n + 1) := by
  induction n with
  | zero => decide
  | succ n ih => simp only [fib]; omega
theorem bal_fib : ∀ t : T, t.Bal → fib t.deep ≤ t.size
  | nil, _ => Nat.le_refl _
  | node l p r, ⟨hl, hr, h1, h2⟩ => by
    have a := bal_fib l hl
    have b := bal_fib r hr
    simp only [deep, size]
    rcases Nat.lt_trichotomy l.deep r.deep with h | h | h
    · have e : r.deep = l.deep + 1 := by omega
      rw [show max l.deep r.deep + 1 = l.deep + 2 from by omega, fib, ← e]; omega
    · rw [show max l.deep r.deep + 1 = l.deep + 1 from by omega]
      have : fib (l.deep + 1) ≤ fib l.deep + fib l.deep + 1 := by
        cases hd : l.deep with
        | zero => decide
        | succ n => simp only [fib]; have := fib_mono n; omega
      rw [← h] at b; omega
    · have e : l.deep = r.deep + 1 := by omega
      rw [show max l.deep r.deep + 1 = r.deep + 2 from by omega, fib, ← e]; omega

end T
end Go.Proofs.Ytdfjnpnkfjcpcaa
