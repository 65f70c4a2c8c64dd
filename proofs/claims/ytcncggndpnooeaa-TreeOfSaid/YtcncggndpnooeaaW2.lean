/-
  What is told of trees that were made, by their lists. (Written by genl.py.)
-/
import Derived.Test.YtcncggndpnooeaaW1
import Derived.Test.YtcncggndpnooeaaM6
import Derived.Test.YtcncggndpnooeaaL5
import Derived.Test.YtcncggndpnooeaaL6
import Derived.Test.YtcncggndpnooeaaL7
import Derived.Test.YtcncggndpnooeaaL8
import Derived.Test.YtcncggndpnooeaaL9
namespace Go.Proofs.Ytcncggndpnooeaa
set_option linter.unusedVariables false
set_option linter.unusedSimpArgs false
open Go.RowKit

/-- A tree that was made, its list. -/
structure Tl (w : World) (L : List Pr) (n : Nat) (v : Option Addr) (t : T) : Prop where
  good : Good t n
  list : t.list = L
  tree : Tr w w.heap.size t v
theorem Tl.later {w w' : World} {L : List Pr} {n : Nat} {v : Option Addr} {t : T} (h : Tl w L n v t) (hb : Below w.heap.size w w') : Tl w' L n v t := ⟨h.good, h.list, h.tree.all hb⟩
theorem St.tl {w wr : World} {s : T} {n : Nat} {x : Option Addr} {u : Value} (h : St w wr s n x u) : Tl wr s.list n x s := ⟨h.good, rfl, h.tree⟩
theorem Tl.more {w : World} {L : List Pr} {m n : Nat} {v : Option Addr} {t : T} (h : Tl w L m v t) (hm : m ≤ n) : Tl w L n v t := ⟨h.good.more' hm, h.list, h.tree⟩
theorem Tl.sorted {w : World} {L : List Pr} {n : Nat} {v : Option Addr} {t : T} (h : Tl w L n v t) : Sorted L := by rw [← h.list]; exact h.good.sorted
theorem Tl.length {w : World} {L : List Pr} {n : Nat} {v : Option Addr} {t : T} (h : Tl w L n v t) : L.length ≤ n := by rw [← h.list, T.size_list]; exact h.good.size
theorem Tl.size {w : World} {L : List Pr} {n : Nat} {v : Option Addr} {t : T} (h : Tl w L n v t) : t.size = L.length := by rw [← h.list, T.size_list]
/-- What is told: a tree that has a list. -/
def Trees (L : List Pr) (n : Nat) (w : World) (e : Ending) (w' : World) : Prop := ∃ v t, e = .returned (.pointer v) ∧ Tl w' L n v t ∧ Below w.heap.size w w'
theorem All_tl {w : World} {L : List Pr} {n : Nat} {v : Option Addr} {t : T} (h : Tl w L n v t) (hn : n ≤ 500000000) : Calls Try.prog 26 #[.pointer v] w (Lists L w) :=
  (All_any h.tree (h.good.more' hn)).mono fun e w' hsc => by have h' := hsc.lists; rw [h.list] at h'; exact h'
theorem Len_tl {w : World} {L : List Pr} {n : Nat} {v : Option Addr} {t : T} (h : Tl w L n v t) : Calls Try.prog 24 #[.pointer v] w fun e w' => e = .returned (.int .i64 (L.length : Nat)) ∧ w = w' :=
  (Len_any h.tree).mono fun e w' ⟨he, hw⟩ => ⟨by rw [he, h.size], hw⟩
theorem Union_tl {w : World} {L M : List Pr} {m n : Nat} {u v : Option Addr} {a b : T} (h : Tl w L m u a) (h2 : Tl w M n v b) (hn : m + n ≤ 500000000) : Calls Try.prog 45 #[.pointer u, .pointer v] w (Trees (un L M) (m + n) w) :=
  (Union_any h.tree h2.tree (h.good.more' (by omega)) (h2.good.more' (by omega))).mono fun e w' ⟨x, t, he, ⟨ht, hz⟩, hr, hb⟩ =>
    ⟨x, t, he, ⟨⟨ht.bal, ht.sorted, by have := h.good.size; have := h2.good.size; omega⟩, by rw [ht.union h.good.sorted h2.good.sorted, h.list, h2.list], hr⟩, hb⟩
theorem Minus_tl {w : World} {L M : List Pr} {m n : Nat} {u v : Option Addr} {a b : T} (h : Tl w L m u a) (h2 : Tl w M n v b) (hm : m ≤ 500000000) (hn : n ≤ 500000000) : Calls Try.prog 46 #[.pointer u, .pointer v] w (Trees (mi L M) m w) :=
  (Minus_any h.tree h2.tree (h.good.more' hm) (h2.good.more' hn)).mono fun e w' ⟨x, t, he, ⟨ht, hz⟩, hr, hb⟩ =>
    ⟨x, t, he, ⟨⟨ht.bal, ht.sorted, by have := h.good.size; omega⟩, by rw [ht.minus h.good.sorted h2.good.sorted, h.list, h2.list], hr⟩, hb⟩
theorem Both_tl {w : World} {L M : List Pr} {m n : Nat} {u v : Option Addr} {a b : T} (h : Tl w L m u a) (h2 : Tl w M n v b) (hm : m ≤ 500000000) (hn : n ≤ 500000000) : Calls Try.prog 47 #[.pointer u, .pointer v] w (Trees (mi L (mi L M)) m w) :=
  (Both_any h.tree h2.tree (h.good.more' hm) (h2.good.more' hn)).mono fun e w' ⟨x, t, he, ⟨ht, hz⟩, hr, hb⟩ =>
    ⟨x, t, he, ⟨⟨ht.bal, ht.sorted, by have := h.good.size; omega⟩, by rw [ht.both h.good.sorted h2.good.sorted, h.list, h2.list], hr⟩, hb⟩
/-- What is told of a tree that is split: two trees, and what the key has. -/
def Halves (L : List Pr) (k : ByteArray) (n : Nat) (w : World) (e : Ending) (w' : World) : Prop :=
  ∃ va vb a b, e = .returned (.tuple #[.pointer va, .pointer vb, .string ((look L k).getD ByteArray.empty), .bool (look L k).isSome]) ∧ Tl w' (L.filter fun q => klt q.1 k) n va a ∧ Tl w' (L.filter fun q => klt k q.1) n vb b ∧ Below w.heap.size w w'
theorem Split_tl {w : World} {L : List Pr} {n : Nat} {v : Option Addr} {t : T} (k : ByteArray) (h : Tl w L n v t) (hn : n ≤ 500000000) : Calls Try.prog 40 #[.pointer v, .string k] w (Halves L k n w) :=
  (Split_any k h.tree (h.good.more' hn)).mono fun e w' ⟨va, vb, a, o, b, he, hP, ha, hb, hw⟩ => by
    have e1 := hP.hereV
    rw [h.list] at e1
    have e2 := hP.less
    rw [h.list] at e2
    refine ⟨va, vb, a, b, ?_, ⟨hP.good_left h.good, e2.1, ha⟩, ⟨hP.good_right h.good, e2.2, hb⟩, hw⟩
    rw [he, ← e1]
    cases o <;> rfl
theorem Join_tl {w : World} {L M : List Pr} {m n : Nat} {u v : Option Addr} {a b : T} (h : Tl w L m u a) (h2 : Tl w M n v b) (hm : m ≤ 500000000) (hn : n ≤ 500000000) : Calls Try.prog 42 #[.pointer u, .pointer v] w fun e w' =>
    Below w.heap.size w w' ∧ if jn L M = true then ∃ v t, e = .returned (.tuple #[.pointer v, .bool true]) ∧ Tl w' (L ++ M) (m + n) v t else e = .returned (.tuple #[.pointer none, .bool false]) :=
  (Join_any h.tree h2.tree (h.good.more' hm) (h2.good.more' hn)).mono fun e w' ⟨hb, hj⟩ => by
    refine ⟨hb, ?_⟩
    have ej : joinable a.list b.list = jn L M := by rw [h.list, h2.list]; exact jn_ends h.sorted h2.sorted
    rw [ej] at hj
    split at hj
    · rename_i e1
      rw [if_pos e1]
      obtain ⟨v, t, he, _, ht, hr⟩ := hj
      have el : t.list = L ++ M := by rw [ht.1, h.list, h2.list]
      refine ⟨v, t, he, ⟨⟨ht.2, ?_, ?_⟩, el, hr⟩⟩
      · rw [el, sorted_app]; exact ⟨h.sorted, h2.sorted, jn_iff.1 e1⟩
      · rw [← T.size_list, el, List.length_append]; have := h.length; have := h2.length; omega
    · rename_i e1
      rw [if_neg e1]; exact hj
theorem shallow_tl {w : World} {L : List Pr} {n : Nat} {v : Option Addr} {t : T} (h : Tl w L n v t) (hn : n ≤ 500000000) : Calls Try.prog 44 #[.pointer v] w fun e w' => e = .returned (.bool true) ∧ Below w.heap.size w w' :=
  shallow_any h.tree (h.good.more' hn)
end Go.Proofs.Ytcncggndpnooeaa
