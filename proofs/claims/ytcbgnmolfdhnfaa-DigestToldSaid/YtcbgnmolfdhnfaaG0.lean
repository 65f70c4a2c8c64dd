/-
  Pairs placed: what they are, plainly; lists of them in memory.
-/
import Derived.Test.YtcbgnmolfdhnfaaS8
import Derived.Test.YtcbgnmolfdhnfaaLc
import Derived.Laws.MakeOwn
namespace Go.Proofs.Ytcbgnmolfdhnfaa
set_option linter.unusedVariables false
set_option linter.unusedSimpArgs false
open Go.RowKit

def prL : Lay Pr := ⟨fun p => [.string p.1, .string p.2], 2, fun _ => rfl, by intro p u hu; simp at hu; rcases hu with rfl | rfl <;> rfl⟩
def plL : Lay Pl := ⟨fun p => [.string p.1.2, .string p.2, .int .u64 p.1.1], 3, fun _ => rfl, by intro p u hu; simp at hu; rcases hu with rfl | rfl | rfl <;> rfl⟩
theorem Try.infoPlaced : (Try.prog.info? 118).map (fun i => (i.zero, i.size, i.bytes)) = some (some (.agg #[.string ByteArray.empty, .string ByteArray.empty, .int .u64 0]), 3, 40) := by kernel_rfl
/-- Seeds. -/
structure Sd where
  a : Nat
  b : Nat
def Sd.Ok (s : Sd) : Prop := s.a < 18446744073709551616 ∧ s.b < 18446744073709551616
noncomputable def Sd.at (s : Sd) (k : ByteArray) : Nat := sumN s.a s.b (Wi.sb k)
theorem Sd.at_lt {s : Sd} (h : s.Ok) (k : ByteArray) : s.at k < 18446744073709551616 := sumN_lt h.1 h.2 (oct_sb k)
noncomputable def Sd.pair (s : Sd) (k v : ByteArray) : Nat := sumN s.a s.b (pairB k v)
noncomputable def Sd.mk' (s : Sd) (p : Pr) : Pl := ((s.at p.1 / 281474976710656, p.1), p.2)
/-- Is it the last one of its key? -/
def lastB (S : List Pl) (i : Nat) (p : Pl) : Bool :=
  match S[i + 1]? with
  | some q => !decide (q.1.2 = p.1.2)
  | none => true
def lasts (S : List Pl) : Nat → List Pl
  | 0 => []
  | i + 1 => lasts S i ++ (match S[i]? with | some p => if lastB S i p = true then [p] else [] | none => [])
theorem lasts_len (S : List Pl) : ∀ i, (lasts S i).length ≤ i
  | 0 => Nat.le_refl _
  | i + 1 => by
    have := lasts_len S i
    simp only [lasts, List.length_append]
    split
    · split <;> simp <;> omega
    · simp; omega
theorem lasts_yes {S : List Pl} {i : Nat} {p : Pl} (h : S[i]? = some p) (hb : lastB S i p = true) : lasts S (i + 1) = lasts S i ++ [p] := by simp [lasts, h, hb]
theorem lasts_no {S : List Pl} {i : Nat} {p : Pl} (h : S[i]? = some p) (hb : lastB S i p = false) : lasts S (i + 1) = lasts S i := by simp [lasts, h, hb]
noncomputable def Sd.place (s : Sd) (l : List Pr) : List Pl := lasts (isort (l.map s.mk')) l.length
/-- Keys and values of a list are short. -/
def Slim (l : List Pr) : Prop := ∀ p ∈ l, p.1.size + p.2.size + 18 ≤ 140737488355328

theorem prow_own {w : World} {g n c B : Nat} {xs : List Pl} (h : w.ownsRow B 118 3 (.slice (some ⟨g, 0, none⟩) n c) n (plL.all xs)) : PRow w g xs := by
  have hi := Lay.in_own (I := plL) (ys := xs) h (by have := h.1; rw [Lay.all_len] at this; have e : plL.sz = 3 := rfl; rw [e] at this; omega)
  obtain ⟨a', c', hv, _, _, hc⟩ := hi
  simp only [Value.slice.injEq] at hv
  obtain ⟨rfl, _, _⟩ := hv
  refine ⟨fun i p hp => ?_, fun i => ?_⟩
  · obtain ⟨g', off, hh, _, hat⟩ := hc.resolve_left (fun e => by rw [e] at hp; simp at hp)
    simp only [Option.some.injEq, Addr.mk.injEq, and_true] at hh
    obtain ⟨rfl, rfl⟩ := hh
    exact ⟨hat i p hp 0 _ rfl, hat i p hp 1 _ rfl, hat i p hp 2 _ rfl⟩
  · rcases h.2 with ⟨h0, _⟩ | ⟨g', cap, cur, hv, _, hg, _⟩
    · cases h0
    · simp only [Value.slice.injEq, Option.some.injEq, Addr.mk.injEq, and_true] at hv
      obtain ⟨rfl, _⟩ := hv
      simp [World.frozen?, hg]
theorem told_prow {w : World} {g c : Nat} {xs : List Pl} (h : PRow w g xs) (hg : g < w.heap.size) (hc : xs.length ≤ c) (hm : c ≤ 9223372036854775807) : plL.In w (.slice (some ⟨g, 0, none⟩) xs.length c) xs :=
  ⟨_, c, rfl, hc, hm, .inr ⟨g, 0, rfl, hg, fun i x hx j v hv => by
    obtain ⟨h0, h1, h2⟩ := h.pairs i x hx
    have e : plL.sz = 3 := rfl
    rw [e]
    rcases j with _ | _ | _ | j
    · cases hv; exact h0
    · cases hv; exact h1
    · cases hv; exact h2
    · simp [plL] at hv⟩⟩
end Go.Proofs.Ytcbgnmolfdhnfaa
