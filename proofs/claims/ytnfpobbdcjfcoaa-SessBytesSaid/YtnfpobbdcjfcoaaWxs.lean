/-
  Walks of the document's own reader.
-/
import Derived.Test.YtnfpobbdcjfcoaaWrn
import Derived.Test.YtnfpobbdcjfcoaaWm8
namespace Go.Proofs.Ytnfpobbdcjfcoaa
set_option linter.unusedVariables false
set_option linter.unusedSimpArgs false
open Go.RowKit

theorem drop_in {w : World} {b o n : Nat} {xs : List Int} (h : Lib.BytesIn w (some ⟨b, o, none⟩) n xs) (a : Nat) : Lib.BytesIn w (some ⟨b, o + a, none⟩) (n - a) (xs.drop a) := by
  intro hm
  obtain ⟨b', o', hh, hc⟩ := h (by omega)
  simp only [Option.some.injEq, Addr.mk.injEq, and_true] at hh
  obtain ⟨rfl, rfl⟩ := hh
  refine ⟨b, o + a, rfl, fun i hi => ?_⟩
  rw [Nat.add_assoc, hc (a + i) (by omega), List.getD_eq_getElem?_getD, List.getD_eq_getElem?_getD, List.getElem?_drop]

/-- The document's reader: it stands at i of the bytes xs, its error is err. -/
structure XS (w : World) (xb : Nat) (p : Option Addr) (n c : Nat) (xs : List Int) (i : Nat) (err : Int) : Prop where
  c0 : w.cell? ⟨xb, 0, none⟩ = some (.slice p n c)
  c1 : w.cell? ⟨xb, 1, none⟩ = some (.int .i64 i)
  c2 : w.cell? ⟨xb, 2, none⟩ = some (.int .i64 err)
  f1 : w.frozen? ⟨xb, 1, none⟩ = false
  f2 : w.frozen? ⟨xb, 2, none⟩ = false
  inn : Lib.BytesIn w p n xs
  len : xs.length = n
  ncap : n ≤ c
  ile : i ≤ n
  hp : p = none → n = 0 ∧ c = 0
  pne : ∀ ad, p = some ad → ad.block ≠ xb
  rng : ∀ x ∈ xs, 0 ≤ x ∧ x < 256
  nb : n ≤ 140737488355328

variable {w : World} {xb n c : Nat} {p : Option Addr} {xs : List Int} {i : Nat} {err : Int}

theorem XS.drewN (h : XS w xb p n c xs i err) (q : Nat) : XS (w.drewN q) xb p n c xs i err := ⟨h.c0, h.c1, h.c2, h.f1, h.f2, h.inn, h.len, h.ncap, h.ile, h.hp, h.pne, h.rng, h.nb⟩

theorem in_kept2 {w w' : World} {xb n : Nat} {p : Option Addr} {xs : List Int} (hg : w.grownBy w' (some xb)) (hne : ∀ ad, p = some ad → ad.block ≠ xb) (h : Lib.BytesIn w p n xs) : Lib.BytesIn w' p n xs := by
  intro hn
  obtain ⟨b', o', rfl, hc⟩ := h hn
  exact ⟨b', o', rfl, fun i hi => hg.cell (hc i hi) (by simpa using hne _ rfl)⟩

theorem XS.setAt (h : XS w xb p n c xs i err) (j : Nat) (hj : j ≤ n) : XS (w.setCell ⟨xb, 1, none⟩ (.int .i64 j)) xb p n c xs j err where
  c0 := (World.cell?_setCell_other _ _ _ _ (by simp)).trans h.c0
  c1 := World.cell?_setCell_same _ _ _ h.c1
  c2 := (World.cell?_setCell_other _ _ _ _ (by simp)).trans h.c2
  f1 := (World.frozen?_setCell _ _ _ _).trans h.f1
  f2 := (World.frozen?_setCell _ _ _ _).trans h.f2
  inn := in_kept2 (grown_setCell w xb 1 _) h.pne h.inn
  len := h.len
  ncap := h.ncap
  ile := hj
  hp := h.hp
  pne := h.pne
  rng := h.rng
  nb := h.nb

theorem XS.setErr (h : XS w xb p n c xs i err) (e : Int) : XS (w.setCell ⟨xb, 2, none⟩ (.int .i64 e)) xb p n c xs i e where
  c0 := (World.cell?_setCell_other _ _ _ _ (by simp)).trans h.c0
  c1 := (World.cell?_setCell_other _ _ _ _ (by simp)).trans h.c1
  c2 := World.cell?_setCell_same _ _ _ h.c2
  f1 := (World.frozen?_setCell _ _ _ _).trans h.f1
  f2 := (World.frozen?_setCell _ _ _ _).trans h.f2
  inn := in_kept2 (grown_setCell w xb 2 _) h.pne h.inn
  len := h.len
  ncap := h.ncap
  ile := h.ile
  hp := h.hp
  pne := h.pne
  rng := h.rng
  nb := h.nb

/-- What an ask of the document's reader leaves. -/
def XOut (r : Value) (w : World) (xb : Nat) (p : Option Addr) (n c : Nat) (xs : List Int) (i : Nat) (err : Int) (e : Ending) (w' : World) : Prop :=
  e = .returned r ∧ XS w' xb p n c xs i err ∧ w.grownBy w' (some xb)

set_option maxHeartbeats 400000 in
theorem XLeft (h : XS w xb p n c xs i err) : Calls Try.prog 34 #[.pointer (some ⟨xb, 0, none⟩)] w (fun e w' => e = .returned (.int .i64 ((n - i : Nat) : Int)) ∧ ∃ q, w' = w.drewN q) := by
  have c0 := h.c0
  have c1 := h.c1
  have hi := h.ile
  have hn := h.nb
  have He : Hid (((n - i : Nat) : Int) = (n : Int) - (i : Int)) := by show _ = _; omega
  have e1 : IntKind.i64.wrap ((n : Int) - (i : Int)) = (n : Int) - (i : Int) := wrap_i64 _ (by omega) (by omega)
  clear h
  rw [He.out]
  go_enter Try.func34, Try.ntmps34
  go_wp2_with fail
  go_quiet (fail)
  go_wp2_with fail
  go_ret
  exact ⟨rfl, _, rfl⟩

set_option maxHeartbeats 400000 in
theorem on_ok (h : XS w xb p n c xs i err) (S : Nat) (hS : i + S ≤ n) : Calls Try.prog 54 #[.pointer (some ⟨xb, 0, none⟩), .int .i64 S, .int .i64 0] w (XOut (.bool true) w xb p n c xs (i + S) err) := by
  have c0 := h.c0
  have c1 := h.c1
  have c2 := h.c2
  have f1 := h.f1
  have hi := h.ile
  have hn := h.nb
  have hnc := h.ncap
  have e1 : IntKind.i64.wrap ((i : Int) + (S : Int)) = (i : Int) + (S : Int) := wrap_i64 _ (by omega) (by omega)
  have Hs := Lib.hid (h.setAt (i + S) hS)
  clear h
  go_enter Try.func54, Try.ntmps54
  go_wp2_with fail
  go_ret
  exact ⟨rfl, Hs.out, grown_setCell w xb 1 _⟩

set_option maxHeartbeats 400000 in
theorem on_bad (h : XS w xb p n c xs i err) (k : Int) (E : Int) (hE : E ≠ 0) : Calls Try.prog 54 #[.pointer (some ⟨xb, 0, none⟩), .int .i64 k, .int .i64 E] w (XOut (.bool false) w xb p n c xs i E) := by
  have c2 := h.c2
  have f2 := h.f2
  have t1 : (E == 0) = false := by simpa using hE
  have t2 : (E != 0) = true := by simpa using hE
  have Hs := Lib.hid (h.setErr E)
  clear h
  go_enter Try.func54, Try.ntmps54
  go_wp2_with fail
  go_ret
  exact ⟨rfl, Hs.out, grown_setCell w xb 2 _⟩

set_option maxHeartbeats 400000 in
theorem XNumber_err (h : XS w xb p n c xs i err) (he : err ≠ 0) : Calls Try.prog 47 #[.pointer (some ⟨xb, 0, none⟩)] w (XOut (.int .i64 0) w xb p n c xs i err) := by
  have c2 := h.c2
  have t1 : (err == 0) = false := by simpa using he
  have t2 : (err != 0) = true := by simpa using he
  have H := Lib.hid h
  clear h
  go_enter Try.func47, Try.ntmps47
  go_wp2_with fail
  go_ret
  exact ⟨rfl, H.out, World.grownBy.refl _ _⟩

/-- Where the document's reader reads: four ways that a slice of what is left lies. -/
inductive Lies (p : Option Addr) (n c i : Nat) : Prop
  | none (hp : p = none) (hn : n = 0) (hc : c = 0) (hi : i = 0)
  | full (ad : Addr) (hp : p = some ad) (hc : c = i) (hn : n = i)
  | some (b o : Nat) (hp : p = some ⟨b, o, Option.none⟩) (hc : c ≠ i)
  | zero (ad : Addr) (hp : p = some ad) (hn : n = 0) (hi : i = 0) (hc : c ≠ i)

theorem XS.lies (h : XS w xb p n c xs i err) : Lies p n c i := by
  have h1 := h.ile
  have h2 := h.ncap
  cases p with
  | none => obtain ⟨rfl, rfl⟩ := h.hp rfl; exact .none rfl rfl rfl (by omega)
  | some ad =>
    by_cases hc : c = i
    · exact .full ad rfl hc (by omega)
    rcases Nat.eq_zero_or_pos n with h0 | h0
    · exact .zero ad rfl h0 (by omega) hc
    · obtain ⟨b, o, e, _⟩ := h.inn h0
      exact .some b o e hc

/-- What the rest of the bytes is as a slice. -/
def IsV (p : Option Addr) (n c i : Nat) (V : Value) : Prop :=
  (n = i ∧ ∃ p' c', V = .slice p' 0 c') ∨ (∃ b o, p = some ⟨b, o, none⟩ ∧ V = .slice (some ⟨b, o + i, none⟩) (n - i) (c - i))

theorem num_v (h : XS w xb p n c xs i err) (q : Nat) (V : Value) (hV : IsV p n c i V) : Calls Try.prog 53 #[V] (w.drewN q) fun e w' => e = .returned (.tuple #[.int .i64 (numAt (xs.drop i)).1, .int .i64 (numAt (xs.drop i)).2.1, .int .i64 (numAt (xs.drop i)).2.2]) ∧ w.drewN q = w' := by
  rcases hV with ⟨hn, p', c', rfl⟩ | ⟨b, o, rfl, rfl⟩
  · have hd : xs.drop i = [] := List.drop_eq_nil_of_le (by rw [h.len]; omega)
    rw [hd]
    exact rnumber_none p' c' _
  · have h1 := h.nb
    have h2 := h.ncap
    exact rnumber_any _ (n - i) (c - i) (xs.drop i) (w.drewN q) (by rw [List.length_drop, h.len]) (drop_in h.inn i) (by omega) (by omega) (fun x hx => h.rng x (List.mem_of_mem_drop hx))

theorem isV_zero (p p' : Option Addr) (n c c' : Nat) : IsV p n c n (.slice p' 0 c') := .inl ⟨rfl, _, _, rfl⟩
theorem isV_some (b o n c i : Nat) : IsV (some ⟨b, o, none⟩) n c i (.slice (some ⟨b, o + i, none⟩) (n - i) (c - i)) := .inr ⟨b, o, rfl, rfl⟩

theorem xs_ok (h : XS w xb p n c xs i err) (N S : Nat) (ht : numAt (xs.drop i) = (N, S, 0)) : i + S ≤ n ∧ N ≤ 9223372036854775807 ∧ 1 ≤ S ∧ S ≤ 9 := by
  have h1 := numAt_ok (xs.drop i) (fun x hx => h.rng x (List.mem_of_mem_drop hx)) (by rw [ht])
  have h2 := numAt_back (xs.drop i) (fun x hx => h.rng x (List.mem_of_mem_drop hx)) N S ht
  rw [ht, List.length_drop, h.len] at h1
  have := h.ile
  simp only at h1
  omega

set_option maxRecDepth 100000 in
set_option maxHeartbeats 1600000 in
theorem XNumber_bad (h : XS w xb p n c xs i 0) (N S : Nat) (E : Int) (ht : numAt (xs.drop i) = (N, S, E)) (hE : E ≠ 0) : Calls Try.prog 47 #[.pointer (some ⟨xb, 0, none⟩)] w (XOut (.int .i64 0) w xb p n c xs i E) := by
  have c0 := h.c0
  have c1 := h.c1
  have c2 := h.c2
  have hi := h.ile
  have hn := h.nb
  have hnc := h.ncap
  have hl := h.lies
  have Hn := Lib.hid (num_v h)
  rw [ht] at Hn
  have Hon : Hid (∀ q, Calls Try.prog 54 #[.pointer (some ⟨xb, 0, none⟩), .int .i64 S, .int .i64 E] (w.drewN q) (XOut (.bool false) (w.drewN q) xb p n c xs i E)) := fun q => on_bad (h.drewN q) S E hE
  clear h ht
  rcases hl with ⟨rfl, rfl, rfl, rfl⟩ | ⟨ad, rfl, rfl, rfl⟩ | ⟨b, o, rfl, hc⟩ | ⟨ad, rfl, rfl, rfl, hc⟩
  all_goals
    go_enter Try.func47, Try.ntmps47
    go_wp2_with fail
    go_quiet ((go_at_call 53; first | exact quiet_left (Hn.out _ _ (isV_zero _ _ _ _ _)) | exact quiet_left (Hn.out _ _ (isV_some _ _ _ _ _))))
    go_wp2_with fail
    go_fit (Hon.out _)
    rintro e w' ⟨rfl, hxs, hg⟩
    have Hxs := Lib.hid hxs
    have Hg := Lib.hid hg
    clear hxs hg
    go_wp2_with fail
    go_ret
    exact ⟨rfl, Hxs.out, ⟨Hg.out.os, Hg.out.tape, Hg.out.output, Hg.out.size, Hg.out.block⟩⟩

end Go.Proofs.Ytnfpobbdcjfcoaa
