/-
  Groups between calls.
-/
import Derived.Test.YtdgnjalbpiciiaaOk
namespace Go.Proofs.Ytdgnjalbpiciiaa
set_option linter.unusedVariables false
set_option linter.unusedSimpArgs false
open Go.RowKit Go.Shelf

structure St (w0 w : World) (b : Nat) (L : List Nat) (l : List Gr) : Prop where
  ok : GOk l
  gk : Gk w w0.heap.size b L l
  bel : Below w0.heap.size w0 w
theorem Ext.bel {w0 w w' : World} {L L' : List Nat} (hb : Below w0.heap.size w0 w) (he : Ext w L w' L') (hl : ∀ k ∈ L, w0.heap.size ≤ k) : Below w0.heap.size w0 w' :=
  ⟨he.os.trans hb.os, he.tape.trans hb.tape, he.output.trans hb.output, Nat.le_trans hb.size he.size, fun k hk => (he.block k (Nat.lt_of_lt_of_le hk hb.size) fun hm => by have := hl k hm; omega).trans (hb.block k hk)⟩
theorem St.below {w0 w w' : World} {b : Nat} {L : List Nat} {l : List Gr} (h : St w0 w b L l) (hb : Below w.heap.size w w') : St w0 w' b L l :=
  ⟨h.ok, h.gk.below hb, h.bel.trans (hb.mono h.bel.size)⟩
/-- What a call of groups makes of them. -/
def To (w0 w : World) (b : Nat) (L : List Nat) (l' : List Gr) (v : Value) (e : Ending) (w' : World) : Prop := e = .returned v ∧ ∃ L', St w0 w' b L' l' ∧ Ext w L w' L'
theorem St.did {w0 w : World} {b : Nat} {L : List Nat} {l l' : List Gr} {v : Value} (h : St w0 w b L l) (ok : GOk l') {f : Nat} {args : Array Value} (hc : Calls Try.prog f args w (Did w w0.heap.size b L l' v)) : Calls Try.prog f args w (To w0 w b L l' v) := by
  refine hc.mono ?_
  rintro e w' ⟨L', he, hk', hx⟩
  exact ⟨he, L', ⟨ok, hk', hx.bel h.bel h.gk.low⟩, hx⟩
theorem St.new {w : World} : Calls Try.prog 14 #[] w fun e w' => e = .returned (.pointer (some ⟨w.heap.size, 0, none⟩)) ∧ St w w' w.heap.size [w.heap.size] [] :=
  New_any.mono fun e w' ⟨h1, h2, h3⟩ => ⟨h1, GOk.nil, h2, h3⟩
theorem St.add {w0 w : World} {b : Nat} {L : List Nat} {l : List Gr} (h : St w0 w b L l) (k : ByteArray) (parts sub at_ : Int) (hs : k.size ≤ 4611686018427387904) : Calls Try.prog 43 #[.pointer (some ⟨b, 0, none⟩), .string k, .int .i64 parts, .int .i64 sub, .int .i64 at_] w (To w0 w b L (addG l k parts sub at_).2 (.int .i64 (addG l k parts sub at_).1)) :=
  h.did (h.ok.add k parts sub at_) (Add_any h.gk h.ok k parts sub at_ h.bel.size hs)
theorem St.join {w0 w : World} {b : Nat} {L : List Nat} {l : List Gr} (h : St w0 w b L l) (k : ByteArray) : Calls Try.prog 42 #[.pointer (some ⟨b, 0, none⟩), .string k] w (To w0 w b L (joinG l k).2.2 (.tuple #[.int .i64 (joinG l k).1, .int .i64 (joinG l k).2.1])) :=
  h.did (h.ok.join k) (Join_any h.gk h.ok k h.bel.size)
theorem St.leave {w0 w : World} {b : Nat} {L : List Nat} {l : List Gr} (h : St w0 w b L l) (k : ByteArray) (m : Int) : Calls Try.prog 44 #[.pointer (some ⟨b, 0, none⟩), .string k, .int .i64 m] w (To w0 w b L (leaveG l k m).2 (.int .i64 (leaveG l k m).1)) :=
  h.did (h.ok.leave k m) (Leave_any h.gk h.ok k m h.bel.size)
theorem St.com {w0 w : World} {b : Nat} {L : List Nat} {l : List Gr} (h : St w0 w b L l) (k : ByteArray) (m t p pos : Int) : Calls Try.prog 45 #[.pointer (some ⟨b, 0, none⟩), .string k, .int .i64 m, .int .i64 t, .int .i64 p, .int .i64 pos] w (To w0 w b L (comG l k m t p pos).2 (.int .i64 (comG l k m t p pos).1)) :=
  h.did (h.ok.com k m t p pos) (Commit_any h.gk h.ok k m t p pos h.bel.size)
theorem St.lows {w0 w : World} {b : Nat} {L : List Nat} {l : List Gr} (h : St w0 w b L l) (k : ByteArray) : Calls Try.prog 21 #[.pointer (some ⟨b, 0, none⟩), .string k] w fun e w' => e = .returned (.tuple #[.int .i64 (lowE l k).1, .int .i64 (lowE l k).2]) ∧ Below w.heap.size w w' := Low_any h.gk h.ok k
theorem St.owns {w0 w : World} {b : Nat} {L : List Nat} {l : List Gr} (h : St w0 w b L l) (k : ByteArray) (m t p : Int) : Calls Try.prog 23 #[.pointer (some ⟨b, 0, none⟩), .string k, .int .i64 m, .int .i64 t, .int .i64 p] w fun e w' => e = .returned (.int .i64 (ownE l k m t p)) ∧ Below w.heap.size w w' := Owns_any h.gk h.ok k m t p
theorem St.get {w0 w : World} {b : Nat} {L : List Nat} {l : List Gr} (h : St w0 w b L l) (k : ByteArray) : Calls Try.prog 40 #[.pointer (some ⟨b, 0, none⟩), .string k] w (GetP l k w) := Get_any h.gk h.ok k
/-- What lies beside groups. -/
theorem DC.ext {w w' : World} {L L' : List Nat} {b : Nat} {cs : List Value} (h : DC w b cs) (he : Ext w L w' L') (hn : b ∉ L) : DC w' b cs := h.keep he.size (he.block b h.lt hn)
theorem Own.ext {α : Type} {I : Lay α} {E : TypeId} {w w' : World} {L L' : List Nat} {s : Sl} {l : List α} (h : Own I E w s l) (he : Ext w L w' L') (hn : ∀ k ∈ blk s, k ∉ L) : Own I E w' s l := h.kept fun k hk => he.block k (h.lt k hk) (hn k hk)
theorem Ext.notin {w w' : World} {L L' : List Nat} {b : Nat} (he : Ext w L w' L') (hb : b < w.heap.size) (hn : b ∉ L) : b ∉ L' := fun h => (he.new b h).elim hn fun h => by omega
theorem Rw.bel {α : Type} {I : Lay α} {E : TypeId} {w0 w : World} {v : Value} {l : List α} (h : Rw I E w0 w v l) : Below w0.heap.size w0 w := h.grown

/-! The example's groups. -/
def kg : ByteArray := ⟨#[103]⟩
def A0 : Gr := ⟨kg, 1, 0, 1, [], [0, 0, 0, 0], [0, 0, 0, 0]⟩
def A1 : Gr := ⟨kg, 1, 1, 2, [1], [1, 1, 1, 1], [0, 0, 0, 0]⟩
def A2 : Gr := ⟨kg, 1, 2, 3, [1, 2], [1, 1, 2, 2], [0, 0, 0, 0]⟩
def A3 : Gr := ⟨kg, 1, 2, 3, [1, 2], [1, 1, 2, 2], [5, 0, 0, 0]⟩
def A4 : Gr := ⟨kg, 1, 3, 3, [2], [2, 2, 2, 2], [5, 0, 0, 0]⟩
theorem asc_ext : ∀ {a b : List Int}, a.Pairwise (· < ·) → b.Pairwise (· < ·) → (∀ x, x ∈ a ↔ x ∈ b) → a = b
  | [], [], _, _, _ => rfl
  | [], y :: b, _, _, h => by have := (h y).2 (List.mem_cons_self ..); cases this
  | x :: a, [], _, _, h => by have := (h x).1 (List.mem_cons_self ..); cases this
  | x :: a, y :: b, ha, hb, h => by
    obtain ⟨ha1, ha2⟩ := List.pairwise_cons.1 ha
    obtain ⟨hb1, hb2⟩ := List.pairwise_cons.1 hb
    have e : x = y := by
      rcases List.mem_cons.1 ((h x).1 (List.mem_cons_self ..)) with e | hx
      · exact e
      · rcases List.mem_cons.1 ((h y).2 (List.mem_cons_self ..)) with e | hy
        · exact e.symm
        · have := ha1 y hy; have := hb1 x hx; omega
    subst e
    rw [asc_ext ha2 hb2 fun z => ?_]
    have := h z
    rw [List.mem_cons, List.mem_cons] at this
    constructor
    · intro hz
      have h1 := ha1 z hz
      rcases this.1 (.inr hz) with e | h2
      · omega
      · exact h2
    · intro hz
      have h1 := hb1 z hz
      rcases this.2 (.inr hz) with e | h2
      · omega
      · exact h2
theorem team_of {l : List Int} (h : l.Pairwise (· < ·)) (hp : ∀ x ∈ l, 0 < x) : team l = l := asc_ext (team_sorted l) h fun x => by rw [team_mem]; exact ⟨fun h => h.1, fun h => ⟨h, hp x h⟩⟩
theorem aw1 : addG [] kg 4 1 0 = (0, [A0]) := by kernel_rfl
theorem aw2 : joinG [A0] kg = (1, 0, [A1]) := by
  have e : joinG [A0] kg = (1, 0, [⟨kg, 1, 1, 2, [1], share [0, 0, 0, 0] (team [1]), [0, 0, 0, 0]⟩]) := by kernel_rfl
  have s : share [0, 0, 0, 0] [1] = [1, 1, 1, 1] := by kernel_rfl
  rw [e, team_of (by decide) (by decide), s]; rfl
theorem aw3 : joinG [A1] kg = (2, 0, [A2]) := by
  have e : joinG [A1] kg = (2, 0, [⟨kg, 1, 2, 3, [1, 2], share [1, 1, 1, 1] (team [1, 2]), [0, 0, 0, 0]⟩]) := by kernel_rfl
  have s : share [1, 1, 1, 1] [1, 2] = [1, 1, 2, 2] := by kernel_rfl
  rw [e, team_of (by decide) (by decide), s]; rfl
theorem aw4 : gp [A2] kg = some A2 := by kernel_rfl
theorem aw5 : comG [A2] kg 1 1 0 5 = (222, [A2]) := by kernel_rfl
theorem aw6 : comG [A2] kg 1 2 0 5 = (0, [A3]) := by kernel_rfl
theorem aw7 : lowE [A3] kg = (0, 0) := by kernel_rfl
theorem aw8 : leaveG [A3] kg 1 = (0, [A4]) := by
  have e : leaveG [A3] kg 1 = (0, [⟨kg, 1, 3, 3, [2], share [1, 1, 2, 2] (team [2]), [5, 0, 0, 0]⟩]) := by kernel_rfl
  have s : share [1, 1, 2, 2] [2] = [2, 2, 2, 2] := by kernel_rfl
  rw [e, team_of (by decide) (by decide), s]; rfl
theorem aw9 : gp [A4] kg = some A4 := by kernel_rfl
end Go.Proofs.Ytdgnjalbpiciiaa
