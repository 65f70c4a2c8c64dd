/-
  Walks: what two trees have together. (Written by gentree8.py.)
-/
import Derived.Test.YtdfjnpnkfjcpcaaTB7
import Derived.LaidEqlPtr
namespace Go.Proofs.Ytdfjnpnkfjcpcaa
set_option linter.unusedVariables false
set_option linter.unusedSimpArgs false
open Go.RowKit

theorem T.two_nil_left {b : T} (hb : b.Bal) (hs : Sorted b.list) : T.Two T.fU .nil b b := ⟨hb, hs, fun k => by simp only [T.list, look, T.fU]; cases look b.list k <;> rfl⟩
theorem T.two_nil_right {a : T} (hb : a.Bal) (hs : Sorted a.list) : T.Two T.fU a .nil a := ⟨hb, hs, fun k => rfl⟩
theorem T.two_same {a : T} (hb : a.Bal) (hs : Sorted a.list) : T.Two T.fU a a a := ⟨hb, hs, fun k => by simp only [T.fU]; cases look a.list k <;> rfl⟩
theorem T.minus_nil_left {b : T} : T.Two T.fM .nil b .nil := ⟨trivial, trivial, fun k => by simp only [T.list, look, T.fM]; cases look b.list k <;> rfl⟩
theorem T.minus_nil_right {a : T} (hb : a.Bal) (hs : Sorted a.list) : T.Two T.fM a .nil a := ⟨hb, hs, fun k => rfl⟩
theorem T.minus_same {a : T} : T.Two T.fM a a .nil := ⟨trivial, trivial, fun k => by simp only [T.list, look, T.fM]; cases look a.list k <;> rfl⟩
theorem T.both_nil_left {b : T} : T.Two T.fB .nil b .nil := ⟨trivial, trivial, fun k => by simp only [T.list, look, T.fB]; cases look b.list k <;> rfl⟩
theorem T.both_nil_right {a : T} : T.Two T.fB a .nil .nil := ⟨trivial, trivial, fun k => rfl⟩
theorem T.both_same {a : T} (hb : a.Bal) (hs : Sorted a.list) : T.Two T.fB a a a := ⟨hb, hs, fun k => by simp only [T.fB]; cases look a.list k <;> rfl⟩
theorem Met.size {l r t : T} (h : Met l r t) : t.size = l.size + r.size := by rw [← T.size_list, h.1]; simp [T.size_list]
theorem knot_some {w : World} {B : Nat} {l r : T} {p : Pr} {x : Option Addr} (h : Knot w B (.node l p r) x) : ∃ b, x = some ⟨b, 0, none⟩ := by obtain ⟨b, _, _, rfl, _⟩ := h; exact ⟨b, rfl⟩
theorem Try.infoKnot : (Try.prog.info? 119).map (fun i => (i.zero, i.size, i.bytes)) = some (some (.agg #[.string ByteArray.empty, .string ByteArray.empty, .pointer none, .pointer none, .int .i64 0, .int .i64 0]), 6, 64) := by kernel_rfl

/-- A tree that may be gone through here. -/
structure Good (t : T) (n : Nat) : Prop where
  bal : t.Bal
  sorted : Sorted t.list
  size : t.size ≤ n
theorem Good.left {l r : T} {p : Pr} {n : Nat} (h : Good (.node l p r) n) : Good l n := ⟨h.bal.1, (T.node_sorted h.sorted).1, by have := h.size; simp only [T.size] at this; omega⟩
theorem Good.right {l r : T} {p : Pr} {n : Nat} (h : Good (.node l p r) n) : Good r n := ⟨h.bal.2.1, (T.node_sorted h.sorted).2.1, by have := h.size; simp only [T.size] at this; omega⟩
theorem T.Parted.good_left {t : T} {k : ByteArray} {l : T} {h : Option Pr} {m : T} {n : Nat} (P : T.Parted t k l h m) (G : Good t n) : Good l n := ⟨P.lbal, (P.sorted G.sorted).1, by have := P.sizes; have := G.size; omega⟩
theorem T.Parted.good_right {t : T} {k : ByteArray} {l : T} {h : Option Pr} {m : T} {n : Nat} (P : T.Parted t k l h m) (G : Good t n) : Good m n := ⟨P.mbal, (P.sorted G.sorted).2, by have := P.sizes; have := G.size; omega⟩

theorem knots_same (p : Nat) (W : World) : (binOp .eql 102 (.pointer (some ⟨p, 0, none⟩)) (.pointer (some ⟨p, 0, none⟩))).run Try.prog W = .ok (.bool true) W := by
  obtain ⟨i, hi, hz0, hz1, hz2⟩ := info_parts Try.infoKnot
  exact run_eql_ptr_same W _ Try.underlying102 hi
theorem knots_nil (p : Addr) (W : World) : (binOp .eql 102 (.pointer none) (.pointer (some p))).run Try.prog W = .ok (.bool false) W := by
  have h : ∀ d : Nat, (Op.equalIn (d + 1) 102 (.pointer none) (.pointer (some p))).run Try.prog W = .ok false W := fun d => by
    simp [Op.equalIn, run_underlying Try.underlying102]
  simp only [binOp]
  simp [Op.equal, Op.maxDepth, h 9999]
theorem knots_other {p q : Nat} (W : World) {B B' : Nat} (h : p ≠ q) (hp : KB W B p) (hq : KB W B' q) : (binOp .eql 102 (.pointer (some ⟨p, 0, none⟩)) (.pointer (some ⟨q, 0, none⟩))).run Try.prog W = .ok (.bool false) W := by
  obtain ⟨_, cs, hc⟩ := hp
  obtain ⟨_, ds, hd⟩ := hq
  obtain ⟨i, hi, hz0, hz1, hz2⟩ := info_parts Try.infoKnot
  exact run_eql_ptr_other W Try.underlying102 hi (by rw [hz1]; decide) (by simp [h]) hc hd

end Go.Proofs.Ytdfjnpnkfjcpcaa
