/-
  Digests put behind bytes; what a part that is not parted is the digest of.
-/
import Derived.Test.YtcbgnmolfdhnfaaG1
import Derived.Test.YtcbgnmolfdhnfaaDB
namespace Go.Proofs.Ytcbgnmolfdhnfaa.Wi
set_option linter.unusedVariables false
set_option linter.unusedSimpArgs false
open Go.Proofs.Ytcbgnmolfdhnfaa
open Go.RowKit
set_option maxHeartbeats 400000 in
theorem Signed_any (p : Option Addr) (n c : Nat) (xs : List Int) (v : Int) (w : World) (hx : xs.length = n) (hb : Lib.BytesIn w p n xs) (hp : p = none → n = 0 ∧ c = 0) (h1 : n + 8 ≤ 140737488355328) :
    Calls Try.prog 97 #[.slice p n c, .int .i64 v] w (Made w.heap.size w (xs ++ be (u64 v) 8)) := by
  have Hx : Hid (xs.length = n) := hx
  have Hc1 := Lib.hid (own_any p n c xs 8 w hx hb hp (by omega) (by omega))
  clear hx
  go_enter Try.func97, Try.ntmps97
  go_wp2_with fail
  go_fit Hc1.out
  rintro e w1 ⟨g1, n1, c1, rfl, hown1, hb1⟩
  have hn1 : n1 ≤ n := by rw [← owns_len hown1, Hx.out]; exact Nat.le_refl _
  go_wp2_with fail
  rw [wrap_u64]
  go_fit (addBytes_any w.heap.size g1 n1 c1 xs (u64 v) 8 w1 (owns_len hown1) hown1 (u64_lt v) (by omega) (by omega) hb1.size)
  rintro e w2 ⟨g2, n2, c2, rfl, hown2, hb2⟩
  go_wp2_with fail
  go_ret
  exact ⟨g2, n2, c2, rfl, hown2, hb1.trans hb2⟩

end Go.Proofs.Ytcbgnmolfdhnfaa.Wi
namespace Go.Proofs.Ytcbgnmolfdhnfaa
set_option linter.unusedVariables false
set_option linter.unusedSimpArgs false
open Go.RowKit

def u8v (xs : List Int) : List Value := xs.map (Value.int .u8)
theorem wpList_pushw {w : World} {ops : Array Oper} {rest : List Oper} {o : Oper} {a : Act} {Q : Exit → Act → World → Prop} (hgd : o.guard = none) (s x : Operand)
    (ho : o.op = .call { callee := .builtin .append, args := #[s, x], argTypes := #[25, 25] })
    (B n : Nat) (v : Value) (xs : List Int) (hs : a.eval s = v) (hown : w.ownsRow B 5 1 v n (u8v xs))
    (g m c : Nat) (news : List Int) (hx : a.eval x = .slice (some ⟨g, 0, none⟩) m c) (hin : Lib.BytesIn w (some ⟨g, 0, none⟩) m news) (hl : news.length = m) (hm : 0 < m)
    (hbytes : n + m ≤ 140737488355328) (hB : B ≤ w.heap.size)
    (h : ∀ g' c' w', w'.ownsRow B 5 1 (.slice (some ⟨g', 0, none⟩) (n + m) c') (n + m) (u8v (xs ++ news)) → w.grownBy w' v.ownBlock → (v.ownBlock = some g' ∨ w.heap.size ≤ g') → wpList Try.prog ops Q rest (a.put o.dst (.slice (some ⟨g', 0, none⟩) (n + m) c')) w') :
    wpList Try.prog ops Q (o :: rest) a w := by
  obtain ⟨i0, hi, hz0, hz1, hz2⟩ := info_parts Wi.Try.infoU8
  refine wpList_append_lies _ hgd s x 25 ho B 5 i0 (.int .u8 0) 1 1 Try.underlying25 hi hz0 hz1 hz2 rfl (by decide) v n _ hs hown ⟨g, 0, none⟩ m c (u8v news) hx (by simp [u8v, hl]) (Wi.news_of hin hl _ rfl) (Wi.oneU8 _) hm (by unfold maxLen; omega) (by omega) hB _ rfl ?_
  intro g' c' w' hown' hgrow hat hlt
  exact h g' c' w' (by simpa [u8v] using hown') hgrow (hat.imp id (fun e => by omega))
theorem u64_of (d : Nat) (h : d < 18446744073709551616) : Wi.u64 (wrap64 (d : Int)) = d := by
  unfold Wi.u64 wrap64
  omega
/-- Bytes that are written since a world. -/
structure BRw (w0 w : World) (v : Value) (xs : List Int) : Prop where
  own : w.ownsRow w0.heap.size 5 1 v xs.length (u8v xs)
  grown : Below w0.heap.size w0 w
theorem BRw.nil (w : World) : BRw w w (.slice none 0 0) [] := ⟨World.ownsRow_nil _ _ _ _, Below.refl _ _⟩
theorem BRw.below {w0 w w' : World} {v : Value} {xs : List Int} (h : BRw w0 w v xs) (hb : Below w.heap.size w w') : BRw w0 w' v xs :=
  ⟨h.own.kept (row := none) ⟨hb.os, hb.tape, hb.output, hb.size, fun k hk _ => hb.block k hk⟩ (by cases v.ownBlock <;> simp), h.grown.trans (hb.mono h.grown.size)⟩
theorem BRw.kept {w0 w w' : World} {v : Value} {xs : List Int} {row : Option Nat} (h : BRw w0 w v xs) (hg : w.grownBy w' row) (hr : ∀ g, row = some g → w0.heap.size ≤ g) (hn : ∀ g, v.ownBlock = some g → row ≠ some g) : BRw w0 w' v xs :=
  ⟨h.own.kept (row := row) hg (by cases hv : v.ownBlock with | none => simp | some g => exact Or.inr (fun e => hn g hv (Eq.symm e))), h.grown.trans ⟨hg.os, hg.tape, hg.output, hg.size, fun k hk => hg.block k (Nat.lt_of_lt_of_le hk h.grown.size) (fun e => by have := hr k e.symm; omega)⟩⟩
theorem BRw.lt {w0 w : World} {v : Value} {xs : List Int} (h : BRw w0 w v xs) : ∀ g, v.ownBlock = some g → w0.heap.size ≤ g ∧ g < w.heap.size := h.own.lt
theorem BRw.slice {w0 w : World} {v : Value} {xs : List Int} (h : BRw w0 w v xs) : ∃ a c, v = .slice a xs.length c ∧ xs.length ≤ c ∧ (a = none → xs.length = 0 ∧ c = 0) := by
  rcases h.own.2 with ⟨h0, h1⟩ | ⟨g', cap, cur, hv, _, _, hn, hm, _⟩
  · exact ⟨none, 0, by rw [h0, h1], by omega, fun _ => ⟨h1, rfl⟩⟩
  · exact ⟨_, cap, hv, hn, fun e => by cases e⟩
theorem BRw.inn {w0 w : World} {a : Option Addr} {n c : Nat} {xs : List Int} (h : BRw w0 w (.slice a n c) xs) (hn : n = xs.length) : Lib.BytesIn w a n xs := by
  rcases h.own.2 with ⟨h0, h1⟩ | ⟨g', cap, cur, hv, _⟩
  · intro hp; omega
  · simp only [Value.slice.injEq] at hv
    obtain ⟨rfl, rfl, rfl⟩ := hv
    exact Wi.owns_in (by have := h.own; exact this)
/-- What addDigest leaves. -/
def AddedO (B : Nat) (w : World) (v : Value) (ys : List Int) (e : Ending) (w' : World) : Prop := ∃ g c, e = .returned (.slice (some ⟨g, 0, none⟩) ys.length c) ∧ w'.ownsRow B 5 1 (.slice (some ⟨g, 0, none⟩) ys.length c) ys.length (u8v ys) ∧ w.grownBy w' v.ownBlock ∧ (v.ownBlock = some g ∨ w.heap.size ≤ g)
def Added (w0 w : World) (v : Value) (ys : List Int) (e : Ending) (w' : World) : Prop := ∃ g c, e = .returned (.slice (some ⟨g, 0, none⟩) ys.length c) ∧ BRw w0 w' (.slice (some ⟨g, 0, none⟩) ys.length c) ys ∧ w.grownBy w' v.ownBlock

set_option maxRecDepth 100000 in
set_option maxHeartbeats 3200000 in
theorem addDigest_own {B : Nat} {w : World} {v : Value} {xs : List Int} {d : Nat} (h : w.ownsRow B 5 1 v xs.length (u8v xs)) (hB : B ≤ w.heap.size) (hd : d < 18446744073709551616) (hn : xs.length ≤ 1000000000) :
    Calls Try.prog 79 #[v, .int .u64 d] w (AddedO B w v (xs ++ Wi.be d 8)) := by
  have HR := Lib.hid h
  have HU := Lib.hid (u64_of d hd)
  have HC := Lib.hid (Wi.Signed_any none 0 0 [] (wrap64 (d : Int)) w rfl (fun h => by cases h) (fun _ => ⟨rfl, rfl⟩) (by omega))
  clear h
  go_enter Try.func79, Try.ntmps79
  go_wp2_with fail
  go_fit HC.out
  rintro e w1 ⟨g1, n1, c1, rfl, hown1, hb1⟩
  rw [HU.out, List.nil_append] at hown1
  have HL1 := Lib.hid (Wi.owns_len hown1)
  have HI1 := Lib.hid (Wi.owns_in hown1)
  have HR1 : Hid (w1.ownsRow B 5 1 v xs.length (u8v xs)) := Lib.hid (HR.out.kept (row := none) ⟨hb1.os, hb1.tape, hb1.output, hb1.size, fun k hk _ => hb1.block k hk⟩ (by cases v.ownBlock <;> simp))
  have HN1 : Hid (n1 = 8) := Lib.hid (by rw [← HL1.out, Wi.be_length])
  have HB1 := Lib.hid hb1
  have HBs : Hid (B ≤ w1.heap.size) := Lib.hid (Nat.le_trans hB hb1.size)
  clear hown1 hb1
  go_wp2_with (at_builtin; refine wpList_pushw rfl _ _ rfl B xs.length v xs rfl HR1.out g1 n1 c1 _ rfl HI1.out HL1.out (by have := HN1.out; omega) (by have := HN1.out; omega) HBs.out ?_; intro g2 c2 w2 hown2 hgr2 hat2; have HO2 := Lib.hid hown2; have HG2 : Hid (w1.grownBy w2 v.ownBlock) := Lib.hid hgr2; have HT2 : Hid (v.ownBlock = some g2 ∨ w1.heap.size ≤ g2) := Lib.hid hat2; clear hown2 hgr2 hat2)
  go_ret
  have e8 : (xs ++ Wi.be d 8).length = xs.length + n1 := by rw [List.length_append, Wi.be_length, HN1.out]
  have h1 := HB1.out
  refine ⟨g2, c2, by rw [e8]; rfl, by rw [e8]; exact HO2.out, ⟨HG2.out.os.trans h1.os, HG2.out.tape.trans h1.tape, HG2.out.output.trans h1.output, Nat.le_trans h1.size HG2.out.size, fun k hk hne => (HG2.out.block k (Nat.lt_of_lt_of_le hk h1.size) hne).trans (h1.block k hk)⟩, HT2.out.imp id (fun e => Nat.le_trans h1.size e)⟩
theorem addDigest_any {w0 w : World} {v : Value} {xs : List Int} {d : Nat} (h : BRw w0 w v xs) (hd : d < 18446744073709551616) (hn : xs.length ≤ 1000000000) :
    Calls Try.prog 79 #[v, .int .u64 d] w (Added w0 w v (xs ++ Wi.be d 8)) :=
  (addDigest_own h.own h.grown.size hd hn).mono fun e w' ⟨g, c, he, ho, hg, _⟩ => ⟨g, c, he, ⟨ho, h.grown.trans ⟨hg.os, hg.tape, hg.output, hg.size, fun k hk => hg.block k (Nat.lt_of_lt_of_le hk h.grown.size) (fun e => by have := (h.lt k e.symm).1; omega)⟩⟩, hg⟩
end Go.Proofs.Ytcbgnmolfdhnfaa
