/-
  Walks of package wire's puts of bytes, each by a contract: own, addBytes.
-/
import Derived.Test.YtdcmefkejgjdeaaProg
import Derived.Test.YtdcmefkejgjdeaaShelf
import Derived.Test.YtdcmefkejgjdeaaWm1
import Derived.WalkKit
import Derived.WalkSpells
import Derived.WalkLawsBesides
import Derived.Laws.AppendOwnNone
import Derived.Shelf.Bytes.SlEqualAll
import Derived.Lib.Hide
import Derived.Deep.DeepFit
namespace Go.Proofs.Ytdcmefkejgjdeaa
set_option linter.unusedVariables false
set_option linter.unusedSimpArgs false
open Go.RowKit

theorem Try.infoU8 : (Try.prog.info? 5).map (fun i => (i.zero, i.size, i.bytes)) = some (some (.int .u8 0), 1, 1) := by kernel_rfl

/-- A new slice of bytes: it lies from block B on, holds just xs, and nothing below B has turned. -/
def Made (B : Nat) (w : World) (xs : List Int) (e : Ending) (w' : World) : Prop :=
  ∃ g n cap, e = .returned (.slice (some ⟨g, 0, none⟩) n cap) ∧ w'.ownsRow B 5 1 (.slice (some ⟨g, 0, none⟩) n cap) n (xs.map (Value.int .u8)) ∧ Below B w w'

theorem owns_len {w : World} {B n : Nat} {v : Value} {xs : List Int} (h : w.ownsRow B 5 1 v n (xs.map (Value.int .u8))) : xs.length = n := by simpa using h.1


theorem addLit (b o j : Nat) : (⟨b, o, none⟩ : Addr).add j = ⟨b, o + j, none⟩ := by unfold Addr.add; split <;> simp_all

theorem later {w w' : World} {p : Option Addr} {n : Nat} {xs : List Int} (h : Lib.BytesIn w p n xs) (hb : Below w.heap.size w w') : Lib.BytesIn w' p n xs := by
  intro hn
  obtain ⟨b, o, rfl, hc⟩ := h hn
  exact ⟨b, o, rfl, fun i hi => (hb.cell (p := ⟨b, o + i, none⟩) (World.block_lt_of_cell? w _ (hc i hi))).trans (hc i hi)⟩

theorem news_of {w : World} {p : Option Addr} {n : Nat} {xs : List Int} (h : Lib.BytesIn w p n xs) (hx : xs.length = n) : ∀ ad, p = some ad → ∀ j u, (xs.map (Value.int .u8))[j]? = some u → w.cell? (ad.add j) = some u := by
  intro ad hp j u hu
  have hj : j < xs.length := by have := (List.getElem?_eq_some_iff.1 hu).1; simpa using this
  obtain ⟨b, o, hb, hc⟩ := h.at (by omega)
  rw [hp] at hb
  obtain rfl := Option.some.inj hb
  have := hc j (by omega)
  rw [addLit, this]
  simp only [List.getElem?_map] at hu
  rw [List.getElem?_eq_getElem hj] at hu
  simp only [Option.map_some, Option.some.injEq] at hu
  rw [← hu, List.getD_eq_getElem?_getD, List.getElem?_eq_getElem hj]; rfl

theorem oneU8 (xs : List Int) : ∀ u ∈ xs.map (Value.int .u8), u.oneCell' = true := by
  intro u hu
  obtain ⟨x, _, rfl⟩ := List.mem_map.1 hu
  rfl

theorem below_none {w w' : World} (hg : w.grownBy w' none) : Below w.heap.size w w' := (Below.refl _ _).grown hg (Nat.le_refl _) (fun _ h => by cases h)

theorem made_grown {B : Nat} {w w1 w2 : World} {g : Nat} (h1 : Below B w w1) (hg : w1.grownBy w2 (some g)) (hB : B ≤ w1.heap.size) (hgB : B ≤ g) : Below B w w2 :=
  h1.grown hg hB (fun k hk => by obtain rfl := Option.some.inj hk; exact hgB)

theorem owns_at {w : World} {B g n cap : Nat} {xs : List Value} (h : w.ownsRow B 5 1 (.slice (some ⟨g, 0, none⟩) n cap) n xs) : B ≤ g ∧ g < w.heap.size := h.lt g rfl

theorem owns_in {w : World} {B g n cap : Nat} {xs : List Int} (h : w.ownsRow B 5 1 (.slice (some ⟨g, 0, none⟩) n cap) n (xs.map (Value.int .u8))) : Lib.BytesIn w (some ⟨g, 0, none⟩) n xs := by
  refine Lib.BytesIn.of_cells fun i hi => ?_
  have hl : xs.length = n := by simpa using h.1
  rw [addLit, Nat.zero_add, h.cellAt i (by omega), List.getElem?_map, List.getElem?_eq_getElem (by omega), List.getD_eq_getElem?_getD, List.getElem?_eq_getElem (by omega)]
  rfl

set_option maxHeartbeats 400000 in
theorem own_any (p : Option Addr) (n c : Nat) (xs : List Int) (more : Int) (w : World) (hx : xs.length = n) (hb : Lib.BytesIn w p n xs) (hp : p = none → n = 0 ∧ c = 0) (h0 : 0 ≤ more) (h1 : n + more ≤ 140737488355328) :
    Calls Try.prog 43 #[.slice p n c, .int .i64 more] w (Made w.heap.size w xs) := by
  obtain ⟨m, rfl⟩ := Int.eq_ofNat_of_zero_le h0
  obtain ⟨i0, hi, hz0, hz1, hz2⟩ := info_parts Try.infoU8
  subst hx
  go_enter Try.func43, Try.ntmps43
  go_wp2_with (first
    | (at_make; refine wpList_make_own _ rfl _ _ 52 rfl w.heap.size 5 i0 (.int .u8 0) 1 Try.underlying52 hi hz0 hz1 .i64 .i64 _ (xs.length + m) rfl rfl (by first | omega | (simp; done) | (push_cast; omega)) (by rw [hz2]; omega) (by unfold maxLen; omega) (Nat.le_refl _) ?_; intro w1 hown1 hgrow1)
    | (at_builtin; (refine wpList_append_fits_any _ rfl _ _ 52 rfl w.heap.size 5 i0 1 Try.underlying52 hi hz1 w.heap.size 0 (xs.length + m) [] rfl hown1 p xs.length c (xs.map (Value.int .u8)) rfl (by simp) hp (news_of (later hb (below_none hgrow1)) rfl) (oneU8 xs) (by omega) ?_; intro w2 hown2 hgrow2)))
  go_ret
  exact ⟨w.heap.size, xs.length, xs.length + m, by simp, by simpa using hown2, made_grown (below_none hgrow1) hgrow2 hgrow1.size (Nat.le_refl _)⟩



/-- What the call owns, of at least one cell or not nil, is at an address. -/
theorem owns_open {w : World} {B n : Nat} {v : Value} {xs : List Value} (h : w.ownsRow B 5 1 v n xs) (hv : v ≠ .slice none 0 0) : ∃ g cap, v = .slice (some ⟨g, 0, none⟩) n cap := by
  rcases h.2 with ⟨rfl, _⟩ | ⟨g, cap, cur, rfl, _⟩
  · exact absurd rfl hv
  · exact ⟨g, cap, rfl⟩

/-- 'append' of bytes (nil, empty, or at an address) onto a slice that the call owns. -/
theorem wpList_push {w : World} {ops : Array Oper} {rest : List Oper} {o : Oper} {a : Act} {Q : Exit → Act → World → Prop} (hgd : o.guard = none) (s x : Operand)
    (ho : o.op = .call { callee := .builtin .append, args := #[s, x], argTypes := #[52, 52] })
    (B g n cap : Nat) (xs : List Int) (hs : a.eval s = .slice (some ⟨g, 0, none⟩) n cap) (hown : w.ownsRow B 5 1 (.slice (some ⟨g, 0, none⟩) n cap) n (xs.map (Value.int .u8)))
    (p : Option Addr) (m c : Nat) (news : List Int) (hx : a.eval x = .slice p m c) (hin : Lib.BytesIn w p m news) (hl : news.length = m) (hp : p = none → m = 0 ∧ c = 0)
    (hbytes : n + m ≤ 140737488355328) (hB : B ≤ w.heap.size)
    (h : ∀ g' c' w', w'.ownsRow B 5 1 (.slice (some ⟨g', 0, none⟩) (n + m) c') (n + m) ((xs ++ news).map (Value.int .u8)) → w.grownBy w' (some g) → wpList Try.prog ops Q rest (a.put o.dst (.slice (some ⟨g', 0, none⟩) (n + m) c')) w') :
    wpList Try.prog ops Q (o :: rest) a w := by
  obtain ⟨i0, hi, hz0, hz1, hz2⟩ := info_parts Try.infoU8
  cases p with
  | none =>
    obtain ⟨rfl, rfl⟩ := hp rfl
    obtain rfl := List.eq_nil_of_length_eq_zero hl
    exact wpList_append_own_none hgd s x 52 ho B 5 i0 1 Try.underlying52 hi _ n _ hs hown hx (by simpa using h g cap w (by simpa using hown) (World.grownBy.refl _ _))
  | some ad =>
    refine wpList_append_own w hgd s x 52 ho B 5 i0 (.int .u8 0) 1 1 Try.underlying52 hi hz0 hz1 hz2 rfl (by decide) _ n _ hs hown ad m c (news.map (Value.int .u8)) hx (by simp [hl]) (news_of hin hl ad rfl) (oneU8 _) (by unfold maxLen; omega) (by omega) hB ?_
    intro v' w' hown' hgrow hnil
    obtain ⟨g', c', rfl⟩ := owns_open hown' (fun e => by have := (hnil.1 e).1; cases this)
    exact h g' c' w' (by simpa using hown') hgrow

/-- A single byte in a new block of its own, as 'append(b, x)' lays it. -/
theorem in_one (w : World) (x : Int) : Lib.BytesIn (w.alloc (.cells #[.int .u8 x] 5)) (some ⟨w.heap.size, 0, none⟩) 1 [x] := by
  refine Lib.BytesIn.of_cells fun i hi => ?_
  obtain rfl : i = 0 := by omega
  rw [addLit, World.cell?_alloc_at _ _ _ _ rfl]; rfl

theorem below_push {B g : Nat} {w wr w1 : World} {x : Int} (h : Below B w wr) (hg : (wr.alloc (.cells #[.int .u8 x] 5)).grownBy w1 (some g)) (hB : B ≤ wr.heap.size) (hgB : B ≤ g) : Below B w w1 :=
  made_grown (h.alloc hB _) hg (by simp; omega) hgB

set_option maxHeartbeats 400000 in
theorem addBytes_any (B g n cap : Nat) (xs : List Int) (u k : Nat) (w : World) (hx : xs.length = n) (hown : w.ownsRow B 5 1 (.slice (some ⟨g, 0, none⟩) n cap) n (xs.map (Value.int .u8)))
    (_hu : u < 18446744073709551616) (hk : k ≤ 8) (h1 : n + k ≤ 140737488355328) (_hB : B ≤ w.heap.size) :
    Calls Try.prog 56 #[.slice (some ⟨g, 0, none⟩) n cap, .int .u64 u, .int .i64 k] w (Made B w (xs ++ be u k)) := by
  obtain ⟨i0, hi, hz0, hz1, hz2⟩ := info_parts Try.infoU8
  subst hx
  go_enter Try.func56, Try.ntmps56
  go_wp2
  go_loopw [0, 7] (fun v i wr => ∃ (m : Nat) (ys : List Int) (g' c' : Nat), m ≤ k ∧ i = .int .i64 ((m : Int) - 1) ∧ v = .slice (some ⟨g', 0, none⟩) ys.length c' ∧ wr.ownsRow B 5 1 (.slice (some ⟨g', 0, none⟩) ys.length c') ys.length (ys.map (Value.int .u8)) ∧ Below B w wr ∧ Hid (ys ++ be u m = xs ++ be u k))
    (fun _ i _ => (intOf i + 1).toNat)
  case atStart => exact ⟨k, xs, g, cap, Nat.le_refl _, rfl, rfl, hown, Below.refl _ _, rfl⟩
  case round =>
    obtain ⟨m, ys, g', c', hm, rfl, rfl, hown', hbel, hys⟩ := hrel
    by_cases h0 : m = 0
    · subst h0
      go_wp2
      go_ret
      have e := hys.out
      simp only [be, List.append_nil] at e
      rw [← e]
      exact ⟨g', _, c', rfl, hown', hbel⟩
    · obtain ⟨m, rfl⟩ := Nat.exists_eq_succ_of_ne_zero h0
      have hlen : ys.length + (m + 1) = xs.length + k := by have := congrArg List.length hys.out; simpa [be_length] using this
      have hat := owns_at hown'
      have hBr : B ≤ wr.heap.size := by omega
      have hsz : ys.length + 1 ≤ 140737488355328 := by omega
      have Hlen : Hid (ys.length + (m + 1) = xs.length + k) := hlen
      clear hlen
      go_wp2_with (at_builtin; (refine wpList_push rfl _ _ rfl B g' ys.length c' ys rfl (hown'.alloc _) (some ⟨wr.heap.size, 0, none⟩) 1 1 [(u : Int) / 2 ^ (8 * m) % 256] rfl (in_one _ _) rfl (by intro h; cases h) hsz (by simp; omega) ?_; intro g1 c1 w1 hown1 hgrow1))
      go_roundw
      case rel => exact ⟨m, ys ++ [(u : Int) / 2 ^ (8 * m) % 256], g1, c1, by omega, by go_num, by simp, by simpa using hown1, below_push hbel hgrow1 hBr hat.1, by have := hys.out; simpa [Hid, be] using this⟩
      case measure => simp [intOf]



theorem addBytes_int (B g n cap : Nat) (xs : List Int) (u : Nat) (k : Int) (w : World) (hx : xs.length = n) (hown : w.ownsRow B 5 1 (.slice (some ⟨g, 0, none⟩) n cap) n (xs.map (Value.int .u8)))
    (hu : u < 18446744073709551616) (h0 : 0 ≤ k) (hk : k ≤ 8) (h1 : n + 8 ≤ 140737488355328) (hB : B ≤ w.heap.size) :
    Calls Try.prog 56 #[.slice (some ⟨g, 0, none⟩) n cap, .int .u64 u, .int .i64 k] w (Made B w (xs ++ be u k.toNat)) := by
  obtain ⟨m, rfl⟩ := Int.eq_ofNat_of_zero_le h0
  exact addBytes_any B g n cap xs u m w hx hown hu (by omega) (by omega) hB

theorem addBytes_zero (B g n cap : Nat) (xs : List Int) (w : World) (hown : w.ownsRow B 5 1 (.slice (some ⟨g, 0, none⟩) n cap) n (xs.map (Value.int .u8)))
    (h1 : n + 8 ≤ 140737488355328) (hB : B ≤ w.heap.size) :
    Calls Try.prog 56 #[.slice (some ⟨g, 0, none⟩) n cap, .int .u64 0, .int .i64 0] w (Made B w xs) := by
  have h := addBytes_any B g n cap xs 0 0 w (owns_len hown) hown (by omega) (by omega) (by omega) hB
  simp only [be, List.append_nil] at h
  exact h

theorem len64_any (u : Nat) (hu : u ≤ 9223372036854775807) (w : World) :
    Calls Try.prog 55 #[.int .u64 u] w fun e w' => e = .returned (.int .i64 (Lib.bitLen u)) ∧ w = w' :=
  (Try.bits_Len64 u w (by omega) (by omega)).mono fun _ _ ⟨h, e⟩ => ⟨by simpa using h, e.symm⟩

theorem len64_zero (w : World) :
    Calls Try.prog 55 #[.int .u64 0] w fun e w' => e = .returned (.int .i64 0) ∧ w = w' :=
  (Try.bits_Len64 0 w (by omega) (by omega)).mono fun _ _ ⟨h, e⟩ => ⟨h, e.symm⟩

set_option maxHeartbeats 400000 in
theorem add_any (B g n cap : Nat) (xs : List Int) (u : Nat) (w : World) (hown : w.ownsRow B 5 1 (.slice (some ⟨g, 0, none⟩) n cap) n (xs.map (Value.int .u8)))
    (hu : u ≤ 9223372036854775807) (h1 : n + 9 ≤ 140737488355328) (hB : B ≤ w.heap.size) :
    Calls Try.prog 50 #[.slice (some ⟨g, 0, none⟩) n cap, .int .i64 u] w (Made B w (xs ++ num u)) := by
  have hb := Lib.bitLen_le u 64 (by omega) (by omega)
  have hat := owns_at hown
  have Hx : Hid (xs.length = n) := owns_len hown
  have E : Hid (xs ++ [((Lib.bitLen u : Int) + 7) / 8] ++ be u (((Lib.bitLen u : Int) + 7) / 8).toNat = xs ++ num u) := by
    have : (((Lib.bitLen u : Int) + 7) / 8) = (wide u : Int) := by unfold wide; omega
    simp [Hid, this, num]
  go_enter Try.func50, Try.ntmps50
  go_wp2_with (first
    | (go_at_call 55; refine (len64_any _ hu _).mono ?_; rintro e w' ⟨rfl, rfl⟩)
    | (at_builtin; refine wpList_push rfl _ _ rfl B g n cap xs rfl (hown.alloc _) (some ⟨w.heap.size, 0, none⟩) 1 1 [((Lib.bitLen u : Int) + 7) / 8] rfl (in_one _ _) rfl (by intro h; cases h) (by omega) (by simp; omega) ?_; intro g1 c1 w1 hown1 hgrow1)
    | (go_at_call 56; refine (addBytes_int B g1 (n + 1) c1 (xs ++ [((Lib.bitLen u : Int) + 7) / 8]) u _ _ (owns_len hown1) hown1 (by omega) (by omega) (by omega) (by omega) (by have := hgrow1.size; simp at this; omega)).mono ?_; rintro e w2 ⟨g2, n2, c2, rfl, hown2, hbel2⟩))
  go_ret
  rw [E.out] at hown2
  exact ⟨g2, n2, c2, rfl, hown2, (below_push (Below.refl _ _) hgrow1 hB hat.1).trans hbel2⟩

set_option maxHeartbeats 400000 in
theorem add_neg (B g n cap : Nat) (xs : List Int) (u : Int) (w : World) (hown : w.ownsRow B 5 1 (.slice (some ⟨g, 0, none⟩) n cap) n (xs.map (Value.int .u8)))
    (hu : u < 0) (h1 : n + 9 ≤ 140737488355328) (hB : B ≤ w.heap.size) :
    Calls Try.prog 50 #[.slice (some ⟨g, 0, none⟩) n cap, .int .i64 u] w (Made B w (xs ++ num 0)) := by
  have hat := owns_at hown
  have hmax : max u 0 = 0 := by omega
  have E : Hid (num 0 = [0]) := by simp [Hid, num, be, wide, Lib.bitLen, Lib.bitLenAux]
  go_enter Try.func50, Try.ntmps50
  go_wp2_with fail
  go_fit (len64_zero _)
  rintro e w' ⟨rfl, rfl⟩
  go_wp2_with (at_builtin; refine wpList_push rfl _ _ rfl B g n cap xs rfl (hown.alloc _) (some ⟨w.heap.size, 0, none⟩) 1 1 [0] rfl (in_one _ _) rfl (by intro h; cases h) (by omega) (by simp; omega) ?_; intro g1 c1 w1 hown1 hgrow1)
  go_wp2_with fail
  go_fit (addBytes_zero B g1 (n + 1) c1 (xs ++ [0]) _ hown1 (by omega) (by have := hgrow1.size; simp at this; omega))
  rintro e w2 ⟨g2, n2, c2, rfl, hown2, hbel2⟩
  go_wp2_with fail
  go_ret
  rw [E.out]
  exact ⟨g2, n2, c2, rfl, hown2, (below_push (Below.refl _ _) hgrow1 hB hat.1).trans hbel2⟩

/-- 'add' at whatever int. -/
theorem add_int (B g n cap : Nat) (xs : List Int) (u : Int) (w : World) (hown : w.ownsRow B 5 1 (.slice (some ⟨g, 0, none⟩) n cap) n (xs.map (Value.int .u8)))
    (hu : u ≤ 9223372036854775807) (h1 : n + 9 ≤ 140737488355328) (hB : B ≤ w.heap.size) :
    Calls Try.prog 50 #[.slice (some ⟨g, 0, none⟩) n cap, .int .i64 u] w (Made B w (xs ++ num u.toNat)) := by
  by_cases h0 : 0 ≤ u
  · obtain ⟨m, rfl⟩ := Int.eq_ofNat_of_zero_le h0
    exact add_any B g n cap xs m w hown (by omega) h1 hB
  · rw [show u.toNat = 0 from by omega]
    exact add_neg B g n cap xs u w hown (by omega) h1 hB

end Go.Proofs.Ytdcmefkejgjdeaa
