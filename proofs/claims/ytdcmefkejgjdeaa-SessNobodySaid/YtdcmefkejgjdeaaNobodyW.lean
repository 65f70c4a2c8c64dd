/-
  SessNobody: the walk with bytes; its last region by the law of flow. (Written by gennob2.py.)
-/
import Derived.Test.YtdcmefkejgjdeaaNobody1
import Derived.Test.YtdcmefkejgjdeaaFlow2
namespace Go.Proofs.Ytdcmefkejgjdeaa
set_option linter.unusedVariables false
set_option linter.unusedSimpArgs false
open Go.RowKit
variable {w : World}

inductive Kn where
  | val (v : Value)
  | row (xs : List Int)
def SKn : Kn → World → Value → Prop
  | .val u, _, v => v = u
  | .row xs, w, v => ∃ g n cap B, v = .slice (some ⟨g, 0, none⟩) n cap ∧ w.ownsRow B 5 1 (.slice (some ⟨g, 0, none⟩) n cap) n (xs.map (Value.int .u8))
def SLn (ks : List Kn) (i : Nat) (w : World) (v : Value) : Prop := match ks[i]? with
  | some k => SKn k w v
  | none => True
theorem rowN_later {w w' : World} {v : Value} {B n : Nat} {cs : List Value} (h : w.ownsRow B 5 1 v n cs) (hb : Below w.heap.size w w') : w'.ownsRow B 5 1 v n cs :=
  World.ownsRow.kept (row := none) h ⟨hb.os, hb.tape, hb.output, hb.size, fun k hk _ => hb.block k hk⟩ (by cases v.ownBlock <;> simp)
theorem SLn_stable (ks : List Kn) (i : Nat) (w w' : World) (v : Value) (h : SLn ks i w v) (hb : Below w.heap.size w w') : SLn ks i w' v := by
  unfold SLn at *
  cases hk : ks[i]? with
  | none => trivial
  | some k =>
    rw [hk] at h
    cases k with
    | val u => exact h
    | row xs => obtain ⟨g, n, cap, B, hv, h1⟩ := h; exact ⟨g, n, cap, B, hv, rowN_later h1 hb⟩

set_option maxRecDepth 100000 in
set_option maxHeartbeats 25600000 in
theorem Nobody_some {p : Addr} {n c : Nat} {xs : List Int} (hx : xs.length = n) (hb : Lib.BytesIn w (some p) n xs) (hn : n ≤ 8192) (k : Kd) :
    Calls Try.prog 10 #[.agg #[.int .i64 k.op, .int .i64 k.k, .int .i64 k.q, .int .i64 k.err, .int .i64 k.n], .slice (some p) n c] w (Yes w) := by
  have HN0 := Lib.hid (nw_start w k)
  have HBI := Lib.hid hb
  have HXL := Lib.hid hx
  have HNL : Hid (n ≤ 65536) := by show _ ≤ _; omega
  have g1 : ((n : Nat) : Int) ≤ 8192 := by omega
  have HCV : Hid (∀ W : World, Below w.heap.size w W → (convert 52 9 (.slice (some p) n c)).run Try.prog W = .ok (.string (strOfNums xs)) W) := fun W hW => (later hb hW).convert hx c _ _ _ Try.underlying52 Try.underlying5 Try.underlying9
  clear hb hx hn
  go_enter Try.func10, Try.ntmps10
  go_wp2_with fail
  generalize ((w.alloc _).alloc _).alloc _ = W0 at *
  go_loopw [20] (fun v wr => ∃ i : Nat, v = .int .i64 i ∧ i ≤ 2 ∧ Hid (Nw w wr k))
    (fun v _ => 2 - (intOf v).toNat)
  case atStart => exact ⟨0, rfl, by omega, HN0⟩
  case round =>
    clear HN0
    obtain ⟨i, rfl, hi, HN⟩ := hrel
    have hi3 : i = 0 ∨ i = 1 ∨ i = 2 := by omega
    rcases hi3 with rfl | rfl | rfl
    · have y0 := HN.out.s0
      go_wp2_with fail
      go_fit (Open_no (w := wr) (v := .pointer none) (.inl rfl))
      rintro e w1 ⟨rfl, rfl⟩
      have d1 := HN.out.kd.cells 1 _ rfl
      have d2 := HN.out.kd.cells 2 _ rfl
      have HA := Lib.hid (Ask_no (w := wr) (v := .pointer none) k.k k.q (.inl rfl))
      go_wp2_with fail
      go_fit HA.out
      rintro e w2 ⟨rfl, hb⟩
      have HN2 := Lib.hid ((HN.out.later hb).later (below_alloc w2 (.cells #[.int .i64 0, .int .i64 0] 32)))
      have HR2 := Lib.hid (DC.alloc w2 [.int .i64 0, .int .i64 0] 32)
      clear hb HA y0 d1 d2
      go_wp2_with fail
      generalize w2.alloc (.cells #[.int .i64 0, .int .i64 0] 32) = W2 at *
      refine wp_region_flow (S := SLn [Kn.val (.int .i64 0), Kn.val (.bool false), Kn.val (.bool false), Kn.val (.int .i64 6), Kn.val (.bool false), Kn.val (.bool false), Kn.val (.bool false), Kn.val (.bool false), Kn.val (.bool false), Kn.val (.bool false), Kn.val (.agg #[.int .i64 0, .int .i64 0]), Kn.val (.agg #[.int .i64 0, .int .i64 0]), Kn.val (.bool false), Kn.val (.bool false), Kn.val (.bool false), Kn.val (.int .i64 6), Kn.val (.bool false), Kn.val (.bool false), Kn.val (.bool false), Kn.val (.pointer none), Kn.val (.pointer (some ⟨w.heap.size, 1, none⟩)), Kn.val (.int .i64 k.k), Kn.val (.int .i64 6), Kn.val (.bool false), Kn.val (.bool false), Kn.val (.bool false), Kn.val (.pointer none), Kn.val (.pointer (some ⟨w.heap.size, 1, none⟩)), Kn.val (.int .i64 k.k), Kn.val (.pointer (some ⟨w.heap.size, 2, none⟩)), Kn.val (.int .i64 k.q), Kn.val (.pointer (some ⟨w.heap.size, 3, none⟩)), Kn.val (.agg #[.int .i64 k.err, .int .i64 k.n]), Kn.val (.int .i64 6), Kn.val (.bool false), Kn.val (.bool false), Kn.val (.bool false), Kn.val (.pointer none), Kn.val (.slice none 0 0), Kn.val (.int .i64 0), Kn.val (.bool false), Kn.val (.bool false), Kn.val (.bool false), Kn.val (.pointer none), Kn.val (.slice (some p) n c), Kn.row xs, Kn.val (.string (strOfNums xs)), Kn.val (.slice (some p) n c), Kn.val (.string (strOfNums xs)), Kn.val (.bool false), Kn.val (.bool false)]) (by kernel_rfl) (SLn_stable _) (by kernel_rfl) (by kernel_rfl) ?_ ?_
      · intro i hi
        match i, hi with
          | 0, _ =>
            refine fs_plain _ _ rfl rfl rfl ?_
            intro a w1 hb hrest hneed
            have p7 : a.tmps.getD 7 undef = .int .i64 0 := (hrest 7 (by kernel_rfl)).trans rfl
            have p7' := (Array.getD_eq_getD_getElem? ..).symm.trans p7
            clear hneed hrest
            go_simp
            first | exact ⟨_, rfl, rfl, Below.refl _ _⟩ | exact ⟨_, rfl, (by show _ = _; simp), Below.refl _ _⟩
          | 1, _ =>
            refine fs_plain _ _ rfl rfl rfl ?_
            intro a w1 hb hrest hneed
            have e39 : a.tmps.getD 39 undef = (.int .i64 0) := hneed 0 39 rfl rfl
            have e39' := (Array.getD_eq_getD_getElem? ..).symm.trans e39
            clear hneed hrest
            go_simp
            first | exact ⟨_, rfl, rfl, Below.refl _ _⟩ | exact ⟨_, rfl, (by show _ = _; simp), Below.refl _ _⟩
          | 2, _ =>
            refine fs_plain _ _ rfl rfl rfl ?_
            intro a w1 hb hrest hneed
            have e40 : a.tmps.getD 40 undef = (.bool false) := hneed 1 40 rfl rfl
            have e40' := (Array.getD_eq_getD_getElem? ..).symm.trans e40
            clear hneed hrest
            go_simp
            first | exact ⟨_, rfl, rfl, Below.refl _ _⟩ | exact ⟨_, rfl, (by show _ = _; simp), Below.refl _ _⟩
          | 3, _ =>
            refine fs_guard _ _ 2 41 false rfl rfl rfl rfl rfl (fun w v h => h) ?_
            intro a w1 hb hrest hneed
            have p8 : a.tmps.getD 8 undef = .int .i64 6 := (hrest 8 (by kernel_rfl)).trans rfl
            have p8' := (Array.getD_eq_getD_getElem? ..).symm.trans p8
            clear hneed hrest
            go_simp
            first | exact ⟨_, rfl, rfl, Below.refl _ _⟩ | exact ⟨_, rfl, (by show _ = _; simp), Below.refl _ _⟩
          | 4, _ =>
            refine fs_guard _ _ 2 41 false rfl rfl rfl rfl rfl (fun w v h => h) ?_
            intro a w1 hb hrest hneed
            have e42 : a.tmps.getD 42 undef = (.int .i64 6) := hneed 3 42 rfl rfl
            have e42' := (Array.getD_eq_getD_getElem? ..).symm.trans e42
            clear hneed hrest
            go_simp
            first | exact ⟨_, rfl, rfl, Below.refl _ _⟩ | exact ⟨_, rfl, (by show _ = _; simp), Below.refl _ _⟩
          | 5, _ =>
            refine fs_plain _ _ rfl rfl rfl ?_
            intro a w1 hb hrest hneed
            have e41 : a.tmps.getD 41 undef = (.bool false) := hneed 2 41 rfl rfl
            have e41' := (Array.getD_eq_getD_getElem? ..).symm.trans e41
            have e43 : a.tmps.getD 43 undef = (.bool false) := hneed 4 43 rfl rfl
            have e43' := (Array.getD_eq_getD_getElem? ..).symm.trans e43
            clear hneed hrest
            go_simp
            first | exact ⟨_, rfl, rfl, Below.refl _ _⟩ | exact ⟨_, rfl, (by show _ = _; simp), Below.refl _ _⟩
          | 6, _ =>
            refine fs_plain _ _ rfl rfl rfl ?_
            intro a w1 hb hrest hneed
            have e44 : a.tmps.getD 44 undef = (.bool false) := hneed 5 44 rfl rfl
            have e44' := (Array.getD_eq_getD_getElem? ..).symm.trans e44
            clear hneed hrest
            go_simp
            first | exact ⟨_, rfl, rfl, Below.refl _ _⟩ | exact ⟨_, rfl, (by show _ = _; simp), Below.refl _ _⟩
          | 7, _ =>
            refine fs_guard _ _ 6 45 false rfl rfl rfl rfl rfl (fun w v h => h) ?_
            intro a w1 hb hrest hneed
            have p10 : a.tmps.getD 10 undef = .bool false := (hrest 10 (by kernel_rfl)).trans rfl
            have p10' := (Array.getD_eq_getD_getElem? ..).symm.trans p10
            clear hneed hrest
            go_simp
            first | exact ⟨_, rfl, rfl, Below.refl _ _⟩ | exact ⟨_, rfl, (by show _ = _; simp), Below.refl _ _⟩
          | 8, _ =>
            refine fs_plain _ _ rfl rfl rfl ?_
            intro a w1 hb hrest hneed
            have e45 : a.tmps.getD 45 undef = (.bool false) := hneed 6 45 rfl rfl
            have e45' := (Array.getD_eq_getD_getElem? ..).symm.trans e45
            have e46 : a.tmps.getD 46 undef = (.bool false) := hneed 7 46 rfl rfl
            have e46' := (Array.getD_eq_getD_getElem? ..).symm.trans e46
            clear hneed hrest
            go_simp
            first | exact ⟨_, rfl, rfl, Below.refl _ _⟩ | exact ⟨_, rfl, (by show _ = _; simp), Below.refl _ _⟩
          | 9, _ =>
            refine fs_plain _ _ rfl rfl rfl ?_
            intro a w1 hb hrest hneed
            have e47 : a.tmps.getD 47 undef = (.bool false) := hneed 8 47 rfl rfl
            have e47' := (Array.getD_eq_getD_getElem? ..).symm.trans e47
            clear hneed hrest
            go_simp
            first | exact ⟨_, rfl, rfl, Below.refl _ _⟩ | exact ⟨_, rfl, (by show _ = _; simp), Below.refl _ _⟩
          | 10, _ =>
            refine fs_guard _ _ 9 48 false rfl rfl rfl rfl rfl (fun w v h => h) ?_
            intro a w1 hb hrest hneed
            have p9 : a.tmps.getD 9 undef = .pointer (some ⟨w2.heap.size, 0, none⟩) := (hrest 9 (by kernel_rfl)).trans rfl
            have p9' := (Array.getD_eq_getD_getElem? ..).symm.trans p9
            have hr := HR2.out.below hb
            have x0 := hr.cells 0 _ rfl
            have x1 := hr.cells 1 _ rfl
            clear hr
            clear hneed hrest
            go_simp
            first | exact ⟨_, rfl, rfl, Below.refl _ _⟩ | exact ⟨_, rfl, (by show _ = _; simp), Below.refl _ _⟩
          | 11, _ =>
            refine fs_guard _ _ 9 48 false rfl rfl rfl rfl rfl (fun w v h => h) ?_
            intro a w1 hb hrest hneed
            clear hneed hrest
            go_simp
            first | exact ⟨_, rfl, rfl, Below.refl _ _⟩ | exact ⟨_, rfl, (by show _ = _; simp), Below.refl _ _⟩
          | 12, _ =>
            refine fs_guard _ _ 9 48 false rfl rfl rfl rfl rfl (fun w v h => h) ?_
            intro a w1 hb hrest hneed
            have e49 : a.tmps.getD 49 undef = (.agg #[.int .i64 0, .int .i64 0]) := hneed 10 49 rfl rfl
            have e49' := (Array.getD_eq_getD_getElem? ..).symm.trans e49
            have e50 : a.tmps.getD 50 undef = (.agg #[.int .i64 0, .int .i64 0]) := hneed 11 50 rfl rfl
            have e50' := (Array.getD_eq_getD_getElem? ..).symm.trans e50
            clear hneed hrest
            go_simp
            first | exact ⟨_, rfl, rfl, Below.refl _ _⟩ | exact ⟨_, rfl, (by show _ = _; simp), Below.refl _ _⟩
          | 13, _ =>
            refine fs_plain _ _ rfl rfl rfl ?_
            intro a w1 hb hrest hneed
            have e48 : a.tmps.getD 48 undef = (.bool false) := hneed 9 48 rfl rfl
            have e48' := (Array.getD_eq_getD_getElem? ..).symm.trans e48
            have e51 : a.tmps.getD 51 undef = (.bool false) := hneed 12 51 rfl rfl
            have e51' := (Array.getD_eq_getD_getElem? ..).symm.trans e51
            clear hneed hrest
            go_simp
            first | exact ⟨_, rfl, rfl, Below.refl _ _⟩ | exact ⟨_, rfl, (by show _ = _; simp), Below.refl _ _⟩
          | 14, _ =>
            refine fs_plain _ _ rfl rfl rfl ?_
            intro a w1 hb hrest hneed
            have e52 : a.tmps.getD 52 undef = (.bool false) := hneed 13 52 rfl rfl
            have e52' := (Array.getD_eq_getD_getElem? ..).symm.trans e52
            clear hneed hrest
            go_simp
            first | exact ⟨_, rfl, rfl, Below.refl _ _⟩ | exact ⟨_, rfl, (by show _ = _; simp), Below.refl _ _⟩
          | 15, _ =>
            refine fs_guard _ _ 14 53 false rfl rfl rfl rfl rfl (fun w v h => h) ?_
            intro a w1 hb hrest hneed
            have p11 : a.tmps.getD 11 undef = .int .i64 6 := (hrest 11 (by kernel_rfl)).trans rfl
            have p11' := (Array.getD_eq_getD_getElem? ..).symm.trans p11
            clear hneed hrest
            go_simp
            first | exact ⟨_, rfl, rfl, Below.refl _ _⟩ | exact ⟨_, rfl, (by show _ = _; simp), Below.refl _ _⟩
          | 16, _ =>
            refine fs_guard _ _ 14 53 false rfl rfl rfl rfl rfl (fun w v h => h) ?_
            intro a w1 hb hrest hneed
            have e54 : a.tmps.getD 54 undef = (.int .i64 6) := hneed 15 54 rfl rfl
            have e54' := (Array.getD_eq_getD_getElem? ..).symm.trans e54
            clear hneed hrest
            go_simp
            first | exact ⟨_, rfl, rfl, Below.refl _ _⟩ | exact ⟨_, rfl, (by show _ = _; simp), Below.refl _ _⟩
          | 17, _ =>
            refine fs_plain _ _ rfl rfl rfl ?_
            intro a w1 hb hrest hneed
            have e53 : a.tmps.getD 53 undef = (.bool false) := hneed 14 53 rfl rfl
            have e53' := (Array.getD_eq_getD_getElem? ..).symm.trans e53
            have e55 : a.tmps.getD 55 undef = (.bool false) := hneed 16 55 rfl rfl
            have e55' := (Array.getD_eq_getD_getElem? ..).symm.trans e55
            clear hneed hrest
            go_simp
            first | exact ⟨_, rfl, rfl, Below.refl _ _⟩ | exact ⟨_, rfl, (by show _ = _; simp), Below.refl _ _⟩
          | 18, _ =>
            refine fs_plain _ _ rfl rfl rfl ?_
            intro a w1 hb hrest hneed
            have e56 : a.tmps.getD 56 undef = (.bool false) := hneed 17 56 rfl rfl
            have e56' := (Array.getD_eq_getD_getElem? ..).symm.trans e56
            clear hneed hrest
            go_simp
            first | exact ⟨_, rfl, rfl, Below.refl _ _⟩ | exact ⟨_, rfl, (by show _ = _; simp), Below.refl _ _⟩
          | 19, _ =>
            refine fs_guard _ _ 18 57 false rfl rfl rfl rfl rfl (fun w v h => h) ?_
            intro a w1 hb hrest hneed
            have p6 : a.tmps.getD 6 undef = .pointer none := (hrest 6 (by kernel_rfl)).trans rfl
            have p6' := (Array.getD_eq_getD_getElem? ..).symm.trans p6
            clear hneed hrest
            go_simp
            first | exact ⟨_, rfl, rfl, Below.refl _ _⟩ | exact ⟨_, rfl, (by show _ = _; simp), Below.refl _ _⟩
          | 20, _ =>
            refine fs_guard _ _ 18 57 false rfl rfl rfl rfl rfl (fun w v h => h) ?_
            intro a w1 hb hrest hneed
            have p2 : a.tmps.getD 2 undef = .pointer (some ⟨w.heap.size, 0, none⟩) := (hrest 2 (by kernel_rfl)).trans rfl
            have p2' := (Array.getD_eq_getD_getElem? ..).symm.trans p2
            clear hneed hrest
            go_simp
            first | exact ⟨_, rfl, rfl, Below.refl _ _⟩ | exact ⟨_, rfl, (by show _ = _; simp), Below.refl _ _⟩
          | 21, _ =>
            refine fs_guard _ _ 18 57 false rfl rfl rfl rfl rfl (fun w v h => h) ?_
            intro a w1 hb hrest hneed
            have e59 : a.tmps.getD 59 undef = (.pointer (some ⟨w.heap.size, 1, none⟩)) := hneed 20 59 rfl rfl
            have e59' := (Array.getD_eq_getD_getElem? ..).symm.trans e59
            clear hneed hrest
            have d1 := (HN2.out.later hb).kd.cells 1 _ rfl
            go_simp
            first | exact ⟨_, rfl, rfl, Below.refl _ _⟩ | exact ⟨_, rfl, (by show _ = _; simp), Below.refl _ _⟩
          | 22, _ =>
            refine fs_guard _ _ 18 57 false rfl rfl rfl rfl rfl (fun w v h => h) ?_
            intro a w1 hb hrest hneed
            have e58 : a.tmps.getD 58 undef = (.pointer none) := hneed 19 58 rfl rfl
            have e58' := (Array.getD_eq_getD_getElem? ..).symm.trans e58
            have e60 : a.tmps.getD 60 undef = (.int .i64 k.k) := hneed 21 60 rfl rfl
            have e60' := (Array.getD_eq_getD_getElem? ..).symm.trans e60
            clear hneed hrest
            have H := Close_no (w := w1) (v := .pointer none) k.k (.inl rfl)
            go_simp
            refine H.mono ?_
            rintro e w3 ⟨rfl, hb2⟩
            exact ⟨_, rfl, rfl, hb2⟩
          | 23, _ =>
            refine fs_guard _ _ 18 57 false rfl rfl rfl rfl rfl (fun w v h => h) ?_
            intro a w1 hb hrest hneed
            have e61 : a.tmps.getD 61 undef = (.int .i64 6) := hneed 22 61 rfl rfl
            have e61' := (Array.getD_eq_getD_getElem? ..).symm.trans e61
            clear hneed hrest
            go_simp
            first | exact ⟨_, rfl, rfl, Below.refl _ _⟩ | exact ⟨_, rfl, (by show _ = _; simp), Below.refl _ _⟩
          | 24, _ =>
            refine fs_plain _ _ rfl rfl rfl ?_
            intro a w1 hb hrest hneed
            have e57 : a.tmps.getD 57 undef = (.bool false) := hneed 18 57 rfl rfl
            have e57' := (Array.getD_eq_getD_getElem? ..).symm.trans e57
            have e62 : a.tmps.getD 62 undef = (.bool false) := hneed 23 62 rfl rfl
            have e62' := (Array.getD_eq_getD_getElem? ..).symm.trans e62
            clear hneed hrest
            go_simp
            first | exact ⟨_, rfl, rfl, Below.refl _ _⟩ | exact ⟨_, rfl, (by show _ = _; simp), Below.refl _ _⟩
          | 25, _ =>
            refine fs_plain _ _ rfl rfl rfl ?_
            intro a w1 hb hrest hneed
            have e63 : a.tmps.getD 63 undef = (.bool false) := hneed 24 63 rfl rfl
            have e63' := (Array.getD_eq_getD_getElem? ..).symm.trans e63
            clear hneed hrest
            go_simp
            first | exact ⟨_, rfl, rfl, Below.refl _ _⟩ | exact ⟨_, rfl, (by show _ = _; simp), Below.refl _ _⟩
          | 26, _ =>
            refine fs_guard _ _ 25 64 false rfl rfl rfl rfl rfl (fun w v h => h) ?_
            intro a w1 hb hrest hneed
            have p6 : a.tmps.getD 6 undef = .pointer none := (hrest 6 (by kernel_rfl)).trans rfl
            have p6' := (Array.getD_eq_getD_getElem? ..).symm.trans p6
            clear hneed hrest
            go_simp
            first | exact ⟨_, rfl, rfl, Below.refl _ _⟩ | exact ⟨_, rfl, (by show _ = _; simp), Below.refl _ _⟩
          | 27, _ =>
            refine fs_guard _ _ 25 64 false rfl rfl rfl rfl rfl (fun w v h => h) ?_
            intro a w1 hb hrest hneed
            have p2 : a.tmps.getD 2 undef = .pointer (some ⟨w.heap.size, 0, none⟩) := (hrest 2 (by kernel_rfl)).trans rfl
            have p2' := (Array.getD_eq_getD_getElem? ..).symm.trans p2
            clear hneed hrest
            go_simp
            first | exact ⟨_, rfl, rfl, Below.refl _ _⟩ | exact ⟨_, rfl, (by show _ = _; simp), Below.refl _ _⟩
          | 28, _ =>
            refine fs_guard _ _ 25 64 false rfl rfl rfl rfl rfl (fun w v h => h) ?_
            intro a w1 hb hrest hneed
            have e66 : a.tmps.getD 66 undef = (.pointer (some ⟨w.heap.size, 1, none⟩)) := hneed 27 66 rfl rfl
            have e66' := (Array.getD_eq_getD_getElem? ..).symm.trans e66
            clear hneed hrest
            have d1 := (HN2.out.later hb).kd.cells 1 _ rfl
            go_simp
            first | exact ⟨_, rfl, rfl, Below.refl _ _⟩ | exact ⟨_, rfl, (by show _ = _; simp), Below.refl _ _⟩
          | 29, _ =>
            refine fs_guard _ _ 25 64 false rfl rfl rfl rfl rfl (fun w v h => h) ?_
            intro a w1 hb hrest hneed
            have p2 : a.tmps.getD 2 undef = .pointer (some ⟨w.heap.size, 0, none⟩) := (hrest 2 (by kernel_rfl)).trans rfl
            have p2' := (Array.getD_eq_getD_getElem? ..).symm.trans p2
            clear hneed hrest
            go_simp
            first | exact ⟨_, rfl, rfl, Below.refl _ _⟩ | exact ⟨_, rfl, (by show _ = _; simp), Below.refl _ _⟩
          | 30, _ =>
            refine fs_guard _ _ 25 64 false rfl rfl rfl rfl rfl (fun w v h => h) ?_
            intro a w1 hb hrest hneed
            have e68 : a.tmps.getD 68 undef = (.pointer (some ⟨w.heap.size, 2, none⟩)) := hneed 29 68 rfl rfl
            have e68' := (Array.getD_eq_getD_getElem? ..).symm.trans e68
            clear hneed hrest
            have d2 := (HN2.out.later hb).kd.cells 2 _ rfl
            go_simp
            first | exact ⟨_, rfl, rfl, Below.refl _ _⟩ | exact ⟨_, rfl, (by show _ = _; simp), Below.refl _ _⟩
          | 31, _ =>
            refine fs_guard _ _ 25 64 false rfl rfl rfl rfl rfl (fun w v h => h) ?_
            intro a w1 hb hrest hneed
            have p2 : a.tmps.getD 2 undef = .pointer (some ⟨w.heap.size, 0, none⟩) := (hrest 2 (by kernel_rfl)).trans rfl
            have p2' := (Array.getD_eq_getD_getElem? ..).symm.trans p2
            clear hneed hrest
            go_simp
            first | exact ⟨_, rfl, rfl, Below.refl _ _⟩ | exact ⟨_, rfl, (by show _ = _; simp), Below.refl _ _⟩
          | 32, _ =>
            refine fs_guard _ _ 25 64 false rfl rfl rfl rfl rfl (fun w v h => h) ?_
            intro a w1 hb hrest hneed
            have e70 : a.tmps.getD 70 undef = (.pointer (some ⟨w.heap.size, 3, none⟩)) := hneed 31 70 rfl rfl
            have e70' := (Array.getD_eq_getD_getElem? ..).symm.trans e70
            clear hneed hrest
            have d3 := (HN2.out.later hb).kd.cells 3 _ rfl
            have d4 := (HN2.out.later hb).kd.cells 4 _ rfl
            go_simp
            first | exact ⟨_, rfl, rfl, Below.refl _ _⟩ | exact ⟨_, rfl, (by show _ = _; simp), Below.refl _ _⟩
          | 33, _ =>
            refine fs_guard _ _ 25 64 false rfl rfl rfl rfl rfl (fun w v h => h) ?_
            intro a w1 hb hrest hneed
            have e65 : a.tmps.getD 65 undef = (.pointer none) := hneed 26 65 rfl rfl
            have e65' := (Array.getD_eq_getD_getElem? ..).symm.trans e65
            have e67 : a.tmps.getD 67 undef = (.int .i64 k.k) := hneed 28 67 rfl rfl
            have e67' := (Array.getD_eq_getD_getElem? ..).symm.trans e67
            have e69 : a.tmps.getD 69 undef = (.int .i64 k.q) := hneed 30 69 rfl rfl
            have e69' := (Array.getD_eq_getD_getElem? ..).symm.trans e69
            have e71 : a.tmps.getD 71 undef = (.agg #[.int .i64 k.err, .int .i64 k.n]) := hneed 32 71 rfl rfl
            have e71' := (Array.getD_eq_getD_getElem? ..).symm.trans e71
            clear hneed hrest
            have H := Keep_no (w := w1) (v := .pointer none) k.k k.q k.err k.n (.inl rfl)
            go_simp
            refine H.mono ?_
            rintro e w3 ⟨rfl, hb2⟩
            exact ⟨_, rfl, rfl, hb2⟩
          | 34, _ =>
            refine fs_guard _ _ 25 64 false rfl rfl rfl rfl rfl (fun w v h => h) ?_
            intro a w1 hb hrest hneed
            have e72 : a.tmps.getD 72 undef = (.int .i64 6) := hneed 33 72 rfl rfl
            have e72' := (Array.getD_eq_getD_getElem? ..).symm.trans e72
            clear hneed hrest
            go_simp
            first | exact ⟨_, rfl, rfl, Below.refl _ _⟩ | exact ⟨_, rfl, (by show _ = _; simp), Below.refl _ _⟩
          | 35, _ =>
            refine fs_plain _ _ rfl rfl rfl ?_
            intro a w1 hb hrest hneed
            have e64 : a.tmps.getD 64 undef = (.bool false) := hneed 25 64 rfl rfl
            have e64' := (Array.getD_eq_getD_getElem? ..).symm.trans e64
            have e73 : a.tmps.getD 73 undef = (.bool false) := hneed 34 73 rfl rfl
            have e73' := (Array.getD_eq_getD_getElem? ..).symm.trans e73
            clear hneed hrest
            go_simp
            first | exact ⟨_, rfl, rfl, Below.refl _ _⟩ | exact ⟨_, rfl, (by show _ = _; simp), Below.refl _ _⟩
          | 36, _ =>
            refine fs_plain _ _ rfl rfl rfl ?_
            intro a w1 hb hrest hneed
            have e74 : a.tmps.getD 74 undef = (.bool false) := hneed 35 74 rfl rfl
            have e74' := (Array.getD_eq_getD_getElem? ..).symm.trans e74
            clear hneed hrest
            go_simp
            first | exact ⟨_, rfl, rfl, Below.refl _ _⟩ | exact ⟨_, rfl, (by show _ = _; simp), Below.refl _ _⟩
          | 37, _ =>
            refine fs_guard _ _ 36 75 false rfl rfl rfl rfl rfl (fun w v h => h) ?_
            intro a w1 hb hrest hneed
            have p6 : a.tmps.getD 6 undef = .pointer none := (hrest 6 (by kernel_rfl)).trans rfl
            have p6' := (Array.getD_eq_getD_getElem? ..).symm.trans p6
            clear hneed hrest
            go_simp
            first | exact ⟨_, rfl, rfl, Below.refl _ _⟩ | exact ⟨_, rfl, (by show _ = _; simp), Below.refl _ _⟩
          | 38, _ =>
            refine fs_guard _ _ 36 75 false rfl rfl rfl rfl rfl (fun w v h => h) ?_
            intro a w1 hb hrest hneed
            have e76 : a.tmps.getD 76 undef = (.pointer none) := hneed 37 76 rfl rfl
            have e76' := (Array.getD_eq_getD_getElem? ..).symm.trans e76
            clear hneed hrest
            have H := List_no (w := w1) (v := .pointer none) (.inl rfl)
            go_simp
            refine H.mono ?_
            rintro e w3 ⟨rfl, rfl⟩
            exact ⟨_, rfl, rfl, Below.refl _ _⟩
          | 39, _ =>
            refine fs_guard _ _ 36 75 false rfl rfl rfl rfl rfl (fun w v h => h) ?_
            intro a w1 hb hrest hneed
            have e77 : a.tmps.getD 77 undef = (.slice none 0 0) := hneed 38 77 rfl rfl
            have e77' := (Array.getD_eq_getD_getElem? ..).symm.trans e77
            clear hneed hrest
            go_simp
            first | exact ⟨_, rfl, rfl, Below.refl _ _⟩ | exact ⟨_, rfl, (by show _ = _; simp), Below.refl _ _⟩
          | 40, _ =>
            refine fs_guard _ _ 36 75 false rfl rfl rfl rfl rfl (fun w v h => h) ?_
            intro a w1 hb hrest hneed
            have e78 : a.tmps.getD 78 undef = (.int .i64 0) := hneed 39 78 rfl rfl
            have e78' := (Array.getD_eq_getD_getElem? ..).symm.trans e78
            clear hneed hrest
            go_simp
            first | exact ⟨_, rfl, rfl, Below.refl _ _⟩ | exact ⟨_, rfl, (by show _ = _; simp), Below.refl _ _⟩
          | 41, _ =>
            refine fs_plain _ _ rfl rfl rfl ?_
            intro a w1 hb hrest hneed
            have e75 : a.tmps.getD 75 undef = (.bool false) := hneed 36 75 rfl rfl
            have e75' := (Array.getD_eq_getD_getElem? ..).symm.trans e75
            have e79 : a.tmps.getD 79 undef = (.bool false) := hneed 40 79 rfl rfl
            have e79' := (Array.getD_eq_getD_getElem? ..).symm.trans e79
            clear hneed hrest
            go_simp
            first | exact ⟨_, rfl, rfl, Below.refl _ _⟩ | exact ⟨_, rfl, (by show _ = _; simp), Below.refl _ _⟩
          | 42, _ =>
            refine fs_plain _ _ rfl rfl rfl ?_
            intro a w1 hb hrest hneed
            have e80 : a.tmps.getD 80 undef = (.bool false) := hneed 41 80 rfl rfl
            have e80' := (Array.getD_eq_getD_getElem? ..).symm.trans e80
            clear hneed hrest
            go_simp
            first | exact ⟨_, rfl, rfl, Below.refl _ _⟩ | exact ⟨_, rfl, (by show _ = _; simp), Below.refl _ _⟩
          | 43, _ =>
            refine fs_guard _ _ 42 81 false rfl rfl rfl rfl rfl (fun w v h => h) ?_
            intro a w1 hb hrest hneed
            have p6 : a.tmps.getD 6 undef = .pointer none := (hrest 6 (by kernel_rfl)).trans rfl
            have p6' := (Array.getD_eq_getD_getElem? ..).symm.trans p6
            clear hneed hrest
            go_simp
            first | exact ⟨_, rfl, rfl, Below.refl _ _⟩ | exact ⟨_, rfl, (by show _ = _; simp), Below.refl _ _⟩
          | 44, _ =>
            refine fs_guard _ _ 42 81 false rfl rfl rfl rfl rfl (fun w v h => h) ?_
            intro a w1 hb hrest hneed
            have p1 : a.tmps.getD 1 undef = .slice (some p) n c := (hrest 1 (by kernel_rfl)).trans rfl
            have p1' := (Array.getD_eq_getD_getElem? ..).symm.trans p1
            clear hneed hrest
            go_simp
            first | exact ⟨_, rfl, rfl, Below.refl _ _⟩ | exact ⟨_, rfl, (by show _ = _; simp), Below.refl _ _⟩
          | 45, _ =>
            refine fs_guard _ _ 42 81 false rfl rfl rfl rfl rfl (fun w v h => h) ?_
            intro a w1 hb hrest hneed
            have e82 : a.tmps.getD 82 undef = (.pointer none) := hneed 43 82 rfl rfl
            have e82' := (Array.getD_eq_getD_getElem? ..).symm.trans e82
            have e83 : a.tmps.getD 83 undef = (.slice (some p) n c) := hneed 44 83 rfl rfl
            have e83' := (Array.getD_eq_getD_getElem? ..).symm.trans e83
            clear hneed hrest
            have H := Put_some (w := w1) (c := c) (v := .pointer none) (.inl rfl) HXL.out (later HBI.out (HN2.out.later hb).below) HNL.out
            go_simp
            refine H.mono ?_
            rintro e w3 ⟨pg, pn, pc, rfl, ho, hb2⟩
            exact ⟨_, rfl, ⟨pg, pn, pc, _, rfl, ho⟩, hb2⟩
          | 46, _ =>
            refine fs_guard _ _ 42 81 false rfl rfl rfl rfl rfl (fun w v h => h) ?_
            intro a w1 hb hrest hneed
            have r84 : SKn (.row xs) w1 (a.tmps.getD 84 undef) := hneed 45 84 rfl rfl
            obtain ⟨u84, e84⟩ : ∃ u, a.tmps.getD 84 undef = u := ⟨_, rfl⟩
            rw [e84] at r84
            have e84' := (Array.getD_eq_getD_getElem? ..).symm.trans e84
            clear hneed hrest
            obtain ⟨pg, pn, pc, pB, rfl, ho⟩ := r84
            have cv := conv_own ho
            go_simp
            first | exact ⟨_, rfl, rfl, Below.refl _ _⟩ | exact ⟨_, rfl, (by show _ = _; simp), Below.refl _ _⟩
          | 47, _ =>
            refine fs_guard _ _ 42 81 false rfl rfl rfl rfl rfl (fun w v h => h) ?_
            intro a w1 hb hrest hneed
            have p1 : a.tmps.getD 1 undef = .slice (some p) n c := (hrest 1 (by kernel_rfl)).trans rfl
            have p1' := (Array.getD_eq_getD_getElem? ..).symm.trans p1
            clear hneed hrest
            go_simp
            first | exact ⟨_, rfl, rfl, Below.refl _ _⟩ | exact ⟨_, rfl, (by show _ = _; simp), Below.refl _ _⟩
          | 48, _ =>
            refine fs_guard _ _ 42 81 false rfl rfl rfl rfl rfl (fun w v h => h) ?_
            intro a w1 hb hrest hneed
            have e86 : a.tmps.getD 86 undef = (.slice (some p) n c) := hneed 47 86 rfl rfl
            have e86' := (Array.getD_eq_getD_getElem? ..).symm.trans e86
            clear hneed hrest
            have cv := HCV.out w1 (HN2.out.later hb).below
            go_simp
            first | exact ⟨_, rfl, rfl, Below.refl _ _⟩ | exact ⟨_, rfl, (by show _ = _; simp), Below.refl _ _⟩
          | 49, _ =>
            refine fs_guard _ _ 42 81 false rfl rfl rfl rfl rfl (fun w v h => h) ?_
            intro a w1 hb hrest hneed
            have e85 : a.tmps.getD 85 undef = (.string (strOfNums xs)) := hneed 46 85 rfl rfl
            have e85' := (Array.getD_eq_getD_getElem? ..).symm.trans e85
            have e87 : a.tmps.getD 87 undef = (.string (strOfNums xs)) := hneed 48 87 rfl rfl
            have e87' := (Array.getD_eq_getD_getElem? ..).symm.trans e87
            clear hneed hrest
            go_simp
            first | exact ⟨_, rfl, rfl, Below.refl _ _⟩ | exact ⟨_, rfl, (by show _ = _; simp), Below.refl _ _⟩
          | 50, _ =>
            refine fs_plain _ _ rfl rfl rfl ?_
            intro a w1 hb hrest hneed
            have e81 : a.tmps.getD 81 undef = (.bool false) := hneed 42 81 rfl rfl
            have e81' := (Array.getD_eq_getD_getElem? ..).symm.trans e81
            have e88 : a.tmps.getD 88 undef = (.bool false) := hneed 49 88 rfl rfl
            have e88' := (Array.getD_eq_getD_getElem? ..).symm.trans e88
            clear hneed hrest
            go_simp
            first | exact ⟨_, rfl, rfl, Below.refl _ _⟩ | exact ⟨_, rfl, (by show _ = _; simp), Below.refl _ _⟩
          | n + 51, h => exact absurd h (by simp)
      · intro a w3 hb hd hs hr hg
        have e39 : a.tmps.getD 39 undef = (.int .i64 0) := hg 0 (by decide) 39 rfl
        have e40 : a.tmps.getD 40 undef = (.bool false) := hg 1 (by decide) 40 rfl
        have e41 : a.tmps.getD 41 undef = (.bool false) := hg 2 (by decide) 41 rfl
        have e42 : a.tmps.getD 42 undef = (.int .i64 6) := hg 3 (by decide) 42 rfl
        have e43 : a.tmps.getD 43 undef = (.bool false) := hg 4 (by decide) 43 rfl
        have e44 : a.tmps.getD 44 undef = (.bool false) := hg 5 (by decide) 44 rfl
        have e45 : a.tmps.getD 45 undef = (.bool false) := hg 6 (by decide) 45 rfl
        have e46 : a.tmps.getD 46 undef = (.bool false) := hg 7 (by decide) 46 rfl
        have e47 : a.tmps.getD 47 undef = (.bool false) := hg 8 (by decide) 47 rfl
        have e48 : a.tmps.getD 48 undef = (.bool false) := hg 9 (by decide) 48 rfl
        have e49 : a.tmps.getD 49 undef = (.agg #[.int .i64 0, .int .i64 0]) := hg 10 (by decide) 49 rfl
        have e50 : a.tmps.getD 50 undef = (.agg #[.int .i64 0, .int .i64 0]) := hg 11 (by decide) 50 rfl
        have e51 : a.tmps.getD 51 undef = (.bool false) := hg 12 (by decide) 51 rfl
        have e52 : a.tmps.getD 52 undef = (.bool false) := hg 13 (by decide) 52 rfl
        have e53 : a.tmps.getD 53 undef = (.bool false) := hg 14 (by decide) 53 rfl
        have e54 : a.tmps.getD 54 undef = (.int .i64 6) := hg 15 (by decide) 54 rfl
        have e55 : a.tmps.getD 55 undef = (.bool false) := hg 16 (by decide) 55 rfl
        have e56 : a.tmps.getD 56 undef = (.bool false) := hg 17 (by decide) 56 rfl
        have e57 : a.tmps.getD 57 undef = (.bool false) := hg 18 (by decide) 57 rfl
        have e58 : a.tmps.getD 58 undef = (.pointer none) := hg 19 (by decide) 58 rfl
        have e59 : a.tmps.getD 59 undef = (.pointer (some ⟨w.heap.size, 1, none⟩)) := hg 20 (by decide) 59 rfl
        have e60 : a.tmps.getD 60 undef = (.int .i64 k.k) := hg 21 (by decide) 60 rfl
        have e61 : a.tmps.getD 61 undef = (.int .i64 6) := hg 22 (by decide) 61 rfl
        have e62 : a.tmps.getD 62 undef = (.bool false) := hg 23 (by decide) 62 rfl
        have e63 : a.tmps.getD 63 undef = (.bool false) := hg 24 (by decide) 63 rfl
        have e64 : a.tmps.getD 64 undef = (.bool false) := hg 25 (by decide) 64 rfl
        have e65 : a.tmps.getD 65 undef = (.pointer none) := hg 26 (by decide) 65 rfl
        have e66 : a.tmps.getD 66 undef = (.pointer (some ⟨w.heap.size, 1, none⟩)) := hg 27 (by decide) 66 rfl
        have e67 : a.tmps.getD 67 undef = (.int .i64 k.k) := hg 28 (by decide) 67 rfl
        have e68 : a.tmps.getD 68 undef = (.pointer (some ⟨w.heap.size, 2, none⟩)) := hg 29 (by decide) 68 rfl
        have e69 : a.tmps.getD 69 undef = (.int .i64 k.q) := hg 30 (by decide) 69 rfl
        have e70 : a.tmps.getD 70 undef = (.pointer (some ⟨w.heap.size, 3, none⟩)) := hg 31 (by decide) 70 rfl
        have e71 : a.tmps.getD 71 undef = (.agg #[.int .i64 k.err, .int .i64 k.n]) := hg 32 (by decide) 71 rfl
        have e72 : a.tmps.getD 72 undef = (.int .i64 6) := hg 33 (by decide) 72 rfl
        have e73 : a.tmps.getD 73 undef = (.bool false) := hg 34 (by decide) 73 rfl
        have e74 : a.tmps.getD 74 undef = (.bool false) := hg 35 (by decide) 74 rfl
        have e75 : a.tmps.getD 75 undef = (.bool false) := hg 36 (by decide) 75 rfl
        have e76 : a.tmps.getD 76 undef = (.pointer none) := hg 37 (by decide) 76 rfl
        have e77 : a.tmps.getD 77 undef = (.slice none 0 0) := hg 38 (by decide) 77 rfl
        have e78 : a.tmps.getD 78 undef = (.int .i64 0) := hg 39 (by decide) 78 rfl
        have e79 : a.tmps.getD 79 undef = (.bool false) := hg 40 (by decide) 79 rfl
        have e80 : a.tmps.getD 80 undef = (.bool false) := hg 41 (by decide) 80 rfl
        have e81 : a.tmps.getD 81 undef = (.bool false) := hg 42 (by decide) 81 rfl
        have e82 : a.tmps.getD 82 undef = (.pointer none) := hg 43 (by decide) 82 rfl
        have e83 : a.tmps.getD 83 undef = (.slice (some p) n c) := hg 44 (by decide) 83 rfl
        obtain ⟨pg, pn, pc, pB, e84, ho⟩ : SKn (.row xs) w3 (a.tmps.getD 84 undef) := hg 45 (by decide) 84 rfl
        have e85 : a.tmps.getD 85 undef = (.string (strOfNums xs)) := hg 46 (by decide) 85 rfl
        have e86 : a.tmps.getD 86 undef = (.slice (some p) n c) := hg 47 (by decide) 86 rfl
        have e87 : a.tmps.getD 87 undef = (.string (strOfNums xs)) := hg 48 (by decide) 87 rfl
        have e88 : a.tmps.getD 88 undef = (.bool false) := hg 49 (by decide) 88 rfl
        have e89 : a.tmps.getD 89 undef = (.bool false) := hg 50 (by decide) 89 rfl
        have ha := act_flow [39, 40, 41, 42, 43, 44, 45, 46, 47, 48, 49, 50, 51, 52, 53, 54, 55, 56, 57, 58, 59, 60, 61, 62, 63, 64, 65, 66, 67, 68, 69, 70, 71, 72, 73, 74, 75, 76, 77, 78, 79, 80, 81, 82, 83, 84, 85, 86, 87, 88, 89] (by kernel_rfl) hd hs hr
        simp only [putsOf, List.foldl_cons, List.foldl_nil, e39, e40, e41, e42, e43, e44, e45, e46, e47, e48, e49, e50, e51, e52, e53, e54, e55, e56, e57, e58, e59, e60, e61, e62, e63, e64, e65, e66, e67, e68, e69, e70, e71, e72, e73, e74, e75, e76, e77, e78, e79, e80, e81, e82, e83, e84, e85, e86, e87, e88, e89] at ha
        clear e39 e40 e41 e42 e43 e44 e45 e46 e47 e48 e49 e50 e51 e52 e53 e54 e55 e56 e57 e58 e59 e60 e61 e62 e63 e64 e65 e66 e67 e68 e69 e70 e71 e72 e73 e74 e75 e76 e77 e78 e79 e80 e81 e82 e83 e84 e85 e86 e87 e88 e89 ho hd hs hr hg
        subst ha
        go_simp
        have HN8 := Lib.hid (HN2.out.later hb)
        clear hb
        go_wp2_with fail
        exact ⟨⟨1, rfl, by omega, HN8⟩, by show 2 - (1 : Int).toNat < 2 - (0 : Int).toNat; decide⟩
    · have y1 := HN.out.s1
      go_wp2_with fail
      go_fit (Open_no (w := wr) (v := .pointer (some ⟨w.heap.size + 1, 0, none⟩)) HN.out.no)
      rintro e w1 ⟨rfl, rfl⟩
      have d1 := HN.out.kd.cells 1 _ rfl
      have d2 := HN.out.kd.cells 2 _ rfl
      have HA := Lib.hid (Ask_no (w := wr) (v := .pointer (some ⟨w.heap.size + 1, 0, none⟩)) k.k k.q HN.out.no)
      go_wp2_with fail
      go_fit HA.out
      rintro e w2 ⟨rfl, hb⟩
      have HN2 := Lib.hid ((HN.out.later hb).later (below_alloc w2 (.cells #[.int .i64 0, .int .i64 0] 32)))
      have HR2 := Lib.hid (DC.alloc w2 [.int .i64 0, .int .i64 0] 32)
      clear hb HA y1 d1 d2
      go_wp2_with fail
      generalize w2.alloc (.cells #[.int .i64 0, .int .i64 0] 32) = W2 at *
      refine wp_region_flow (S := SLn [Kn.val (.int .i64 0), Kn.val (.bool false), Kn.val (.bool false), Kn.val (.int .i64 6), Kn.val (.bool false), Kn.val (.bool false), Kn.val (.bool false), Kn.val (.bool false), Kn.val (.bool false), Kn.val (.bool false), Kn.val (.agg #[.int .i64 0, .int .i64 0]), Kn.val (.agg #[.int .i64 0, .int .i64 0]), Kn.val (.bool false), Kn.val (.bool false), Kn.val (.bool false), Kn.val (.int .i64 6), Kn.val (.bool false), Kn.val (.bool false), Kn.val (.bool false), Kn.val (.pointer (some ⟨w.heap.size + 1, 0, none⟩)), Kn.val (.pointer (some ⟨w.heap.size, 1, none⟩)), Kn.val (.int .i64 k.k), Kn.val (.int .i64 6), Kn.val (.bool false), Kn.val (.bool false), Kn.val (.bool false), Kn.val (.pointer (some ⟨w.heap.size + 1, 0, none⟩)), Kn.val (.pointer (some ⟨w.heap.size, 1, none⟩)), Kn.val (.int .i64 k.k), Kn.val (.pointer (some ⟨w.heap.size, 2, none⟩)), Kn.val (.int .i64 k.q), Kn.val (.pointer (some ⟨w.heap.size, 3, none⟩)), Kn.val (.agg #[.int .i64 k.err, .int .i64 k.n]), Kn.val (.int .i64 6), Kn.val (.bool false), Kn.val (.bool false), Kn.val (.bool false), Kn.val (.pointer (some ⟨w.heap.size + 1, 0, none⟩)), Kn.val (.slice none 0 0), Kn.val (.int .i64 0), Kn.val (.bool false), Kn.val (.bool false), Kn.val (.bool false), Kn.val (.pointer (some ⟨w.heap.size + 1, 0, none⟩)), Kn.val (.slice (some p) n c), Kn.row xs, Kn.val (.string (strOfNums xs)), Kn.val (.slice (some p) n c), Kn.val (.string (strOfNums xs)), Kn.val (.bool false), Kn.val (.bool false)]) (by kernel_rfl) (SLn_stable _) (by kernel_rfl) (by kernel_rfl) ?_ ?_
      · intro i hi
        match i, hi with
          | 0, _ =>
            refine fs_plain _ _ rfl rfl rfl ?_
            intro a w1 hb hrest hneed
            have p7 : a.tmps.getD 7 undef = .int .i64 0 := (hrest 7 (by kernel_rfl)).trans rfl
            have p7' := (Array.getD_eq_getD_getElem? ..).symm.trans p7
            clear hneed hrest
            go_simp
            first | exact ⟨_, rfl, rfl, Below.refl _ _⟩ | exact ⟨_, rfl, (by show _ = _; simp), Below.refl _ _⟩
          | 1, _ =>
            refine fs_plain _ _ rfl rfl rfl ?_
            intro a w1 hb hrest hneed
            have e39 : a.tmps.getD 39 undef = (.int .i64 0) := hneed 0 39 rfl rfl
            have e39' := (Array.getD_eq_getD_getElem? ..).symm.trans e39
            clear hneed hrest
            go_simp
            first | exact ⟨_, rfl, rfl, Below.refl _ _⟩ | exact ⟨_, rfl, (by show _ = _; simp), Below.refl _ _⟩
          | 2, _ =>
            refine fs_plain _ _ rfl rfl rfl ?_
            intro a w1 hb hrest hneed
            have e40 : a.tmps.getD 40 undef = (.bool false) := hneed 1 40 rfl rfl
            have e40' := (Array.getD_eq_getD_getElem? ..).symm.trans e40
            clear hneed hrest
            go_simp
            first | exact ⟨_, rfl, rfl, Below.refl _ _⟩ | exact ⟨_, rfl, (by show _ = _; simp), Below.refl _ _⟩
          | 3, _ =>
            refine fs_guard _ _ 2 41 false rfl rfl rfl rfl rfl (fun w v h => h) ?_
            intro a w1 hb hrest hneed
            have p8 : a.tmps.getD 8 undef = .int .i64 6 := (hrest 8 (by kernel_rfl)).trans rfl
            have p8' := (Array.getD_eq_getD_getElem? ..).symm.trans p8
            clear hneed hrest
            go_simp
            first | exact ⟨_, rfl, rfl, Below.refl _ _⟩ | exact ⟨_, rfl, (by show _ = _; simp), Below.refl _ _⟩
          | 4, _ =>
            refine fs_guard _ _ 2 41 false rfl rfl rfl rfl rfl (fun w v h => h) ?_
            intro a w1 hb hrest hneed
            have e42 : a.tmps.getD 42 undef = (.int .i64 6) := hneed 3 42 rfl rfl
            have e42' := (Array.getD_eq_getD_getElem? ..).symm.trans e42
            clear hneed hrest
            go_simp
            first | exact ⟨_, rfl, rfl, Below.refl _ _⟩ | exact ⟨_, rfl, (by show _ = _; simp), Below.refl _ _⟩
          | 5, _ =>
            refine fs_plain _ _ rfl rfl rfl ?_
            intro a w1 hb hrest hneed
            have e41 : a.tmps.getD 41 undef = (.bool false) := hneed 2 41 rfl rfl
            have e41' := (Array.getD_eq_getD_getElem? ..).symm.trans e41
            have e43 : a.tmps.getD 43 undef = (.bool false) := hneed 4 43 rfl rfl
            have e43' := (Array.getD_eq_getD_getElem? ..).symm.trans e43
            clear hneed hrest
            go_simp
            first | exact ⟨_, rfl, rfl, Below.refl _ _⟩ | exact ⟨_, rfl, (by show _ = _; simp), Below.refl _ _⟩
          | 6, _ =>
            refine fs_plain _ _ rfl rfl rfl ?_
            intro a w1 hb hrest hneed
            have e44 : a.tmps.getD 44 undef = (.bool false) := hneed 5 44 rfl rfl
            have e44' := (Array.getD_eq_getD_getElem? ..).symm.trans e44
            clear hneed hrest
            go_simp
            first | exact ⟨_, rfl, rfl, Below.refl _ _⟩ | exact ⟨_, rfl, (by show _ = _; simp), Below.refl _ _⟩
          | 7, _ =>
            refine fs_guard _ _ 6 45 false rfl rfl rfl rfl rfl (fun w v h => h) ?_
            intro a w1 hb hrest hneed
            have p10 : a.tmps.getD 10 undef = .bool false := (hrest 10 (by kernel_rfl)).trans rfl
            have p10' := (Array.getD_eq_getD_getElem? ..).symm.trans p10
            clear hneed hrest
            go_simp
            first | exact ⟨_, rfl, rfl, Below.refl _ _⟩ | exact ⟨_, rfl, (by show _ = _; simp), Below.refl _ _⟩
          | 8, _ =>
            refine fs_plain _ _ rfl rfl rfl ?_
            intro a w1 hb hrest hneed
            have e45 : a.tmps.getD 45 undef = (.bool false) := hneed 6 45 rfl rfl
            have e45' := (Array.getD_eq_getD_getElem? ..).symm.trans e45
            have e46 : a.tmps.getD 46 undef = (.bool false) := hneed 7 46 rfl rfl
            have e46' := (Array.getD_eq_getD_getElem? ..).symm.trans e46
            clear hneed hrest
            go_simp
            first | exact ⟨_, rfl, rfl, Below.refl _ _⟩ | exact ⟨_, rfl, (by show _ = _; simp), Below.refl _ _⟩
          | 9, _ =>
            refine fs_plain _ _ rfl rfl rfl ?_
            intro a w1 hb hrest hneed
            have e47 : a.tmps.getD 47 undef = (.bool false) := hneed 8 47 rfl rfl
            have e47' := (Array.getD_eq_getD_getElem? ..).symm.trans e47
            clear hneed hrest
            go_simp
            first | exact ⟨_, rfl, rfl, Below.refl _ _⟩ | exact ⟨_, rfl, (by show _ = _; simp), Below.refl _ _⟩
          | 10, _ =>
            refine fs_guard _ _ 9 48 false rfl rfl rfl rfl rfl (fun w v h => h) ?_
            intro a w1 hb hrest hneed
            have p9 : a.tmps.getD 9 undef = .pointer (some ⟨w2.heap.size, 0, none⟩) := (hrest 9 (by kernel_rfl)).trans rfl
            have p9' := (Array.getD_eq_getD_getElem? ..).symm.trans p9
            have hr := HR2.out.below hb
            have x0 := hr.cells 0 _ rfl
            have x1 := hr.cells 1 _ rfl
            clear hr
            clear hneed hrest
            go_simp
            first | exact ⟨_, rfl, rfl, Below.refl _ _⟩ | exact ⟨_, rfl, (by show _ = _; simp), Below.refl _ _⟩
          | 11, _ =>
            refine fs_guard _ _ 9 48 false rfl rfl rfl rfl rfl (fun w v h => h) ?_
            intro a w1 hb hrest hneed
            clear hneed hrest
            go_simp
            first | exact ⟨_, rfl, rfl, Below.refl _ _⟩ | exact ⟨_, rfl, (by show _ = _; simp), Below.refl _ _⟩
          | 12, _ =>
            refine fs_guard _ _ 9 48 false rfl rfl rfl rfl rfl (fun w v h => h) ?_
            intro a w1 hb hrest hneed
            have e49 : a.tmps.getD 49 undef = (.agg #[.int .i64 0, .int .i64 0]) := hneed 10 49 rfl rfl
            have e49' := (Array.getD_eq_getD_getElem? ..).symm.trans e49
            have e50 : a.tmps.getD 50 undef = (.agg #[.int .i64 0, .int .i64 0]) := hneed 11 50 rfl rfl
            have e50' := (Array.getD_eq_getD_getElem? ..).symm.trans e50
            clear hneed hrest
            go_simp
            first | exact ⟨_, rfl, rfl, Below.refl _ _⟩ | exact ⟨_, rfl, (by show _ = _; simp), Below.refl _ _⟩
          | 13, _ =>
            refine fs_plain _ _ rfl rfl rfl ?_
            intro a w1 hb hrest hneed
            have e48 : a.tmps.getD 48 undef = (.bool false) := hneed 9 48 rfl rfl
            have e48' := (Array.getD_eq_getD_getElem? ..).symm.trans e48
            have e51 : a.tmps.getD 51 undef = (.bool false) := hneed 12 51 rfl rfl
            have e51' := (Array.getD_eq_getD_getElem? ..).symm.trans e51
            clear hneed hrest
            go_simp
            first | exact ⟨_, rfl, rfl, Below.refl _ _⟩ | exact ⟨_, rfl, (by show _ = _; simp), Below.refl _ _⟩
          | 14, _ =>
            refine fs_plain _ _ rfl rfl rfl ?_
            intro a w1 hb hrest hneed
            have e52 : a.tmps.getD 52 undef = (.bool false) := hneed 13 52 rfl rfl
            have e52' := (Array.getD_eq_getD_getElem? ..).symm.trans e52
            clear hneed hrest
            go_simp
            first | exact ⟨_, rfl, rfl, Below.refl _ _⟩ | exact ⟨_, rfl, (by show _ = _; simp), Below.refl _ _⟩
          | 15, _ =>
            refine fs_guard _ _ 14 53 false rfl rfl rfl rfl rfl (fun w v h => h) ?_
            intro a w1 hb hrest hneed
            have p11 : a.tmps.getD 11 undef = .int .i64 6 := (hrest 11 (by kernel_rfl)).trans rfl
            have p11' := (Array.getD_eq_getD_getElem? ..).symm.trans p11
            clear hneed hrest
            go_simp
            first | exact ⟨_, rfl, rfl, Below.refl _ _⟩ | exact ⟨_, rfl, (by show _ = _; simp), Below.refl _ _⟩
          | 16, _ =>
            refine fs_guard _ _ 14 53 false rfl rfl rfl rfl rfl (fun w v h => h) ?_
            intro a w1 hb hrest hneed
            have e54 : a.tmps.getD 54 undef = (.int .i64 6) := hneed 15 54 rfl rfl
            have e54' := (Array.getD_eq_getD_getElem? ..).symm.trans e54
            clear hneed hrest
            go_simp
            first | exact ⟨_, rfl, rfl, Below.refl _ _⟩ | exact ⟨_, rfl, (by show _ = _; simp), Below.refl _ _⟩
          | 17, _ =>
            refine fs_plain _ _ rfl rfl rfl ?_
            intro a w1 hb hrest hneed
            have e53 : a.tmps.getD 53 undef = (.bool false) := hneed 14 53 rfl rfl
            have e53' := (Array.getD_eq_getD_getElem? ..).symm.trans e53
            have e55 : a.tmps.getD 55 undef = (.bool false) := hneed 16 55 rfl rfl
            have e55' := (Array.getD_eq_getD_getElem? ..).symm.trans e55
            clear hneed hrest
            go_simp
            first | exact ⟨_, rfl, rfl, Below.refl _ _⟩ | exact ⟨_, rfl, (by show _ = _; simp), Below.refl _ _⟩
          | 18, _ =>
            refine fs_plain _ _ rfl rfl rfl ?_
            intro a w1 hb hrest hneed
            have e56 : a.tmps.getD 56 undef = (.bool false) := hneed 17 56 rfl rfl
            have e56' := (Array.getD_eq_getD_getElem? ..).symm.trans e56
            clear hneed hrest
            go_simp
            first | exact ⟨_, rfl, rfl, Below.refl _ _⟩ | exact ⟨_, rfl, (by show _ = _; simp), Below.refl _ _⟩
          | 19, _ =>
            refine fs_guard _ _ 18 57 false rfl rfl rfl rfl rfl (fun w v h => h) ?_
            intro a w1 hb hrest hneed
            have p6 : a.tmps.getD 6 undef = .pointer (some ⟨w.heap.size + 1, 0, none⟩) := (hrest 6 (by kernel_rfl)).trans rfl
            have p6' := (Array.getD_eq_getD_getElem? ..).symm.trans p6
            clear hneed hrest
            go_simp
            first | exact ⟨_, rfl, rfl, Below.refl _ _⟩ | exact ⟨_, rfl, (by show _ = _; simp), Below.refl _ _⟩
          | 20, _ =>
            refine fs_guard _ _ 18 57 false rfl rfl rfl rfl rfl (fun w v h => h) ?_
            intro a w1 hb hrest hneed
            have p2 : a.tmps.getD 2 undef = .pointer (some ⟨w.heap.size, 0, none⟩) := (hrest 2 (by kernel_rfl)).trans rfl
            have p2' := (Array.getD_eq_getD_getElem? ..).symm.trans p2
            clear hneed hrest
            go_simp
            first | exact ⟨_, rfl, rfl, Below.refl _ _⟩ | exact ⟨_, rfl, (by show _ = _; simp), Below.refl _ _⟩
          | 21, _ =>
            refine fs_guard _ _ 18 57 false rfl rfl rfl rfl rfl (fun w v h => h) ?_
            intro a w1 hb hrest hneed
            have e59 : a.tmps.getD 59 undef = (.pointer (some ⟨w.heap.size, 1, none⟩)) := hneed 20 59 rfl rfl
            have e59' := (Array.getD_eq_getD_getElem? ..).symm.trans e59
            clear hneed hrest
            have d1 := (HN2.out.later hb).kd.cells 1 _ rfl
            go_simp
            first | exact ⟨_, rfl, rfl, Below.refl _ _⟩ | exact ⟨_, rfl, (by show _ = _; simp), Below.refl _ _⟩
          | 22, _ =>
            refine fs_guard _ _ 18 57 false rfl rfl rfl rfl rfl (fun w v h => h) ?_
            intro a w1 hb hrest hneed
            have e58 : a.tmps.getD 58 undef = (.pointer (some ⟨w.heap.size + 1, 0, none⟩)) := hneed 19 58 rfl rfl
            have e58' := (Array.getD_eq_getD_getElem? ..).symm.trans e58
            have e60 : a.tmps.getD 60 undef = (.int .i64 k.k) := hneed 21 60 rfl rfl
            have e60' := (Array.getD_eq_getD_getElem? ..).symm.trans e60
            clear hneed hrest
            have H := Close_no (w := w1) (v := .pointer (some ⟨w.heap.size + 1, 0, none⟩)) k.k (HN2.out.later hb).no
            go_simp
            refine H.mono ?_
            rintro e w3 ⟨rfl, hb2⟩
            exact ⟨_, rfl, rfl, hb2⟩
          | 23, _ =>
            refine fs_guard _ _ 18 57 false rfl rfl rfl rfl rfl (fun w v h => h) ?_
            intro a w1 hb hrest hneed
            have e61 : a.tmps.getD 61 undef = (.int .i64 6) := hneed 22 61 rfl rfl
            have e61' := (Array.getD_eq_getD_getElem? ..).symm.trans e61
            clear hneed hrest
            go_simp
            first | exact ⟨_, rfl, rfl, Below.refl _ _⟩ | exact ⟨_, rfl, (by show _ = _; simp), Below.refl _ _⟩
          | 24, _ =>
            refine fs_plain _ _ rfl rfl rfl ?_
            intro a w1 hb hrest hneed
            have e57 : a.tmps.getD 57 undef = (.bool false) := hneed 18 57 rfl rfl
            have e57' := (Array.getD_eq_getD_getElem? ..).symm.trans e57
            have e62 : a.tmps.getD 62 undef = (.bool false) := hneed 23 62 rfl rfl
            have e62' := (Array.getD_eq_getD_getElem? ..).symm.trans e62
            clear hneed hrest
            go_simp
            first | exact ⟨_, rfl, rfl, Below.refl _ _⟩ | exact ⟨_, rfl, (by show _ = _; simp), Below.refl _ _⟩
          | 25, _ =>
            refine fs_plain _ _ rfl rfl rfl ?_
            intro a w1 hb hrest hneed
            have e63 : a.tmps.getD 63 undef = (.bool false) := hneed 24 63 rfl rfl
            have e63' := (Array.getD_eq_getD_getElem? ..).symm.trans e63
            clear hneed hrest
            go_simp
            first | exact ⟨_, rfl, rfl, Below.refl _ _⟩ | exact ⟨_, rfl, (by show _ = _; simp), Below.refl _ _⟩
          | 26, _ =>
            refine fs_guard _ _ 25 64 false rfl rfl rfl rfl rfl (fun w v h => h) ?_
            intro a w1 hb hrest hneed
            have p6 : a.tmps.getD 6 undef = .pointer (some ⟨w.heap.size + 1, 0, none⟩) := (hrest 6 (by kernel_rfl)).trans rfl
            have p6' := (Array.getD_eq_getD_getElem? ..).symm.trans p6
            clear hneed hrest
            go_simp
            first | exact ⟨_, rfl, rfl, Below.refl _ _⟩ | exact ⟨_, rfl, (by show _ = _; simp), Below.refl _ _⟩
          | 27, _ =>
            refine fs_guard _ _ 25 64 false rfl rfl rfl rfl rfl (fun w v h => h) ?_
            intro a w1 hb hrest hneed
            have p2 : a.tmps.getD 2 undef = .pointer (some ⟨w.heap.size, 0, none⟩) := (hrest 2 (by kernel_rfl)).trans rfl
            have p2' := (Array.getD_eq_getD_getElem? ..).symm.trans p2
            clear hneed hrest
            go_simp
            first | exact ⟨_, rfl, rfl, Below.refl _ _⟩ | exact ⟨_, rfl, (by show _ = _; simp), Below.refl _ _⟩
          | 28, _ =>
            refine fs_guard _ _ 25 64 false rfl rfl rfl rfl rfl (fun w v h => h) ?_
            intro a w1 hb hrest hneed
            have e66 : a.tmps.getD 66 undef = (.pointer (some ⟨w.heap.size, 1, none⟩)) := hneed 27 66 rfl rfl
            have e66' := (Array.getD_eq_getD_getElem? ..).symm.trans e66
            clear hneed hrest
            have d1 := (HN2.out.later hb).kd.cells 1 _ rfl
            go_simp
            first | exact ⟨_, rfl, rfl, Below.refl _ _⟩ | exact ⟨_, rfl, (by show _ = _; simp), Below.refl _ _⟩
          | 29, _ =>
            refine fs_guard _ _ 25 64 false rfl rfl rfl rfl rfl (fun w v h => h) ?_
            intro a w1 hb hrest hneed
            have p2 : a.tmps.getD 2 undef = .pointer (some ⟨w.heap.size, 0, none⟩) := (hrest 2 (by kernel_rfl)).trans rfl
            have p2' := (Array.getD_eq_getD_getElem? ..).symm.trans p2
            clear hneed hrest
            go_simp
            first | exact ⟨_, rfl, rfl, Below.refl _ _⟩ | exact ⟨_, rfl, (by show _ = _; simp), Below.refl _ _⟩
          | 30, _ =>
            refine fs_guard _ _ 25 64 false rfl rfl rfl rfl rfl (fun w v h => h) ?_
            intro a w1 hb hrest hneed
            have e68 : a.tmps.getD 68 undef = (.pointer (some ⟨w.heap.size, 2, none⟩)) := hneed 29 68 rfl rfl
            have e68' := (Array.getD_eq_getD_getElem? ..).symm.trans e68
            clear hneed hrest
            have d2 := (HN2.out.later hb).kd.cells 2 _ rfl
            go_simp
            first | exact ⟨_, rfl, rfl, Below.refl _ _⟩ | exact ⟨_, rfl, (by show _ = _; simp), Below.refl _ _⟩
          | 31, _ =>
            refine fs_guard _ _ 25 64 false rfl rfl rfl rfl rfl (fun w v h => h) ?_
            intro a w1 hb hrest hneed
            have p2 : a.tmps.getD 2 undef = .pointer (some ⟨w.heap.size, 0, none⟩) := (hrest 2 (by kernel_rfl)).trans rfl
            have p2' := (Array.getD_eq_getD_getElem? ..).symm.trans p2
            clear hneed hrest
            go_simp
            first | exact ⟨_, rfl, rfl, Below.refl _ _⟩ | exact ⟨_, rfl, (by show _ = _; simp), Below.refl _ _⟩
          | 32, _ =>
            refine fs_guard _ _ 25 64 false rfl rfl rfl rfl rfl (fun w v h => h) ?_
            intro a w1 hb hrest hneed
            have e70 : a.tmps.getD 70 undef = (.pointer (some ⟨w.heap.size, 3, none⟩)) := hneed 31 70 rfl rfl
            have e70' := (Array.getD_eq_getD_getElem? ..).symm.trans e70
            clear hneed hrest
            have d3 := (HN2.out.later hb).kd.cells 3 _ rfl
            have d4 := (HN2.out.later hb).kd.cells 4 _ rfl
            go_simp
            first | exact ⟨_, rfl, rfl, Below.refl _ _⟩ | exact ⟨_, rfl, (by show _ = _; simp), Below.refl _ _⟩
          | 33, _ =>
            refine fs_guard _ _ 25 64 false rfl rfl rfl rfl rfl (fun w v h => h) ?_
            intro a w1 hb hrest hneed
            have e65 : a.tmps.getD 65 undef = (.pointer (some ⟨w.heap.size + 1, 0, none⟩)) := hneed 26 65 rfl rfl
            have e65' := (Array.getD_eq_getD_getElem? ..).symm.trans e65
            have e67 : a.tmps.getD 67 undef = (.int .i64 k.k) := hneed 28 67 rfl rfl
            have e67' := (Array.getD_eq_getD_getElem? ..).symm.trans e67
            have e69 : a.tmps.getD 69 undef = (.int .i64 k.q) := hneed 30 69 rfl rfl
            have e69' := (Array.getD_eq_getD_getElem? ..).symm.trans e69
            have e71 : a.tmps.getD 71 undef = (.agg #[.int .i64 k.err, .int .i64 k.n]) := hneed 32 71 rfl rfl
            have e71' := (Array.getD_eq_getD_getElem? ..).symm.trans e71
            clear hneed hrest
            have H := Keep_no (w := w1) (v := .pointer (some ⟨w.heap.size + 1, 0, none⟩)) k.k k.q k.err k.n (HN2.out.later hb).no
            go_simp
            refine H.mono ?_
            rintro e w3 ⟨rfl, hb2⟩
            exact ⟨_, rfl, rfl, hb2⟩
          | 34, _ =>
            refine fs_guard _ _ 25 64 false rfl rfl rfl rfl rfl (fun w v h => h) ?_
            intro a w1 hb hrest hneed
            have e72 : a.tmps.getD 72 undef = (.int .i64 6) := hneed 33 72 rfl rfl
            have e72' := (Array.getD_eq_getD_getElem? ..).symm.trans e72
            clear hneed hrest
            go_simp
            first | exact ⟨_, rfl, rfl, Below.refl _ _⟩ | exact ⟨_, rfl, (by show _ = _; simp), Below.refl _ _⟩
          | 35, _ =>
            refine fs_plain _ _ rfl rfl rfl ?_
            intro a w1 hb hrest hneed
            have e64 : a.tmps.getD 64 undef = (.bool false) := hneed 25 64 rfl rfl
            have e64' := (Array.getD_eq_getD_getElem? ..).symm.trans e64
            have e73 : a.tmps.getD 73 undef = (.bool false) := hneed 34 73 rfl rfl
            have e73' := (Array.getD_eq_getD_getElem? ..).symm.trans e73
            clear hneed hrest
            go_simp
            first | exact ⟨_, rfl, rfl, Below.refl _ _⟩ | exact ⟨_, rfl, (by show _ = _; simp), Below.refl _ _⟩
          | 36, _ =>
            refine fs_plain _ _ rfl rfl rfl ?_
            intro a w1 hb hrest hneed
            have e74 : a.tmps.getD 74 undef = (.bool false) := hneed 35 74 rfl rfl
            have e74' := (Array.getD_eq_getD_getElem? ..).symm.trans e74
            clear hneed hrest
            go_simp
            first | exact ⟨_, rfl, rfl, Below.refl _ _⟩ | exact ⟨_, rfl, (by show _ = _; simp), Below.refl _ _⟩
          | 37, _ =>
            refine fs_guard _ _ 36 75 false rfl rfl rfl rfl rfl (fun w v h => h) ?_
            intro a w1 hb hrest hneed
            have p6 : a.tmps.getD 6 undef = .pointer (some ⟨w.heap.size + 1, 0, none⟩) := (hrest 6 (by kernel_rfl)).trans rfl
            have p6' := (Array.getD_eq_getD_getElem? ..).symm.trans p6
            clear hneed hrest
            go_simp
            first | exact ⟨_, rfl, rfl, Below.refl _ _⟩ | exact ⟨_, rfl, (by show _ = _; simp), Below.refl _ _⟩
          | 38, _ =>
            refine fs_guard _ _ 36 75 false rfl rfl rfl rfl rfl (fun w v h => h) ?_
            intro a w1 hb hrest hneed
            have e76 : a.tmps.getD 76 undef = (.pointer (some ⟨w.heap.size + 1, 0, none⟩)) := hneed 37 76 rfl rfl
            have e76' := (Array.getD_eq_getD_getElem? ..).symm.trans e76
            clear hneed hrest
            have H := List_no (w := w1) (v := .pointer (some ⟨w.heap.size + 1, 0, none⟩)) (HN2.out.later hb).no
            go_simp
            refine H.mono ?_
            rintro e w3 ⟨rfl, rfl⟩
            exact ⟨_, rfl, rfl, Below.refl _ _⟩
          | 39, _ =>
            refine fs_guard _ _ 36 75 false rfl rfl rfl rfl rfl (fun w v h => h) ?_
            intro a w1 hb hrest hneed
            have e77 : a.tmps.getD 77 undef = (.slice none 0 0) := hneed 38 77 rfl rfl
            have e77' := (Array.getD_eq_getD_getElem? ..).symm.trans e77
            clear hneed hrest
            go_simp
            first | exact ⟨_, rfl, rfl, Below.refl _ _⟩ | exact ⟨_, rfl, (by show _ = _; simp), Below.refl _ _⟩
          | 40, _ =>
            refine fs_guard _ _ 36 75 false rfl rfl rfl rfl rfl (fun w v h => h) ?_
            intro a w1 hb hrest hneed
            have e78 : a.tmps.getD 78 undef = (.int .i64 0) := hneed 39 78 rfl rfl
            have e78' := (Array.getD_eq_getD_getElem? ..).symm.trans e78
            clear hneed hrest
            go_simp
            first | exact ⟨_, rfl, rfl, Below.refl _ _⟩ | exact ⟨_, rfl, (by show _ = _; simp), Below.refl _ _⟩
          | 41, _ =>
            refine fs_plain _ _ rfl rfl rfl ?_
            intro a w1 hb hrest hneed
            have e75 : a.tmps.getD 75 undef = (.bool false) := hneed 36 75 rfl rfl
            have e75' := (Array.getD_eq_getD_getElem? ..).symm.trans e75
            have e79 : a.tmps.getD 79 undef = (.bool false) := hneed 40 79 rfl rfl
            have e79' := (Array.getD_eq_getD_getElem? ..).symm.trans e79
            clear hneed hrest
            go_simp
            first | exact ⟨_, rfl, rfl, Below.refl _ _⟩ | exact ⟨_, rfl, (by show _ = _; simp), Below.refl _ _⟩
          | 42, _ =>
            refine fs_plain _ _ rfl rfl rfl ?_
            intro a w1 hb hrest hneed
            have e80 : a.tmps.getD 80 undef = (.bool false) := hneed 41 80 rfl rfl
            have e80' := (Array.getD_eq_getD_getElem? ..).symm.trans e80
            clear hneed hrest
            go_simp
            first | exact ⟨_, rfl, rfl, Below.refl _ _⟩ | exact ⟨_, rfl, (by show _ = _; simp), Below.refl _ _⟩
          | 43, _ =>
            refine fs_guard _ _ 42 81 false rfl rfl rfl rfl rfl (fun w v h => h) ?_
            intro a w1 hb hrest hneed
            have p6 : a.tmps.getD 6 undef = .pointer (some ⟨w.heap.size + 1, 0, none⟩) := (hrest 6 (by kernel_rfl)).trans rfl
            have p6' := (Array.getD_eq_getD_getElem? ..).symm.trans p6
            clear hneed hrest
            go_simp
            first | exact ⟨_, rfl, rfl, Below.refl _ _⟩ | exact ⟨_, rfl, (by show _ = _; simp), Below.refl _ _⟩
          | 44, _ =>
            refine fs_guard _ _ 42 81 false rfl rfl rfl rfl rfl (fun w v h => h) ?_
            intro a w1 hb hrest hneed
            have p1 : a.tmps.getD 1 undef = .slice (some p) n c := (hrest 1 (by kernel_rfl)).trans rfl
            have p1' := (Array.getD_eq_getD_getElem? ..).symm.trans p1
            clear hneed hrest
            go_simp
            first | exact ⟨_, rfl, rfl, Below.refl _ _⟩ | exact ⟨_, rfl, (by show _ = _; simp), Below.refl _ _⟩
          | 45, _ =>
            refine fs_guard _ _ 42 81 false rfl rfl rfl rfl rfl (fun w v h => h) ?_
            intro a w1 hb hrest hneed
            have e82 : a.tmps.getD 82 undef = (.pointer (some ⟨w.heap.size + 1, 0, none⟩)) := hneed 43 82 rfl rfl
            have e82' := (Array.getD_eq_getD_getElem? ..).symm.trans e82
            have e83 : a.tmps.getD 83 undef = (.slice (some p) n c) := hneed 44 83 rfl rfl
            have e83' := (Array.getD_eq_getD_getElem? ..).symm.trans e83
            clear hneed hrest
            have H := Put_some (w := w1) (c := c) (v := .pointer (some ⟨w.heap.size + 1, 0, none⟩)) (HN2.out.later hb).no HXL.out (later HBI.out (HN2.out.later hb).below) HNL.out
            go_simp
            refine H.mono ?_
            rintro e w3 ⟨pg, pn, pc, rfl, ho, hb2⟩
            exact ⟨_, rfl, ⟨pg, pn, pc, _, rfl, ho⟩, hb2⟩
          | 46, _ =>
            refine fs_guard _ _ 42 81 false rfl rfl rfl rfl rfl (fun w v h => h) ?_
            intro a w1 hb hrest hneed
            have r84 : SKn (.row xs) w1 (a.tmps.getD 84 undef) := hneed 45 84 rfl rfl
            obtain ⟨u84, e84⟩ : ∃ u, a.tmps.getD 84 undef = u := ⟨_, rfl⟩
            rw [e84] at r84
            have e84' := (Array.getD_eq_getD_getElem? ..).symm.trans e84
            clear hneed hrest
            obtain ⟨pg, pn, pc, pB, rfl, ho⟩ := r84
            have cv := conv_own ho
            go_simp
            first | exact ⟨_, rfl, rfl, Below.refl _ _⟩ | exact ⟨_, rfl, (by show _ = _; simp), Below.refl _ _⟩
          | 47, _ =>
            refine fs_guard _ _ 42 81 false rfl rfl rfl rfl rfl (fun w v h => h) ?_
            intro a w1 hb hrest hneed
            have p1 : a.tmps.getD 1 undef = .slice (some p) n c := (hrest 1 (by kernel_rfl)).trans rfl
            have p1' := (Array.getD_eq_getD_getElem? ..).symm.trans p1
            clear hneed hrest
            go_simp
            first | exact ⟨_, rfl, rfl, Below.refl _ _⟩ | exact ⟨_, rfl, (by show _ = _; simp), Below.refl _ _⟩
          | 48, _ =>
            refine fs_guard _ _ 42 81 false rfl rfl rfl rfl rfl (fun w v h => h) ?_
            intro a w1 hb hrest hneed
            have e86 : a.tmps.getD 86 undef = (.slice (some p) n c) := hneed 47 86 rfl rfl
            have e86' := (Array.getD_eq_getD_getElem? ..).symm.trans e86
            clear hneed hrest
            have cv := HCV.out w1 (HN2.out.later hb).below
            go_simp
            first | exact ⟨_, rfl, rfl, Below.refl _ _⟩ | exact ⟨_, rfl, (by show _ = _; simp), Below.refl _ _⟩
          | 49, _ =>
            refine fs_guard _ _ 42 81 false rfl rfl rfl rfl rfl (fun w v h => h) ?_
            intro a w1 hb hrest hneed
            have e85 : a.tmps.getD 85 undef = (.string (strOfNums xs)) := hneed 46 85 rfl rfl
            have e85' := (Array.getD_eq_getD_getElem? ..).symm.trans e85
            have e87 : a.tmps.getD 87 undef = (.string (strOfNums xs)) := hneed 48 87 rfl rfl
            have e87' := (Array.getD_eq_getD_getElem? ..).symm.trans e87
            clear hneed hrest
            go_simp
            first | exact ⟨_, rfl, rfl, Below.refl _ _⟩ | exact ⟨_, rfl, (by show _ = _; simp), Below.refl _ _⟩
          | 50, _ =>
            refine fs_plain _ _ rfl rfl rfl ?_
            intro a w1 hb hrest hneed
            have e81 : a.tmps.getD 81 undef = (.bool false) := hneed 42 81 rfl rfl
            have e81' := (Array.getD_eq_getD_getElem? ..).symm.trans e81
            have e88 : a.tmps.getD 88 undef = (.bool false) := hneed 49 88 rfl rfl
            have e88' := (Array.getD_eq_getD_getElem? ..).symm.trans e88
            clear hneed hrest
            go_simp
            first | exact ⟨_, rfl, rfl, Below.refl _ _⟩ | exact ⟨_, rfl, (by show _ = _; simp), Below.refl _ _⟩
          | n + 51, h => exact absurd h (by simp)
      · intro a w3 hb hd hs hr hg
        have e39 : a.tmps.getD 39 undef = (.int .i64 0) := hg 0 (by decide) 39 rfl
        have e40 : a.tmps.getD 40 undef = (.bool false) := hg 1 (by decide) 40 rfl
        have e41 : a.tmps.getD 41 undef = (.bool false) := hg 2 (by decide) 41 rfl
        have e42 : a.tmps.getD 42 undef = (.int .i64 6) := hg 3 (by decide) 42 rfl
        have e43 : a.tmps.getD 43 undef = (.bool false) := hg 4 (by decide) 43 rfl
        have e44 : a.tmps.getD 44 undef = (.bool false) := hg 5 (by decide) 44 rfl
        have e45 : a.tmps.getD 45 undef = (.bool false) := hg 6 (by decide) 45 rfl
        have e46 : a.tmps.getD 46 undef = (.bool false) := hg 7 (by decide) 46 rfl
        have e47 : a.tmps.getD 47 undef = (.bool false) := hg 8 (by decide) 47 rfl
        have e48 : a.tmps.getD 48 undef = (.bool false) := hg 9 (by decide) 48 rfl
        have e49 : a.tmps.getD 49 undef = (.agg #[.int .i64 0, .int .i64 0]) := hg 10 (by decide) 49 rfl
        have e50 : a.tmps.getD 50 undef = (.agg #[.int .i64 0, .int .i64 0]) := hg 11 (by decide) 50 rfl
        have e51 : a.tmps.getD 51 undef = (.bool false) := hg 12 (by decide) 51 rfl
        have e52 : a.tmps.getD 52 undef = (.bool false) := hg 13 (by decide) 52 rfl
        have e53 : a.tmps.getD 53 undef = (.bool false) := hg 14 (by decide) 53 rfl
        have e54 : a.tmps.getD 54 undef = (.int .i64 6) := hg 15 (by decide) 54 rfl
        have e55 : a.tmps.getD 55 undef = (.bool false) := hg 16 (by decide) 55 rfl
        have e56 : a.tmps.getD 56 undef = (.bool false) := hg 17 (by decide) 56 rfl
        have e57 : a.tmps.getD 57 undef = (.bool false) := hg 18 (by decide) 57 rfl
        have e58 : a.tmps.getD 58 undef = (.pointer (some ⟨w.heap.size + 1, 0, none⟩)) := hg 19 (by decide) 58 rfl
        have e59 : a.tmps.getD 59 undef = (.pointer (some ⟨w.heap.size, 1, none⟩)) := hg 20 (by decide) 59 rfl
        have e60 : a.tmps.getD 60 undef = (.int .i64 k.k) := hg 21 (by decide) 60 rfl
        have e61 : a.tmps.getD 61 undef = (.int .i64 6) := hg 22 (by decide) 61 rfl
        have e62 : a.tmps.getD 62 undef = (.bool false) := hg 23 (by decide) 62 rfl
        have e63 : a.tmps.getD 63 undef = (.bool false) := hg 24 (by decide) 63 rfl
        have e64 : a.tmps.getD 64 undef = (.bool false) := hg 25 (by decide) 64 rfl
        have e65 : a.tmps.getD 65 undef = (.pointer (some ⟨w.heap.size + 1, 0, none⟩)) := hg 26 (by decide) 65 rfl
        have e66 : a.tmps.getD 66 undef = (.pointer (some ⟨w.heap.size, 1, none⟩)) := hg 27 (by decide) 66 rfl
        have e67 : a.tmps.getD 67 undef = (.int .i64 k.k) := hg 28 (by decide) 67 rfl
        have e68 : a.tmps.getD 68 undef = (.pointer (some ⟨w.heap.size, 2, none⟩)) := hg 29 (by decide) 68 rfl
        have e69 : a.tmps.getD 69 undef = (.int .i64 k.q) := hg 30 (by decide) 69 rfl
        have e70 : a.tmps.getD 70 undef = (.pointer (some ⟨w.heap.size, 3, none⟩)) := hg 31 (by decide) 70 rfl
        have e71 : a.tmps.getD 71 undef = (.agg #[.int .i64 k.err, .int .i64 k.n]) := hg 32 (by decide) 71 rfl
        have e72 : a.tmps.getD 72 undef = (.int .i64 6) := hg 33 (by decide) 72 rfl
        have e73 : a.tmps.getD 73 undef = (.bool false) := hg 34 (by decide) 73 rfl
        have e74 : a.tmps.getD 74 undef = (.bool false) := hg 35 (by decide) 74 rfl
        have e75 : a.tmps.getD 75 undef = (.bool false) := hg 36 (by decide) 75 rfl
        have e76 : a.tmps.getD 76 undef = (.pointer (some ⟨w.heap.size + 1, 0, none⟩)) := hg 37 (by decide) 76 rfl
        have e77 : a.tmps.getD 77 undef = (.slice none 0 0) := hg 38 (by decide) 77 rfl
        have e78 : a.tmps.getD 78 undef = (.int .i64 0) := hg 39 (by decide) 78 rfl
        have e79 : a.tmps.getD 79 undef = (.bool false) := hg 40 (by decide) 79 rfl
        have e80 : a.tmps.getD 80 undef = (.bool false) := hg 41 (by decide) 80 rfl
        have e81 : a.tmps.getD 81 undef = (.bool false) := hg 42 (by decide) 81 rfl
        have e82 : a.tmps.getD 82 undef = (.pointer (some ⟨w.heap.size + 1, 0, none⟩)) := hg 43 (by decide) 82 rfl
        have e83 : a.tmps.getD 83 undef = (.slice (some p) n c) := hg 44 (by decide) 83 rfl
        obtain ⟨pg, pn, pc, pB, e84, ho⟩ : SKn (.row xs) w3 (a.tmps.getD 84 undef) := hg 45 (by decide) 84 rfl
        have e85 : a.tmps.getD 85 undef = (.string (strOfNums xs)) := hg 46 (by decide) 85 rfl
        have e86 : a.tmps.getD 86 undef = (.slice (some p) n c) := hg 47 (by decide) 86 rfl
        have e87 : a.tmps.getD 87 undef = (.string (strOfNums xs)) := hg 48 (by decide) 87 rfl
        have e88 : a.tmps.getD 88 undef = (.bool false) := hg 49 (by decide) 88 rfl
        have e89 : a.tmps.getD 89 undef = (.bool false) := hg 50 (by decide) 89 rfl
        have ha := act_flow [39, 40, 41, 42, 43, 44, 45, 46, 47, 48, 49, 50, 51, 52, 53, 54, 55, 56, 57, 58, 59, 60, 61, 62, 63, 64, 65, 66, 67, 68, 69, 70, 71, 72, 73, 74, 75, 76, 77, 78, 79, 80, 81, 82, 83, 84, 85, 86, 87, 88, 89] (by kernel_rfl) hd hs hr
        simp only [putsOf, List.foldl_cons, List.foldl_nil, e39, e40, e41, e42, e43, e44, e45, e46, e47, e48, e49, e50, e51, e52, e53, e54, e55, e56, e57, e58, e59, e60, e61, e62, e63, e64, e65, e66, e67, e68, e69, e70, e71, e72, e73, e74, e75, e76, e77, e78, e79, e80, e81, e82, e83, e84, e85, e86, e87, e88, e89] at ha
        clear e39 e40 e41 e42 e43 e44 e45 e46 e47 e48 e49 e50 e51 e52 e53 e54 e55 e56 e57 e58 e59 e60 e61 e62 e63 e64 e65 e66 e67 e68 e69 e70 e71 e72 e73 e74 e75 e76 e77 e78 e79 e80 e81 e82 e83 e84 e85 e86 e87 e88 e89 ho hd hs hr hg
        subst ha
        go_simp
        have HN8 := Lib.hid (HN2.out.later hb)
        clear hb
        go_wp2_with fail
        exact ⟨⟨2, rfl, by omega, HN8⟩, by show 2 - (2 : Int).toNat < 2 - (1 : Int).toNat; decide⟩
    · go_wp2_with fail
      go_fit (awake_any _)
      rintro e w4 ⟨rfl, hb⟩
      have HB := Lib.hid (HN.out.below.trans (hb.mono HN.out.below.size))
      clear hb
      go_wp2_with fail
      go_ret
      exact ⟨rfl, HB.out⟩

set_option maxHeartbeats 1600000 in
theorem Nobody_far {p : Option Addr} {n c : Nat} (hn : 8192 < n) (k : Kd) :
    Calls Try.prog 10 #[.agg #[.int .i64 k.op, .int .i64 k.k, .int .i64 k.q, .int .i64 k.err, .int .i64 k.n], .slice p n c] w (Yes w) := by
  have g1 : ¬ ((n : Nat) : Int) ≤ 8192 := by omega
  have HB0 := Lib.hid (below_alloc w (.cells #[.int .i64 k.op, .int .i64 k.k, .int .i64 k.q, .int .i64 k.err, .int .i64 k.n] 34))
  go_enter Try.func10, Try.ntmps10
  go_wp2_with fail
  go_fit (awake_any _)
  rintro e w3 ⟨rfl, hb⟩
  have HB := Lib.hid (HB0.out.trans (hb.mono HB0.out.size))
  clear hb
  go_wp2_with fail
  go_ret
  exact ⟨rfl, HB.out⟩
theorem Nobody_any {p : Option Addr} {n c : Nat} {xs : List Int} (hx : xs.length = n) (hb : Lib.BytesIn w p n xs) (hp : p = none → n = 0 ∧ c = 0) (k : Kd) :
    Calls Try.prog 10 #[.agg #[.int .i64 k.op, .int .i64 k.k, .int .i64 k.q, .int .i64 k.err, .int .i64 k.n], .slice p n c] w (Yes w) := by
  by_cases hn : 8192 < n
  · exact Nobody_far hn k
  · cases p with
    | none => obtain ⟨rfl, rfl⟩ := hp rfl; exact Nobody_none k
    | some p => exact Nobody_some hx hb (by omega) k
end Go.Proofs.Ytdcmefkejgjdeaa
