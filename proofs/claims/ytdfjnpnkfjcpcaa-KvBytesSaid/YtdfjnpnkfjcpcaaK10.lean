/-
  Walks: a map behind a law's calls; the law's examples.
-/
import Derived.Test.YtdfjnpnkfjcpcaaK9
import Derived.Test.YtdfjnpnkfjcpcaaLc
namespace Go.Proofs.Ytdfjnpnkfjcpcaa
set_option linter.unusedVariables false
set_option linter.unusedSimpArgs false
open Go.RowKit

def opc (op : Int) : Int := wrap64 ((IntKind.u64.wrap op).tmod 8)
def made1 (s : List Pr × List Kev) (k : Kd) : List Pr × List Kev := if opc k.op < 4 then (doo s.1 k.pos k.conds k.ops, s.2 ++ (plan s.1 k.pos k.conds k.ops).1) else s
def mades (ks : List Kd) : List Pr × List Kev := ks.foldl made1 ([], [])
theorem mades_step {ks : List Kd} {i : Nat} {k : Kd} (h : ks[i]? = some k) : mades (ks.take (i + 1)) = made1 (mades (ks.take i)) k := by
  unfold mades
  rw [List.take_add_one, h, List.foldl_append]; rfl
theorem made1_len (s : List Pr × List Kev) (k : Kd) : (made1 s k).1.length ≤ s.1.length + 6 ∧ (made1 s k).2.length ≤ s.2.length + 6 := by
  unfold made1
  split
  · have h1 := doo_len s.1 k.pos k.conds k.ops
    have h2 := plan_len6 s.1 k.pos k.conds k.ops
    simp only [List.length_append]
    omega
  · omega
theorem mades_len (ks : List Kd) : ∀ i, (mades (ks.take i)).1.length ≤ 6 * i ∧ (mades (ks.take i)).2.length ≤ 6 * i
  | 0 => by simp [mades]
  | i + 1 => by
    have ih := mades_len ks i
    cases h : ks[i]? with
    | none =>
      have : ks.take (i + 1) = ks.take i := by rw [List.take_add_one, h]; simp
      rw [this]; omega
    | some k =>
      have := made1_len (mades (ks.take i)) k
      rw [mades_step h]; omega
/-- A block of a kind. -/
def Typed (w : World) (row : Option Nat) : Prop := ∀ k, row = some k → ∃ cs E, w.heap[k]? = some (.cells cs E (0, 0)) ∧ E ≠ 119 ∧ E ≠ 104
theorem row_typed {w : World} {B n s : Nat} {E : TypeId} {v : Value} {xs : List Value} (h : w.ownsRow B E s v n xs) (h1 : E ≠ 119) (h2 : E ≠ 104) : Typed w v.ownBlock := by
  intro k hk
  rcases h.2 with ⟨rfl, rfl⟩ | ⟨g', cap, cur, rfl, _, hh, _⟩
  · cases hk
  · obtain rfl : g' = k := by simpa [Value.ownBlock] using hk
    exact ⟨cur, E, hh, h1, h2⟩
theorem Tr.past {w w' : World} {t : T} {v : Option Addr} {row : Option Nat} (h : Tr w w.heap.size t v) (hg : w.grownBy w' row) (hk : Typed w row) : Tr w' w'.heap.size t v := by
  rcases h with h | ⟨b, x, hv, hB, hc, hkn⟩
  · exact .inl h
  · have hne : some b ≠ row := by
      intro e
      obtain ⟨_, cs, h1⟩ := hB
      obtain ⟨ds, E, h2, _, h4⟩ := hk b e.symm
      rw [h2] at h1
      simp at h1
      exact h4 h1.2
    have hnk : NoKnot w row := by
      intro g hgk cs hcs
      obtain ⟨ds, E, h2, h3, _⟩ := hk g hgk
      rw [h2] at hcs
      simp at hcs
      exact h3 hcs.2
    exact .inr ⟨b, x, hv, ⟨Nat.lt_of_lt_of_le hB.1 hg.size, hB.2.elim fun cs h => ⟨cs, (hg.block b hB.1 hne).trans h⟩⟩, hg.cell hc hne, (hkn.drop hg hnk).mono hg.size⟩
theorem Mp.past {w w' : World} {b : Nat} {L : List Pr} {row : Option Nat} (h : Mp w b L) (hg : w.grownBy w' row) (hk : Typed w row) (hne : row ≠ some b) : Mp w' b L := by
  have hlt := h.lt
  obtain ⟨t, tb, hc, ht, rest⟩ := h
  exact ⟨t, tb, (hg.block b hlt (Ne.symm hne)).trans hc, ht.past hg hk, rest⟩
/-- A map behind calls: its events in a row of their own. -/
structure Ms (w wr : World) (b : Nat) (u : Value) (s : List Pr × List Kev) : Prop where
  lo : w.heap.size ≤ b
  map : Mp wr b s.1
  row : wr.ownsRow w.heap.size 32 6 u s.2.length (evL.all s.2)
  ne : u.ownBlock ≠ some b
  below : Below w.heap.size w wr
theorem Ms.later {w wr w' : World} {b : Nat} {u : Value} {s : List Pr × List Kev} (h : Ms w wr b u s) (hb : Below wr.heap.size wr w') : Ms w w' b u s :=
  ⟨h.lo, h.map.below hb, h.row.kept (row := none) (grown_of_below hb _) (by cases u.ownBlock <;> simp), h.ne, h.below.trans (hb.mono h.below.size)⟩
def MadesP (ks : List Kd) (w : World) (e : Ending) (w' : World) : Prop := ∃ b u, e = .returned (.tuple #[.pointer (some ⟨b, 0, none⟩), u]) ∧ Ms w w' b u (mades ks)
theorem kd_box (w : World) (cs : Array Value) (t : TypeId) (j : Nat) (v : Value) (h : cs[j]? = some v) : (w.alloc (.cells cs t)).cell? ⟨w.heap.size, j, none⟩ = some v := by rw [World.cell?_alloc_at _ _ _ _ rfl, h]
theorem row_slice1 {w : World} {B n s : Nat} {E : TypeId} {v : Value} {xs : List Value} (h : w.ownsRow B E s v n xs) : ∃ a c, v = .slice a n c := by
  rcases h.2 with ⟨rfl, rfl⟩ | ⟨g, cap, cur, rfl, _⟩
  · exact ⟨none, 0, rfl⟩
  · exact ⟨_, cap, rfl⟩

set_option maxRecDepth 100000 in
set_option maxHeartbeats 6400000 in
theorem made_any {w : World} {v : Value} {ks : List Kd} (h : KdsIn w v ks) (hl : ks.length ≤ 100) (hok : ∀ k ∈ ks, k.Ok) : Calls Try.prog 35 #[v] w (MadesP ks w) := by
  obtain ⟨a, c, rfl⟩ := h.slice
  have HD := Lib.hid h
  have HOk := Lib.hid hok
  clear h hok
  go_enter Try.func35, Try.ntmps35
  go_wp2_with fail
  go_fit (New_map w)
  rintro e w1 ⟨b, rfl, hlo, hm, hb1⟩
  have HS0 : Hid (Ms w w1 b (.slice none 0 0) (mades (ks.take 0))) := ⟨hlo, hm, World.ownsRow_nil _ _ _ _, by simp [Value.ownBlock], hb1⟩
  clear hlo hm hb1
  go_wp2_with fail
  go_loopw [5, 14] (fun u v wr => ∃ i : Nat, v = .int .i64 i ∧ i ≤ ks.length ∧ Hid (Ms w wr b u (mades (ks.take i))))
    (fun _ v _ => ks.length - (intOf v).toNat)
  case atStart => exact ⟨0, rfl, Nat.zero_le _, HS0⟩
  case round =>
    obtain ⟨i, rfl, hin, hst⟩ := hrel
    have ei : IntKind.i64.wrap ((i : Int) + 1) = (i : Int) + 1 := IntWalk.i64_in _ (by omega)
    by_cases hlt : i < ks.length
    · obtain ⟨k, hk⟩ : ∃ k, ks[i]? = some k := ⟨ks[i], List.getElem?_eq_getElem hlt⟩
      obtain ⟨g, off, rfl, hat⟩ := HD.out.at hk
      have hat := hat.later hst.out.below
      obtain ⟨u, v, h0, h1, h2, h3, h4, h5, h6, h7, h8, h9, h10, h11, hu, hv⟩ := hat
      have hI1 : (i : Int) < ((ks.length : Nat) : Int) := by omega
      have hI0 : (0 : Int) ≤ (i : Int) := by omega
      obtain ⟨ua, uc, rfl, _, _⟩ := hu.slice
      obtain ⟨va, vc, rfl, _, _⟩ := hv.slice
      have hA := lay_alloc wr (.cells #[.int .i64 k.op, .int .i64 k.pos, .slice ua k.conds.length uc, .slice va k.ops.length vc, .string k.fr, .string k.to, .int .i64 k.ev.pos, .string k.ev.key, .bool k.ev.had, .string k.ev.old, .bool k.ev.has, .string k.ev.now] 34)
      have HS := Lib.hid (hst.out.later hA)
      have HStep := Lib.hid (mades_step hk)
      have HLen := Lib.hid (mades_len ks i)
      obtain ⟨oc, oo⟩ := HOk.out k (List.mem_of_getElem? hk)
      generalize mades (ks.take i) = s at *
      have HDo := Lib.hid (Do_mp k.pos HS.out.map (hu.later hA) (hv.later hA) oc.2 oo.2 (by omega) (by omega) (by have := HLen.out; omega))
      obtain ⟨ra, rc, hre⟩ := row_slice1 hst.out.row
      subst hre
      clear hA hst hk oc oo hu hv
      by_cases hop : wrap64 ((IntKind.u64.wrap k.op).tmod 8) < 4
      · have HM : Hid (mades (ks.take (i + 1)) = (doo s.1 k.pos k.conds k.ops, s.2 ++ (plan s.1 k.pos k.conds k.ops).1)) := by show _ = _; rw [HStep.out]; unfold made1; rw [if_pos (show opc k.op < 4 from hop)]
        have HPL := Lib.hid (plan_len6 s.1 k.pos k.conds k.ops)
        go_wp2_with fail
        go_fit HDo.out
        rintro e w3 ⟨v3, rfl, hrow, hmp, hg⟩
        have hlt3 : b < (wr.alloc (.cells #[.int .i64 k.op, .int .i64 k.pos, .slice ua k.conds.length uc, .slice va k.ops.length vc, .string k.fr, .string k.to, .int .i64 k.ev.pos, .string k.ev.key, .bool k.ev.had, .string k.ev.old, .bool k.ev.has, .string k.ev.now] 34)).heap.size := HS.out.map.lt
        have HR3 := Lib.hid (HS.out.row.kept hg (.inr HS.out.ne))
        have HI3 := Lib.hid (Lay.in_own (I := evL) hrow rfl)
        have HM3 := Lib.hid hmp
        have HB3 := Lib.hid (grown_below1 hg HS.out.below HS.out.lo)
        have HLo := Lib.hid HS.out.lo
        have HNe := Lib.hid HS.out.ne
        have HMB := Lib.hid hmp.mb
        obtain ⟨v3a, v3c, rfl⟩ := row_slice1 hrow
        clear hrow hmp hg HDo HS hlt3 h0 h1 h2 h3 h4 h5 h6 h7 h8 h9 h10 h11
        generalize plan s.1 k.pos k.conds k.ops = pl at *
        obtain ⟨pes, pe⟩ := pl
        simp only at HPL HI3 HM ⊢
        go_wp2_with (at_builtin; refine wpList_catI (I := evL) rfl _ _ 38 32 rfl Try.underlying38 Try.infoEv rfl (by decide) (by decide) HR3.out HI3.out (by have := HLen.out; have := HPL.out; omega) HB3.out.size rfl rfl ?_; intro v' w' hown hgrow; have HO := Lib.hid hown; have HG := Lib.hid hgrow; clear hown hgrow)
        refine ⟨⟨i + 1, by simp, hlt, ?_⟩, by show ks.length - ((i : Int) + 1).toNat < ks.length - ((i : Int)).toNat; omega⟩
        show Ms _ _ _ _ _
        rw [HM.out]
        have hmw := HM3.out.past HG.out (row_typed HR3.out (by decide) (by decide)) HNe.out
        refine ⟨HLo.out, hmw, HO.out, fun e => ?_, HB3.out.trans ⟨HG.out.os, HG.out.tape, HG.out.output, HG.out.size, fun j hj => HG.out.block j (Nat.lt_of_lt_of_le hj HB3.out.size) (fun e => by have := (HR3.out.lt j e.symm).1; omega)⟩⟩
        rcases HO.out.2 with ⟨hv, _⟩ | ⟨g', cap, cur, hv, _, hh, _⟩
        · rw [hv] at e; simp [Value.ownBlock] at e
        · obtain ⟨cs, hc⟩ := hmw.mb
          rw [hv] at e
          simp [Value.ownBlock] at e
          rw [e, hc] at hh
          simp at hh
      · have HM : Hid (mades (ks.take (i + 1)) = s) := by show _ = _; rw [HStep.out]; unfold made1; rw [if_neg (show ¬ opc k.op < 4 from hop)]
        clear HDo
        go_wp2_with fail
        exact ⟨⟨i + 1, by simp, hlt, by show Ms _ _ _ _ _; rw [HM.out]; exact HS.out⟩, by show ks.length - ((i : Int) + 1).toNat < ks.length - ((i : Int)).toNat; omega⟩
    · obtain rfl : i = ks.length := by omega
      have HS : Hid (Ms w wr b u5 (mades ks)) := by have h := hst.out; rw [List.take_length] at h; exact h
      go_wp2_with fail
      go_ret2
      exact ⟨b, u5, rfl, HS.out⟩
end Go.Proofs.Ytdfjnpnkfjcpcaa
