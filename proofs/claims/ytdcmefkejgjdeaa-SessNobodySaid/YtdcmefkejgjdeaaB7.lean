/-
  Walks: any call of a table; a table behind calls. (Written by gensess7.py.)
-/
import Derived.Test.YtdcmefkejgjdeaaB6
namespace Go.Proofs.Ytdcmefkejgjdeaa
set_option linter.unusedVariables false
set_option linter.unusedSimpArgs false
open Go.RowKit
variable {w : World} {B b : Nat} {L : List Nat} {t : Tb} {v : Value}

def opc (op : Int) : Int := bits .and .i64 op 7
structure Kd where
  op : Int
  k : Int
  q : Int
  err : Int
  n : Int
def Tb.does (t : Tb) (c : Kd) : Int × Tb :=
  if opc c.op < 2 then (t.opn.2.1, t.opn.2.2) else if opc c.op = 2 then t.close c.k else if opc c.op = 3 then ((ask t.seats c.k c.q).e, t) else t.keep c.k c.q c.err c.n

theorem opn_ok {N : Nat} (h : t.Ok N) : t.opn.2.2.Ok N := by
  unfold Tb.opn
  split
  · exact h
  · split
    · exact h
    · have hb := h.begun
      refine ⟨by simp; omega, ⟨by simp only; omega, by simp only; omega⟩, fun s hs => ?_, fun s hs => ?_, ?_⟩
      · rcases List.mem_append.1 hs with hs | hs
        · exact h.seq s hs
        · simp at hs; subst hs; simp
      · rcases List.mem_append.1 hs with hs | hs
        · have := h.id s hs; simp only; omega
        · simp at hs; subst hs; simp only; omega
      · refine List.pairwise_append.2 ⟨h.up, by simp, fun a ha b hb => ?_⟩
        simp at hb; subst hb
        have := h.id a ha
        simp only; omega
theorem close_ok {N : Nat} (h : t.Ok N) (k : Int) : (t.close k).2.Ok N := by
  unfold Tb.close
  split
  · exact h
  · rename_i i hp
    have hs : (t.seats.eraseIdx i).Sublist t.seats := List.eraseIdx_sublist _ _
    exact ⟨by have := hs.length_le; have := h.len; simp only; omega, h.begun, fun s hm => h.seq s (hs.subset hm), fun s hm => h.id s (hs.subset hm), h.up.sublist hs⟩
theorem set_up {l : List Se} {i : Nat} {s x : Se} (hs : l[i]? = some s) (e : x.id = s.id) (h : l.Pairwise fun a b => a.id < b.id) : (l.set i x).Pairwise fun a b => a.id < b.id := by
  have h1 : (l.map (·.id)).Pairwise (· < ·) := List.pairwise_map.2 h
  have h2 : (l.set i x).map (·.id) = l.map (·.id) := by
    apply List.ext_getElem?
    intro j
    rw [List.getElem?_map, List.getElem?_map]
    by_cases hj : i = j
    · subst hj
      have hi := (List.getElem?_eq_some_iff.1 hs).1
      rw [List.getElem?_set_self hi, hs]
      simp [e]
    · rw [List.getElem?_set_ne hj]
  rw [← h2] at h1
  exact List.pairwise_map.1 h1
theorem ask_fresh {s : Se} {q : Int} (h : (s.ask q).e = 0) (hf : (s.ask q).fresh = true) : q = s.seq + 1 ∧ 1 ≤ q := by
  unfold Se.ask at h hf
  split at h
  · simp at h
  · rename_i h1
    rw [if_neg h1] at hf
    split at h
    · rename_i h2; rw [if_pos h2] at hf; simp at hf
    · rename_i h2
      rw [if_neg h2] at hf
      split at h
      · simp at h
      · rename_i h3; omega
theorem keep_ok {N : Nat} (h : t.Ok N) (k q err n : Int) : (t.keep k q err n).2.Ok (N + 1) := by
  unfold Tb.keep
  split
  · exact h.more (by omega)
  · rename_i i hp
    split
    · exact h.more (by omega)
    · rename_i he
      split
      · exact h.more (by omega)
      · rename_i hf
        obtain ⟨s, hs, hk⟩ := plc_some hp
        have hm := List.mem_of_getElem? hs
        rw [ask_some q hp hs] at he hf
        have hq := ask_fresh (Decidable.not_not.1 he) (by cases hx : (s.ask q).fresh with | true => rfl | false => exact absurd hx hf)
        have hsq := h.seq s hm
        have hid := h.id s hm
        refine ⟨by simp; exact h.len, h.begun, fun y hy => ?_, fun y hy => ?_, set_up hs (by simp [hk]) h.up⟩
        · rcases List.mem_or_eq_of_mem_set hy with hy | rfl
          · have := h.seq y hy; omega
          · simp only; omega
        · rcases List.mem_or_eq_of_mem_set hy with hy | rfl
          · exact h.id y hy
          · simp only; omega
theorem does_ok {N : Nat} (h : t.Ok N) (c : Kd) : (t.does c).2.Ok (N + 1) := by
  unfold Tb.does
  split
  · exact (opn_ok h).more (by omega)
  · split
    · exact (close_ok h _).more (by omega)
    · split
      · exact h.more (by omega)
      · exact keep_ok h _ _ _ _

set_option maxRecDepth 100000 in
set_option maxHeartbeats 6400000 in
theorem does_any {N : Nat} (c : Kd) (h : Tk w B b L t) (ok : t.Ok N) (hN : N ≤ 4611686018427387904) :
    Calls Try.prog 24 #[.pointer (some ⟨b, 0, none⟩), .agg #[.int .i64 c.op, .int .i64 c.k, .int .i64 c.q, .int .i64 c.err, .int .i64 c.n]] w (Did w B b L (t.does c).2 (.int .i64 (t.does c).1)) := by
  have HB0 := Lib.hid (below_alloc w (.cells #[.int .i64 c.op, .int .i64 c.k, .int .i64 c.q, .int .i64 c.err, .int .i64 c.n] 34))
  have H := Lib.hid (h.below HB0.out)
  have HOK := Lib.hid ok
  clear h ok
  by_cases n1 : bits .and .i64 c.op 7 < 2
  · have HE : Hid (t.does c = (t.opn.2.1, t.opn.2.2)) := by show _ = _; unfold Tb.does; rw [if_pos (show opc c.op < 2 from n1)]
    go_enter Try.func24, Try.ntmps24
    go_wp2_with fail
    go_fit (Open_any H.out HOK.out)
    rintro e w1 ⟨L1, rfl, hd, he⟩
    have HD1 := Lib.hid hd
    have HE1 := Lib.hid he
    clear hd he
    go_wp2_with fail
    go_ret
    rw [HE.out]
    exact ⟨L1, rfl, HD1.out, (Ext.of_below HB0.out).trans HE1.out⟩
  have m1 : 2 ≤ bits .and .i64 c.op 7 := by omega
  by_cases n2 : bits .and .i64 c.op 7 = 2
  · have HE : Hid (t.does c = t.close c.k) := by show _ = _; unfold Tb.does; rw [if_neg (show ¬ opc c.op < 2 from n1), if_pos (show opc c.op = 2 from n2)]
    clear m1
    go_enter Try.func24, Try.ntmps24
    go_wp2_with fail
    go_fit (Close_any c.k H.out (by have := HOK.out.len; omega))
    rintro e w1 ⟨L1, rfl, hd, he⟩
    have HD1 := Lib.hid hd
    have HE1 := Lib.hid he
    clear hd he
    go_wp2_with fail
    go_ret
    rw [HE.out]
    exact ⟨L1, rfl, HD1.out, (Ext.of_below HB0.out).trans HE1.out⟩
  by_cases n3 : bits .and .i64 c.op 7 = 3
  · have HE : Hid (t.does c = ((ask t.seats c.k c.q).e, t)) := by show _ = _; unfold Tb.does; rw [if_neg (show ¬ opc c.op < 2 from n1), if_neg (show ¬ opc c.op = 2 from n2), if_pos (show opc c.op = 3 from n3)]
    clear m1 n2
    go_enter Try.func24, Try.ntmps24
    go_wp2_with fail
    go_fit (Ask_any c.k c.q H.out (fun s hs => by have := HOK.out.seq s hs; omega))
    rintro e w1 ⟨rfl, hb⟩
    have HB1 := Lib.hid hb
    have HB2 := Lib.hid (below_alloc w1 (.cells #[.int .i64 (ask t.seats c.k c.q).err, .int .i64 (ask t.seats c.k c.q).n] 32))
    clear hb
    go_wp2_with fail
    go_ret
    rw [HE.out]
    have hb := (HB0.out.trans (HB1.out.mono HB0.out.size)).trans (HB2.out.mono (HB0.out.trans (HB1.out.mono HB0.out.size)).size)
    exact ⟨L, rfl, (H.out.below HB1.out).below HB2.out, Ext.of_below hb⟩
  have HE : Hid (t.does c = t.keep c.k c.q c.err c.n) := by show _ = _; unfold Tb.does; rw [if_neg (show ¬ opc c.op < 2 from n1), if_neg (show ¬ opc c.op = 2 from n2), if_neg (show ¬ opc c.op = 3 from n3)]
  go_enter Try.func24, Try.ntmps24
  go_wp2_with fail
  go_fit (Keep_any c.k c.q c.err c.n H.out HOK.out hN)
  rintro e w1 ⟨L1, rfl, hd, he⟩
  have HD1 := Lib.hid hd
  have HE1 := Lib.hid he
  clear hd he
  go_wp2_with fail
  go_ret
  rw [HE.out]
  exact ⟨L1, rfl, HD1.out, (Ext.of_below HB0.out).trans HE1.out⟩

/-- A list of calls is told. -/
def KdsAt (w : World) (g off : Nat) (ks : List Kd) : Prop := ∀ j k, ks[j]? = some k → w.cell? ⟨g, off + j * 5, none⟩ = some (.int .i64 k.op) ∧ w.cell? ⟨g, off + j * 5 + 1, none⟩ = some (.int .i64 k.k) ∧ w.cell? ⟨g, off + j * 5 + 2, none⟩ = some (.int .i64 k.q) ∧ w.cell? ⟨g, off + j * 5 + 3, none⟩ = some (.int .i64 k.err) ∧ w.cell? ⟨g, off + j * 5 + 4, none⟩ = some (.int .i64 k.n)
def KdsIn (w : World) (v : Value) (ks : List Kd) : Prop := ∃ a c, v = .slice a ks.length c ∧ (ks = [] ∨ ∃ g off, a = some ⟨g, off, none⟩ ∧ KdsAt w g off ks)
theorem KdsAt.later {w w' : World} {g off : Nat} {ks : List Kd} (h : KdsAt w g off ks) (hb : Below w.heap.size w w') : KdsAt w' g off ks := fun j k hk => by
  obtain ⟨h0, h1, h2, h3, h4⟩ := h j k hk
  exact ⟨cell_later hb h0, cell_later hb h1, cell_later hb h2, cell_later hb h3, cell_later hb h4⟩
theorem KdsIn.later {w w' : World} {v : Value} {ks : List Kd} (h : KdsIn w v ks) (hb : Below w.heap.size w w') : KdsIn w' v ks := by
  obtain ⟨a, c, hv, h⟩ := h
  refine ⟨a, c, hv, h.imp id ?_⟩
  rintro ⟨g, off, ha, h⟩
  exact ⟨g, off, ha, h.later hb⟩
def dos (t : Tb) (ks : List Kd) : Tb := ks.foldl (fun t k => (t.does k).2) t
theorem dos_step {ks : List Kd} {i : Nat} {k : Kd} (h : ks[i]? = some k) (t : Tb) : dos t (ks.take (i + 1)) = ((dos t (ks.take i)).does k).2 := by
  unfold dos
  rw [List.take_add_one, h, List.foldl_append]; rfl

/-- A table behind calls, in a world that came from another one. -/
structure Sk (w wr : World) (b : Nat) (L : List Nat) (t : Tb) (n : Nat) : Prop where
  tab : Tk wr w.heap.size b L t
  ok : t.Ok n
  below : Below w.heap.size w wr
theorem Sk.later {w wr w' : World} {n : Nat} (h : Sk w wr b L t n) (hb : Below wr.heap.size wr w') : Sk w w' b L t n := ⟨h.tab.below hb, h.ok, h.below.trans (hb.mono h.below.size)⟩
theorem Sk.ext {w wr w' : World} {n m : Nat} {L' : List Nat} {t' : Tb} (h : Sk w wr b L t n) (hd : Tk w' w.heap.size b L' t') (he : Ext wr L w' L') (hf : t'.Ok m) : Sk w w' b L' t' m :=
  ⟨hd, hf, h.below.trans (he.below h.below.size h.tab.low)⟩
theorem Sk.more {w wr : World} {n m : Nat} (h : Sk w wr b L t n) (hm : n ≤ m) : Sk w wr b L t m := ⟨h.tab, h.ok.more hm, h.below⟩
def T0 : Tb := ⟨0, []⟩
theorem T0_ok (n : Nat) : T0.Ok n := ⟨by decide, ⟨by decide, by decide⟩, (fun s hs => by cases hs), (fun s hs => by cases hs), List.Pairwise.nil⟩

def Madek (w : World) (ks : List Kd) (e : Ending) (w' : World) : Prop := ∃ b L, e = .returned (.pointer (some ⟨b, 0, none⟩)) ∧ Sk w w' b L (dos T0 ks) ks.length

set_option maxRecDepth 100000 in
set_option maxHeartbeats 3200000 in
theorem made_any {v : Value} {ks : List Kd} (h : KdsIn w v ks) (hl : ks.length ≤ 500) : Calls Try.prog 23 #[v] w (Madek w ks) := by
  obtain ⟨a, c, rfl, ha⟩ := h
  have HD := Lib.hid ha
  clear ha
  go_enter Try.func23, Try.ntmps23
  go_wp2_with fail
  go_fit (New_any w)
  rintro e w2 ⟨rfl, hd, hb2⟩
  have HS0 : Hid (Sk w w2 w.heap.size [w.heap.size] (dos T0 (ks.take 0)) 0) := ⟨hd, T0_ok 0, hb2⟩
  clear hd hb2
  go_wp2_with fail
  go_loopw [9] (fun v wr => ∃ (i : Nat) (L : List Nat), v = .int .i64 i ∧ i ≤ ks.length ∧ Hid (Sk w wr w.heap.size L (dos T0 (ks.take i)) i))
    (fun v _ => ks.length - (intOf v).toNat)
  case atStart => exact ⟨0, _, rfl, Nat.zero_le _, HS0⟩
  case round =>
    obtain ⟨i, L, rfl, hin, hst⟩ := hrel
    by_cases hlt : i < ks.length
    · have ei : IntKind.i64.wrap ((i : Int) + 1) = (i : Int) + 1 := IntWalk.i64_in _ (by omega)
      obtain ⟨k, hk1⟩ : ∃ k, ks[i]? = some k := ⟨ks[i], List.getElem?_eq_getElem hlt⟩
      obtain ⟨g2, off2, rfl, hat⟩ := HD.out.resolve_left (fun e => by rw [e] at hk1; simp at hk1)
      obtain ⟨k0, k1, k2, k3, k4⟩ := hat i k hk1
      have k0 := cell_later hst.out.below k0
      have k1 := cell_later hst.out.below k1
      have k2 := cell_later hst.out.below k2
      have k3 := cell_later hst.out.below k3
      have k4 := cell_later hst.out.below k4
      have hI1 : (i : Int) < ((ks.length : Nat) : Int) := by omega
      have hI2 : (0 : Int) ≤ (i : Int) := by omega
      have HSA := Lib.hid (hst.out.later (below_alloc wr (.cells #[.int .i64 k.op, .int .i64 k.k, .int .i64 k.q, .int .i64 k.err, .int .i64 k.n] 34)))
      have HK1 := Lib.hid hk1
      clear hat hk1 hst
      go_wp2_with fail
      go_fit (does_any k HSA.out.tab HSA.out.ok (by omega))
      rintro e w3 ⟨L3, rfl, hd, he⟩
      have HST : Hid (Sk w w3 w.heap.size L3 (dos T0 (ks.take (i + 1))) (i + 1)) := by
        show Sk _ _ _ _ _ _
        rw [dos_step HK1.out]
        exact HSA.out.ext hd he (does_ok HSA.out.ok _)
      clear hd he k0 k1 k2 k3 k4 HSA
      go_wp2_with fail
      exact ⟨⟨i + 1, L3, by simp, hlt, HST⟩, by show ks.length - ((i : Int) + 1).toNat < ks.length - ((i : Int)).toNat; omega⟩
    · obtain rfl : i = ks.length := by omega
      go_wp2_with fail
      go_ret
      rw [List.take_length] at hst
      exact ⟨_, L, rfl, hst.out⟩
end Go.Proofs.Ytdcmefkejgjdeaa
