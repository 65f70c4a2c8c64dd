/-
  Walks: operations are done; a map once more; a stretch of its keys.
-/
import Derived.Test.YtdfjnpnkfjcpcaaK5
namespace Go.Proofs.Ytdfjnpnkfjcpcaa
set_option linter.unusedVariables false
set_option linter.unusedSimpArgs false
open Go.RowKit

/-- 'append(l, x)', where the block's number is told. -/
theorem wpList_pushJ {P : Program} {w0 : World} {ops : Array Oper} {rest : List Oper} {o : Oper} {a : Act} {Q : Exit → Act → World → Prop} (hgd : o.guard = none) (s x : Operand) (T E : TypeId) (zero : Value) (size bytes : Nat)
    (ho : o.op = .call { callee := .builtin .append, args := #[s, x], argTypes := #[T, T] })
    (hT : P.underlying T = some (.slice E)) (hinfo : (P.info? E).map (fun i => (i.zero, i.size, i.bytes)) = some (some zero, size, bytes)) (hz : zero.cells.size = size) (hsz : 0 < size)
    (B n : Nat) (v : Value) (xs : List Value) (hs : a.eval s = v) (hown : w0.ownsRow B E size v n xs)
    (us : Array Value) (hul : us.size = size) (hu : ∀ u ∈ us.toList, u.oneCell' = true) (N : Nat) (hx : a.eval x = .slice (some ⟨N, 0, none⟩) 1 1) (hN : w0.heap.size = N) (h63 : n + 1 ≤ 1073741825) (hb : bytes ≤ 65536) (hB : B ≤ w0.heap.size)
    (h : ∀ g c w', w'.ownsRow B E size (.slice (some ⟨g, 0, none⟩) (n + 1) c) (n + 1) (xs ++ us.toList) → w0.grownBy w' v.ownBlock → (v.ownBlock = some g ∨ w0.heap.size ≤ g) → w0.heap.size < w'.heap.size → wpList P ops Q rest (a.put o.dst (.slice (some ⟨g, 0, none⟩) (n + 1) c)) w') :
    wpList P ops Q (o :: rest) a (w0.alloc (.cells us E)) := by
  subst hN
  exact wpList_pushI hgd s x T E zero size bytes ho hT hinfo hz hsz B n v xs hs hown us hul hu hx h63 hb hB h
/-- What was done: what it changed, in a row of its own; the map behind it. -/
def DoP (b : Nat) (L : List Pr) (pos : Int) (conds ops : List Kop) (w : World) (e : Ending) (w' : World) : Prop :=
  ∃ v, e = .returned (.tuple #[v, .int .i64 (plan L pos conds ops).2]) ∧ w'.ownsRow w.heap.size 32 6 v (plan L pos conds ops).1.length (evL.all (plan L pos conds ops).1) ∧ Mp w' b (doo L pos conds ops) ∧ w.grownBy w' (some b)
theorem row_grown {w w' : World} {B n : Nat} {v : Value} {xs : List Value} {E : TypeId} {s b : Nat} (h : w.ownsRow B E s v n xs) (hg : w.grownBy w' (some b)) (hb : b < B) : w'.ownsRow B E s v n xs :=
  h.kept hg (.inr fun e => by have := (h.lt b e).1; omega)
set_option maxRecDepth 100000 in
set_option maxHeartbeats 3200000 in
theorem Do_mp {w : World} {b : Nat} {L : List Pr} {u v : Value} {conds ops : List Kop} (pos : Int) (h : Mp w b L) (hc : opL.In w u conds) (ho : opL.In w v ops) (sc : Small conds) (so : Small ops) (lc : conds.length ≤ 1000000) (lo : ops.length ≤ 1000000) (hL : L.length ≤ 1000000) :
    Calls Try.prog 26 #[.pointer (some ⟨b, 0, none⟩), .int .i64 pos, u, v] w (DoP b L pos conds ops w) := by
  have HM := Lib.hid h
  have HP := Lib.hid (Plan_mp pos h hc ho sc so lc lo hL)
  have HLL := Lib.hid hL
  obtain ⟨a, c, rfl, _, _⟩ := hc.slice
  obtain ⟨a', c', rfl, _, _⟩ := ho.slice
  have HLn := Lib.hid (plan_len6 L pos conds ops)
  clear h hc ho sc so lc lo hL
  have HD : Hid (doo L pos conds ops = if (plan L pos conds ops).2 = 0 then takes L (plan L pos conds ops).1 else L) := rfl
  unfold DoP
  generalize doo L pos conds ops = L' at *
  rcases hpl : plan L pos conds ops with ⟨es, n⟩
  rw [hpl] at HP HD HLn
  simp only at HD ⊢
  have HLn : Hid (es.length ≤ 6) := HLn.out
  clear hpl
  go_enter Try.func26, Try.ntmps26
  go_wp2_with fail
  go_fit HP.out
  rintro e w1 ⟨v1, rfl, hr⟩
  have hr : Rw evL 32 w w1 v1 es := hr
  have HR := Lib.hid hr
  have HO := Lib.hid (hr.off HM.out.lt)
  obtain ⟨ea, ec, rfl, _, _⟩ := hr.slice
  clear hr HP
  by_cases hn : n = 0
  · subst hn
    have HT := Lib.hid (Take_mp (HM.out.below HR.out.grown) HR.out.told HO.out (by have := HLn.out; omega) HLL.out)
    have HE : Hid (L' = takes L es) := by show _ = _; rw [HD.out, if_pos rfl]
    go_wp2_with fail
    go_fit HT.out
    rintro e w2 ⟨rfl, hm2, hg2⟩
    have HM2 := Lib.hid hm2
    have HG2 := Lib.hid hg2
    clear hm2 hg2 HT
    go_wp2_with fail
    go_ret2
    exact ⟨_, rfl, row_grown HR.out.own HG2.out HM.out.lt, by rw [HE.out]; exact HM2.out, grown_then (grown_of_below HR.out.grown _) HG2.out⟩
  · have HE : Hid (L' = L) := by show _ = _; rw [HD.out, if_neg hn]
    have hn2 : (n == 0) = false := by simpa using hn
    go_wp2_with fail
    go_ret2
    exact ⟨_, rfl, HR.out.own, by rw [HE.out]; exact HM.out.below HR.out.grown, grown_of_below HR.out.grown _⟩

def CloneP (L : List Pr) (w : World) (e : Ending) (w' : World) : Prop := ∃ b, e = .returned (.pointer (some ⟨b, 0, none⟩)) ∧ w.heap.size ≤ b ∧ Mp w' b L ∧ Below w.heap.size w w'
set_option maxHeartbeats 800000 in
theorem Clone_mp {w : World} {b : Nat} {L : List Pr} (h : Mp w b L) : Calls Try.prog 36 #[.pointer (some ⟨b, 0, none⟩)] w (CloneP L w) := by
  have HMd := Lib.hid (made_mp h)
  obtain ⟨t, tb, hc, hf, ht, hl, hbal, hs⟩ := h.cell
  have HT := Lib.hid (ht.all (lay_alloc w (.cells #[.pointer (some ⟨tb, 0, none⟩)] 76)))
  have HL := Lib.hid hl
  have HB := Lib.hid hbal
  have HS := Lib.hid hs
  clear h ht hl hbal hs
  go_enter Try.func36, Try.ntmps36
  go_wp2_with fail
  go_fit HMd.out
  rintro e w' ⟨rfl, rfl⟩
  go_wp2_with fail
  go_ret
  exact ⟨_, rfl, Nat.le_refl _, ⟨t, tb, Go.heap_alloc_new w _, HT.out, HL.out, HB.out, HS.out⟩, lay_alloc w _⟩

def prL : Lay Pr := ⟨fun p => [.string p.1, .string p.2], 2, fun _ => rfl, by intro o u hu; simp at hu; rcases hu with rfl | rfl <;> rfl⟩
theorem prL_all : ∀ l : List Pr, prL.all l = prs l
  | [] => rfl
  | p :: l => by
    have e : prL.all (p :: l) = prL.enc p ++ prL.all l := rfl
    rw [e, prL_all l]; rfl
def opOf (p : Pr) : Kop := ⟨p.1, true, p.2⟩
/-- A stretch of a map. -/
def scO (L : List Pr) (a b : ByteArray) : List Kop := (L.filter (within a b)).map opOf
theorem scO_scn (L : List Pr) (a b : ByteArray) : (scn L a b L.length).map opOf = scO L a b := by
  unfold scO scn
  rw [List.take_of_length_le (List.length_filter_le _ _)]
def ScanP (l : List Kop) (w : World) (e : Ending) (w' : World) : Prop := ∃ v, e = .returned v ∧ Rw opL 37 w w' v l
set_option maxRecDepth 100000 in
set_option maxHeartbeats 3200000 in
theorem Scan_mp {w : World} {b : Nat} {L : List Pr} (x y : ByteArray) (h : Mp w b L) (hL : L.length ≤ 1000000) :
    Calls Try.prog 22 #[.pointer (some ⟨b, 0, none⟩), .string x, .string y] w (ScanP (scO L x y) w) := by
  have HA := Lib.hid (all_mp h)
  have HN := Lib.hid (Len_mp h)
  have HLL := Lib.hid hL
  clear h
  go_enter Try.func22, Try.ntmps22
  go_wp2_with fail
  go_fit HA.out
  rintro e w' ⟨⟨t, tv, rfl, ht, hl, hbal, hso⟩, rfl⟩
  have HS := Lib.hid (Scan_any x y (L.length : Nat) ht (good_of hl hbal hso (by omega)))
  have HE : Hid ((scn t.list x y ((L.length : Nat) : Int).toNat).map opOf = scO L x y) := by show _ = _; rw [hl, ← scO_scn]; rfl
  clear ht hl hbal hso HA
  go_wp2_with fail
  go_fit HN.out
  rintro e w' ⟨rfl, rfl⟩
  go_wp2_with fail
  go_fit HS.out
  rintro e w1 ⟨v1, rfl, hown, hg1, _⟩
  generalize scn t.list x y ((L.length : Nat) : Int).toNat = ps at *
  have HB1 : Hid (Below w.heap.size w w1) := ⟨hg1.os, hg1.tape, hg1.output, hg1.size, fun k hk => hg1.block k hk (by simp [Value.ownBlock])⟩
  have HI : Hid (prL.In w1 v1 ps) := Lay.in_own (B := w.heap.size) (E := 87) (by rw [prL_all]; exact hown) rfl
  have HPL : Hid (ps.length ≤ 1000000) := by
    show _ ≤ _
    have h := congrArg List.length HE.out
    rw [List.length_map] at h
    rw [h]; unfold scO
    rw [List.length_map]
    have := List.length_filter_le (within x y) L
    omega
  obtain ⟨a, c, rfl, hc1, hc2⟩ := HI.out.slice
  clear hown hg1 HS HN
  go_wp2_with fail
  go_loopw [7, 18] (fun u v wr => ∃ i : Nat, v = .int .i64 i ∧ i ≤ ps.length ∧ Hid (Rw opL 37 w1 wr u ((ps.take i).map opOf)))
    (fun _ v _ => ps.length - (intOf v).toNat)
  case atStart => exact ⟨0, rfl, Nat.zero_le _, by show Rw _ _ _ _ _ _; exact Rw.nil w1⟩
  case round =>
    obtain ⟨i, rfl, hin, hR⟩ := hrel
    have ei : IntKind.i64.wrap ((i : Int) + 1) = (i : Int) + 1 := IntWalk.i64_in _ (by have := HPL.out; omega)
    by_cases hlt : i < ps.length
    · obtain ⟨o, ho⟩ : ∃ o, ps[i]? = some o := ⟨ps[i], List.getElem?_eq_getElem hlt⟩
      obtain ⟨g, off, rfl, _, hcell⟩ := HI.out.cells ho
      have c0 : wr.cell? ⟨g, off + i * 2, none⟩ = some (.string o.1) := lay_later hR.out.grown (hcell 0 _ rfl)
      have c1 : wr.cell? ⟨g, off + i * 2 + 1, none⟩ = some (.string o.2) := lay_later hR.out.grown (hcell 1 _ rfl)
      have hI1 : (i : Int) < ((ps.length : Nat) : Int) := by omega
      have hI0 : (0 : Int) ≤ (i : Int) := by omega
      have hA := lay_alloc wr (.cells #[.string o.1, .string o.2] 87)
      have hR2 := hR.out.below hA
      have HR := Lib.hid hR2
      obtain ⟨ea, ec, hev, _, _⟩ := hR2.slice
      subst hev
      have HC0 := Lib.hid (box_cell wr #[.string o.1, .string o.2] 87 0)
      have HC1 := Lib.hid (box_cell wr #[.string o.1, .string o.2] 87 1)
      have HTK : Hid ((ps.take (i + 1)).map opOf = (ps.take i).map opOf ++ [opOf o]) := by show _ = _; rw [List.take_add_one, ho]; simp
      have HN2 : Hid (((ps.take i).map opOf).length ≤ 1000000) := by show _ ≤ _; rw [List.length_map]; have : (ps.take i).length ≤ i := List.length_take_le _ _; have := HPL.out; omega
      have HS2 : Hid (w1.heap.size ≤ (wr.alloc (.cells #[.string o.1, .string o.2] 87)).heap.size) := hR2.grown.size
      generalize (ps.take i).map opOf = es at *
      clear hcell ho hA hR2 hR
      go_wp2_with (at_builtin; refine wpList_pushJ rfl _ _ 28 37 _ 3 40 rfl Try.underlying28 Try.infoOp rfl (by decide) w1.heap.size es.length _ (opL.all es) rfl HR.out.own #[.string o.1, .bool true, .string o.2] rfl (opL.one (opOf o)) _ rfl (by simp) (by have := HN2.out; omega) (by decide) HS2.out ?_; intro g4 c4 w4 hown hgrow hat hlt4; have HR4 := Lib.hid (HR.out.push (opOf o) hown hgrow); clear hown hgrow hat hlt4)
      refine ⟨⟨i + 1, by simp, hlt, ?_⟩, by show ps.length - ((i : Int) + 1).toNat < ps.length - ((i : Int)).toNat; omega⟩
      show Rw _ _ _ _ _ _
      rw [HTK.out]; exact HR4.out
    · obtain rfl : i = ps.length := by omega
      have HR : Hid (Rw opL 37 w wr u7 (scO L x y)) := by have h := hR.out.base HB1.out; rw [List.take_length, HE.out] at h; exact h
      go_wp2_with fail
      go_ret
      exact ⟨_, rfl, HR.out⟩
end Go.Proofs.Ytdfjnpnkfjcpcaa
