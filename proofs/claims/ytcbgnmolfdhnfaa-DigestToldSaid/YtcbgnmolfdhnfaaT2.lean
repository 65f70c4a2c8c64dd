/-
  A part by a path: whether it may be; the part.
-/
import Derived.Test.YtcbgnmolfdhnfaaH8
import Derived.Test.YtcbgnmolfdhnfaaRT
namespace Go.Proofs.Ytcbgnmolfdhnfaa
set_option linter.unusedVariables false
set_option linter.unusedSimpArgs false
open Go.RowKit

/-- Is it no digit? -/
def nod (d : Int) : Bool := decide (d < 0) || decide (16 ≤ d)
def nods (l : List Int) : Bool := l.any nod
theorem nods_dig {l : List Int} (h : nods l = false) : Dig16 l := fun d hd => by
  have h1 : nod d = false := by
    cases e : nod d
    · rfl
    · have : nods l = true := List.any_eq_true.2 ⟨d, hd, e⟩
      rw [h] at this; cases this
  unfold nod at h1
  simp at h1
  omega
def BoolD (b : Bool) (w : World) (e : Ending) (w' : World) : Prop := e = .returned (.bool b) ∧ w = w'
set_option maxRecDepth 100000 in
set_option maxHeartbeats 1600000 in
theorem nod_any (d : Int) (w : World) : Calls Try.prog 91 #[.int .i64 d] w (BoolD (nod d) w) := by
  by_cases h0 : d < 0
  · have HE : Hid (nod d = true) := Lib.hid (by simp [nod, h0])
    go_enter Try.func91, Try.ntmps91
    go_wp2_with fail
    go_ret
    exact ⟨by rw [HE.out]; rfl, rfl⟩
  · by_cases h1 : (16 : Int) ≤ d
    · have HE : Hid (nod d = true) := Lib.hid (by simp [nod, h1])
      go_enter Try.func91, Try.ntmps91
      go_wp2_with fail
      go_ret
      exact ⟨by rw [HE.out]; rfl, rfl⟩
    · have HE : Hid (nod d = false) := Lib.hid (by simp [nod, h0, h1])
      go_enter Try.func91, Try.ntmps91
      go_wp2_with fail
      go_ret
      exact ⟨by rw [HE.out]; rfl, rfl⟩
def IdxD (b : Bool) (w : World) (e : Ending) (w' : World) : Prop := ∃ z : Int, e = .returned (.int .i64 z) ∧ ((0 ≤ z → b = true) ∧ (b = true → 0 ≤ z)) ∧ w = w'
set_option maxRecDepth 100000 in
set_option maxHeartbeats 3200000 in
theorem IndexD_any {w : World} {v : Value} {l : List Int} (h : intL.In w v l) (hl : l.length ≤ 1000000) : Calls Try.prog 109 #[v, .func (.func 91) #[] #[]] w (IdxD (nods l) w) := by
  obtain ⟨a, c, rfl, _, _⟩ := h.slice
  have HI := Lib.hid h
  clear h
  obtain ⟨n, hn⟩ : ∃ n, n = l.length := ⟨_, rfl⟩
  rw [← hn] at hl HI ⊢
  have HN := Lib.hid hn
  clear hn
  go_enter Try.func109, Try.ntmps109
  go_wp2_with fail
  go_loopw [8] (fun i wr => ∃ k : Nat, i = .int .i64 k ∧ k ≤ n ∧ Hid (nods (l.take k) = false) ∧ w = wr) (fun i _ => n - (intOf i).toNat)
  case atStart => exact ⟨0, rfl, Nat.zero_le _, Lib.hid rfl, rfl⟩
  case round =>
    obtain ⟨k, rfl, hk, HL, rfl⟩ := hrel
    have ek : IntKind.i64.wrap ((k : Int) + 1) = (k : Int) + 1 := IntWalk.i64_in _ (by omega)
    by_cases hlt : k < n
    · obtain ⟨d, hg⟩ : ∃ d, l[k]? = some d := ⟨l[k]'(by rw [← HN.out]; exact hlt), List.getElem?_eq_getElem _⟩
      obtain ⟨g, off, rfl, hcl, hat⟩ := HI.out.cells hg
      clear hcl
      have q0 : w.cell? ⟨g, off + k, none⟩ = some (.int .i64 d) := by
        have h := hat 0 _ rfl
        simpa [intL] using h
      have HT : Hid (nods (l.take (k + 1)) = nod d) := by
        have h := HL.out
        refine Lib.hid ?_
        unfold nods at h ⊢
        rw [List.take_add_one, hg, Option.toList_some, List.any_append, h]
        simp
      have HM : Hid (nod d = true → nods l = true) := Lib.hid fun e => List.any_eq_true.2 ⟨d, List.mem_of_getElem? hg, e⟩
      have HC := Lib.hid (nod_any d w)
      have hI1 : (k : Int) < (n : Int) := by omega
      have hI2 : (0 : Int) ≤ (k : Int) := by omega
      clear hat hg
      cases hp : nod d with
      | true =>
        rw [hp] at HC HM
        have HP := Lib.hid hp
        clear hp
        go_wp2_with fail
        go_fit HC.out
        rintro e w2 ⟨rfl, rfl⟩
        go_wp2_with fail
        go_ret
        exact ⟨(k : Int), rfl, ⟨fun _ => HM.out (by simp), fun _ => by omega⟩, rfl⟩
      | false =>
        rw [hp] at HC
        have HP := Lib.hid hp
        clear hp
        go_wp2_with fail
        go_fit HC.out
        rintro e w2 ⟨rfl, rfl⟩
        go_wp2_with fail
        exact ⟨⟨k + 1, by push_cast; rfl, by omega, Lib.hid (by rw [HT.out, HP.out]), trivial⟩, by simp [intOf]; omega⟩
    · obtain rfl : k = n := by omega
      have hL := HL.out
      rw [List.take_of_length_le (by rw [← HN.out]; exact Nat.le_refl _)] at hL
      have HLL := Lib.hid hL
      clear hL
      go_wp2_with fail
      go_ret
      exact ⟨-1, rfl, ⟨fun h => absurd h (by decide), fun h => by rw [HLL.out] at h; cases h⟩, rfl⟩
set_option maxHeartbeats 1600000 in
theorem ContD_any {w : World} {v : Value} {l : List Int} (h : intL.In w v l) (hl : l.length ≤ 1000000) : Calls Try.prog 90 #[v, .func (.func 91) #[] #[]] w (BoolD (nods l) w) := by
  have HI := Lib.hid (IndexD_any h hl)
  obtain ⟨a, c, rfl, _, _⟩ := h.slice
  clear h
  go_enter Try.func90, Try.ntmps90
  go_wp2_with fail
  go_fit HI.out
  rintro e w2 ⟨z, rfl, hz, rfl⟩
  have HZ := Lib.hid hz
  clear hz
  by_cases h0 : 0 ≤ z
  · have HL := Lib.hid (HZ.out.1 h0)
    go_wp2_with fail
    go_ret
    exact ⟨by rw [HL.out]; first | done | rfl, rfl⟩
  · have HL : Hid (nods l = false) := by
      refine Lib.hid ?_
      cases e : nods l with
      | false => rfl
      | true => exact absurd (HZ.out.2 e) h0
    go_wp2_with fail
    go_ret
    exact ⟨by rw [HL.out]; first | done | rfl | (simp; omega), rfl⟩
/-- May a path be, of at most so many digits? -/
def rightP (p : List Int) (m : Nat) : Bool := decide (p.length ≤ m) && !nods p
def AtP (s : Sd) (A : Nat → Prop) (p : List Int) (m : Nat) (S : List Pl) (w : World) (e : Ending) (w' : World) : Prop := w = w' ∧ ((rightP p m = false ∧ e = .returned (.tuple #[.pointer none, .int .i64 1])) ∨ (rightP p m = true ∧ ∃ q, e = .returned (.tuple #[.pointer q, .int .i64 0]) ∧ PtIn s w A (4 - p.length) q (subI 4 p S)))
set_option maxRecDepth 100000 in
set_option maxHeartbeats 3200000 in
theorem at_any {s : Sd} {w : World} {tb m : Nat} {S : List Pl} {v : Value} {p : List Int} (ht : TrIn s w tb S) (hp : intL.In w v p) (hl : p.length ≤ 1000000) (hm : m ≤ 4) :
    Calls Try.prog 65 #[.pointer (some ⟨tb, 0, none⟩), v, .int .i64 m] w (AtP s (fun _ => True) p m S w) := by
  have HR := Lib.hid (ready_any ht)
  have HC := Lib.hid (ContD_any hp hl)
  obtain ⟨a, c, rfl, _, _⟩ := hp.slice
  have HP := Lib.hid hp
  obtain ⟨q0, hq0, hpt⟩ := ht.q
  have HPT := Lib.hid hpt
  obtain ⟨n, hn⟩ : ∃ n, n = p.length := ⟨_, rfl⟩
  rw [← hn] at hl HC HP ⊢
  have HN := Lib.hid hn
  clear ht hp hpt hn
  by_cases hbig : m < n
  · have hbI : (m : Int) < (n : Int) := by omega
    have HF : Hid (rightP p m = false) := Lib.hid (by unfold rightP; rw [decide_eq_false (by rw [← HN.out]; omega)]; rfl)
    go_enter Try.func65, Try.ntmps65
    go_wp2_with fail
    go_fit HR.out
    rintro e w' ⟨rfl, rfl⟩
    go_wp2_with fail
    refine bodyPost_ret (v := .tuple #[.pointer none, .int .i64 1]) (by simp [results, Try.results65, go_sem]) rfl ?_
    exact ⟨rfl, .inl ⟨HF.out, rfl⟩⟩
  · have hbI : ¬ (m : Int) < (n : Int) := by omega
    cases hb : nods p with
    | true =>
      rw [hb] at HC
      have HF : Hid (rightP p m = false) := Lib.hid (by unfold rightP; rw [hb]; simp)
      clear hb
      go_enter Try.func65, Try.ntmps65
      go_wp2_with fail
      go_fit HR.out
      rintro e w' ⟨rfl, rfl⟩
      go_wp2_with fail
      go_fit HC.out
      rintro e w' ⟨rfl, rfl⟩
      go_wp2_with fail
      refine bodyPost_ret (v := .tuple #[.pointer none, .int .i64 1]) (by simp [results, Try.results65, go_sem]) rfl ?_
      exact ⟨rfl, .inl ⟨HF.out, rfl⟩⟩
    | false =>
      rw [hb] at HC
      have HF : Hid (rightP p m = true) := Lib.hid (by unfold rightP; rw [hb, decide_eq_true (by rw [← HN.out]; omega)]; rfl)
      have HD := Lib.hid (nods_dig hb)
      clear hb
      have HP0 : Hid (PtIn s w (fun _ => True) (4 - 0) q0 (subI 4 (p.take 0) S)) := Lib.hid (by rw [List.take_zero, subI_nil]; exact HPT.out)
      go_enter Try.func65, Try.ntmps65
      go_wp2_with fail
      go_fit HR.out
      rintro e w' ⟨rfl, rfl⟩
      go_wp2_with fail
      go_fit HC.out
      rintro e w' ⟨rfl, rfl⟩
      go_wp2_with fail
      clear hq0
      go_loopw [8, 28] (fun u i wr => ∃ (k : Nat) (q : Option Addr), i = .int .i64 k ∧ k ≤ n ∧ u = .pointer q ∧ Hid (PtIn s w (fun _ => True) (4 - k) q (subI 4 (p.take k) S)) ∧ w = wr) (fun _ i _ => n - (intOf i).toNat)
      case atStart => exact ⟨0, q0, rfl, Nat.zero_le _, rfl, HP0, rfl⟩
      case round =>
        obtain ⟨k, q, rfl, hk, rfl, HQ, rfl⟩ := hrel
        clear HP0
        have ek : IntKind.i64.wrap ((k : Int) + 1) = (k : Int) + 1 := IntWalk.i64_in _ (by omega)
        by_cases hlt : k < n
        · obtain ⟨d, hg⟩ : ∃ d, p[k]? = some d := ⟨p[k]'(by rw [← HN.out]; exact hlt), List.getElem?_eq_getElem _⟩
          obtain ⟨g, off, rfl, hcl, hat⟩ := HP.out.cells hg
          clear hcl
          have d0 : w.cell? ⟨g, off + k, none⟩ = some (.int .i64 d) := by
            have h := hat 0 _ rfl
            simpa [intL] using h
          have hdr := HD.out d (List.mem_of_getElem? hg)
          obtain ⟨j, rfl⟩ : ∃ j : Nat, d = (j : Int) := ⟨d.toNat, by omega⟩
          obtain ⟨r, hr⟩ : ∃ r, 4 - k = r + 1 ∧ r = 4 - (k + 1) := ⟨3 - k, by omega, by omega⟩
          have HKd : Hid (Calls Try.prog 66 #[.pointer q, .int .i64 j] w (KidOf s (fun _ => True) r j (subI 4 (p.take k) S) w)) := by
            have h := HQ.out
            rw [hr.1] at h
            exact Lib.hid (kid_any h j (by omega))
          have HSn : Hid (subI 4 (p.take (k + 1)) S = sub r j (subI 4 (p.take k) S)) := by
            refine Lib.hid ?_
            rw [List.take_add_one, hg, Option.toList_some, subI_snoc (j : Int) (p.take k) 4 S r (by rw [List.length_take, ← HN.out]; omega)]
            rfl
          have hI1 : (k : Int) < (n : Int) := by omega
          have hI2 : (0 : Int) ≤ (k : Int) := by omega
          have HRR := Lib.hid hr.2
          clear hat hg hr
          go_wp2_with fail
          go_fit HKd.out
          rintro e w' ⟨q2, rfl, rfl, hq2⟩
          have HQ2 : Hid (PtIn s w (fun _ => True) (4 - (k + 1)) q2 (subI 4 (p.take (k + 1)) S)) := Lib.hid (by rw [HSn.out, ← HRR.out]; exact hq2)
          clear hq2 HKd
          go_wp2_with fail
          exact ⟨⟨k + 1, q2, by push_cast; rfl, by omega, rfl, HQ2, trivial⟩, by simp [intOf]; omega⟩
        · obtain rfl : k = n := by omega
          have HQ2 : Hid (PtIn s w (fun _ => True) (4 - p.length) q (subI 4 p S)) := by
            have h := HQ.out
            rw [List.take_of_length_le (by rw [← HN.out]; exact Nat.le_refl _), HN.out] at h
            exact Lib.hid h
          clear HQ
          go_wp2_with fail
          refine bodyPost_ret (v := .tuple #[.pointer q, .int .i64 0]) (by simp [results, Try.results65, go_sem]) rfl ?_
          exact ⟨rfl, .inr ⟨HF.out, q, rfl, HQ2.out⟩⟩

/-- The digests of parts. -/
def u64L : Lay Nat := ⟨fun x => [.int .u64 x], 1, fun _ => rfl, by intro x u hu; simp at hu; subst hu; rfl⟩
theorem Try.infoU64 : (Try.prog.info? 22).map (fun i => (i.zero, i.size, i.bytes)) = some (some (.int .u64 0), 1, 8) := by kernel_rfl
noncomputable def Sd.ts (s : Sd) (n : Nat) (S : List Pl) (k : Nat) : List Nat := (List.range k).map fun i => s.tr n (sub n i S)
theorem Sd.ts_len (s : Sd) (n : Nat) (S : List Pl) (k : Nat) : (s.ts n S k).length = k := by simp [Sd.ts]
theorem Sd.ts_step (s : Sd) (n : Nat) (S : List Pl) (k : Nat) : s.ts n S (k + 1) = s.ts n S k ++ [s.tr n (sub n k S)] := by simp [Sd.ts, List.range_succ]
def PartsP (s : Sd) (p : List Int) (S : List Pl) (w : World) (e : Ending) (w' : World) : Prop :=
  (rightP p 3 = false ∧ e = .returned (.tuple #[.slice none 0 0, .int .i64 1]) ∧ Below w.heap.size w w') ∨ (rightP p 3 = true ∧ ∃ u, e = .returned (.tuple #[u, .int .i64 0]) ∧ Rw u64L 22 w w' u (s.ts (3 - p.length) (subI 4 p S) 16))
set_option maxRecDepth 100000 in
set_option maxHeartbeats 3200000 in
theorem Parts_any {s : Sd} {w : World} {tb : Nat} {S : List Pl} {v : Value} {p : List Int} (ht : TrIn s w tb S) (hp : intL.In w v p) (hl : p.length ≤ 1000000) :
    Calls Try.prog 36 #[.pointer (some ⟨tb, 0, none⟩), v] w (PartsP s p S w) := by
  have HA := Lib.hid (at_any (m := 3) ht hp hl (by decide))
  obtain ⟨a, c, rfl, _, _⟩ := hp.slice
  obtain ⟨n, hn⟩ : ∃ n, n = p.length := ⟨_, rfl⟩
  rw [← hn] at HA ⊢
  have HN := Lib.hid hn
  clear ht hp hn
  go_enter Try.func36, Try.ntmps36
  go_wp2_with fail
  go_fit HA.out
  rintro e w1 ⟨rfl, ⟨hr, rfl⟩ | ⟨hr, q, rfl, hq⟩⟩
  · have HR := Lib.hid hr
    clear hr HA
    go_wp2_with fail
    refine bodyPost_ret (v := .tuple #[.slice none 0 0, .int .i64 1]) (by simp [results, Try.results36, go_sem]) rfl ?_
    exact .inl ⟨HR.out, rfl, Below.refl _ _⟩
  · have HR := Lib.hid hr
    have hle : p.length ≤ 3 := by unfold rightP at hr; simp at hr; exact hr.1
    obtain ⟨r, hr1⟩ : ∃ r, r = 3 - p.length := ⟨_, rfl⟩
    have hr2 : 4 - p.length = r + 1 := by omega
    rw [hr2] at hq
    have HQ := Lib.hid hq
    have HRr := Lib.hid hr1
    obtain ⟨T, hT⟩ : ∃ T, T = subI 4 p S := ⟨_, rfl⟩
    rw [← hT] at HQ
    have HTe := Lib.hid hT
    clear hr HA hq hle hr1 hr2 hT
    go_wp2_with fail
    have HR0 : Hid (Rw u64L 22 w w (.slice none 0 0) (s.ts r T 0)) := Lib.hid (Rw.nil w)
    go_loopw [8, 19] (fun u i wr => ∃ k : Nat, i = .int .i64 k ∧ k ≤ 16 ∧ Hid (Rw u64L 22 w wr u (s.ts r T k))) (fun _ i _ => 16 - (intOf i).toNat)
    case atStart => exact ⟨0, rfl, Nat.zero_le _, HR0⟩
    case round =>
      obtain ⟨k, rfl, hk, hrw⟩ := hrel
      clear HR0
      have ek : IntKind.i64.wrap ((k : Int) + 1) = (k : Int) + 1 := IntWalk.i64_in _ (by omega)
      obtain ⟨ad, cc, hu, _, _⟩ := hrw.out.slice
      subst hu
      by_cases hlt : k < 16
      · have hI1 : (k : Int) < 16 := by omega
        have HKd := Lib.hid (kid_any (HQ.out.later hrw.out.grown) k hlt)
        have HSt := Lib.hid (s.ts_step r T k)
        have hlen := s.ts_len r T k
        have HLn := Lib.hid hlen
        rw [hlen]
        clear hlen
        go_wp2_with fail
        go_fit HKd.out
        rintro e w2 ⟨q2, rfl, rfl, hq2⟩
        have HTd := Lib.hid (told_any hq2)
        obtain ⟨X, hX⟩ : ∃ X, X = s.tr r (sub r k T) := ⟨_, rfl⟩
        rw [← hX] at HTd HSt
        have HBB := Lib.hid hrw.out.grown.size
        have Hl2 : Hid (k + 1 ≤ 1073741825) := Lib.hid (by omega)
        clear hq2 HKd hX
        go_wp2_with fail
        go_fit HTd.out
        rintro e w2 ⟨rfl, rfl⟩
        go_wp2_with (at_builtin; go_loud (refine wpList_pushI rfl _ _ 71 22 _ 1 8 rfl Try.underlying71 Try.infoU64 rfl (by decide) w.heap.size k _ (u64L.all (s.ts r T k)) rfl (by have h := hrw.out.own; rw [HLn.out] at h; exact h) #[.int .u64 X] rfl (by simp [Value.oneCell']) rfl Hl2.out (by decide) HBB.out ?_; intro g4 cap4 w4 hown4 hg4 hat4 hlt4; have HO4 := Lib.hid hown4; have HG4 : Hid (wr.grownBy w4 (Value.slice ad k cc).ownBlock) := Lib.hid hg4; clear hown4 hg4 hat4 hlt4))
        have HN2 : Hid (Rw u64L 22 w w4 (.slice (some ⟨g4, 0, none⟩) (k + 1) cap4) (s.ts r T (k + 1))) := by
          have h := hrw.out.push X (g := g4) (c2 := cap4) (w2 := w4) (by rw [HLn.out]; exact HO4.out) (by rw [HLn.out]; exact HG4.out)
          rw [HLn.out, ← HSt.out] at h
          exact Lib.hid h
        exact ⟨⟨k + 1, by push_cast; rfl, by omega, HN2⟩, by simp [intOf]; omega⟩
      · obtain rfl : k = 16 := by omega
        go_wp2_with fail
        refine bodyPost_ret (v := .tuple #[.slice ad (s.ts r T 16).length cc, .int .i64 0]) (by simp [results, Try.results36, go_sem]) rfl ?_
        exact .inr ⟨HR.out, _, rfl, by rw [← HRr.out, ← HTe.out]; exact hrw.out⟩
end Go.Proofs.Ytcbgnmolfdhnfaa
