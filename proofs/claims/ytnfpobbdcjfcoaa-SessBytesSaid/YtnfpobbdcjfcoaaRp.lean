/-
  Walks: the document's bytes of a table.
-/
import Derived.Test.YtnfpobbdcjfcoaaWr1
import Derived.Test.YtnfpobbdcjfcoaaB12
namespace Go.Proofs.Ytnfpobbdcjfcoaa
set_option linter.unusedVariables false
set_option linter.unusedSimpArgs false
open Go.RowKit
variable {w : World} {b : Nat} {L : List Nat} {t : Tb}

def fld (s : Se) : List Int := [s.id, s.seq, s.err, s.n]
def flds (l : List Se) : List Int := (l.map fld).flatten
theorem flds_step {l : List Se} {i : Nat} {s : Se} (h : l[i]? = some s) : flds (l.take (i + 1)) = flds (l.take i) ++ fld s := by
  obtain ⟨hi, rfl⟩ := List.getElem?_eq_some_iff.1 h
  unfold flds
  rw [List.take_succ_eq_append_getElem hi, List.map_append, List.flatten_append]
  simp
theorem flds_length (l : List Se) : (flds l).length = 4 * l.length := by
  induction l with
  | nil => rfl
  | cons x r ih => simp only [flds, List.map_cons, List.flatten_cons, List.length_append, List.length_cons] at ih ⊢; rw [ih]; simp [fld]; omega
theorem nums_app (a c : List Int) : nums (a ++ c) = nums a ++ nums c := by simp [nums]
theorem nums_flds (l : List Se) : nums (flds l) = tputs l := by
  induction l with
  | nil => rfl
  | cons x r ih =>
    have e1 : flds (x :: r) = fld x ++ flds r := by simp [flds]
    have e2 : tputs (x :: r) = sput x ++ tputs r := by simp [tputs]
    rw [e1, e2, nums_app, ih]; rfl
theorem infoInt : (Try.prog.info? 3).map (fun i => (i.zero, i.size, i.bytes)) = some (some (.int .i64 0), 1, 8) := by kernel_rfl

theorem oneI64 (xs : List Int) : ∀ u ∈ xs.map (Value.int .i64), u.oneCell' = true := by
  intro u hu
  obtain ⟨x, _, rfl⟩ := List.mem_map.1 hu
  rfl
theorem ownsI_open {w : World} {B n : Nat} {v : Value} {xs : List Value} (h : w.ownsRow B 3 1 v n xs) (hv : v ≠ .slice none 0 0) : ∃ g cap, v = .slice (some ⟨g, 0, none⟩) n cap := by
  rcases h.2 with ⟨rfl, _⟩ | ⟨g, cap, cur, rfl, _⟩
  · exact absurd rfl hv
  · exact ⟨g, cap, rfl⟩
theorem wpList_pushI {w : World} {ops : Array Oper} {rest : List Oper} {o : Oper} {a : Act} {Q : Exit → Act → World → Prop} (hgd : o.guard = none) (s x : Operand)
    (ho : o.op = .call { callee := .builtin .append, args := #[s, x], argTypes := #[76, 76] })
    (B g n cap : Nat) (xs : List Int) (hs : a.eval s = .slice (some ⟨g, 0, none⟩) n cap) (hown : w.ownsRow B 3 1 (.slice (some ⟨g, 0, none⟩) n cap) n (xs.map (Value.int .i64)))
    (k m c : Nat) (news : List Int) (hx : a.eval x = .slice (some ⟨k, 0, none⟩) m c) (hin : ∀ j u, (news.map (Value.int .i64))[j]? = some u → w.cell? ((⟨k, 0, none⟩ : Addr).add j) = some u) (hl : news.length = m)
    (hbytes : n + m ≤ 100000) (hB : B ≤ w.heap.size)
    (h : ∀ g' c' w', w'.ownsRow B 3 1 (.slice (some ⟨g', 0, none⟩) (n + m) c') (n + m) ((xs ++ news).map (Value.int .i64)) → w.grownBy w' (some g) → wpList Try.prog ops Q rest (a.put o.dst (.slice (some ⟨g', 0, none⟩) (n + m) c')) w') :
    wpList Try.prog ops Q (o :: rest) a w := by
  obtain ⟨i0, hi, hz0, hz1, hz2⟩ := info_parts infoInt
  refine wpList_append_own w hgd s x 76 ho B 3 i0 (.int .i64 0) 1 8 Try.underlying76 hi hz0 hz1 hz2 rfl (by decide) _ n _ hs hown ⟨k, 0, none⟩ m c (news.map (Value.int .i64)) hx (by simp [hl]) hin (oneI64 _) (by unfold maxLen; omega) (by omega) hB ?_
  intro v' w' hown' hgrow hnil
  obtain ⟨g', c', rfl⟩ := ownsI_open hown' (fun e => by have := (hnil.1 e).1; cases this)
  exact h g' c' w' (by simpa using hown') hgrow

set_option maxRecDepth 100000 in
set_option maxHeartbeats 6400000 in
theorem RPut_any {p : Option Addr} {n c : Nat} {xs : List Int} (h : Rf w L b t) (fit : t.Fit) (hl : t.seats.length ≤ 8) (hx : xs.length = n) (hb : Lib.BytesIn w p n xs) (hp : p = none → n = 0 ∧ c = 0) (hn : n ≤ 65536) :
    Calls Try.prog 29 #[.pointer (some ⟨b, 0, none⟩), .slice p n c] w (Made w.heap.size w (xs ++ tput t)) := by
  obtain ⟨v, h⟩ := h
  have c0 := h.cells.cells 0 _ rfl
  have c1 := h.cells.cells 1 _ rfl
  obtain ⟨a, c', hv, h1, h2⟩ := h.seb.slice
  subst hv
  have HS := Lib.hid h.seb
  have HC1 := Lib.hid c1
  have HX := Lib.hid hx
  have HB := Lib.hid hb
  have HP := Lib.hid hp
  have HFIT := Lib.hid fit
  clear h hx hb hp fit
  go_enter Try.func29, Try.ntmps29
  go_wp2_with fail
  go_region
  all_goals
    have hba := below_alloc w (.cells #[.int .i64 t.begun, .int .i64 t.seats.length] 3)
    have HB0 : Hid (Below w.heap.size w ((w.alloc (.cells #[.int .i64 t.begun, .int .i64 t.seats.length] 3)).drew)) := ⟨hba.os, hba.tape, hba.output, hba.size, hba.block⟩
    have HO0 : Hid (((w.alloc (.cells #[.int .i64 t.begun, .int .i64 t.seats.length] 3)).drew).ownsRow w.heap.size 3 1 (.slice (some ⟨w.heap.size, 0, none⟩) 2 2) 2 (([t.begun, (t.seats.length : Int)] ++ flds (t.seats.take 0)).map (Value.int .i64))) := ⟨by simp [flds], .inr ⟨w.heap.size, 2, _, rfl, Nat.le_refl _, heap_alloc_new w _, Nat.le_refl _, by unfold maxLen; omega, by simp, by simp [flds]⟩⟩
    clear hba c0 c1
    have c1 := cell_later HB0.out HC1.out
    go_wp2_with fail
    clear c1
    go_loopw [5, 25] (fun u v wr => ∃ (i g n' cc : Nat), v = .int .i64 i ∧ i ≤ t.seats.length ∧ Hid (n' = 2 + 4 * i) ∧ u = .slice (some ⟨g, 0, none⟩) n' cc ∧ Hid (wr.ownsRow w.heap.size 3 1 (.slice (some ⟨g, 0, none⟩) n' cc) n' (([t.begun, (t.seats.length : Int)] ++ flds (t.seats.take i)).map (Value.int .i64))) ∧ Hid (Below w.heap.size w wr))
      (fun _ v _ => t.seats.length - (intOf v).toNat)
    case atStart => exact ⟨0, w.heap.size, 2, 2, rfl, Nat.zero_le _, Lib.hid rfl, rfl, HO0, HB0⟩
    case round =>
      clear HO0 HB0
      obtain ⟨i, g, n', cc, rfl, hin, hn', rfl, how, hbw⟩ := hrel
      by_cases hlt : i < t.seats.length
      · have ei : IntKind.i64.wrap ((i : Int) + 1) = (i : Int) + 1 := IntWalk.i64_in _ (by omega)
        obtain ⟨s, hs⟩ : ∃ s, t.seats[i]? = some s := ⟨t.seats[i], List.getElem?_eq_getElem hlt⟩
        obtain ⟨_, _, hv, _, _, hx⟩ := HS.out
        obtain ⟨sg, off, hpa, _, _, hat⟩ := hx.resolve_left (fun e => by rw [e] at hs; simp at hs)
        simp only [Value.slice.injEq] at hv
        obtain ⟨rfl, _, rfl⟩ := hv
        subst hpa
        obtain ⟨k0, k1, k2, k3⟩ := hat i s hs
        have k0 := cell_later hbw.out k0
        have k1 := cell_later hbw.out k1
        have k2 := cell_later hbw.out k2
        have k3 := cell_later hbw.out k3
        have hI1 : (i : Int) < ((t.seats.length : Nat) : Int) := by omega
        have hI2 : (0 : Int) ≤ (i : Int) := by omega
        have hstep := flds_step hs
        have hba := below_alloc wr (.cells #[.int .i64 s.id, .int .i64 s.seq, .int .i64 s.err, .int .i64 s.n] 44)
        have hbb := below_alloc (wr.alloc (.cells #[.int .i64 s.id, .int .i64 s.seq, .int .i64 s.err, .int .i64 s.n] 44)) (.cells #[.int .i64 s.id, .int .i64 s.seq, .int .i64 s.err, .int .i64 s.n] 3)
        have hb2 := hba.trans (hbb.mono hba.size)
        have HBW := Lib.hid (hbw.out.trans (hb2.mono hbw.out.size))
        have HOW : Hid (World.ownsRow _ w.heap.size 3 1 (.slice (some ⟨g, 0, none⟩) n' cc) n' (([t.begun, (t.seats.length : Int)] ++ flds (t.seats.take i)).map (Value.int .i64))) := (how.out.alloc (.cells #[.int .i64 s.id, .int .i64 s.seq, .int .i64 s.err, .int .i64 s.n] 44)).alloc (.cells #[.int .i64 s.id, .int .i64 s.seq, .int .i64 s.err, .int .i64 s.n] 3)
        have hsc := DC.alloc wr [.int .i64 s.id, .int .i64 s.seq, .int .i64 s.err, .int .i64 s.n] 44
        have s0 := hsc.cells 0 _ rfl
        have s1 := hsc.cells 1 _ rfl
        have s2 := hsc.cells 2 _ rfl
        have s3 := hsc.cells 3 _ rfl
        have hnw := World.news_of_block (cs := #[.int .i64 s.id, .int .i64 s.seq, .int .i64 s.err, .int .i64 s.n]) (t := 3) (fr := (0, 0)) (heap_alloc_new (wr.alloc (.cells #[.int .i64 s.id, .int .i64 s.seq, .int .i64 s.err, .int .i64 s.n] 44)) _)
        rw [show (wr.alloc (.cells #[.int .i64 s.id, .int .i64 s.seq, .int .i64 s.err, .int .i64 s.n] 44)).heap.size = wr.heap.size + 1 from by simp] at hnw
        have HNW := Lib.hid hnw
        have HST := Lib.hid hstep
        have hgl := (how.out.lt g rfl).1
        clear hat hs hx how hbw hsc hnw hba hbb hb2 hstep
        go_wp2_with (at_builtin; refine wpList_pushI rfl _ _ rfl w.heap.size g n' cc _ rfl HOW.out (wr.heap.size + 1) 4 4 [s.id, s.seq, s.err, s.n] rfl HNW.out rfl (by have := hn'.out; omega) HBW.out.size ?_; intro g4 c4 w4 hown4 hg4; have HO4 := Lib.hid hown4; have HB4 := Lib.hid (made_grown HBW.out hg4 HBW.out.size hgl); clear hown4 hg4)
        refine ⟨⟨i + 1, g4, n' + 4, c4, by simp, hlt, Lib.hid (by have := hn'.out; omega), rfl, ?_, HB4⟩, by show t.seats.length - ((i : Int) + 1).toNat < t.seats.length - ((i : Int)).toNat; omega⟩
        show World.ownsRow _ _ _ _ _ _ _
        rw [HST.out, ← List.append_assoc]
        exact HO4.out
      · obtain rfl : i = t.seats.length := by omega
        rw [List.take_length] at how
        have hil : ([t.begun, (t.seats.length : Int)] ++ flds t.seats).length = n' := by have := hn'.out; simp [flds_length]; omega
        have hnu : nums ([t.begun, (t.seats.length : Int)] ++ flds t.seats) = tput t := by rw [nums_app, nums_flds]; rfl
        have hmx : ∀ z ∈ [t.begun, (t.seats.length : Int)] ++ flds t.seats, z ≤ 9223372036854775807 := by
          intro z hz
          rcases List.mem_append.1 hz with hz | hz
          · simp at hz; rcases hz with rfl | rfl
            · exact HFIT.out.begun
            · omega
          · unfold flds at hz
            obtain ⟨q, hq, hzq⟩ := List.mem_flatten.1 hz
            obtain ⟨s, hs, rfl⟩ := List.mem_map.1 hq
            have := HFIT.out.all s hs
            simp [fld] at hzq
            rcases hzq with rfl | rfl | rfl | rfl <;> omega
        generalize [t.begun, (t.seats.length : Int)] ++ flds t.seats = is at *
        have HIL := Lib.hid hil
        have HNU := Lib.hid hnu
        have HMX := Lib.hid hmx
        have HBI := Lib.hid (later HB.out hbw.out)
        clear hil hnu hmx
        go_wp2_with fail
        go_loopw [1, 45] (fun u v wq => ∃ (j m d : Nat) (q : Option Addr), v = .int .i64 j ∧ j ≤ n' ∧ u = .slice q m d ∧ Hid (Lib.BytesIn wq q m (xs ++ nums (is.take j))) ∧ Hid ((xs ++ nums (is.take j)).length = m) ∧ Hid (q = none → m = 0 ∧ d = 0) ∧ Hid (0 < j → ∃ g, q = some ⟨g, 0, none⟩ ∧ wq.ownsRow w.heap.size 5 1 (.slice (some ⟨g, 0, none⟩) m d) m ((xs ++ nums (is.take j)).map (Value.int .u8))) ∧ Hid (wq.ownsRow w.heap.size 3 1 (.slice (some ⟨g, 0, none⟩) n' cc) n' (is.map (Value.int .i64))) ∧ Hid (Below w.heap.size w wq))
          (fun _ v _ => n' - (intOf v).toNat)
        case atStart => exact ⟨0, n, c, p, rfl, Nat.zero_le _, rfl, by show Lib.BytesIn _ _ _ _; simpa [nums] using HBI.out, by show _ = _; simpa [nums] using HX.out, HP, Lib.hid (fun h => absurd h (by omega)), how, hbw⟩
        case round =>
          clear how hbw HBI
          obtain ⟨j, m, d, q, rfl, hjn, rfl, hbi, hlm, hqn, hqo, how, hbw⟩ := hrel
          have hn8 : n' ≤ 34 := by have := hn'.out; omega
          by_cases hjl : j < n'
          · have ej : IntKind.i64.wrap ((j : Int) + 1) = (j : Int) + 1 := IntWalk.i64_in _ (by omega)
            have hjj : j < is.length := by have := HIL.out; omega
            have u0 := (how.out.cellAt j (by simpa using hjl)).trans (show (is.map (Value.int .i64))[j]? = some (.int .i64 (is.getD j 0)) by rw [List.getElem?_map, List.getD_eq_getElem?_getD, List.getElem?_eq_getElem hjj]; rfl)
            have hJ1 : (j : Int) < ((n' : Nat) : Int) := by omega
            have hJ2 : (0 : Int) ≤ (j : Int) := by omega
            have hzm : is.getD j 0 ≤ 9223372036854775807 := by
              rw [List.getD_eq_getElem?_getD, List.getElem?_eq_getElem hjj]
              exact HMX.out _ (List.getElem_mem hjj)
            have hmb : m + 9 ≤ 140737488355328 := by
              have h0 := hlm.out
              have h1 := nums_le (is.take j) (fun z hz => HMX.out z (List.mem_of_mem_take hz))
              have h2 := List.length_take_le j is
              have h3 := HX.out
              have h4 := HIL.out
              simp only [List.length_append] at h0
              omega
            have HN := Lib.hid (RNumber_any q m d _ (is.getD j 0) wr hlm.out hbi.out hqn.out hzm hmb)
            have HSN := Lib.hid (nums_snoc is j hjj)
            generalize is.getD j 0 = z at *
            clear hqo hbi hlm hqn hzm hmb hjj
            go_wp2_with fail
            go_fit HN.out
            rintro e w5 ⟨g5, n5, c5, rfl, hown5, hb5⟩
            rw [List.append_assoc, ← HSN.out] at hown5
            have HL5 := Lib.hid (owns_len hown5)
            have HI5 := Lib.hid (owns_in hown5)
            have HO5 := Lib.hid (own_base hown5 hbw.out.size)
            have HW5 : Hid (w5.ownsRow w.heap.size 3 1 (.slice (some ⟨g, 0, none⟩) n' cc) n' (is.map (Value.int .i64))) := how.out.kept (row := none) ⟨hb5.os, hb5.tape, hb5.output, hb5.size, fun k hk _ => hb5.block k hk⟩ (by simp [Value.ownBlock])
            have HB5 := Lib.hid (hbw.out.trans (hb5.mono hbw.out.size))
            clear hown5 hb5 how hbw u0 HN
            go_wp2_with fail
            exact ⟨⟨j + 1, n5, c5, some ⟨g5, 0, none⟩, by simp, hjl, rfl, HI5, HL5, Lib.hid (fun h => by cases h), Lib.hid (fun _ => ⟨g5, rfl, HO5.out⟩), HW5, HB5⟩, by show n' - ((j : Int) + 1).toNat < n' - ((j : Int)).toNat; omega⟩
          · obtain rfl : j = n' := by omega
            obtain ⟨g5, rfl, hown⟩ := hqo.out (by have := hn'.out; omega)
            rw [List.take_of_length_le (by have := HIL.out; omega), HNU.out] at hown
            have HOW := Lib.hid hown
            clear hown hqo hbi hlm how
            go_wp2_with fail
            go_ret
            exact ⟨g5, _, _, rfl, HOW.out, hbw.out⟩
end Go.Proofs.Ytnfpobbdcjfcoaa
