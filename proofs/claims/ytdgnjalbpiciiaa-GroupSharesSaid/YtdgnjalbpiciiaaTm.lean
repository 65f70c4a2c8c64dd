/-
  A team: the numbers above 0, each once, rising; walked.
-/
import Derived.Test.YtdgnjalbpiciiaaLi
import Derived.Test.YtdgnjalbpiciiaaE0
import Derived.Test.YtdgnjalbpiciiaaM1
import Derived.Test.YtdgnjalbpiciiaaShelf4
namespace Go.Proofs.Ytdgnjalbpiciiaa
set_option linter.unusedVariables false
set_option linter.unusedSimpArgs false
open Go.RowKit Go.Shelf

/-- The members above 0, each once, rising. -/
def team (l : List Int) : List Int := allE (l.filter fun x => !decide (x < 1))
theorem team_sorted (l : List Int) : (team l).Pairwise (· < ·) := allE_sorted _
theorem team_mem (l : List Int) (x : Int) : x ∈ team l ↔ x ∈ l ∧ 0 < x := by
  unfold team
  rw [allE_mem, List.mem_filter]
  simp; omega
theorem team_pos (l : List Int) : ∀ x ∈ team l, 0 < x := fun x hx => ((team_mem l x).1 hx).2
theorem nodup_lt {l : List Int} (h : l.Pairwise (· < ·)) : l.Nodup := h.imp fun h => by omega
theorem team_nodup (l : List Int) : (team l).Nodup := nodup_lt (team_sorted l)
theorem team_len (l : List Int) : (team l).length ≤ l.length := Nat.le_trans (allE_le _) (List.length_filter_le _ _)

set_option maxHeartbeats 1600000 in
theorem low_any (x : Int) (w : World) : Calls Try.prog 76 #[.int .i64 x] w fun e w' => e = .returned (.bool (decide (x < 1))) ∧ ∃ q, w' = w.drewN q := by
  go_enter Try.func76, Try.ntmps76
  go_wp2_with fail
  go_ret
  exact ⟨rfl, 0, rfl⟩

set_option maxRecDepth 100000 in
set_option maxHeartbeats 1600000 in
theorem IndexI_none (a : Option Addr) (c : Nat) (fv : Value) (w : World) : Calls Try.prog 85 #[.slice a 0 c, fv] w fun e w' => e = .returned (.int .i64 (-1)) ∧ w = w' := by
  go_enter Try.func85, Try.ntmps85
  go_wp2_with fail
  refine wp_loop_rounds 1 ?_
  rw [rounds_succ]
  go_wp2_with fail
  go_ret
  exact ⟨rfl, rfl⟩
set_option maxRecDepth 100000 in
set_option maxHeartbeats 1600000 in
theorem DelI_none (a : Option Addr) (c : Nat) (fv : Value) (w : World) : Calls Try.prog 67 #[.slice a 0 c, fv] w fun e w' => e = .returned (.slice a 0 c) ∧ w = w' := by
  go_enter Try.func67, Try.ntmps67
  go_wp2_with fail
  go_fit (IndexI_none a c fv w)
  rintro e w' ⟨rfl, rfl⟩
  go_wp2_with fail
  go_ret
  exact ⟨rfl, rfl⟩

set_option maxHeartbeats 1600000 in
/-- Ints of a row of one's own struck out. -/
theorem Del_any {w0 w : World} {v : Value} {l : List Int} (h : Rw intL 3 w0 w v l) (hl : l.length ≤ 1000000) (p : Int → Bool) (g : Nat) (lb : Array Value) (eg : ∀ args w, (callFunc g args).run Try.prog w = .ok (.enter g args) w) (hp : PredAt Try.prog g lb (Value.int .i64) p w) (hpo : ∀ gb, v.ownBlock = some gb → PredOver Try.prog g lb (Value.int .i64) p gb 0 l.length w) :
    Calls Try.prog 67 #[v, .func (.func g) #[] lb] w fun e w' => ∃ u, e = .returned u ∧ Rw intL 3 w0 w' u (l.filter fun x => !p x) ∧ w.grownBy w' v.ownBlock ∧ (v.ownBlock = none → u.ownBlock = none) ∧ (∀ g, u.ownBlock = some g → v.ownBlock = some g) := by
  have hown : w.ownsRow w0.heap.size 3 1 v l.length (l.map (Value.int .i64)) := by have := h.own; rw [intL_all] at this; exact this
  rcases hown.2 with ⟨rfl, hz⟩ | ⟨gb, cap, cur, rfl, hbase, hgb, r1, r2, r3, r4⟩
  · obtain rfl : l = [] := List.eq_nil_of_length_eq_zero hz
    exact (DelI_none none 0 _ w).mono fun e w' ⟨he, hw⟩ => ⟨_, he, by rw [← hw]; exact h, by rw [← hw]; exact grown_refl _ _, id, fun _ h => h⟩
  · have hc : (l.filter fun x => !p x).length ≤ l.length := List.length_filter_le _ _
    have hH : Sort.Holds (Value.int .i64) w gb 0 l.toArray := holds_of_block_i hgb (by simpa using r4)
    have hcon := AnyE.slices_DeleteFunc Try.delF_is (Value.int .i64) (fun _ => rfl) p g lb eg 0 (fun w => zeroI w) gb 0 cap l.toArray w hp (by simpa using hpo gb rfl) hH (by simp; omega) (by simpa using r1)
    change Calls Try.prog 67 _ _ _ at hcon
    simp only [List.size_toArray] at hcon
    refine hcon.mono fun e w' ⟨he, q, hw⟩ => ⟨_, he, ?_⟩
    have hlen : ((l.filter fun x => !p x) ++ List.replicate (l.length - (l.filter fun x => !p x).length) 0).length = l.length := by simp; omega
    have ho := ownsRow_sorted_i (n := q) (os := #[]) (ts := (l.filter fun x => !p x) ++ List.replicate (l.length - (l.filter fun x => !p x).length) 0) hlen hbase hgb r1 r2 r3
    have hg := grownBy_sorted_i (w := w) (g := gb) (n := q) (os := #[]) ((l.filter fun x => !p x) ++ List.replicate (l.length - (l.filter fun x => !p x).length) 0).toArray
    rw [grow_none] at ho hg
    rw [hw]
    generalize Sort.putRow (Value.int .i64) (Sort.ahead w q) gb 0 ((l.filter fun x => !p x) ++ List.replicate (l.length - (l.filter fun x => !p x).length) 0).toArray = W at *
    refine ⟨⟨?_, h.grown.trans ⟨hg.os, hg.tape, hg.output, hg.size, fun k hk => hg.block k (Nat.lt_of_lt_of_le hk h.grown.size) fun e => ?_⟩⟩, hg, fun h => (by cases h), fun _ h => h⟩
    · rw [intL_all]
      show W.ownsRow _ _ 1 _ _ _
      rcases ho.2 with ⟨hv, _⟩ | ⟨g', cap', cur', hv, hb', hgg', r1', r2', r3', r4'⟩
      · cases hv
      · obtain ⟨rfl, rfl⟩ : gb = g' ∧ cap = cap' := by simpa using hv
        refine ⟨by simp, .inr ⟨gb, cap, cur', rfl, hb', hgg', by omega, r2', r3', ?_⟩⟩
        have := congrArg (List.take (l.filter fun x => !p x).length) r4'
        rw [List.take_take, Nat.min_eq_left (by omega)] at this
        rw [Nat.mul_one, this, List.map_append, List.take_left' (by simp)]
    · obtain rfl : gb = k := by simpa using e.symm
      omega

set_option maxRecDepth 100000 in
set_option maxHeartbeats 1600000 in
theorem teamOf_any {w : World} {v : Value} {l : List Int} (h : intL.In w v l) (hl : l.length ≤ 100000) : Calls Try.prog 58 #[v] w (RwP (team l) w) := by
  have HC := Lib.hid (Clone_any h hl)
  have eg : Hid (∀ args w, (callFunc 76 args).run Try.prog w = .ok (.enter 76 args) w) := enters_of Try.func76 (by kernel_rfl) rfl
  clear h
  go_enter Try.func58, Try.ntmps58
  go_wp2_with fail
  go_fit HC.out
  rintro e w1 ⟨v1, rfl, h1⟩
  have HD := Lib.hid (Del_any h1 (by omega) (fun x => decide (x < 1)) 76 #[] eg.out (fun W x _ => low_any x W) (fun gb _ n os dk x _ => low_any x _))
  clear h1 HC eg
  go_wp2_with fail
  go_fit HD.out
  rintro e w2 ⟨v2, rfl, h2, _, _, _⟩
  have hln := List.length_filter_le (fun x => !decide (x < 1)) l
  have HT : Hid (allE (l.filter fun x => !decide (x < 1)) = team l) := rfl
  generalize (l.filter fun x => !decide (x < 1)) = m at *
  have HS := Lib.hid (Sort_any (B := w.heap.size) (v := v2) (l := m) (by have := h2.own; rw [intL_all] at this; exact this) (by omega))
  have H2 := Lib.hid h2
  clear h2 HD
  go_wp2_with fail
  go_fit HS.out
  rintro e w3 ⟨rfl, h3⟩
  have H3 := Lib.hid (H2.out.sorted (e := .returned (.tuple #[])) ⟨rfl, h3⟩)
  have HK := Lib.hid (Compact_any H3.out (by rw [ms_len]; omega))
  clear h3 HS H2
  go_wp2_with fail
  go_fit HK.out
  rintro e w4 ⟨v4, rfl, h4⟩
  have H4 : Hid (Rw intL 3 w w4 v4 (team l)) := by rw [← HT.out]; exact h4
  clear h4 HK H3
  go_wp2_with fail
  go_ret
  exact ⟨_, rfl, H4.out⟩
end Go.Proofs.Ytdgnjalbpiciiaa
