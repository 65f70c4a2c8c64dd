/-
  Walks: Take and Get.
-/
import Derived.Test.YtdeknkfhlmkabaaF19
namespace Go.Proofs.Ytdeknkfhlmkabaa.Wi
open Go.Proofs.Ytdeknkfhlmkabaa
set_option linter.unusedVariables false
set_option linter.unusedSimpArgs false
open Go.RowKit

/-- Read: a reader over a copy; where the copy is. -/
theorem Read_any2 {w : World} (p : Option Addr) (n c : Nat) (xs : List Int) (hx : xs.length = n) (hb : Lib.BytesIn w p n xs) (hp : p = none → n = 0 ∧ c = 0) (hr : ∀ x ∈ xs, 0 ≤ x ∧ x < 256) (hn : n ≤ 140737488355328) :
    Calls Try.prog 31 #[.slice p n c] w fun e w' => ∃ rb g cap, e = .returned (.pointer (some ⟨rb, 0, none⟩)) ∧ RS w' rb g n cap xs 0 0 ∧ Below w.heap.size w w' ∧ w.heap.size ≤ rb ∧ rb < w'.heap.size ∧ g < w'.heap.size := by
  have Hc := Lib.hid (own_any p n c xs 0 w hx hb hp (by omega) (by omega))
  have Hx := Lib.hid hx
  have Hr := Lib.hid hr
  clear hx hr
  go_enter Try.func31, Try.ntmps31
  go_wp2_with fail
  go_fit Hc.out
  rintro e w1 ⟨g1, n1, c1, rfl, hown1, hb1⟩
  obtain rfl : n1 = n := by rw [← owns_len hown1, Hx.out]
  have hat := owns_at hown1
  have hg1 := (hown1.lt g1 rfl).2
  have hc1 : n1 ≤ c1 := by
    rcases hown1.2 with ⟨h, _⟩ | ⟨_, cap, _, h, _, _, h2, _⟩
    · cases h
    · simp only [Value.slice.injEq] at h; omega
  have Hin := Lib.hid (owns_in hown1)
  clear hown1
  go_wp2_with fail
  go_ret
  refine ⟨w1.heap.size, g1, c1, rfl, ⟨?_, ?_, ?_, ?_, ?_, ?_, later Hin.out ((Below.refl _ _).alloc (Nat.le_refl _) _), Hx.out, hc1, by omega, by omega, Hr.out, by omega⟩, hb1.alloc hb1.size _, hb1.size, by simp, by simp; omega⟩
  all_goals first
    | (rw [World.cell?_alloc_at _ _ _ _ rfl]; rfl)
    | exact World.frozen?_alloc_at _ _ _ _ rfl

end Go.Proofs.Ytdeknkfhlmkabaa.Wi
namespace Go.Proofs.Ytdeknkfhlmkabaa
open Go.RowKit

theorem tx_size (xs : List Int) (most : Nat) (p : Nat × Int) : (txF xs most p).1.size ≤ most := by
  unfold txF
  split
  · exact Nat.zero_le _
  · split
    · exact Nat.zero_le _
    · split
      · exact Nat.zero_le _
      · split
        · rw [strOfNums_size, List.length_take]; omega
        · exact Nat.zero_le _
theorem tks_light (F : Nat × Int → Nat → Tk) (ih : ∀ st ah, ah ≤ 24 → (F st ah).ok = true → Light (F st ah).f) (ih2 : ∀ st ah, ah ≤ 24 → (F st ah).ok = true → ah + 1 ≤ (F st ah).ah ∧ (F st ah).ah ≤ 24) : ∀ (N : Nat) (st : Nat × Int) (ah : Nat), ah ≤ 24 → (tks F N st ah).ok = true → ∀ k ∈ (tks F N st ah).ks, Light k
  | 0, st, ah, h, _ => by intro k hk; simp [tks] at hk
  | N + 1, st, ah, h, hok => by
    simp only [tks] at hok ⊢
    split at hok
    · rename_i h1
      have h2 := tks_ah F ih2 N st ah h h1
      rw [if_pos h1]
      split at hok
      · rename_i h3
        rw [if_pos h3]
        intro k hk
        simp only [List.mem_append, List.mem_cons, List.not_mem_nil, or_false] at hk
        rcases hk with hk | rfl
        · exact tks_light F ih ih2 N st ah h h1 k hk
        · exact ih _ _ h2.2 h3
      · simp at hok
    · simp at hok
theorem tk_light (xs : List Int) : ∀ (m : Nat) (st : Nat × Int) (ah : Nat), ah ≤ 24 → (tk xs m st ah).ok = true → Light (tk xs m st ah).f
  | 0, st, ah, h, hok => by simp [tk] at hok
  | m + 1, st, ah, h, hok => by
    simp only [tk] at hok ⊢
    split at hok
    · simp at hok
    · rename_i h1
      rw [if_neg h1]
      split at hok
      · rename_i h2
        rw [if_pos h2]
        have h3 := tks_ah (tk xs m) (tk_ah xs m) _ _ (ah + 1) (by omega) h2
        refine .mk _ ?_ ?_ ?_ ?_
        · have := tx_size xs 192 (rd1 xs st).2
          simp only [Fl.name, rd2]; omega
        · have := tx_size xs 192 (rd2 xs st).2
          simp only [Fl.text, rd3]; omega
        · simp only [Fl.kids]; omega
        · exact tks_light (tk xs m) (tk_light xs m) (tk_ah xs m) _ _ (ah + 1) (by omega) h2
      · simp at hok

def goodF (xs : List Int) (st : Nat × Int) : Bool := (tk xs 6 st 0).ok && decide (ckF (tk xs 6 st 0).f = 0)
/-- What Take leaves. -/
def TakeP (xs : List Int) (st : Nat × Int) (rb g n cap : Nat) (w : World) (e : Ending) (w' : World) : Prop :=
  w.grownBy w' (some rb) ∧
  ((goodF xs st = true ∧ ∃ u, e = .returned (.tuple #[flV (tk xs 6 st 0).f u, .bool true]) ∧ KidsS w' (fun b => w.heap.size ≤ b) u (tk xs 6 st 0).f.kids ∧ Wi.RS w' rb g n cap xs (tk xs 6 st 0).st.1 (tk xs 6 st 0).st.2) ∨
   (goodF xs st = false ∧ e = .returned (.tuple #[flV noF (.slice none 0 0), .bool false])))
theorem kidsS_put {w : World} {b : Nat} {v : Value} {ks : List Fl} (o : Nat) (x : Value) (h : KidsS w (fun k => b + 1 ≤ k) v ks) : KidsS (w.setCell ⟨b, o, none⟩ x) (fun k => b + 1 ≤ k) v ks :=
  h.keep (by simp [World.setCell]) (fun k hk _ => Below.heap_setCell _ _ _ _ (by simp only; omega)) (fun _ h _ => h)
theorem RS_put {w : World} {b o rb g n cap : Nat} {x : Value} {xs : List Int} {i : Nat} {err : Int} (h1 : rb ≠ b) (h2 : g ≠ b) (h : Wi.RS w rb g n cap xs i err) : Wi.RS (w.setCell ⟨b, o, none⟩ x) rb g n cap xs i err :=
  RS_block h (Below.heap_setCell _ _ _ _ (by simpa using h1)) (Below.heap_setCell _ _ _ _ (by simpa using h2))
set_option maxRecDepth 100000 in
set_option maxHeartbeats 3200000 in
theorem Take_any {w : World} {rb g n cap : Nat} {xs : List Int} {i : Nat} {err : Int} (h : Wi.RS w rb g n cap xs i err) (hgl : g < w.heap.size) : Calls Try.prog 32 #[.pointer (some ⟨rb, 0, none⟩)] w (TakeP xs (i, err) rb g n cap w) := by
  have hrl := h.rbl
  have hb1 := lay_alloc w (.cells #[.int .i64 0, .string ByteArray.empty, .string ByteArray.empty, .slice none 0 0] 24)
  have hb2 := lay_alloc (w.alloc (.cells #[.int .i64 0, .string ByteArray.empty, .string ByteArray.empty, .slice none 0 0] 24)) (.cells #[.int .i64 0] 80)
  have hb := hb1.trans (hb2.mono hb1.size)
  have e1 : (w.alloc (.cells #[.int .i64 0, .string ByteArray.empty, .string ByteArray.empty, .slice none 0 0] 24)).heap.size = w.heap.size + 1 := by simp
  have hdw := DC.alloc (w.alloc (.cells #[.int .i64 0, .string ByteArray.empty, .string ByteArray.empty, .slice none 0 0] 24)) [.int .i64 0] 80
  rw [e1] at hdw
  have hxb := (DC.alloc w [.int .i64 0, .string ByteArray.empty, .string ByteArray.empty, .slice none 0 0] 24).below hb2
  have hs2 : ((w.alloc (.cells #[.int .i64 0, .string ByteArray.empty, .string ByteArray.empty, .slice none 0 0] 24)).alloc (.cells #[.int .i64 0] 80)).heap.size = w.heap.size + 2 := by simp
  have hC := take_any 6 ((w.alloc (.cells #[.int .i64 0, .string ByteArray.empty, .string ByteArray.empty, .slice none 0 0] 24)).alloc (.cells #[.int .i64 0] 80)) rb (w.heap.size + 1) g n cap xs i err 0 (RS_block h (hb.block rb hrl) (hb.block g hgl)) (by omega) (by omega) hdw (by omega) (by omega) (by omega) (Nat.le_refl _)
  have HC := Lib.hid hC
  have HB := Lib.hid hb
  have HX := Lib.hid hxb
  have HS2 := Lib.hid hs2
  have HLI := Lib.hid (tk_light xs 6 (i, err) 0 (by omega))
  have HRL := Lib.hid hrl
  have HGL := Lib.hid hgl
  clear h hb1 hb2 hb e1 hdw hxb hC hs2
  go_enter Try.func32, Try.ntmps32
  go_wp2_with fail
  go_fit HC.out
  rintro e w1 ⟨hk, hv⟩
  have HS1 : Hid (w.heap.size + 2 ≤ w1.heap.size) := by show _ ≤ _; rw [← HS2.out]; exact hk.size
  have HG1 : Hid (w.grownBy w1 (some rb)) := ⟨hk.os.trans HB.out.os, hk.tape.trans HB.out.tape, hk.output.trans HB.out.output, Nat.le_trans HB.out.size hk.size, fun k h1 h2 => (hk.block k (Nat.lt_of_lt_of_le h1 HB.out.size) (by simpa using h2) (by omega)).trans (HB.out.block k h1)⟩
  have HX1 := Lib.hid (HX.out.keep hk.size (hk.block w.heap.size HX.out.lt (by omega) (by omega)))
  have putg : ∀ (W : World) (o : Nat) (x : Value), w.grownBy W (some rb) → w.grownBy (W.setCell ⟨w.heap.size, o, none⟩ x) (some rb) := fun W o x hg => ⟨hg.os, hg.tape, hg.output, by have := hg.size; simpa [World.setCell] using this, fun k h1 h2 => (Below.heap_setCell _ _ _ _ (by simp only; omega)).trans (hg.block k h1 h2)⟩
  have HPG := Lib.hid putg
  clear putg HC hk
  generalize hr : tk xs 6 (i, err) 0 = r at *
  rcases hv with ⟨hok, u, rfl, hks, hrs, hdc⟩ | ⟨hok, f', ua, un, uc, rfl⟩
  · obtain ⟨ua, uc, rfl, _, _⟩ := hks.slice
    have hal := lay_alloc w1 (.cells #[.int .i64 r.f.kind, .string r.f.name, .string r.f.text, .slice ua r.f.kids.length uc] 24)
    have hcc := Check_any r.f (HLI.out hok) (hks.told.on hal)
    have HCC := Lib.hid hcc
    have HA := Lib.hid hal
    have HFB := Lib.hid (DC.alloc w1 [.int .i64 r.f.kind, .string r.f.name, .string r.f.text, .slice ua r.f.kids.length uc] 24)
    have HX2 := Lib.hid (HX1.out.below hal)
    have HG2 := Lib.hid (grown_trans HG1.out (grown_below hal (some rb)))
    have HKT := Lib.hid (hks.told.on hal)
    have HRS := Lib.hid (RS_block hrs (hal.block rb hrs.rbl) (hal.block g (by have := HS1.out; omega)))
    have hkS := hks.keep (w' := w1) (S' := fun b => w.heap.size + 1 ≤ b) (Nat.le_refl _) (fun _ _ _ => rfl) (fun b hb _ => by have := HS2.out; omega)
    have HKS := Lib.hid (hkS.later hal)
    clear hkS
    have HOK := Lib.hid hok
    have HS3 : Hid (w1.heap.size ≤ (w1.alloc (.cells #[.int .i64 r.f.kind, .string r.f.name, .string r.f.text, .slice ua r.f.kids.length uc] 24)).heap.size) := hal.size
    unfold flV at HCC
    clear hks hrs hdc hal hcc hok
    unfold flV
    go_wp2_with fail
    go_fit HCC.out
    rintro e w2 ⟨rfl, hb2⟩
    have HF2 := Lib.hid (HFB.out.below hb2)
    have HX3 := Lib.hid (HX2.out.below hb2)
    have HG3 := Lib.hid (grown_trans HG2.out (grown_below hb2 (some rb)))
    have HKS3 := Lib.hid (HKS.out.later hb2)
    have HRS3 := Lib.hid (RS_block HRS.out (hb2.block rb HRS.out.rbl) (hb2.block g (by have := HS1.out; have := HS3.out; omega)))
    have f0 := HF2.out.cells 0 _ rfl
    have f1 := HF2.out.cells 1 _ rfl
    have f2 := HF2.out.cells 2 _ rfl
    have f3 := HF2.out.cells 3 _ rfl
    have x0 := HX3.out.cells 0 _ rfl
    have x1 := HX3.out.cells 1 _ rfl
    have x2 := HX3.out.cells 2 _ rfl
    have x3 := HX3.out.cells 3 _ rfl
    have v0 := HX3.out.fz 0
    have v1 := HX3.out.fz 1
    have v2 := HX3.out.fz 2
    have v3 := HX3.out.fz 3
    clear hb2 HCC
    by_cases h0 : ckF r.f = 0
    · have hz : (ckF r.f == 0) = true := by simpa using h0
      have hz2 : (ckF r.f != 0) = false := by simpa using h0
      have HGD : Hid (goodF xs (i, err) = true) := by show _ = _; unfold goodF; rw [hr, HOK.out, h0]; rfl
      have HRR := Lib.hid hr
      clear h0 hr
      go_wp2_with fail
      (try simp only [Exit.inBlock, Exit.then])
      refine bodyPost_ret (v := .tuple #[flV r.f (.slice ua r.f.kids.length uc), .bool true]) ?_ rfl ⟨HPG.out _ _ _ (HPG.out _ _ _ (HPG.out _ _ _ (HPG.out _ _ _ HG3.out))), .inl ⟨HGD.out, .slice ua r.f.kids.length uc, by rw [HRR.out], ?_, ?_⟩⟩
      rotate_left
      · rw [HRR.out]; exact (kidsS_put _ _ (kidsS_put _ _ (kidsS_put _ _ (kidsS_put _ _ HKS3.out)))).keep (Nat.le_refl _) (fun _ _ _ => rfl) (fun b hb _ => by omega)
      · rw [HRR.out]; exact RS_put (by have := HRL.out; omega) (by have := HGL.out; omega) (RS_put (by have := HRL.out; omega) (by have := HGL.out; omega) (RS_put (by have := HRL.out; omega) (by have := HGL.out; omega) (RS_put (by have := HRL.out; omega) (by have := HGL.out; omega) HRS3.out)))
      rw [results_cell_tmp rfl]
      go_simp
      rfl
    · have hz : (ckF r.f == 0) = false := by simpa using h0
      have hz2 : (ckF r.f != 0) = true := by simpa using h0
      have HGD : Hid (goodF xs (i, err) = false) := by show _ = _; unfold goodF; rw [hr, decide_eq_false h0, Bool.and_false]
      clear h0 hr
      go_wp2_with fail
      (try simp only [Exit.inBlock, Exit.then])
      refine bodyPost_ret (v := .tuple #[flV noF (.slice none 0 0), .bool false]) ?_ rfl ⟨HPG.out _ _ _ (HPG.out _ _ _ (HPG.out _ _ _ (HPG.out _ _ _ HG3.out))), .inr ⟨HGD.out, rfl⟩⟩
      rw [results_cell_tmp rfl]
      go_simp
      rfl
  · have hal := lay_alloc w1 (.cells #[.int .i64 f'.kind, .string f'.name, .string f'.text, .slice ua un uc] 24)
    have HX2 := Lib.hid (HX1.out.below hal)
    have HG2 := Lib.hid (grown_trans HG1.out (grown_below hal (some rb)))
    have HGD : Hid (goodF xs (i, err) = false) := by show _ = _; unfold goodF; rw [hr, hok, Bool.false_and]
    have x0 := HX2.out.cells 0 _ rfl
    have x1 := HX2.out.cells 1 _ rfl
    have x2 := HX2.out.cells 2 _ rfl
    have x3 := HX2.out.cells 3 _ rfl
    have v0 := HX2.out.fz 0
    have v1 := HX2.out.fz 1
    have v2 := HX2.out.fz 2
    have v3 := HX2.out.fz 3
    clear hal hok hr
    unfold flV
    go_wp2_with fail
    (try simp only [Exit.inBlock, Exit.then])
    refine bodyPost_ret (v := .tuple #[flV noF (.slice none 0 0), .bool false]) ?_ rfl ⟨HPG.out _ _ _ (HPG.out _ _ _ (HPG.out _ _ _ (HPG.out _ _ _ HG2.out))), .inr ⟨HGD.out, rfl⟩⟩
    rw [results_cell_tmp rfl]
    go_simp
    rfl
end Go.Proofs.Ytdeknkfhlmkabaa
