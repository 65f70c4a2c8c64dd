/-
  A law's calls: whether they may be gone through; a map behind them.
-/
import Derived.Test.YtdfjnpnkfjcpcaaK7
namespace Go.Proofs.Ytdfjnpnkfjcpcaa
set_option linter.unusedVariables false
set_option linter.unusedSimpArgs false
open Go.RowKit

/-- A call. -/
structure Kd where
  op : Int
  pos : Int
  conds : List Kop
  ops : List Kop
  fr : ByteArray
  to : ByteArray
  ev : Kev
def KdAt (w : World) (g off : Nat) (k : Kd) : Prop := ∃ u v, w.cell? ⟨g, off, none⟩ = some (.int .i64 k.op) ∧ w.cell? ⟨g, off + 1, none⟩ = some (.int .i64 k.pos) ∧ w.cell? ⟨g, off + 2, none⟩ = some u ∧ w.cell? ⟨g, off + 3, none⟩ = some v ∧
  w.cell? ⟨g, off + 4, none⟩ = some (.string k.fr) ∧ w.cell? ⟨g, off + 5, none⟩ = some (.string k.to) ∧ w.cell? ⟨g, off + 6, none⟩ = some (.int .i64 k.ev.pos) ∧ w.cell? ⟨g, off + 7, none⟩ = some (.string k.ev.key) ∧ w.cell? ⟨g, off + 8, none⟩ = some (.bool k.ev.had) ∧
  w.cell? ⟨g, off + 9, none⟩ = some (.string k.ev.old) ∧ w.cell? ⟨g, off + 10, none⟩ = some (.bool k.ev.has) ∧ w.cell? ⟨g, off + 11, none⟩ = some (.string k.ev.now) ∧ opL.In w u k.conds ∧ opL.In w v k.ops
def KdsIn (w : World) (v : Value) (ks : List Kd) : Prop := ∃ a c, v = .slice a ks.length c ∧ (ks = [] ∨ ∃ g off, a = some ⟨g, off, none⟩ ∧ ∀ j k, ks[j]? = some k → KdAt w g (off + j * 12) k)
theorem KdAt.later {w w' : World} {g off : Nat} {k : Kd} (h : KdAt w g off k) (hb : Below w.heap.size w w') : KdAt w' g off k := by
  obtain ⟨u, v, h0, h1, h2, h3, h4, h5, h6, h7, h8, h9, h10, h11, hu, hv⟩ := h
  exact ⟨u, v, lay_later hb h0, lay_later hb h1, lay_later hb h2, lay_later hb h3, lay_later hb h4, lay_later hb h5, lay_later hb h6, lay_later hb h7, lay_later hb h8, lay_later hb h9, lay_later hb h10, lay_later hb h11, hu.later hb, hv.later hb⟩
theorem KdsIn.later {w w' : World} {v : Value} {ks : List Kd} (h : KdsIn w v ks) (hb : Below w.heap.size w w') : KdsIn w' v ks := by
  obtain ⟨a, c, hv, h⟩ := h
  refine ⟨a, c, hv, h.imp id ?_⟩
  rintro ⟨g, off, ha, h⟩
  exact ⟨g, off, ha, fun j k hk => (h j k hk).later hb⟩
theorem KdsIn.slice {w : World} {v : Value} {ks : List Kd} (h : KdsIn w v ks) : ∃ a c, v = .slice a ks.length c := by
  obtain ⟨a, c, hv, _⟩ := h
  exact ⟨a, c, hv⟩
theorem KdsIn.at {w : World} {a : Option Addr} {n c : Nat} {ks : List Kd} (h : KdsIn w (.slice a n c) ks) {i : Nat} {k : Kd} (hk : ks[i]? = some k) : ∃ g off, a = some ⟨g, off, none⟩ ∧ KdAt w g (off + i * 12) k := by
  obtain ⟨a', c', hv, h⟩ := h
  simp only [Value.slice.injEq] at hv
  obtain ⟨rfl, _, _⟩ := hv
  obtain ⟨g, off, ha, h⟩ := h.resolve_left (fun e => by rw [e] at hk; simp at hk)
  exact ⟨g, off, ha, h i k hk⟩
/-- A call that may be gone through. -/
def Kd.Ok (k : Kd) : Prop := (k.conds.length ≤ 32768 ∧ Small k.conds) ∧ k.ops.length ≤ 32768 ∧ Small k.ops
def kdw (k : Kd) : Nat := wgh k.conds + wgh k.ops + min k.fr.size 32768 + min k.to.size 32768 + min k.ev.key.size 32768 + min k.ev.now.size 32768
theorem kdw_le (k : Kd) : kdw k ≤ 327682 := by
  have h1 := wgh_le k.conds
  have h2 := wgh_le k.ops
  unfold kdw; omega
theorem kdw_ok {k : Kd} (h : kdw k ≤ 32768) : k.Ok := by
  unfold kdw at h
  exact ⟨wgh_ok (by omega), wgh_ok (by omega)⟩
/-- Whether calls are few. -/
def Shorts (ks : List Kd) (w : World) (e : Ending) (w' : World) : Prop := ∃ b : Bool, e = .returned (.bool b) ∧ (b = true → ks.length ≤ 100 ∧ ∀ k ∈ ks, k.Ok) ∧ ∃ m, w' = w.drewN m
theorem shorts_no (ks : List Kd) {w w' : World} (h : ∃ m, w' = w.drewN m) : Shorts ks w (.returned (.bool false)) w' := ⟨false, rfl, (fun h => by cases h), h⟩

set_option maxRecDepth 100000 in
set_option maxHeartbeats 6400000 in
theorem short_any {w : World} {v : Value} {ks : List Kd} (h : KdsIn w v ks) : Calls Try.prog 13 #[v] w (Shorts ks w) := by
  obtain ⟨a, c, rfl⟩ := h.slice
  have HD := Lib.hid h
  clear h
  go_enter Try.func13, Try.ntmps13
  go_wp2_with fail
  go_loopw [3, 4] (fun u v wr => ∃ (i n : Nat), u = .int .i64 n ∧ v = .int .i64 i ∧ i ≤ ks.length ∧ i ≤ 101 ∧ n ≤ 360450 ∧ Hid (n ≤ 32768 → ∀ k ∈ ks.take i, k.Ok) ∧ Hid (∃ m, wr = w.drewN m))
    (fun _ v _ => ks.length - (intOf v).toNat)
  case atStart => exact ⟨0, 0, rfl, rfl, Nat.zero_le _, by omega, by omega, (fun _ k hk => by simp at hk : 0 ≤ 32768 → ∀ k ∈ ks.take 0, k.Ok), 0, rfl⟩
  case round =>
    obtain ⟨i, n, rfl, rfl, hin, hi2, hn, hok, hq⟩ := hrel
    have ei : IntKind.i64.wrap ((i : Int) + 1) = (i : Int) + 1 := IntWalk.i64_in _ (by omega)
    by_cases hlt : i < ks.length
    · by_cases hi3 : i ≤ 100
      · by_cases hn2 : n ≤ 32768
        · obtain ⟨k, hk⟩ : ∃ k, ks[i]? = some k := ⟨ks[i], List.getElem?_eq_getElem hlt⟩
          obtain ⟨g, off, rfl, hat⟩ := HD.out.at hk
          obtain ⟨u, v, _, _, h2, h3, h4, h5, _, h7, _, _, _, h11, hu, hv⟩ := hat
          have c2 : wr.cell? ⟨g, off + i * 12 + 2, none⟩ = some u := drew_cell hq.out h2
          have c3 : wr.cell? ⟨g, off + i * 12 + 3, none⟩ = some v := drew_cell hq.out h3
          have c4 : wr.cell? ⟨g, off + i * 12 + 4, none⟩ = some (.string k.fr) := drew_cell hq.out h4
          have c5 : wr.cell? ⟨g, off + i * 12 + 5, none⟩ = some (.string k.to) := drew_cell hq.out h5
          have c7 : wr.cell? ⟨g, off + i * 12 + 6 + 1, none⟩ = some (.string k.ev.key) := drew_cell hq.out h7
          have c11 : wr.cell? ⟨g, off + i * 12 + 6 + 5, none⟩ = some (.string k.ev.now) := drew_cell hq.out h11
          obtain ⟨ua, uc, rfl, _, _⟩ := hu.slice
          obtain ⟨va, vc, rfl, _, _⟩ := hv.slice
          have HW1 : Hid (∀ m, Calls Try.prog 32 #[.slice ua k.conds.length uc] (wr.drewN m) fun e w' => e = .returned (.int .i64 (wgh k.conds : Nat)) ∧ ∃ j, w' = (wr.drewN m).drewN j) := fun m => weigh_any (by
            obtain ⟨q, hq⟩ := hq.out
            rw [hq]
            exact hu.later (below_drewN (below_drewN (Below.refl _ _) _) _))
          have HW2 : Hid (∀ m, Calls Try.prog 32 #[.slice va k.ops.length vc] (wr.drewN m) fun e w' => e = .returned (.int .i64 (wgh k.ops : Nat)) ∧ ∃ j, w' = (wr.drewN m).drewN j) := fun m => weigh_any (by
            obtain ⟨q, hq⟩ := hq.out
            rw [hq]
            exact hv.later (below_drewN (below_drewN (Below.refl _ _) _) _))
          have hI1 : (i : Int) < ((ks.length : Nat) : Int) := by omega
          have hI2 : (0 : Int) ≤ (i : Int) := by omega
          have hI3 : (i : Int) ≤ 100 := by omega
          have hI4 : (n : Int) ≤ 32768 := by omega
          have hl1 := wgh_le k.conds
          have hl2 := wgh_le k.ops
          have HK : Hid (((n + kdw k : Nat) : Int) = (n : Int) + ((wgh k.conds : Nat) + (wgh k.ops : Nat) + min (k.fr.size : Int) 32768 + min (k.to.size : Int) 32768 + min (k.ev.key.size : Int) 32768 + min (k.ev.now.size : Int) 32768)) := by show _ = _; unfold kdw; omega
          have HL : Hid (n + kdw k ≤ 360450) := by show _ ≤ _; have := kdw_le k; omega
          have HOK : Hid (n + kdw k ≤ 32768 → ∀ x ∈ ks.take (i + 1), x.Ok) := fun h x hx => by
            rw [List.take_add_one, hk] at hx
            rcases List.mem_append.1 hx with hx | hx
            · exact hok.out hn2 x hx
            · simp at hx; rw [hx]; exact kdw_ok (by omega)
          generalize wgh k.conds = A at *
          generalize wgh k.ops = B at *
          have e1 : IntKind.i64.wrap ((A : Int) + (B : Int)) = (A : Int) + (B : Int) := IntWalk.i64_in _ (by omega)
          have e2 : IntKind.i64.wrap ((A : Int) + (B : Int) + min (k.fr.size : Int) 32768) = (A : Int) + (B : Int) + min (k.fr.size : Int) 32768 := IntWalk.i64_in _ (by omega)
          have e3 : IntKind.i64.wrap ((A : Int) + (B : Int) + min (k.fr.size : Int) 32768 + min (k.to.size : Int) 32768) = (A : Int) + (B : Int) + min (k.fr.size : Int) 32768 + min (k.to.size : Int) 32768 := IntWalk.i64_in _ (by omega)
          have e4 : IntKind.i64.wrap ((A : Int) + (B : Int) + min (k.fr.size : Int) 32768 + min (k.to.size : Int) 32768 + min (k.ev.key.size : Int) 32768) = (A : Int) + (B : Int) + min (k.fr.size : Int) 32768 + min (k.to.size : Int) 32768 + min (k.ev.key.size : Int) 32768 := IntWalk.i64_in _ (by omega)
          have e5 : IntKind.i64.wrap ((A : Int) + (B : Int) + min (k.fr.size : Int) 32768 + min (k.to.size : Int) 32768 + min (k.ev.key.size : Int) 32768 + min (k.ev.now.size : Int) 32768) = (A : Int) + (B : Int) + min (k.fr.size : Int) 32768 + min (k.to.size : Int) 32768 + min (k.ev.key.size : Int) 32768 + min (k.ev.now.size : Int) 32768 := IntWalk.i64_in _ (by omega)
          have e6 : IntKind.i64.wrap ((n : Int) + ((A : Int) + (B : Int) + min (k.fr.size : Int) 32768 + min (k.to.size : Int) 32768 + min (k.ev.key.size : Int) 32768 + min (k.ev.now.size : Int) 32768)) = (n : Int) + ((A : Int) + (B : Int) + min (k.fr.size : Int) 32768 + min (k.to.size : Int) 32768 + min (k.ev.key.size : Int) 32768 + min (k.ev.now.size : Int) 32768) := IntWalk.i64_in _ (by omega)
          clear h2 h3 h4 h5 h7 h11 hu hv hk hn2 hi3 hn hok hl1 hl2
          go_wp2_with fail
          go_quiet ((go_at_call 32; first | (with_reducible exact Calls.quiet_of (HW1.out _)) | (with_reducible exact Calls.quiet_of (HW2.out _))))
          go_wp2_with fail
          refine ⟨⟨i + 1, n + kdw k, by rw [HK.out], by simp, hlt, by omega, HL.out, HOK, ?_⟩, by show ks.length - ((i : Int) + 1).toNat < ks.length - ((i : Int)).toNat; omega⟩
          obtain ⟨m, hm⟩ := hq.out
          exact ⟨_, by rw [hm, World.drewN_drewN]⟩
        · have hI1 : (i : Int) < ((ks.length : Nat) : Int) := by omega
          have hI3 : (i : Int) ≤ 100 := by omega
          have hI4 : ¬ (n : Int) ≤ 32768 := by omega
          by_cases hlen2 : ks.length ≤ 100
          · have hI5 : ((ks.length : Nat) : Int) ≤ 100 := by omega
            go_wp2_with fail
            go_ret
            exact shorts_no ks hq.out
          · have hI5 : ¬ ((ks.length : Nat) : Int) ≤ 100 := by omega
            go_wp2_with fail
            go_ret
            exact shorts_no ks hq.out
      · have hI1 : (i : Int) < ((ks.length : Nat) : Int) := by omega
        have hI3 : ¬ (i : Int) ≤ 100 := by omega
        have hI5 : ¬ ((ks.length : Nat) : Int) ≤ 100 := by omega
        go_wp2_with fail
        go_ret
        exact shorts_no ks hq.out
    · obtain rfl : i = ks.length := by omega
      by_cases hlen2 : ks.length ≤ 100
      · have hI5 : ((ks.length : Nat) : Int) ≤ 100 := by omega
        by_cases hn2 : n ≤ 32768
        · have hI4 : (n : Int) ≤ 32768 := by omega
          have HW : Hid (∀ k ∈ ks, k.Ok) := by have h := hok.out hn2; rw [List.take_length] at h; exact h
          have HLn : Hid (ks.length ≤ 100) := hlen2
          go_wp2_with fail
          go_ret
          exact ⟨true, rfl, fun _ => ⟨HLn.out, HW.out⟩, hq.out⟩
        · have hI4 : ¬ (n : Int) ≤ 32768 := by omega
          go_wp2_with fail
          go_ret
          exact shorts_no ks hq.out
      · have hI5 : ¬ ((ks.length : Nat) : Int) ≤ 100 := by omega
        go_wp2_with fail
        go_ret
        exact shorts_no ks hq.out
end Go.Proofs.Ytdfjnpnkfjcpcaa
