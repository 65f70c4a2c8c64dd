/-
  How many parts stay where they were.
-/
import Derived.Test.YtdgnjalbpiciiaaRT
namespace Go.Proofs.Ytdgnjalbpiciiaa
set_option linter.unusedVariables false
set_option linter.unusedSimpArgs false
open Go.RowKit Go.Shelf

theorem alike_step {l o : List Int} {k : Nat} {x y : Int} (h1 : l[k]? = some x) (h2 : o[k]? = some y) : alike (l.take (k + 1)) (o.take (k + 1)) = alike (l.take k) (o.take k) + (if x = y then 1 else 0) := by
  have e1 := (List.getElem?_eq_some_iff.1 h1).1
  have e2 := (List.getElem?_eq_some_iff.1 h2).1
  rw [List.take_add_one, h1, List.take_add_one, h2]
  exact alike_snoc _ _ x y (by rw [List.length_take, List.length_take]; omega)
theorem alike_len : ∀ (a b : List Int), alike a b ≤ a.length
  | [], _ => by simp [alike]
  | _ :: _, [] => by simp [alike]
  | x :: a, y :: b => by have := alike_len a b; simp only [alike, List.length_cons]; split <;> omega
set_option maxRecDepth 100000 in
set_option maxHeartbeats 1600000 in
theorem Stay_any {w : World} {b : Nat} {u v : Value} {l o : List Int} (hl : intL.In w u l) (hb : w.cell? ⟨b, 0, none⟩ = some v) (ho : intL.In w v o) (hlen : l.length = o.length) (hn : o.length ≤ 1000) :
    Calls Try.prog 38 #[u, .pointer (some ⟨b, 0, none⟩)] w fun e w' => e = .returned (.int .i64 (alike l o : Nat)) ∧ Drawn w w' := by
  have HL := Lib.hid hl
  have HO := Lib.hid ho
  have HB := Lib.hid hb
  obtain ⟨a1, c1, rfl, _, _⟩ := hl.slice
  obtain ⟨a2, c2, rfl, _, _⟩ := ho.slice
  have HN := Lib.hid hlen
  clear hl ho hlen
  go_enter Try.func38, Try.ntmps38
  go_wp2_with fail
  go_loopw [4, 8] (fun nv iv wr => ∃ k : Nat, nv = .int .i64 (alike (l.take k) (o.take k) : Nat) ∧ iv = .int .i64 k ∧ k ≤ l.length ∧ Hid (Drawn w wr)) (fun _ iv _ => l.length - (intOf iv).toNat)
  case atStart => exact ⟨0, rfl, rfl, Nat.zero_le _, Drawn.refl w⟩
  case round =>
    obtain ⟨k, rfl, rfl, hk, hd⟩ := hrel
    have hb1 := hd.out.cell HB.out
    clear hb
    by_cases hlt : k < l.length
    · have h1 : l[k]? = some l[k] := List.getElem?_eq_getElem hlt
      have h2 : o[k]? = some (o[k]'(by have := HN.out; omega)) := List.getElem?_eq_getElem (by have := HN.out; omega)
      obtain ⟨g, off, rfl, _, q1⟩ := intL_at (hd.out.in' HL.out) h1
      obtain ⟨g2, off2, rfl, _, q2⟩ := intL_at (hd.out.in' HO.out) h2
      have HS := Lib.hid (alike_step h1 h2)
      have hq : alike (l.take k) (o.take k) ≤ 1000 := Nat.le_trans (alike_len _ _) (by have := HN.out; rw [List.length_take]; omega)
      clear h1 h2
      generalize l[k] = x at *
      generalize o[k]'(by have := HN.out; omega) = y at *
      generalize alike (l.take k) (o.take k) = q at *
      have hlo : k < o.length := by have := HN.out; omega
      by_cases hxy : x = y
      · have HE : Hid (alike (l.take (k + 1)) (o.take (k + 1)) = q + 1) := by show _ = _; rw [HS.out, if_pos hxy]
        clear HS
        go_wp2_with fail
        go_region
        go_wp2_with fail
        exact ⟨⟨k + 1, by rw [HE.out]; go_num, by go_num, by omega, hd.out.next 1⟩, by simp [intOf]; omega⟩
      · have HE : Hid (alike (l.take (k + 1)) (o.take (k + 1)) = q) := by show _ = _; rw [HS.out, if_neg hxy]; rfl
        clear HS
        go_wp2_with fail
        go_region
        go_wp2_with fail
        exact ⟨⟨k + 1, by rw [HE.out], by go_num, by omega, hd.out.next 1⟩, by simp [intOf]; omega⟩
    · obtain rfl : k = l.length := by omega
      have HF : Hid (alike (l.take l.length) (o.take l.length) = alike l o) := by show _ = _; rw [List.take_length, HN.out, List.take_length]
      rw [HF.out]
      go_wp2_with fail
      go_ret
      exact ⟨rfl, hd.out⟩
end Go.Proofs.Ytdgnjalbpiciiaa
