/-
  What a filter that may be is put as is read as it, whatever stands behind.
-/
import Derived.Test.YtdeknkfhlmkabaaF26
namespace Go.Proofs.Ytdeknkfhlmkabaa.Wi
open Go.Proofs.Ytdeknkfhlmkabaa
set_option linter.unusedVariables false
set_option linter.unusedSimpArgs false

theorem ofBe_be (u : Nat) : ∀ k, ofBe (be u k) = u % 256 ^ k
  | 0 => by simp [be, ofBe, Nat.mod_one]
  | k + 1 => by
    rw [be, ofBe_cons, be_length, ofBe_be u k, be_at, Int.toNat_natCast, Nat.pow_succ, Nat.mod_mul]
    rw [Nat.mul_comm, Nat.add_comm]

theorem wide_le (u : Nat) (hu : u ≤ 9223372036854775807) : wide u ≤ 8 := by
  have hb := Lib.bitLen_le u 64 (by omega) (by omega)
  unfold wide; omega

/-- The first byte of a number's bytes. -/
theorem be_first (u : Nat) (h : 0 < wide u) : (be u (wide u)).getD 0 0 = ((u / 256 ^ (wide u - 1) % 256 : Nat) : Int) := by
  obtain ⟨k, hk⟩ : ∃ k, wide u = k + 1 := ⟨wide u - 1, by omega⟩
  rw [hk, be, List.getD_cons_zero, be_at, Nat.add_sub_cancel]

theorem first_pos (u : Nat) (hu : u ≤ 9223372036854775807) (h : 0 < wide u) : 0 < u / 256 ^ (wide u - 1) ∧ u / 256 ^ (wide u - 1) < 256 := by
  have hb := wide_bound u u (by omega) (by omega)
  have h1 := hb.2 (wide_pos u h)
  refine ⟨Nat.div_pos h1 (Nat.pow_pos (by omega)), ?_⟩
  rw [Nat.div_lt_iff_lt_mul (Nat.pow_pos (by omega))]
  have : 256 ^ wide u = 256 * 256 ^ (wide u - 1) := by
    rw [Nat.mul_comm, ← Nat.pow_succ]; congr 1; omega
  omega

theorem numAt_num (u : Nat) (r : List Int) (hu : u ≤ 9223372036854775807) : numAt (num u ++ r) = (u, 1 + wide u, 0) := by
  have hw := wide_le u hu
  unfold numAt
  have hl : (num u ++ r).length = 1 + wide u + r.length := by simp [num, be_length]; omega
  have h0 : (num u ++ r).getD 0 0 = (wide u : Int) := by simp [num]
  have hd : ((num u ++ r).drop 1).take (wide u) = be u (wide u) := by
    simp [num, be_length]
  rw [if_neg (by omega)]
  simp only [h0]
  rw [if_neg (by omega), if_neg (by omega)]
  have h1 : 0 < wide u → (num u ++ r).getD 1 0 = ((u / 256 ^ (wide u - 1) % 256 : Nat) : Int) := by
    intro h
    rw [← be_first u h]
    have hlen := be_length u (wide u)
    simp only [num, List.cons_append, List.getD_eq_getElem?_getD]
    show (be u (wide u) ++ r)[0]?.getD 0 = _
    rw [List.getElem?_append_left (by omega)]
  rw [if_neg (fun ⟨ha, hb⟩ => by
    have hp := first_pos u hu (by omega)
    rw [h1 (by omega)] at hb
    have := Nat.mod_eq_of_lt hp.2
    omega)]
  rw [if_neg (fun ⟨ha, hb⟩ => by
    have h8 : wide u = 8 := by omega
    rw [h1 (by omega), h8] at hb
    have : u / 256 ^ 7 ≤ 127 := by omega
    have h2 : u / 256 ^ (8 - 1) % 256 ≤ u / 256 ^ (8 - 1) := Nat.mod_le _ _
    omega)]
  rw [Int.toNat_natCast, hd, ofBe_be, Nat.mod_eq_of_lt (wide_bound u u (by omega) (by omega)).1]
theorem num_length (u : Nat) : (num u).length = 1 + wide u := by simp [num, be_length]; omega
end Go.Proofs.Ytdeknkfhlmkabaa.Wi

namespace Go.Proofs.Ytdeknkfhlmkabaa.Tx
open Go.Proofs.Ytdeknkfhlmkabaa
set_option linter.unusedVariables false
set_option linter.unusedSimpArgs false
theorem dec_w4 (s : ByteArray) (p : Nat) : (Utf8.decode s p).2 ≤ 4 := by
  simp only [Utf8.decode]
  repeat' split
  all_goals simp

theorem size_le4 (s : ByteArray) : ∀ f p, s.size ≤ p + f → s.size - p ≤ 4 * (steps s f p).length
  | 0, p, h => by omega
  | f + 1, p, h => by
    by_cases hp : p < s.size
    · rw [steps_cons s f p hp, List.length_cons]
      have := size_le4 s f (p + (Utf8.decode s p).2) (by have := dec_pos s p hp; omega)
      have := dec_w4 s p
      omega
    · omega

theorem made_parts {s : ByteArray} {lo hi : Nat} {p : Nat → Bool} (h : madeB s lo hi p = true) : lo ≤ (runesOf s).length ∧ (runesOf s).length ≤ hi ∧ (runesOf s).all p = true := by
  unfold madeB at h
  simp only [Bool.and_eq_true, decide_eq_true_eq] at h
  exact ⟨h.1.1, h.1.2, h.2⟩
theorem made_size {s : ByteArray} {lo hi : Nat} {p : Nat → Bool} (h : madeB s lo hi p = true) : s.size ≤ 4 * hi := by
  have h1 := (made_parts h).2.1
  have h2 := size_le4 s s.size 0 (by omega)
  unfold runesOf at h1
  rw [List.length_map] at h1
  omega
end Go.Proofs.Ytdeknkfhlmkabaa.Tx

namespace Go.Proofs.Ytdeknkfhlmkabaa
set_option linter.unusedVariables false
set_option linter.unusedSimpArgs false
open Go.RowKit
theorem strOf_sb (s : ByteArray) : strOfNums (Wi.sb s) = s := by
  apply ByteArray.ext
  apply Array.toList_inj.1
  rw [strOfNums_data]
  unfold Wi.sb
  rw [List.map_map]
  conv => rhs; rw [← List.map_id s.data.toList]
  apply List.map_congr_left
  intro b _
  simp
theorem nil_size {s : ByteArray} (h : nilB s = true) : s.size = 0 := by
  unfold nilB at h
  have h1 : s.toList = [] := by simpa using h
  rw [ByteArray.toList_eq] at h1
  have := congrArg List.length h1
  simpa using this
theorem may_size {k : Int} {n t : ByteArray} {m : Nat} (h : mayF k n t m = true) : n.size ≤ 192 ∧ t.size ≤ 192 := by
  have z : ∀ {s : ByteArray}, nilB s = true → s.size ≤ 192 := fun h => by have := nil_size h; omega
  have k1 : ∀ {s : ByteArray}, keyOk s = true → s.size ≤ 192 := fun h => by have := Tx.made_size h; omega
  have k2 : ∀ {s : ByteArray}, valOk s = true → s.size ≤ 192 := fun h => by have := Tx.made_size h; omega
  have k3 : ∀ {s : ByteArray}, nameOk s = true → s.size ≤ 192 := fun h => by have := Tx.made_size h; omega
  unfold mayF at h
  split at h
  · simp only [Bool.and_eq_true] at h; exact ⟨z h.1.1, z h.1.2⟩
  · split at h
    · simp only [Bool.and_eq_true] at h; exact ⟨z h.1.1, z h.1.2⟩
    · split at h
      · simp only [Bool.and_eq_true] at h; exact ⟨z h.1.1, k1 h.2⟩
      · split at h
        · simp only [Bool.and_eq_true] at h; exact ⟨k3 h.1.2, k2 h.2⟩
        · split at h
          · simp only [Bool.and_eq_true] at h; exact ⟨z h.1.1, z h.1.2⟩
          · split at h
            · simp only [Bool.and_eq_true] at h; exact ⟨z h.1, z h.2⟩
            · split at h
              · simp only [Bool.and_eq_true] at h; exact ⟨z h.1, z h.2⟩
              · cases h
theorem drop_app {xs a r : List Int} {i : Nat} (h : xs.drop i = a ++ r) : xs.drop (i + a.length) = r := by
  rw [← List.drop_drop, h, List.drop_left]
theorem nm_num {xs : List Int} {i u : Nat} {r : List Int} (hd : xs.drop i = Wi.num u ++ r) (hu : u ≤ 9223372036854775807) : nmF xs (i, 0) = ((u : Int), (i + (Wi.num u).length, 0)) := by
  have ht := Wi.numAt_num u r hu
  simp only [nmF, hd, ht, Wi.num_length]
  simp
theorem tx_num {xs : List Int} {i : Nat} {s : ByteArray} {r : List Int} (hd : xs.drop i = (Wi.num s.size ++ Wi.sb s) ++ r) (hs : s.size ≤ 192) : txF xs 192 (i, 0) = (s, (i + (Wi.num s.size ++ Wi.sb s).length, 0)) := by
  rw [List.append_assoc] at hd
  have ht := Wi.numAt_num s.size (Wi.sb s ++ r) (by omega)
  have hd2 := drop_app hd
  rw [Wi.num_length] at hd2
  have hl := congrArg List.length hd
  simp only [List.length_append, List.length_drop, Wi.num_length, Wi.sb_length] at hl
  simp only [txF, hd, ht]
  rw [if_neg (by simp), if_neg (by simp), if_neg (by omega), if_pos (by omega), hd2, List.take_append_of_le_length (by rw [Wi.sb_length]; omega), List.take_of_length_le (by rw [Wi.sb_length]; omega), strOf_sb]
  simp only [List.length_append, Wi.num_length, Wi.sb_length]
  congr 2
  omega
theorem ok_may2 {m ah : Nat} {f : Fl} (h : (ec (m + 1) f ah).2 = 0) : mayF f.kind f.name f.text f.kids.length = true := by
  have e := ec_succ m f ah
  split at e
  · rw [e] at h; simp at h
  · split at e
    · rw [e] at h; simp at h
    · rename_i h2
      simpa using h2
/-- What was put is read. -/
theorem tk_back (xs : List Int) : ∀ (m : Nat) (f : Fl) (i ah : Nat) (r : List Int), (ec m f ah).2 = 0 → Light f → xs.drop i = flB m f ++ r → tk xs m (i, 0) ah = ⟨true, f, (i + (flB m f).length, 0), (ec m f ah).1⟩
  | 0, f, i, ah, r, h, _, _ => by simp [ec] at h
  | m + 1, f, i, ah, r, h, hl, hd => by
    obtain ⟨h1, h2⟩ := ok_ecs h
    have hm := ok_may2 h
    have hk := may_kind hm
    obtain ⟨hn, ht⟩ := may_size hm
    have hkn : (f.kind.toNat : Int) = f.kind := by omega
    have hkl := hl.kids
    have hoke : (ecs m f.kids (ah + 1)).2 = 0 := by rw [← h2]; exact h
    simp only [flB, headB, List.append_assoc] at hd
    have d1 := drop_app hd
    have r1 : rd1 xs (i, 0) = ((f.kind.toNat : Int), (i + (Wi.num f.kind.toNat).length, 0)) := nm_num hd (by omega)
    have hd2 : xs.drop (i + (Wi.num f.kind.toNat).length) = (Wi.num f.name.size ++ Wi.sb f.name) ++ (Wi.num f.text.size ++ (Wi.sb f.text ++ (Wi.num f.kids.length ++ (f.kids.flatMap (flB m) ++ r)))) := by rw [d1, List.append_assoc]
    have r2 : rd2 xs (i, 0) = (f.name, (i + (Wi.num f.kind.toNat).length + (Wi.num f.name.size ++ Wi.sb f.name).length, 0)) := by
      show txF xs 192 (rd1 xs (i, 0)).2 = _
      rw [r1]
      exact tx_num hd2 hn
    have d2 := drop_app hd2
    have hd3 : xs.drop (i + (Wi.num f.kind.toNat).length + (Wi.num f.name.size ++ Wi.sb f.name).length) = (Wi.num f.text.size ++ Wi.sb f.text) ++ (Wi.num f.kids.length ++ (f.kids.flatMap (flB m) ++ r)) := by rw [d2, List.append_assoc]
    have r3 : rd3 xs (i, 0) = (f.text, (i + (Wi.num f.kind.toNat).length + (Wi.num f.name.size ++ Wi.sb f.name).length + (Wi.num f.text.size ++ Wi.sb f.text).length, 0)) := by
      show txF xs 192 (rd2 xs (i, 0)).2 = _
      rw [r2]
      exact tx_num hd3 ht
    have hd4 := drop_app hd3
    generalize hj : i + (Wi.num f.kind.toNat).length + (Wi.num f.name.size ++ Wi.sb f.name).length + (Wi.num f.text.size ++ Wi.sb f.text).length = i4 at *
    have r4 : rd4 xs (i, 0) = ((f.kids.length : Int), (i4 + (Wi.num f.kids.length).length, 0)) := by
      show nmF xs (rd3 xs (i, 0)).2 = _
      rw [r3]
      exact nm_num hd4 (by omega)
    have hd5 := drop_app hd4
    have hr : ∀ j, j ≤ f.kids.length → tks (tk xs m) j (i4 + (Wi.num f.kids.length).length, 0) (ah + 1) = ⟨true, f.kids.take j, (i4 + (Wi.num f.kids.length).length + ((f.kids.take j).flatMap (flB m)).length, 0), (ecs m (f.kids.take j) (ah + 1)).1⟩ := by
      intro j
      induction j with
      | zero => intro _; simp [tks, ecs]
      | succ j ih =>
        intro hjl
        have ij := ih (by omega)
        have hkid : f.kids[j]? = some f.kids[j] := List.getElem?_eq_getElem (by omega)
        generalize hkk : f.kids[j] = kd at *
        have hk0 := ok_take (i := j) hoke
        have hk1 := ok_take (i := j + 1) hoke
        rw [ecs_step hkid m (ah + 1) hk0] at hk1
        have htk : f.kids.take (j + 1) = f.kids.take j ++ [kd] := by rw [List.take_add_one, hkid]; rfl
        have hdr : f.kids.flatMap (flB m) = (f.kids.take j).flatMap (flB m) ++ (flB m kd ++ (f.kids.drop (j + 1)).flatMap (flB m)) := by
          conv => lhs; rw [← List.take_append_drop (j + 1) f.kids, htk]
          simp [List.flatMap_append]
        have hdk : xs.drop (i4 + (Wi.num f.kids.length).length + ((f.kids.take j).flatMap (flB m)).length) = flB m kd ++ ((f.kids.drop (j + 1)).flatMap (flB m) ++ r) := by
          have := hd5
          rw [hdr, List.append_assoc] at this
          have := drop_app this
          rw [this, List.append_assoc]
        have hih := tk_back xs m kd _ (ecs m (f.kids.take j) (ah + 1)).1 _ hk1 (hl.kid (List.mem_of_getElem? hkid)) hdk
        have hnx := tks_next (F := tk xs m) (j := j) ij rfl
        rw [hnx]
        simp only
        rw [hih, if_pos rfl, ecs_step hkid m (ah + 1) hk0, htk]
        simp only [List.flatMap_append, List.flatMap_cons, List.flatMap_nil, List.append_nil, List.length_append]
        rw [Nat.add_assoc]
    have hrn := hr f.kids.length (Nat.le_refl _)
    rw [List.take_length] at hrn
    simp only [tk, r4, Int.toNat_natCast, hrn, h2]
    rw [if_neg (by omega), r1, r2, r3]
    simp only [hkn, if_true, decide_true]
    have hf : Fl.mk f.kind f.name f.text f.kids = f := by cases f; rfl
    rw [hf]
    congr 2
    simp only [flB, headB, List.length_append] at hj ⊢
    omega
theorem flB_byte : ∀ (m : Nat) (f : Fl) (ah : Nat), (ec m f ah).2 = 0 → Light f → ∀ x ∈ flB m f, 0 ≤ x ∧ x < 256
  | 0, f, ah, h, _ => by simp [ec] at h
  | m + 1, f, ah, h, hl => by
    obtain ⟨h1, h2⟩ := ok_ecs h
    have hm := ok_may2 h
    have hk := may_kind hm
    have hkl := hl.kids
    have hna := hl.name
    have htx := hl.text
    have hoke : (ecs m f.kids (ah + 1)).2 = 0 := by rw [← h2]; exact h
    have sbb : ∀ (s : ByteArray), ∀ x ∈ Wi.sb s, 0 ≤ x ∧ x < 256 := fun s x hx => by
      unfold Wi.sb at hx
      obtain ⟨b, _, rfl⟩ := List.mem_map.1 hx
      have := b.toNat_lt
      omega
    intro x hx
    simp only [flB, headB, List.mem_append, List.mem_flatMap] at hx
    rcases hx with (((hx | hx | hx) | hx | hx) | hx) | ⟨kd, hkd, hx⟩
    · exact Wi.num_byte _ (by omega) x hx
    · exact Wi.num_byte _ (by omega) x hx
    · exact sbb _ x hx
    · exact Wi.num_byte _ (by omega) x hx
    · exact sbb _ x hx
    · exact Wi.num_byte _ (by omega) x hx
    · obtain ⟨j, hj, rfl⟩ := List.getElem_of_mem hkd
      have hkid : f.kids[j]? = some f.kids[j] := List.getElem?_eq_getElem hj
      have hk0 := ok_take (i := j) hoke
      have hk1 := ok_take (i := j + 1) hoke
      rw [ecs_step hkid m (ah + 1) hk0] at hk1
      exact flB_byte m _ _ hk1 (hl.kid hkd) x hx
/-- What was put is got. -/
theorem get_back {f : Fl} (h : ckF f = 0) (hl : Light f) : getOk (flB 6 f) = true ∧ (tk (flB 6 f) 6 (0, 0) 0).f = f := by
  have hb := tk_back (flB 6 f) 6 f 0 0 [] h hl (by simp)
  refine ⟨?_, by rw [hb]⟩
  unfold getOk goodF
  rw [hb]
  simp only [Bool.true_and, Nat.zero_add]
  rw [h]
  simp [endI]
/-- What was got is put as it was. -/
theorem back_get {xs : List Int} (hr : ∀ x ∈ xs, 0 ≤ x ∧ x < 256) (h : getOk xs = true) : ckF (tk xs 6 (0, 0) 0).f = 0 ∧ flB 6 (tk xs 6 (0, 0) 0).f = xs ∧ Light (tk xs 6 (0, 0) 0).f := by
  unfold getOk goodF at h
  simp only [Bool.and_eq_true, decide_eq_true_eq] at h
  obtain ⟨⟨h1, h2⟩, h3⟩ := h
  have hb := tk_between hr (st := (0, 0)) (Nat.zero_le _) h1
  have hl := (tk_bytes hr 6 (0, 0) 0 (Nat.zero_le _) h1).2.2.2
  have he := tk_err xs 6 (0, 0) 0 h1
  unfold endI at h3
  rw [if_neg (by simp [he])] at h3
  have hle : xs.length ≤ (tk xs 6 (0, 0) 0).st.1 := by
    by_cases e : (tk xs 6 (0, 0) 0).st.1 < xs.length
    · rw [if_pos e] at h3; cases h3
    · omega
  refine ⟨h2, ?_, tk_light xs 6 (0, 0) 0 (Nat.zero_le _) h1⟩
  rw [← hb]
  simp only [List.drop_zero, Nat.sub_zero]
  exact List.take_of_length_le hle
end Go.Proofs.Ytdeknkfhlmkabaa
