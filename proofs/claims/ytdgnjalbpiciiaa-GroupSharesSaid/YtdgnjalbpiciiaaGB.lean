/-
  A group more: the walk.
-/
import Derived.Test.YtdgnjalbpiciiaaGA
namespace Go.Proofs.Ytdgnjalbpiciiaa
set_option linter.unusedVariables false
set_option linter.unusedSimpArgs false
open Go.RowKit Go.Shelf

set_option maxRecDepth 100000 in
set_option maxHeartbeats 6400000 in
theorem Add_any {w : World} {B b : Nat} {L : List Nat} {l : List Gr} (h : Gk w B b L l) (ok : GOk l) (k : ByteArray) (parts sub at_ : Int) (hB : B ≤ w.heap.size) (hs : k.size ≤ 4611686018427387904) : Calls Try.prog 43 #[.pointer (some ⟨b, 0, none⟩), .string k, .int .i64 parts, .int .i64 sub, .int .i64 at_] w (Did w B b L (addG l k parts sub at_).2 (.int .i64 (addG l k parts sub at_).1)) := by
  have HK := Lib.hid h
  obtain ⟨ys, s, hg, rfl⟩ := h
  have hlen : ys.length ≤ 3 := by have := ok.len; rwa [List.length_map] at this
  have HCk := Lib.hid (Check_any k parts w hs)
  have HR := Lib.hid (ready_any (hg.box.cells 1 _ rfl))
  have HG := Lib.hid hg
  have OK := Lib.hid ok
  clear hg ok
  go_enter Try.func43, Try.ntmps43
  go_wp2_with fail
  go_fit HR.out
  rintro e w1 ⟨rfl, rfl⟩
  go_wp2_with fail
  go_fit HCk.out
  rintro e w1 ⟨rfl, hb⟩
  have HB := Lib.hid hb
  have HG1 := Lib.hid (HG.out.below hb)
  clear hb HR HCk
  rcases ckE_two k parts with hc | hc
  · have HC0 := Lib.hid hc
    have hpp := ckE_ok hc
    rw [hc]
    have HF := Lib.hid (find_any HG1.out (by omega) k)
    clear hc
    go_wp2_with fail
    go_fit HF.out
    rintro e w2 ⟨hb, hm⟩
    have HB2 := Lib.hid (HB.out.trans (hb.mono HB.out.size))
    cases hp : plc (ys.map (·.1)) k with
    | some i =>
      rw [hp] at hm
      obtain ⟨g, hga, rfl⟩ := hm
      obtain ⟨x, hx, hxn, hgp⟩ := plc_item hp
      have HE : Hid (addG (ys.map (·.1)) k parts sub at_ = (70, ys.map (·.1))) := by show _ = _; unfold addG; rw [if_neg (by rw [HC0.out]; simp), hgp]
      clear hb hp HF hgp hx hxn hga
      go_wp2_with fail
      go_ret
      rw [HE.out]
      exact Did.of HK.out HB2.out rfl
    | none =>
      rw [hp] at hm
      obtain rfl := hm
      have HE : Hid (addG (ys.map (·.1)) k parts sub at_ = if 3 ≤ (ys.map (·.1)).length then (7, ys.map (·.1)) else if sub < 1 ∨ 1099511627776 < sub ∨ at_ < 0 ∨ 1099511627776 < at_ then (1, ys.map (·.1)) else (0, ys.map (·.1) ++ [newG k parts sub at_])) := by
        show _ = _; unfold addG; rw [if_neg (by rw [HC0.out]; simp), gp_none hp]
      have hG := HG1.out.below hb
      have b0 := hG.box.cells 0 _ rfl
      have hn := hG.list.1
      have HG2 := Lib.hid hG
      have HP := Lib.hid hp
      unfold Sl.v at b0
      clear hb hp HF hG
      by_cases h3 : 3 ≤ (ys.map (·.1)).length
      · have HE2 : Hid (addG (ys.map (·.1)) k parts sub at_ = (7, ys.map (·.1))) := by show _ = _; rw [HE.out, if_pos h3]
        have hI : (3 : Int) ≤ (s.n : Int) := by rw [List.length_map] at h3; omega
        clear HE h3
        go_wp2_with fail
        go_ret
        rw [HE2.out]
        exact Did.of HK.out HB2.out rfl
      · have hI : ¬ (3 : Int) ≤ (s.n : Int) := by rw [List.length_map] at h3; omega
        by_cases hbad : sub < 1 ∨ 1099511627776 < sub ∨ at_ < 0 ∨ 1099511627776 < at_
        · have HE2 : Hid (addG (ys.map (·.1)) k parts sub at_ = (1, ys.map (·.1))) := by show _ = _; rw [HE.out, if_neg h3, if_pos hbad]
          clear HE h3
          by_cases q1 : sub < 1
          · clear hbad
            go_wp2_with fail
            go_ret
            rw [HE2.out]
            exact Did.of HK.out HB2.out rfl
          · by_cases q2 : 1099511627776 < sub
            · clear hbad
              go_wp2_with fail
              go_ret
              rw [HE2.out]
              exact Did.of HK.out HB2.out rfl
            · by_cases q3 : at_ < 0
              · clear hbad
                go_wp2_with fail
                go_ret
                rw [HE2.out]
                exact Did.of HK.out HB2.out rfl
              · have q4 : 1099511627776 < at_ := by omega
                clear hbad
                go_wp2_with fail
                go_ret
                rw [HE2.out]
                exact Did.of HK.out HB2.out rfl
        · have HE2 : Hid (addG (ys.map (·.1)) k parts sub at_ = (0, ys.map (·.1) ++ [newG k parts sub at_])) := by show _ = _; rw [HE.out, if_neg h3, if_neg hbad]
          have q1 : ¬ sub < 1 := by omega
          have q2 : ¬ 1099511627776 < sub := by omega
          have q3 : ¬ at_ < 0 := by omega
          have q4 : ¬ 1099511627776 < at_ := by omega
          obtain ⟨n, rfl⟩ : ∃ n : Nat, parts = n := ⟨parts.toNat, by omega⟩
          have hmk := run_make_row' (P := Try.prog) 43 3 (.int .i64 0) 8 Try.underlying43 infoInt rfl .i64 .i64 n (by omega) (by omega)
          have HRp : Hid (∀ (V : World) (g c : Nat), V.cell? ⟨g, 0, none⟩ = some (.int .i64 at_) → Calls Try.prog 66 #[.slice (some ⟨g, 0, none⟩) 1 c, .int .i64 (n : Int)] V fun e w' => e = .returned (.slice (some ⟨V.heap.size, 0, none⟩) n n) ∧ IRow w' V.heap.size (List.replicate n at_) ∧ Below V.heap.size V w') := fun V g c h => Repeat_any h (by omega) (by omega)
          clear HE h3 hbad
          have l01 : (w2.heap.size < w2.heap.size + 1) = True := by simp only [eq_iff_iff, iff_true]; omega
          have l02 : (w2.heap.size < w2.heap.size + 1 + 1) = True := by simp only [eq_iff_iff, iff_true]; omega
          have l03 : (w2.heap.size < w2.heap.size + 1 + 1 + 1) = True := by simp only [eq_iff_iff, iff_true]; omega
          have l11 : (w2.heap.size + 1 < w2.heap.size + 1) = False := by simp only [eq_iff_iff, iff_false]; omega
          have l12 : (w2.heap.size + 1 < w2.heap.size + 1 + 1) = True := by simp only [eq_iff_iff, iff_true]; omega
          have l13 : (w2.heap.size + 1 < w2.heap.size + 1 + 1 + 1) = True := by simp only [eq_iff_iff, iff_true]; omega
          have l21 : (w2.heap.size + 1 + 1 < w2.heap.size + 1) = False := by simp only [eq_iff_iff, iff_false]; omega
          have l22 : (w2.heap.size + 1 + 1 < w2.heap.size + 1 + 1) = False := by simp only [eq_iff_iff, iff_false]; omega
          have l23 : (w2.heap.size + 1 + 1 < w2.heap.size + 1 + 1 + 1) = True := by simp only [eq_iff_iff, iff_true]; omega
          go_upto_region 13 with fail
          go_cut [14] from 55 (fun v wx => ∃ β go ga : Nat, v = .pointer (some ⟨β, 0, none⟩) ∧ Hid (AddX w2 wx β go ga n k sub at_))
          case first =>
            clear b0
            go_region_law (go_simp; (with_reducible refine (HRp.out _ _ _ (by go_simp)).mono ?_); rintro e w3 ⟨rfl, hr3, hb3⟩; have hs := hr3.lt; (try simp at hs); have hs1 := Nat.lt_of_succ_lt hs; (try have hs2 := Nat.lt_of_succ_lt hs1); have a0 := fun (o : Nat) h => hb3.cell (p := ⟨w2.heap.size, o, none⟩) h; have f0 := fun (o : Nat) h => hb3.frozen (p := ⟨w2.heap.size, o, none⟩) h; (try simp [l01, l02, l03, l11, l12, l13, l21, l22, l23] at a0); (try simp [l01, l02, l03, l11, l12, l13, l21, l22, l23] at f0); have e0 := fun (X : Obj) (o : Nat) h => alloc_old w3 X w2.heap.size o h; have g0 := fun (X : Obj) (o : Nat) h => alloc_fz w3 X w2.heap.size o h; have a1 := fun (o : Nat) h => hb3.cell (p := ⟨w2.heap.size + 1, o, none⟩) h; have f1 := fun (o : Nat) h => hb3.frozen (p := ⟨w2.heap.size + 1, o, none⟩) h; (try simp [l01, l02, l03, l11, l12, l13, l21, l22, l23] at a1); (try simp [l01, l02, l03, l11, l12, l13, l21, l22, l23] at f1); have e1 := fun (X : Obj) (o : Nat) h => alloc_old w3 X (w2.heap.size + 1) o h; have g1 := fun (X : Obj) (o : Nat) h => alloc_fz w3 X (w2.heap.size + 1) o h; have a2 := fun (o : Nat) h => hb3.cell (p := ⟨w2.heap.size + 1 + 1, o, none⟩) h; have f2 := fun (o : Nat) h => hb3.frozen (p := ⟨w2.heap.size + 1 + 1, o, none⟩) h; (try simp [l01, l02, l03, l11, l12, l13, l21, l22, l23] at a2); (try simp [l01, l02, l03, l11, l12, l13, l21, l22, l23] at f2); have e2 := fun (X : Obj) (o : Nat) h => alloc_old w3 X (w2.heap.size + 1 + 1) o h; have g2 := fun (X : Obj) (o : Nat) h => alloc_fz w3 X (w2.heap.size + 1 + 1) o h)
            all_goals
              go_wp2_with fail
              go_meet
              apply add_meet rfl
              · go_simp; (try rfl)
              · go_simp; (try rfl)
              · go_simp
              · go_simp
              · go_simp
              · go_simp
              · go_simp
              · repeat (first | with_reducible exact ir_eq hr3 (by simp; done) | with_reducible exact ir_made (by simp; done) | with_reducible refine ir_alloc ?_ | with_reducible refine ir_drew ?_ | (with_reducible refine ir_set ?_ ?side; case side => omega) | with_reducible refine IRow.below ?_ hb3)
              · repeat (first | with_reducible exact ir_eq hr3 (by simp; done) | with_reducible exact ir_made (by simp; done) | with_reducible refine ir_alloc ?_ | with_reducible refine ir_drew ?_ | (with_reducible refine ir_set ?_ ?side; case side => omega) | with_reducible refine IRow.below ?_ hb3)
              · repeat (first | with_reducible exact Below.refl _ _ | with_reducible refine bl_alloc ?_ | with_reducible refine bl_drew ?_ | (with_reducible refine bl_set ?_ ?side; case side => (first | exact Nat.le_refl _ | omega)) | with_reducible refine bl_trans ?_ hb3)
              · omega
              · omega
              · omega
          case rest =>
            obtain ⟨β, go, ga, rfl, HX⟩ := hcut
            rename_i wc
            have hGc := HG2.out.below HX.out.hb
            have HGC := Lib.hid hGc
            have b0 := hGc.box.cells 0 _ rfl
            have fz := hGc.box.fz 0
            have c0 := HX.out.c0
            have c1 := HX.out.c1
            have c2 := HX.out.c2
            have c3 := HX.out.c3
            have c4 := HX.out.c4
            have c5 := HX.out.c5
            have c6 := HX.out.c6
            unfold Sl.v at b0
            have bA := fun (X : Obj) => (alloc_old wc X b 0 hGc.box.lt).trans b0
            have fA := fun (X : Obj) => (alloc_fz wc X b 0 hGc.box.lt).trans fz
            have HN := Lib.hid hlen
            have HROW := Lib.hid (hGc.list.row (B := 0) (fun _ _ => Nat.zero_le _))
            have HBX : Hid (∀ w5 : World, wc.grownBy w5 (Value.slice s.a ys.length s.c).ownBlock → DC w5 b [s.v, .bool true]) := fun w5 hgr => by
              refine hGc.box.keep hgr.size (hgr.block b hGc.box.lt fun e => ?_)
              have hnd := hGc.nd
              rw [hGc.fp] at hnd
              rw [← hn] at e
              exact (List.nodup_cons.1 hnd).1 (List.mem_append.2 (.inl (ob_blk (s := s) e)))
            have HFIN : Hid (∀ (w5 : World) (g5 c5 : Nat), w5.ownsRow 0 45 7 (.slice (some ⟨g5, 0, none⟩) (ys.length + 1) c5) (ys.length + 1) (giL.all ys ++ [.string k, .int .i64 sub, .int .i64 0, .int .i64 1, .slice none 0 0, .slice (some ⟨go, 0, none⟩) n n, .slice (some ⟨ga, 0, none⟩) n n]) → wc.grownBy w5 (Value.slice s.a ys.length s.c).ownBlock → ((Value.slice s.a ys.length s.c).ownBlock = some g5 ∨ wc.heap.size ≤ g5) → Did w B b L (addG (ys.map (·.1)) k n sub at_).2 (.int .i64 (addG (ys.map (·.1)) k n sub at_).1) (.returned (.int .i64 0)) (w5.setCell ⟨b, 0, none⟩ (.slice (some ⟨g5, 0, none⟩) (ys.length + 1) c5))) := fun w5 g5 c5 h1 h2 h3 => by
              obtain ⟨L', hL1, hL2⟩ := add_fin HG2.out HX.out (Nat.le_trans hB HB2.out.size) (by omega) h1 (by unfold Sl.v; rw [hn]; exact h2) (by unfold Sl.v; rw [hn]; exact h3)
              rw [HE2.out]
              exact ⟨L', rfl, ⟨_, _, hL1, by simp⟩, (Ext.of_below HB2.out).trans hL2⟩
            clear hGc HG2 HRp hmk
            unfold Sl.v at HROW
            rw [hn] at HROW
            go_upto_region 14 with fail
            go_region_law (refine step_pushI (w0 := wc.drew) (by rfl) _ _ 28 45 _ 7 112 (by rfl) Try.underlying28 infoG (by rfl) (by decide) 0 ys.length _ (giL.all ys) (by rfl) HROW.out #[.string k, .int .i64 sub, .int .i64 0, .int .i64 1, .slice none 0 0, .slice (some ⟨go, 0, none⟩) n n, .slice (some ⟨ga, 0, none⟩) n n] (by rfl) (by simp [Value.oneCell']) (by rfl) (by have := HN.out; omega) (by decide) (Nat.zero_le _) ?_; intro g5 c5 w5 hown hgrow hat hlt; have hgr5 : wc.grownBy w5 (Value.slice s.a ys.length s.c).ownBlock := ⟨hgrow.os, hgrow.tape, hgrow.output, hgrow.size, hgrow.block⟩; have D5 := HBX.out w5 hgr5; have b5 := D5.cells 0 _ rfl; have z5 := D5.fz 0; unfold Sl.v at b5)
            all_goals
              go_wp2_with fail
              go_ret
              exact HFIN.out w5 g5 c5 hown hgr5 hat
  · rw [hc]
    have HE : Hid (addG (ys.map (·.1)) k parts sub at_ = (220, ys.map (·.1))) := by show _ = _; unfold addG; rw [if_pos (by rw [hc]; decide), hc]
    clear hc
    go_wp2_with fail
    go_ret
    rw [HE.out]
    exact Did.of HK.out HB.out rfl
end Go.Proofs.Ytdgnjalbpiciiaa
