/-
  K24 K25 K26 K27 K28 K29 in one text.
-/
import Derived.Test.YtdfjnpnkfjcpcaaKRA
import Derived.Test.YtdfjnpnkfjcpcaaWC

/- K24 -/
namespace Go.Proofs.Ytdfjnpnkfjcpcaa
set_option linter.unusedVariables false
set_option linter.unusedSimpArgs false
open Go.RowKit

def opB (o : Kop) : List Int := Wi.num o.key.size ++ Wi.sb o.key ++ Wi.num (if o.has then 1 else 0) ++ Wi.num o.val.size ++ Wi.sb o.val
def opsB (l : List Kop) : List Int := (l.map opB).flatten
theorem opsB_step {l : List Kop} {i : Nat} {o : Kop} (h : l[i]? = some o) : opsB (l.take (i + 1)) = opsB (l.take i) ++ opB o := by
  unfold opsB
  rw [List.take_add_one, h]; simp
/-- Operations whose bytes may be walked. -/
def Light (l : List Kop) : Prop := ∀ o ∈ l, o.key.size ≤ 32768 ∧ o.val.size ≤ 32768
theorem opB_le {o : Kop} (h : o.key.size ≤ 32768 ∧ o.val.size ≤ 32768) : (opB o).length ≤ 65600 := by
  unfold opB
  have h1 := Wi.num_le o.key.size (by omega)
  have h2 := Wi.num_le o.val.size (by omega)
  have h3 : (Wi.num (if o.has then 1 else 0)).length ≤ 9 := Wi.num_le _ (by split <;> omega)
  simp only [List.length_append, Wi.sb_length]
  omega
theorem opsB_le : ∀ (l : List Kop), Light l → (opsB l).length ≤ 65600 * l.length
  | [], _ => by simp [opsB]
  | o :: l, h => by
    have h1 := opB_le (h o (by simp))
    have h2 := opsB_le l (fun x hx => h x (by simp [hx]))
    have e : opsB (o :: l) = opB o ++ opsB l := by simp [opsB]
    rw [e, List.length_append, List.length_cons]; omega
theorem opsB_take {l : List Kop} (h : Light l) (i : Nat) : (opsB (l.take i)).length ≤ 65600 * i := by
  have h1 := opsB_le (l.take i) (fun x hx => h x (List.mem_of_mem_take hx))
  have h2 : (l.take i).length ≤ i := List.length_take_le _ _
  exact Nat.le_trans h1 (Nat.mul_le_mul_left _ h2)

theorem put_len1 {W : World} {B n : Nat} {v : Value} {zs : List Int} {s : ByteArray} {i : Nat} (h : W.ownsRow B 5 1 v n ((zs ++ Wi.num s.size ++ Wi.sb s).map (Value.int .u8))) (hz : zs.length ≤ 1000009 + 65600 * i) (hs : s.size ≤ 32768) : Hid (n ≤ 1000009 + 65600 * i + 32777) := by
  show _ ≤ _
  have h1 := Wi.owns_len h
  have h2 := Wi.num_le s.size (by omega)
  simp only [List.length_append, Wi.sb_length] at h1
  omega
theorem put_len3 {W : World} {B n m : Nat} {v : Value} {zs : List Int} {b : Bool} (h : W.ownsRow B 5 1 v n ((zs ++ Wi.num (if b then 1 else 0)).map (Value.int .u8))) (hm : zs.length = m) : Hid (n ≤ m + 9) := by
  show _ ≤ _
  have h1 := Wi.owns_len h
  have h3 : (Wi.num (if b then 1 else 0)).length ≤ 9 := Wi.num_le _ (by split <;> omega)
  simp only [List.length_append] at h1
  omega
theorem put_len2 {W : World} {B n : Nat} {v : Value} {zs : List Int} {b : Bool} (h : W.ownsRow B 5 1 v n ((zs ++ Wi.num (if b then 1 else 0)).map (Value.int .u8))) : n ≤ zs.length + 9 := by
  have h1 := Wi.owns_len h
  have h3 : (Wi.num (if b then 1 else 0)).length ≤ 9 := Wi.num_le _ (by split <;> omega)
  simp only [List.length_append] at h1
  omega

set_option maxRecDepth 100000 in
set_option maxHeartbeats 6400000 in
theorem RPut_any {w : World} {p : Option Addr} {n c : Nat} {xs : List Int} {v : Value} {l : List Kop} (hx : xs.length = n) (hb : Lib.BytesIn w p n xs) (hp : p = none → n = 0 ∧ c = 0) (hn : n ≤ 1000000) (ho : opL.In w v l) (hL : Light l) (hl : l.length ≤ 32768) :
    Calls Try.prog 40 #[.slice p n c, v] w (Wi.Made w.heap.size w (xs ++ Wi.num l.length ++ opsB l)) := by
  have HN := Lib.hid (Wi.RNumber_any p n c xs (l.length : Nat) w hx hb hp (by omega) (by omega))
  have HX := Lib.hid hx
  have HD := Lib.hid ho
  have HL := Lib.hid hL
  obtain ⟨a, c', rfl, _, _⟩ := ho.slice
  clear hx hb hp ho hL
  go_enter Try.func40, Try.ntmps40
  go_wp2_with fail
  go_fit HN.out
  rintro e w1 ⟨g1, n1, c1, rfl, hown1, hb1⟩
  have HO1 : Hid (w1.ownsRow w.heap.size 5 1 (.slice (some ⟨g1, 0, none⟩) n1 c1) n1 ((xs ++ Wi.num l.length ++ opsB (l.take 0)).map (Value.int .u8))) := by
    show World.ownsRow _ _ _ _ _ _ _
    have h := hown1
    simp only [Int.toNat_natCast] at h
    simpa [opsB] using h
  have HB1 := Lib.hid hb1
  have HNm : Hid ((xs ++ Wi.num l.length).length ≤ 1000009) := by show _ ≤ _; rw [List.length_append, HX.out]; have := Wi.num_le l.length (by omega); omega
  clear hown1 hb1 HN HX
  generalize xs ++ Wi.num l.length = ys at *
  go_wp2_with fail
  go_loopw [0, 13] (fun u v wr => ∃ (i g n' c' : Nat), v = .int .i64 i ∧ u = .slice (some ⟨g, 0, none⟩) n' c' ∧ i ≤ l.length ∧ Hid (wr.ownsRow w.heap.size 5 1 (.slice (some ⟨g, 0, none⟩) n' c') n' ((ys ++ opsB (l.take i)).map (Value.int .u8))) ∧ Hid (Below w.heap.size w wr))
    (fun _ v _ => l.length - (intOf v).toNat)
  case atStart => exact ⟨0, g1, n1, c1, rfl, rfl, Nat.zero_le _, HO1, HB1⟩
  case round =>
    obtain ⟨i, g0, n0, k0, rfl, rfl, hin, hO, hB⟩ := hrel
    have ei : IntKind.i64.wrap ((i : Int) + 1) = (i : Int) + 1 := IntWalk.i64_in _ (by omega)
    by_cases hlt : i < l.length
    · obtain ⟨o, ho⟩ : ∃ o, l[i]? = some o := ⟨l[i], List.getElem?_eq_getElem hlt⟩
      obtain ⟨g, off, rfl, hle, hcell⟩ := HD.out.cells ho
      have c0 : wr.cell? ⟨g, off + i * 3, none⟩ = some (.string o.key) := lay_later hB.out (hcell 0 _ rfl)
      have c1 : wr.cell? ⟨g, off + i * 3 + 1, none⟩ = some (.bool o.has) := lay_later hB.out (hcell 1 _ rfl)
      have c2 : wr.cell? ⟨g, off + i * 3 + 2, none⟩ = some (.string o.val) := lay_later hB.out (hcell 2 _ rfl)
      have hI1 : (i : Int) < ((l.length : Nat) : Int) := by omega
      have hI0 : (0 : Int) ≤ (i : Int) := by omega
      have hlo := HL.out o (List.mem_of_getElem? ho)
      have hA := lay_alloc wr (.cells #[.string o.key, .bool o.has, .string o.val] 37)
      have d0 := kd_boxS wr #[.string o.key, .bool o.has, .string o.val] 37 0 _ rfl
      have d1 := kd_boxS wr #[.string o.key, .bool o.has, .string o.val] 37 1 _ rfl
      have d2 := kd_boxS wr #[.string o.key, .bool o.has, .string o.val] 37 2 _ rfl
      have HBA := Lib.hid (lay_drew (below_of hB.out hA))
      have HSt := Lib.hid (opsB_step ho)
      have hln : (ys ++ opsB (l.take i)).length ≤ 1000009 + 65600 * i := by rw [List.length_append]; have := HNm.out; have := opsB_take HL.out i; omega
      have hn0 := Wi.owns_len hO.out
      have hB0 := Wi.owns_at hO.out
      have HT1 := Lib.hid (Wi.RText_any (some ⟨g0, 0, none⟩) n0 k0 _ o.key (wr.alloc (.cells #[.string o.key, .bool o.has, .string o.val] 37)).drew hn0 (Wi.later (Wi.owns_in hO.out) (lay_drew hA)) (fun e => by cases e) (by omega))
      have HZ1 : Hid (n0 ≤ 1000009 + 65600 * i) := by show _ ≤ _; omega
      have HSz := Lib.hid hlo
      have hZB : w.heap.size ≤ (wr.alloc (.cells #[.string o.key, .bool o.has, .string o.val] 37)).drew.heap.size := HBA.out.size
      have HZB := Lib.hid hZB
      have hn0' := hn0
      clear hcell hle ho hA hO hB hlo hln hn0 hB0 hZB
      generalize hzs : ys ++ opsB (l.take i) = zs at *
      have HZs := Lib.hid hzs
      have HT1Len : Hid (zs.length ≤ 1000009 + 65600 * i) := by show _ ≤ _; rw [hn0']; exact HZ1.out
      clear hzs hn0'
      go_wp2_with fail
      go_region_held3 (fun V => V.cell? ⟨wr.heap.size, 0, none⟩ = some (.string o.key) ∧ V.cell? ⟨wr.heap.size, 1, none⟩ = some (.bool o.has) ∧ V.cell? ⟨wr.heap.size, 2, none⟩ = some (.string o.val)) (go_keep)
        (first
          | (go_at_call 67; (with_reducible refine HT1.out.mono ?_); rintro e w2 ⟨g2, n2, c2', rfl, hown2, hb2⟩; have e0 := lay_later (w := (wr.alloc (.cells #[.string o.key, .bool o.has, .string o.val] 37)).drew) hb2 d0; have e1 := lay_later (w := (wr.alloc (.cells #[.string o.key, .bool o.has, .string o.val] 37)).drew) hb2 d1; have e2 := lay_later (w := (wr.alloc (.cells #[.string o.key, .bool o.has, .string o.val] 37)).drew) hb2 d2; have HB2 := Lib.hid hb2; have HLe2 := Lib.hid (Wi.owns_len hown2); have HL2 : Hid (n2 ≤ 1000009 + 65600 * i + 32777) := put_len1 hown2 HT1Len.out HSz.out.1; have HF2 := Lib.hid (Wi.RFlag_any (some ⟨g2, 0, none⟩) n2 c2' _ o.has w2 (Wi.owns_len hown2) (Wi.owns_in hown2) (fun e => by cases e) (by have := HL2.out; omega)); clear hown2 hb2)
          | (go_at_call 68; (with_reducible refine HF2.out.mono ?_); rintro e w3 ⟨g3, n3, c3', rfl, hown3, hb3⟩; have f0 := lay_later hb3 e0; have f1 := lay_later hb3 e1; have f2 := lay_later hb3 e2; have HB3 := Lib.hid (below_of (w := (wr.alloc (.cells #[.string o.key, .bool o.has, .string o.val] 37)).drew) HB2.out hb3); have HL3 : Hid (n3 ≤ n2 + 9) := put_len3 hown3 HLe2.out; have HT3 := Lib.hid (Wi.RText_any (some ⟨g3, 0, none⟩) n3 c3' _ o.val w3 (Wi.owns_len hown3) (Wi.owns_in hown3) (fun e => by cases e) (by have := HL3.out; have := HL2.out; have := HSz.out.2; omega)); clear hown3 hb3)
          | (go_at_call 67; (with_reducible refine HT3.out.mono ?_); rintro e w4 ⟨g4, n4, c4', rfl, hown4, hb4⟩; have h0 := lay_later hb4 f0; have h1 := lay_later hb4 f1; have h2 := lay_later hb4 f2; have HO4 := Lib.hid hown4; have HB4 := Lib.hid (below_of (w := (wr.alloc (.cells #[.string o.key, .bool o.has, .string o.val] 37)).drew) HB3.out hb4); clear hown4 hb4))
      all_goals
        go_wp2_with fail
        refine ⟨⟨i + 1, g4, n4, c4', by simp, rfl, hlt, ?_, ?_⟩, by show l.length - ((i : Int) + 1).toNat < l.length - ((i : Int)).toNat; omega⟩
        · show World.ownsRow _ _ _ _ _ _ _
          rw [HSt.out]
          have h := Wi.owns_weaken (B := w.heap.size) HO4.out (Nat.le_trans HZB.out HB3.out.size)
          have e : zs ++ Wi.num o.key.size ++ Wi.sb o.key ++ Wi.num (if o.has then 1 else 0) ++ Wi.num o.val.size ++ Wi.sb o.val = ys ++ (opsB (l.take i) ++ opB o) := by
            rw [← HZs.out]; unfold opB; simp only [List.append_assoc]
          rw [← e]; exact h
        · show Below _ _ _
          exact HBA.out.trans (HB4.out.mono HZB.out)
    · obtain rfl : i = l.length := by omega
      have hO' := hO.out
      rw [List.take_length] at hO'
      have HO := Lib.hid hO'
      clear hO hO'
      go_wp2_with fail
      go_ret
      exact ⟨g0, n0, k0, rfl, HO.out, hB.out⟩
end Go.Proofs.Ytdfjnpnkfjcpcaa

/- K25 -/
namespace Go.Proofs.Ytdfjnpnkfjcpcaa
set_option linter.unusedVariables false
set_option linter.unusedSimpArgs false
open Go.RowKit

theorem own_later {w0 w1 : World} {B n s : Nat} {E : TypeId} {v : Value} {xs : List Value} (h : w0.ownsRow B E s v n xs) (hb : Below w0.heap.size w0 w1) : w1.ownsRow B E s v n xs :=
  h.kept (row := none) (grown_of_below hb _) (by cases v.ownBlock <;> simp)
/-- 'append' of bytes onto a row of its own, as one step of a region that draws. -/
theorem step_pushv {w : World} {ops : Array Oper} {o : Oper} {a : Act} {K : Act → World → Prop} {Q : Exit → Act → World → Prop} {E' : Prop} (hgd : o.guard = none) (s x : Operand)
    (ho : o.op = .call { callee := .builtin .append, args := #[s, x], argTypes := #[61, 61] })
    (B n : Nat) (v : Value) (xs : List Int) (hs : a.eval s = v) (hown : w.ownsRow B 5 1 v n (xs.map (Value.int .u8)))
    (g m c : Nat) (news : List Int) (hx : a.eval x = .slice (some ⟨g, 0, none⟩) m c) (hin : Lib.BytesIn w (some ⟨g, 0, none⟩) m news) (hl : news.length = m) (hm : 0 < m)
    (hbytes : n + m ≤ 140737488355328) (hB : B ≤ w.heap.size)
    (h : ∀ g' c' w', w'.ownsRow B 5 1 (.slice (some ⟨g', 0, none⟩) (n + m) c') (n + m) ((xs ++ news).map (Value.int .u8)) → w.grownBy w' v.ownBlock → K (a.put o.dst (.slice (some ⟨g', 0, none⟩) (n + m) c')) w') :
    if Region.wanted o (yielded ops a.tmps) = true then Oper.wp Try.prog o a w K Q else E' := by
  have hw : Region.wanted o (yielded ops a.tmps) = true := by simp [Region.wanted, hgd]
  rw [if_pos hw]
  obtain ⟨i0, hi, hz0, hz1, hz2⟩ := info_parts Wi.Try.infoU8
  obtain ⟨v', w', hr, h2, h3, h4, h5⟩ := run_append_own_at (P := Try.prog) w B 61 o.type 5 i0 (.int .u8 0) 1 1 Try.underlying61 hi hz0 hz1 hz2 rfl (by decide) v n (xs.map (Value.int .u8)) hown ⟨g, 0, none⟩ m c (news.map (Value.int .u8)) (by simp [hl]) (Wi.news_of hin hl _ rfl) (Wi.oneU8 _) (by unfold maxLen; omega) (by omega) hB
  obtain ⟨g', c', rfl⟩ := Wi.owns_open h2 (fun e => by have := (h4.1 e).2; omega)
  unfold Oper.wp execOp
  simp only [ho, resolve, invoke, builtin, Sem.run_bind, Sem.run_pure, Result.andThen_ok, List.map_toArray, List.map_cons, List.map_nil, hs, hx, hr]
  exact h _ _ _ (by simpa using h2) h3
theorem put_len0 {W : World} {B n : Nat} {v : Value} {s : ByteArray} (h : W.ownsRow B 5 1 v n (([] ++ Wi.num s.size ++ Wi.sb s).map (Value.int .u8))) (hs : s.size ≤ 32768) : Hid (n ≤ 32777) := by
  show _ ≤ _
  have h1 := Wi.owns_len h
  have h2 := Wi.num_le s.size (by omega)
  simp only [List.length_append, Wi.sb_length, List.length_nil] at h1
  omega
theorem put_pos {W : World} {B n : Nat} {v : Value} {zs : List Int} {s : ByteArray} (h : W.ownsRow B 5 1 v n ((zs ++ Wi.num s.size ++ Wi.sb s).map (Value.int .u8))) : 0 < n := by
  have h1 := Wi.owns_len h
  have h2 : 0 < (Wi.num s.size).length := by unfold Wi.num; simp
  simp only [List.length_append] at h1
  omega
theorem put_len4 {W : World} {B n m k i n0 : Nat} {v : Value} {zs : List Int} {s : ByteArray} (h : W.ownsRow B 5 1 v n ((zs ++ Wi.num s.size ++ Wi.sb s).map (Value.int .u8))) (hz : zs.length = m) (h3 : m ≤ k + 9) (h2 : k ≤ 32777) (h0 : n0 ≤ 1000009 + 65600 * i) (hs : s.size ≤ 32768) (hi : i ≤ 32768) : Hid (n0 + n ≤ 140737488355328) := by
  show _ ≤ _
  have h1 := Wi.owns_len h
  have h4 := Wi.num_le s.size (by omega)
  simp only [List.length_append, Wi.sb_length] at h1
  omega
theorem put_below {w W w4 w5 : World} {g n c s : Nat} {E : TypeId} {xs : List Value} (h1 : Below w.heap.size w W) (h2 : Below W.heap.size W w4) (h3 : w4.grownBy w5 (Value.slice (some ⟨g, 0, none⟩) n c).ownBlock) (h4 : W.ownsRow w.heap.size E s (.slice (some ⟨g, 0, none⟩) n c) n xs) : Below w.heap.size w w5 := by
  have h5 := below_of h1 h2
  have hg := (h4.lt g rfl).1
  exact h5.trans ⟨h3.os, h3.tape, h3.output, h3.size, fun k hk => h3.block k (Nat.lt_of_lt_of_le hk h5.size) (fun e => by simp [Value.ownBlock] at e; omega)⟩

set_option maxRecDepth 100000 in
set_option maxHeartbeats 6400000 in
theorem KPut_any {w : World} {p : Option Addr} {n c : Nat} {xs : List Int} {v : Value} {l : List Kop} (hx : xs.length = n) (hb : Lib.BytesIn w p n xs) (hp : p = none → n = 0 ∧ c = 0) (hn : n ≤ 1000000) (ho : opL.In w v l) (hL : Light l) (hl : l.length ≤ 32768) :
    Calls Try.prog 38 #[.slice p n c, v] w (Wi.Made w.heap.size w (xs ++ Wi.num l.length ++ opsB l)) := by
  have HN := Lib.hid (Wi.Number_any p n c xs (l.length : Nat) w hx hb hp (by omega) (by omega))
  have HX := Lib.hid hx
  have HD := Lib.hid ho
  have HL := Lib.hid hL
  obtain ⟨a, c', rfl, _, _⟩ := ho.slice
  clear hx hb hp ho hL
  go_enter Try.func38, Try.ntmps38
  go_wp2_with fail
  go_fit HN.out
  rintro e w1 ⟨g1, n1, c1, rfl, hown1, hb1⟩
  have HO1 : Hid (w1.ownsRow w.heap.size 5 1 (.slice (some ⟨g1, 0, none⟩) n1 c1) n1 ((xs ++ Wi.num l.length ++ opsB (l.take 0)).map (Value.int .u8))) := by
    show World.ownsRow _ _ _ _ _ _ _
    have h := hown1
    simp only [Int.toNat_natCast] at h
    simpa [opsB] using h
  have HB1 := Lib.hid hb1
  have HNm : Hid ((xs ++ Wi.num l.length).length ≤ 1000009) := by show _ ≤ _; rw [List.length_append, HX.out]; have := Wi.num_le l.length (by omega); omega
  clear hown1 hb1 HN HX
  generalize xs ++ Wi.num l.length = ys at *
  go_wp2_with fail
  go_loopw [5, 14] (fun u v wr => ∃ (i g n' c' : Nat), v = .int .i64 i ∧ u = .slice (some ⟨g, 0, none⟩) n' c' ∧ i ≤ l.length ∧ Hid (wr.ownsRow w.heap.size 5 1 (.slice (some ⟨g, 0, none⟩) n' c') n' ((ys ++ opsB (l.take i)).map (Value.int .u8))) ∧ Hid (Below w.heap.size w wr))
    (fun _ v _ => l.length - (intOf v).toNat)
  case atStart => exact ⟨0, g1, n1, c1, rfl, rfl, Nat.zero_le _, HO1, HB1⟩
  case round =>
    obtain ⟨i, g0, n0, k0, rfl, rfl, hin, hO, hB⟩ := hrel
    have ei : IntKind.i64.wrap ((i : Int) + 1) = (i : Int) + 1 := IntWalk.i64_in _ (by omega)
    by_cases hlt : i < l.length
    · obtain ⟨o, ho⟩ : ∃ o, l[i]? = some o := ⟨l[i], List.getElem?_eq_getElem hlt⟩
      obtain ⟨g, off, rfl, hle, hcell⟩ := HD.out.cells ho
      have c0 : wr.cell? ⟨g, off + i * 3, none⟩ = some (.string o.key) := lay_later hB.out (hcell 0 _ rfl)
      have c1 : wr.cell? ⟨g, off + i * 3 + 1, none⟩ = some (.bool o.has) := lay_later hB.out (hcell 1 _ rfl)
      have c2 : wr.cell? ⟨g, off + i * 3 + 2, none⟩ = some (.string o.val) := lay_later hB.out (hcell 2 _ rfl)
      have hI1 : (i : Int) < ((l.length : Nat) : Int) := by omega
      have hI0 : (0 : Int) ≤ (i : Int) := by omega
      have hlo := HL.out o (List.mem_of_getElem? ho)
      have HIl : Hid (i ≤ 32768) := by show _ ≤ _; omega
      have hA := lay_alloc wr (.cells #[.string o.key, .bool o.has, .string o.val] 37)
      have d0 := kd_boxS wr #[.string o.key, .bool o.has, .string o.val] 37 0 _ rfl
      have d1 := kd_boxS wr #[.string o.key, .bool o.has, .string o.val] 37 1 _ rfl
      have d2 := kd_boxS wr #[.string o.key, .bool o.has, .string o.val] 37 2 _ rfl
      have HBA := Lib.hid (lay_drew (below_of hB.out hA))
      have HSt := Lib.hid (opsB_step ho)
      have hln : (ys ++ opsB (l.take i)).length ≤ 1000009 + 65600 * i := by rw [List.length_append]; have := HNm.out; have := opsB_take HL.out i; omega
      have hn0 := Wi.owns_len hO.out
      have hB0 := Wi.owns_at hO.out
      have HT1 := Lib.hid (Wi.Text_any none 0 0 [] o.key (wr.alloc (.cells #[.string o.key, .bool o.has, .string o.val] 37)).drew rfl (fun h => absurd h (by omega)) (fun _ => ⟨rfl, rfl⟩) (by omega))
      have HZ1 : Hid (n0 ≤ 1000009 + 65600 * i) := by show _ ≤ _; omega
      have HSz := Lib.hid hlo
      have hZB : w.heap.size ≤ (wr.alloc (.cells #[.string o.key, .bool o.has, .string o.val] 37)).drew.heap.size := HBA.out.size
      have HZB := Lib.hid hZB
      have HO0 := Lib.hid (show (wr.alloc (.cells #[.string o.key, .bool o.has, .string o.val] 37)).drew.ownsRow w.heap.size 5 1 (.slice (some ⟨g0, 0, none⟩) n0 k0) n0 _ from own_later hO.out (lay_drew hA))
      clear hcell hle ho hA hO hB hlo hln hn0 hB0 hZB
      generalize hzs : ys ++ opsB (l.take i) = zs at *
      have HZs := Lib.hid hzs
      clear hzs
      go_wp2_with fail
      go_region_law (first
          | (refine step_pushv (by rfl) _ _ (by rfl) w.heap.size n0 _ zs (by rfl) HO4.out g4 n4 c4' _ (by rfl) HI4.out HL4.out HP4.out HBd.out HW4.out ?_; intro g5 c5 w5 hown5 hgrow5; have HO5 := Lib.hid hown5; have HG5 := Lib.hid hgrow5; clear hown5 hgrow5)
          | (go_simp; go_at_call 64; (with_reducible refine HT1.out.mono ?_); rintro e w2 ⟨g2, n2, c2', rfl, hown2, hb2⟩; have e0 := lay_later (w := (wr.alloc (.cells #[.string o.key, .bool o.has, .string o.val] 37)).drew) hb2 d0; have e1 := lay_later (w := (wr.alloc (.cells #[.string o.key, .bool o.has, .string o.val] 37)).drew) hb2 d1; have e2 := lay_later (w := (wr.alloc (.cells #[.string o.key, .bool o.has, .string o.val] 37)).drew) hb2 d2; have HB2 := Lib.hid hb2; have HLe2 := Lib.hid (Wi.owns_len hown2); have HL2 : Hid (n2 ≤ 32777) := put_len0 hown2 HSz.out.1; have HF2 := Lib.hid (Wi.Flag_any (some ⟨g2, 0, none⟩) n2 c2' _ o.has w2 (Wi.owns_len hown2) (Wi.owns_in hown2) (fun e => by cases e) (by have := HL2.out; omega)); clear hown2 hb2)
          | (go_simp; go_at_call 65; (with_reducible refine HF2.out.mono ?_); rintro e w3 ⟨g3, n3, c3', rfl, hown3, hb3⟩; have f0 := lay_later hb3 e0; have f1 := lay_later hb3 e1; have f2 := lay_later hb3 e2; have HB3 := Lib.hid (below_of (w := (wr.alloc (.cells #[.string o.key, .bool o.has, .string o.val] 37)).drew) HB2.out hb3); have HL3 : Hid (n3 ≤ n2 + 9) := put_len3 hown3 HLe2.out; have HLe3 := Lib.hid (Wi.owns_len hown3); have HT3 := Lib.hid (Wi.Text_any (some ⟨g3, 0, none⟩) n3 c3' _ o.val w3 (Wi.owns_len hown3) (Wi.owns_in hown3) (fun e => by cases e) (by have := HL3.out; have := HL2.out; have := HSz.out.2; omega)); clear hown3 hb3)
          | (go_simp; go_at_call 64; (with_reducible refine HT3.out.mono ?_); rintro e w4 ⟨g4, n4, c4', rfl, hown4, hb4⟩; have HB4 := Lib.hid (below_of (w := (wr.alloc (.cells #[.string o.key, .bool o.has, .string o.val] 37)).drew) HB3.out hb4); have HO4 := Lib.hid (own_later HO0.out HB4.out); have HI4 := Lib.hid (Wi.owns_in hown4); have HL4 := Lib.hid (Wi.owns_len hown4); have HP4 := Lib.hid (put_pos hown4); have HBd : Hid (n0 + n4 ≤ 140737488355328) := put_len4 hown4 HLe3.out HL3.out HL2.out HZ1.out HSz.out.2 HIl.out; have HW4 := Lib.hid (Nat.le_trans HZB.out HB4.out.size); clear hown4 hb4))
      all_goals
        go_wp2_with fail
        refine ⟨⟨i + 1, g5, n0 + n4, c5, by simp, rfl, hlt, ?_, ?_⟩, by show l.length - ((i : Int) + 1).toNat < l.length - ((i : Int)).toNat; omega⟩
        · show World.ownsRow _ _ _ _ _ _ _
          rw [HSt.out]
          have e : zs ++ ([] ++ Wi.num o.key.size ++ Wi.sb o.key ++ Wi.num (if o.has then 1 else 0) ++ Wi.num o.val.size ++ Wi.sb o.val) = ys ++ (opsB (l.take i) ++ opB o) := by
            rw [← HZs.out]; unfold opB; simp only [List.append_assoc, List.nil_append]
          rw [← e]; exact HO5.out
        · show Below _ _ _
          exact put_below HBA.out HB4.out HG5.out HO0.out
    · obtain rfl : i = l.length := by omega
      have hO' := hO.out
      rw [List.take_length] at hO'
      have HO := Lib.hid hO'
      clear hO hO'
      go_wp2_with fail
      go_ret
      exact ⟨g0, n0, k0, rfl, HO.out, hB.out⟩
end Go.Proofs.Ytdfjnpnkfjcpcaa

/- K26 -/
namespace Go.Proofs.Ytdfjnpnkfjcpcaa
set_option linter.unusedVariables false
set_option linter.unusedSimpArgs false
open Go.RowKit
open Wi

theorem numAt_on {xs : List Int} {n i N S : Nat} (hr : ∀ x ∈ xs, 0 ≤ x ∧ x < 256) (hl : xs.length = n) (hi : i ≤ n) (ht : numAt (xs.drop i) = (N, S, 0)) : 1 ≤ S ∧ i + S ≤ n := by
  have h := numAt_ok (xs.drop i) (fun x hx => hr x (List.mem_of_mem_drop hx)) (by rw [ht])
  rw [ht] at h
  simp only [List.length_drop, hl] at h
  omega
set_option maxHeartbeats 1600000 in
theorem text_step (xs : List Int) (n i : Nat) (err : Int) (most : Int) (hr : ∀ x ∈ xs, 0 ≤ x ∧ x < 256) (hl : xs.length = n) (hm0 : -9223372036854775808 ≤ most) (hm1 : most ≤ 9223372036854775807) (hi : i ≤ n) : ∃ (s : ByteArray) (i' : Nat) (err' : Int),
    RC 73 (fun q => #[q, .int .i64 most]) (.string s) n xs i err i' err' ∧
    XC 76 (fun q => #[q, .int .i64 most]) (.string s) n xs i err i' err' ∧ (i ≤ i' ∧ i' ≤ n ∧ (err' = 0 → err = 0 ∧ i < i')) := by
  by_cases he : err = 0
  · subst he
    obtain ⟨N, S, E, ht⟩ : ∃ N S E, numAt (xs.drop i) = (N, S, E) := ⟨_, _, _, rfl⟩
    obtain ⟨M, hM⟩ : ∃ M : Nat, max most 0 = (M : Int) := ⟨(max most 0).toNat, by omega⟩
    by_cases hE : E = 0
    · subst hE
      have hon := numAt_on hr hl hi ht
      by_cases h1 : 0 < (N : Int) ∧ most < (N : Int)
      · exact ⟨_, i, 4, fun w rb g cap h => Text_bad h most N S M 0 4 ht hM (.inl (by have := (numAt_size h N S ht).1; omega)) (by have := numAt_ok (xs.drop i) (fun x hx => h.rng x (List.mem_of_mem_drop hx)) (by rw [ht]); rw [ht] at this; exact this.2.1) (.inr (.inl ⟨rfl, by omega, rfl⟩)), fun w xb p c h => XText_long h most N S ht h1.1 h1.2, Nat.le_refl _, hi, fun e => by cases e⟩
      by_cases h2 : i + S + N ≤ n
      · refine ⟨_, i + S + N, 0, fun w rb g cap h => Text_good h most N S ht (by omega) h2, fun w xb p c h => ?_, by omega, h2, fun _ => ⟨rfl, by omega⟩⟩
        by_cases h0 : 0 < (N : Int)
        · exact XText_ok h most N S ht h0 (fun hh => h1 ⟨h0, hh⟩) h2
        · obtain rfl : N = 0 := by omega
          by_cases hic : c = i + S
          · exact XText_full0 h most S ht hic
          · exact XText_ok0 h most 0 S ht (by omega) h2 hic
      · refine ⟨_, i, 2, fun w rb g cap h => Text_bad h most N S M 0 2 ht hM (.inl (by have := (numAt_size h N S ht).1; omega)) (by have := numAt_ok (xs.drop i) (fun x hx => h.rng x (List.mem_of_mem_drop hx)) (by rw [ht]); rw [ht] at this; exact this.2.1) (.inr (.inr ⟨rfl, by omega, by have := (numAt_size h N S ht).1; omega, rfl⟩)), fun w xb p c h => ?_, Nat.le_refl _, hi, fun e => by cases e⟩
        have hs := xs_ok h N S ht
        exact XText_short h most N S ht (by omega) (fun hh => h1 ⟨by omega, hh⟩) (by omega)
    · exact ⟨_, i, E, fun w rb g cap h => Text_bad h most N S M E E ht hM (.inr hE) (by have := numAt_err (xs.drop i); rw [ht] at this; rcases this with h | h; exact h; exact absurd h hE) (.inl ⟨hE, rfl⟩), fun w xb p c h => XText_bad h most N S E ht hE, Nat.le_refl _, hi, fun e => absurd e hE⟩
  · exact ⟨_, i, err, fun w rb g cap h => Text_err h most he, fun w xb p c h => XText_err h most he, Nat.le_refl _, hi, fun e => absurd e he⟩
theorem flag_step (xs : List Int) (n i : Nat) (err : Int) (hr : ∀ x ∈ xs, 0 ≤ x ∧ x < 256) (hl : xs.length = n) (hi : i ≤ n) : ∃ (r : Bool) (i' : Nat) (err' : Int),
    RC 74 (fun q => #[q]) (.bool r) n xs i err i' err' ∧
    XC 77 (fun q => #[q]) (.bool r) n xs i err i' err' ∧ (i ≤ i' ∧ i' ≤ n ∧ (err' = 0 → err = 0)) := by
  by_cases he : err = 0
  · subst he
    obtain ⟨N, S, E, ht⟩ : ∃ N S E, numAt (xs.drop i) = (N, S, E) := ⟨_, _, _, rfl⟩
    by_cases hE : E = 0
    · subst hE
      have hon := numAt_on hr hl hi ht
      by_cases h1 : 1 < N
      · exact ⟨false, i, 11, fun w rb g cap h => Flag_bad h N S 0 11 ht (.inr ⟨rfl, h1, rfl⟩), fun w xb p c h => XFlag_more h N S ht (by omega), Nat.le_refl _, hi, fun _ => rfl⟩
      · exact ⟨_, i + S, 0, fun w rb g cap h => Flag_ok h N S ht (by omega) _ rfl, fun w xb p c h => XFlag_ok h N S ht (by omega) _ rfl, by omega, hon.2, fun _ => rfl⟩
    · exact ⟨false, i, E, fun w rb g cap h => Flag_bad h N S E E ht (.inl ⟨hE, rfl⟩), fun w xb p c h => XFlag_bad h N S E ht hE, Nat.le_refl _, hi, fun e => absurd e hE⟩
  · exact ⟨false, i, err, fun w rb g cap h => Flag_err h he, fun w xb p c h => XFlag_err h he, Nat.le_refl _, hi, fun e => absurd e he⟩
/-- One operation as the program's reader yields it; as the document's does. -/
def OpR (n : Nat) (xs : List Int) (i : Nat) (o : Kop) (i' : Nat) (e' : Int) : Prop := ∃ i1 e1 i2 e2,
  RC 73 (fun q => #[q, .int .i64 96]) (.string o.key) n xs i 0 i1 e1 ∧
  RC 74 (fun q => #[q]) (.bool o.has) n xs i1 e1 i2 e2 ∧
  RC 73 (fun q => #[q, .int .i64 192]) (.string o.val) n xs i2 e2 i' e'
def OpX (n : Nat) (xs : List Int) (i : Nat) (o : Kop) (i' : Nat) (e' : Int) : Prop := ∃ i1 e1 i2 e2,
  XC 76 (fun q => #[q, .int .i64 96]) (.string o.key) n xs i 0 i1 e1 ∧
  XC 77 (fun q => #[q]) (.bool o.has) n xs i1 e1 i2 e2 ∧
  XC 76 (fun q => #[q, .int .i64 192]) (.string o.val) n xs i2 e2 i' e'
/-- Operations read, at most k, up to the first error. -/
inductive Reads (C : Nat → Kop → Nat → Int → Prop) : Nat → Nat → List Kop → Nat → Int → Prop
  | nil (i : Nat) : Reads C 0 i [] i 0
  | stop {k i : Nat} {o : Kop} {i' : Nat} {e' : Int} : C i o i' e' → e' ≠ 0 → Reads C (k + 1) i [o] i' e'
  | more {k i : Nat} {o : Kop} {i1 : Nat} {l : List Kop} {i' : Nat} {e' : Int} : C i o i1 0 → Reads C k i1 l i' e' → Reads C (k + 1) i (o :: l) i' e'
theorem op_step (xs : List Int) (n i : Nat) (hr : ∀ x ∈ xs, 0 ≤ x ∧ x < 256) (hl : xs.length = n) (hi : i ≤ n) : ∃ o i' e', OpR n xs i o i' e' ∧ OpX n xs i o i' e' ∧ i' ≤ n ∧ (e' = 0 → i < i') := by
  obtain ⟨s, i1, e1, r1, x1, a1, b1, c1⟩ := text_step xs n i 0 96 hr hl (by decide) (by decide) hi
  obtain ⟨b, i2, e2, r2, x2, a2, b2, c2⟩ := flag_step xs n i1 e1 hr hl b1
  obtain ⟨t, i3, e3, r3, x3, a3, b3, c3⟩ := text_step xs n i2 e2 192 hr hl (by decide) (by decide) b2
  exact ⟨⟨s, b, t⟩, i3, e3, ⟨i1, e1, i2, e2, r1, r2, r3⟩, ⟨i1, e1, i2, e2, x1, x2, x3⟩, b3, fun e => by have := (c3 e).2; omega⟩
/-- Any bytes are read alike by both. -/
theorem reads_both (xs : List Int) (n : Nat) (hr : ∀ x ∈ xs, 0 ≤ x ∧ x < 256) (hl : xs.length = n) : ∀ (k i : Nat), i ≤ n → ∃ l i' e', Reads (OpR n xs) k i l i' e' ∧ Reads (OpX n xs) k i l i' e' ∧ i' ≤ n ∧ l.length ≤ n - i + 1
  | 0, i, hi => ⟨[], i, 0, .nil i, .nil i, hi, by simp⟩
  | k + 1, i, hi => by
    obtain ⟨o, i1, e1, hR, hX, h1, h2⟩ := op_step xs n i hr hl hi
    by_cases he : e1 = 0
    · subst he
      obtain ⟨l, i', e', r, x, h3, h4⟩ := reads_both xs n hr hl k i1 h1
      have := h2 rfl
      exact ⟨o :: l, i', e', .more hR r, .more hX x, h3, by rw [List.length_cons]; omega⟩
    · exact ⟨[o], i1, e1, .stop hR he, .stop hX he, h1, by simp⟩
end Go.Proofs.Ytdfjnpnkfjcpcaa

/- K27 -/
namespace Go.Proofs.Ytdfjnpnkfjcpcaa
set_option linter.unusedVariables false
set_option linter.unusedSimpArgs false
open Go.RowKit
open Wi

theorem frozen_kept {w w' : World} {row : Option Nat} (hg : w.grownBy w' row) {b j : Nat} (hb : b < w.heap.size) (hne : some b ≠ row) : w'.frozen? ⟨b, j, none⟩ = w.frozen? ⟨b, j, none⟩ := by
  have h := hg.block b hb hne
  simp only [World.frozen?, h]
theorem rs_lt {w : World} {rb g n cap : Nat} {xs : List Int} {i : Nat} {err : Int} (h : RS w rb g n cap xs i err) : rb < w.heap.size := World.block_lt_of_cell? w _ h.c0
theorem rs_glt {w : World} {rb g n cap : Nat} {xs : List Int} {i : Nat} {err : Int} (h : RS w rb g n cap xs i err) (hn : 0 < n) : g < w.heap.size := by
  obtain ⟨b, o, hb, hc⟩ := h.inn hn
  simp only [Option.some.injEq, Addr.mk.injEq] at hb
  have := World.block_lt_of_cell? w _ (hc 0 (by omega))
  rw [hb.1]; exact this
theorem rs_kept {w w' : World} {rb g n cap : Nat} {xs : List Int} {i : Nat} {err : Int} {row : Option Nat} (h : RS w rb g n cap xs i err) (hg : w.grownBy w' row) (h1 : some rb ≠ row) (h2 : 0 < n → some g ≠ row) : RS w' rb g n cap xs i err :=
  ⟨hg.cell h.c0 h1, hg.cell h.c1 h1, hg.cell h.c2 h1, hg.cell h.c3 h1, (frozen_kept hg (rs_lt h) h1).trans h.f1, (frozen_kept hg (rs_lt h) h1).trans h.f2, fun hn => in_kept hg (h2 hn) h.inn hn, h.len, h.ncap, h.ile, h.gne, h.rng, h.nb⟩
theorem xs_lt {w : World} {xb : Nat} {p : Option Addr} {n c : Nat} {xs : List Int} {i : Nat} {err : Int} (h : XS w xb p n c xs i err) : xb < w.heap.size := World.block_lt_of_cell? w _ h.c0
/-- What is left to be read: at most k, from i on. -/
def Rest (C : Nat → Kop → Nat → Int → Prop) (k i : Nat) (er : Int) (l : List Kop) (i' : Nat) (e' : Int) : Prop := (l = [] ∧ i = i' ∧ er = e' ∧ (k = 0 ∨ er ≠ 0)) ∨ (0 < k ∧ er = 0 ∧ Reads C k i l i' e')
theorem Rest.of {C : Nat → Kop → Nat → Int → Prop} {k i : Nat} {l : List Kop} {i' : Nat} {e' : Int} (h : Reads C k i l i' e') : Rest C k i 0 l i' e' := by
  cases h with
  | nil => exact .inl ⟨rfl, rfl, rfl, .inl rfl⟩
  | stop h1 h2 => exact .inr ⟨Nat.succ_pos _, rfl, .stop h1 h2⟩
  | more h1 h2 => exact .inr ⟨Nat.succ_pos _, rfl, .more h1 h2⟩
theorem Rest.done {C : Nat → Kop → Nat → Int → Prop} {k i : Nat} {er : Int} {l : List Kop} {i' : Nat} {e' : Int} (h : Rest C k i er l i' e') (hk : k = 0 ∨ er ≠ 0) : l = [] ∧ i = i' ∧ er = e' := by
  rcases h with ⟨h1, h2, h3, _⟩ | ⟨h1, h2, _⟩
  · exact ⟨h1, h2, h3⟩
  · rcases hk with hk | hk
    · omega
    · exact absurd h2 hk
theorem Rest.step {C : Nat → Kop → Nat → Int → Prop} {k i : Nat} {l : List Kop} {i' : Nat} {e' : Int} (h : Rest C k i 0 l i' e') (hk : 0 < k) : ∃ o i1 e1 l1, l = o :: l1 ∧ C i o i1 e1 ∧ Rest C (k - 1) i1 e1 l1 i' e' := by
  rcases h with ⟨_, _, _, h⟩ | ⟨_, _, h⟩
  · rcases h with h | h
    · omega
    · exact absurd rfl h
  · cases h with
    | nil => omega
    | stop h1 h2 => exact ⟨_, _, _, [], rfl, h1, .inl ⟨rfl, rfl, rfl, .inr h2⟩⟩
    | more h1 h2 => exact ⟨_, _, 0, _, rfl, h1, Rest.of h2⟩
theorem got_ne {w : World} {B n s k : Nat} {E : TypeId} {v : Value} {xs : List Value} (h : w.ownsRow B E s v n xs) (hk : k < B) : some k ≠ v.ownBlock := fun e => by have := (h.lt k e.symm).1; omega
theorem got_grown {w w1 w2 : World} {rb n s : Nat} {E : TypeId} {v : Value} {xs : List Value} (h1 : w.grownBy w1 (some rb)) (h2 : w1.grownBy w2 v.ownBlock) (h : w1.ownsRow w.heap.size E s v n xs) : w.grownBy w2 (some rb) :=
  ⟨h2.os.trans h1.os, h2.tape.trans h1.tape, h2.output.trans h1.output, Nat.le_trans h1.size h2.size, fun k hk hn => (h2.block k (Nat.lt_of_lt_of_le hk h1.size) (fun e => by have := (h.lt k e.symm).1; omega)).trans (h1.block k hk hn)⟩
def GotP (l : List Kop) (rb g n cap : Nat) (xs : List Int) (i' : Nat) (e' : Int) (w : World) (e : Ending) (w' : World) : Prop :=
  ∃ v, e = .returned v ∧ w'.ownsRow w.heap.size 37 3 v l.length (opL.all l) ∧ RS w' rb g n cap xs i' e' ∧ w.grownBy w' (some rb)
set_option maxRecDepth 100000 in
set_option maxHeartbeats 6400000 in
theorem Get_walk {w : World} {rb g cap n : Nat} {xs : List Int} {i : Nat} {err most : Int} {Z i0 : Nat} {e0 : Int} {l : List Kop} {i' : Nat} {e' : Int} (h : RS w rb g n cap xs i err)
    (hW : RC 72 (fun q => #[q, .int .i64 0, .int .i64 most]) (.int .i64 (Z : Nat)) n xs i err i0 e0) (hZ : Z ≤ 9223372036854775807) (hG : Rest (OpR n xs) Z i0 e0 l i' e') (h0 : e0 ≠ 0 → Z = 0) (hl : l.length ≤ 1000000) :
    Calls Try.prog 43 #[.pointer (some ⟨rb, 0, none⟩), .int .i64 most] w (GotP l rb g n cap xs i' e' w) := by
  have HW := Lib.hid (hW w rb g cap h)
  have HRb : Hid (rb < w.heap.size) := rs_lt h
  have HGl : Hid (0 < n → g < w.heap.size) := fun hn => rs_glt h hn
  have HG := Lib.hid hG
  have H0 := Lib.hid h0
  have HLl := Lib.hid hl
  clear h hW hG h0 hl
  go_enter Try.func43, Try.ntmps43
  go_wp2_with fail
  go_fit HW.out
  rintro e w1 ⟨rfl, hr1, hg1⟩
  have HR1 := Lib.hid hr1
  have HG1 := Lib.hid hg1
  clear hr1 hg1 HW
  go_wp2_with fail
  go_loopw [5, 9] (fun u v wr => ∃ (j : Nat) (acc rest : List Kop) (i1 : Nat) (er : Int), v = .int .i64 j ∧ j ≤ Z ∧ Hid (l = acc ++ rest) ∧ Hid (wr.ownsRow w.heap.size 37 3 u acc.length (opL.all acc)) ∧ Hid (RS wr rb g n cap xs i1 er) ∧ Hid (Rest (OpR n xs) (Z - j) i1 er rest i' e') ∧ Hid (j < Z → er = 0) ∧ Hid (w.grownBy wr (some rb)))
    (fun _ v _ => Z - (intOf v).toNat)
  case atStart => exact ⟨0, [], l, i0, e0, rfl, Nat.zero_le _, rfl, World.ownsRow_nil _ _ _ _, HR1, HG, fun hlt => by by_cases e : e0 = 0; exact e; have := H0.out e; omega, HG1⟩
  case round =>
    obtain ⟨j, acc, rest, i1, er, rfl, hj, hE, hO, hR, hL, hZr, hgr⟩ := hrel
    obtain ⟨ua, uc, hu⟩ := row_slice1 hO.out
    subst hu
    by_cases hlt : j < Z
    · obtain rfl : er = 0 := hZr.out hlt
      have ei : IntKind.i64.wrap ((j : Int) + 1) = (j : Int) + 1 := IntWalk.i64_in _ (by omega)
      obtain ⟨o, i2, e2, l1, hrest, ⟨m1, f1, m2, f2, hA, hB, hC⟩, hN⟩ := hL.out.step (by omega)
      have hI1 : (j : Int) < ((Z : Nat) : Int) := by omega
      have HE2 : Hid (l = acc ++ [o] ++ l1) := by show _ = _; rw [hE.out, hrest]; simp
      have HN2 : Hid (Rest (OpR n xs) (Z - (j + 1)) i2 e2 l1 i' e') := by show Rest _ _ _ _ _ _ _; rw [show Z - (j + 1) = Z - j - 1 from by omega]; exact hN
      have HA := Lib.hid (hA wr rb g cap hR.out)
      have HB := Lib.hid hB
      have HC := Lib.hid hC
      have HLa : Hid (acc.length ≤ 1000000) := by show _ ≤ _; have h1 := congrArg List.length hE.out; rw [List.length_append] at h1; have := HLl.out; omega
      have HOw := hO
      have Hgr := hgr
      clear hE hrest hA hB hC hN hR hL hZr hO hgr
      go_wp2_with fail
      go_fit HA.out
      rintro e w2 ⟨rfl, hr2, hg2⟩
      have HB2 := Lib.hid (HB.out w2 rb g cap hr2)
      have HO2 := Lib.hid (row_grown HOw.out hg2 HRb.out)
      have Hg2 := Lib.hid (grown_then Hgr.out hg2)
      clear hr2 hg2 HA HB
      go_wp2_with fail
      go_fit HB2.out
      rintro e w3 ⟨rfl, hr3, hg3⟩
      have HC3 := Lib.hid (HC.out w3 rb g cap hr3)
      have HO3 := Lib.hid (row_grown HO2.out hg3 HRb.out)
      have Hg3 := Lib.hid (grown_then Hg2.out hg3)
      clear hr3 hg3 HB2 HC
      go_wp2_with fail
      go_fit HC3.out
      rintro e w4 ⟨rfl, hr4, hg4⟩
      have HR4 := Lib.hid hr4
      have HO4 := Lib.hid (row_grown HO3.out hg4 HRb.out)
      have Hg4 := Lib.hid (grown_then Hg3.out hg4)
      have HZ4 : Hid (w.heap.size ≤ w4.heap.size) := Hg4.out.size
      clear hr4 hg4 HC3
      go_wp2_with (at_builtin; go_loud (refine wpList_pushJ rfl _ _ 28 37 _ 3 40 rfl Try.underlying28 Try.infoOp rfl (by decide) w.heap.size acc.length _ (opL.all acc) rfl HO4.out #[.string o.key, .bool o.has, .string o.val] rfl (opL.one o) _ rfl rfl (by have := HLa.out; omega) (by decide) HZ4.out ?_; intro g5 c5 w5 hown hgrow hat hlt5; have HO5 := Lib.hid (show w5.ownsRow w.heap.size 37 3 (.slice (some ⟨g5, 0, none⟩) (acc.length + 1) c5) (acc ++ [o]).length (opL.all (acc ++ [o])) from by rw [Lay.all_app, Lay.all_one, List.length_append]; exact hown); have HR5 := Lib.hid (rs_kept HR4.out hgrow (got_ne HO4.out HRb.out) (fun hn => got_ne HO4.out (HGl.out hn))); have Hg5 := Lib.hid (got_grown Hg4.out hgrow HO4.out); clear hown hgrow hat hlt5))
      have HEr := Lib.hid (Err_rs HR5.out)
      go_fit HEr.out
      rintro e w' ⟨rfl, rfl⟩
      by_cases he2 : e2 = 0
      · subst he2
        clear HEr
        go_wp2_with fail
        exact ⟨⟨j + 1, acc ++ [o], l1, i2, 0, by simp, hlt, HE2, HO5, HR5, HN2, fun _ => rfl, Hg5⟩, by show Z - ((j : Int) + 1).toNat < Z - ((j : Int)).toNat; omega⟩
      · obtain ⟨hl1, hi2, hee⟩ := HN2.out.done (.inr he2)
        subst hl1 hi2 hee
        have he3 : (e2 == 0) = false := by simpa using he2
        have HE3 : Hid (l = acc ++ [o]) := by show _ = _; rw [HE2.out, List.append_nil]
        clear HEr
        go_wp2_with fail
        go_ret
        refine ⟨_, rfl, ?_, HR5.out, Hg5.out⟩
        rw [HE3.out]; exact HO5.out
    · obtain ⟨hl1, hi2, hee⟩ := hL.out.done (.inl (by omega))
      subst hl1 hi2 hee
      have HE3 : Hid (l = acc) := by show _ = _; rw [hE.out, List.append_nil]
      obtain rfl : j = Z := by omega
      go_wp2_with fail
      go_ret
      refine ⟨_, rfl, ?_, hR.out, hgr.out⟩
      rw [HE3.out]; exact hO.out
end Go.Proofs.Ytdfjnpnkfjcpcaa

/- K28 -/
namespace Go.Proofs.Ytdfjnpnkfjcpcaa
set_option linter.unusedVariables false
set_option linter.unusedSimpArgs false
open Go.RowKit
open Wi

theorem xs_kept {w w' : World} {xb : Nat} {p : Option Addr} {n c : Nat} {xs : List Int} {i : Nat} {err : Int} {row : Option Nat} (h : XS w xb p n c xs i err) (hg : w.grownBy w' row) (h1 : some xb ≠ row) (h2 : 0 < n → ∀ b o, p = some ⟨b, o, none⟩ → some b ≠ row) : XS w' xb p n c xs i err :=
  ⟨hg.cell h.c0 h1, hg.cell h.c1 h1, hg.cell h.c2 h1, (frozen_kept hg (xs_lt h) h1).trans h.f1, (frozen_kept hg (xs_lt h) h1).trans h.f2, fun hn => by
    obtain ⟨b, o, hb, hc⟩ := h.inn hn
    exact ⟨b, o, hb, fun i hi => hg.cell (hc i hi) (h2 hn b o hb)⟩, h.len, h.ncap, h.ile, h.hp, h.pne, h.rng, h.nb⟩
theorem xs_plt {w : World} {xb : Nat} {p : Option Addr} {n c : Nat} {xs : List Int} {i : Nat} {err : Int} (h : XS w xb p n c xs i err) (hn : 0 < n) : ∀ b o, p = some ⟨b, o, none⟩ → b < w.heap.size := by
  intro b o hp
  obtain ⟨b', o', hb, hc⟩ := h.inn hn
  rw [hp] at hb
  simp only [Option.some.injEq, Addr.mk.injEq] at hb
  have := World.block_lt_of_cell? w _ (hc 0 (by omega))
  rw [hb.1]; exact this
def GotX (l : List Kop) (xb : Nat) (p : Option Addr) (n c : Nat) (xs : List Int) (i' : Nat) (e' : Int) (w : World) (e : Ending) (w' : World) : Prop :=
  ∃ v, e = .returned v ∧ w'.ownsRow w.heap.size 37 3 v l.length (opL.all l) ∧ XS w' xb p n c xs i' e' ∧ w.grownBy w' (some xb)
set_option maxRecDepth 100000 in
set_option maxHeartbeats 6400000 in
theorem RTake_walk {w : World} {xb : Nat} {p : Option Addr} {c n : Nat} {xs : List Int} {i : Nat} {err most : Int} {Z i0 : Nat} {e0 : Int} {l : List Kop} {i' : Nat} {e' : Int} (h : XS w xb p n c xs i err)
    (hW : XC 75 (fun q => #[q, .int .i64 0, .int .i64 most]) (.int .i64 (Z : Nat)) n xs i err i0 e0) (hZ : Z ≤ 9223372036854775807) (hG : Rest (OpX n xs) Z i0 e0 l i' e') (hl : l.length ≤ 1000000) :
    Calls Try.prog 46 #[.pointer (some ⟨xb, 0, none⟩), .int .i64 most] w (GotX l xb p n c xs i' e' w) := by
  have HW := Lib.hid (hW w xb p c h)
  have HRb : Hid (xb < w.heap.size) := xs_lt h
  have HGl : Hid (0 < n → ∀ b o, p = some ⟨b, o, none⟩ → b < w.heap.size) := fun hn => xs_plt h hn
  have HG := Lib.hid hG
  have HLl := Lib.hid hl
  clear h hW hG hl
  go_enter Try.func46, Try.ntmps46
  go_wp2_with fail
  go_fit HW.out
  rintro e w1 ⟨rfl, hr1, hg1⟩
  have HR1 := Lib.hid hr1
  have HG1 := Lib.hid hg1
  clear hr1 hg1 HW
  go_wp2_with fail
  go_loopw [5, 7] (fun u v wr => ∃ (j : Nat) (acc rest : List Kop) (i1 : Nat) (er : Int), v = .int .i64 j ∧ j ≤ Z ∧ Hid (l = acc ++ rest) ∧ Hid (wr.ownsRow w.heap.size 37 3 u acc.length (opL.all acc)) ∧ Hid (XS wr xb p n c xs i1 er) ∧ Hid (Rest (OpX n xs) (Z - j) i1 er rest i' e') ∧ Hid (w.grownBy wr (some xb)))
    (fun _ v _ => Z - (intOf v).toNat)
  case atStart => exact ⟨0, [], l, i0, e0, rfl, Nat.zero_le _, rfl, World.ownsRow_nil _ _ _ _, HR1, HG, HG1⟩
  case round =>
    obtain ⟨j, acc, rest, i1, er, rfl, hj, hE, hO, hR, hL, hgr⟩ := hrel
    obtain ⟨ua, uc, hu⟩ := row_slice1 hO.out
    subst hu
    have q2 := hR.out.c2
    by_cases hlt : j < Z
    · have ei : IntKind.i64.wrap ((j : Int) + 1) = (j : Int) + 1 := IntWalk.i64_in _ (by omega)
      have hI1 : (j : Int) < ((Z : Nat) : Int) := by omega
      by_cases her : er = 0
      · subst her
        obtain ⟨o, i2, e2, l1, hrest, ⟨m1, f1, m2, f2, hA, hB, hC⟩, hN⟩ := hL.out.step (by omega)
        have HE2 : Hid (l = acc ++ [o] ++ l1) := by show _ = _; rw [hE.out, hrest]; simp
        have HN2 : Hid (Rest (OpX n xs) (Z - (j + 1)) i2 e2 l1 i' e') := by show Rest _ _ _ _ _ _ _; rw [show Z - (j + 1) = Z - j - 1 from by omega]; exact hN
        have HA := Lib.hid (hA wr xb p c hR.out)
        have HB := Lib.hid hB
        have HC := Lib.hid hC
        have HLa : Hid (acc.length ≤ 1000000) := by show _ ≤ _; have h1 := congrArg List.length hE.out; rw [List.length_append] at h1; have := HLl.out; omega
        have HOw := hO
        have Hgr := hgr
        clear hE hrest hA hB hC hN hR hL hO hgr
        go_wp2_with fail
        go_fit HA.out
        rintro e w2 ⟨rfl, hr2, hg2⟩
        have HB2 := Lib.hid (HB.out w2 xb p c hr2)
        have HO2 := Lib.hid (row_grown HOw.out hg2 HRb.out)
        have Hg2 := Lib.hid (grown_then Hgr.out hg2)
        clear hr2 hg2 HA HB q2
        go_wp2_with fail
        go_fit HB2.out
        rintro e w3 ⟨rfl, hr3, hg3⟩
        have HC3 := Lib.hid (HC.out w3 xb p c hr3)
        have HO3 := Lib.hid (row_grown HO2.out hg3 HRb.out)
        have Hg3 := Lib.hid (grown_then Hg2.out hg3)
        clear hr3 hg3 HB2 HC
        go_wp2_with fail
        go_fit HC3.out
        rintro e w4 ⟨rfl, hr4, hg4⟩
        have HR4 := Lib.hid hr4
        have HO4 := Lib.hid (row_grown HO3.out hg4 HRb.out)
        have Hg4 := Lib.hid (grown_then Hg3.out hg4)
        have HZ4 : Hid (w.heap.size ≤ w4.heap.size) := Hg4.out.size
        clear hr4 hg4 HC3
        go_wp2_with (at_builtin; go_loud (refine wpList_pushJ rfl _ _ 28 37 _ 3 40 rfl Try.underlying28 Try.infoOp rfl (by decide) w.heap.size acc.length _ (opL.all acc) rfl HO4.out #[.string o.key, .bool o.has, .string o.val] rfl (opL.one o) _ rfl rfl (by have := HLa.out; omega) (by decide) HZ4.out ?_; intro g5 c5 w5 hown hgrow hat hlt5; have HO5 := Lib.hid (show w5.ownsRow w.heap.size 37 3 (.slice (some ⟨g5, 0, none⟩) (acc.length + 1) c5) (acc ++ [o]).length (opL.all (acc ++ [o])) from by rw [Lay.all_app, Lay.all_one, List.length_append]; exact hown); have HR5 := Lib.hid (xs_kept HR4.out hgrow (got_ne HO4.out HRb.out) (fun hn b o hp => got_ne HO4.out (HGl.out hn b o hp))); have Hg5 := Lib.hid (got_grown Hg4.out hgrow HO4.out); clear hown hgrow hat hlt5))
        exact ⟨⟨j + 1, acc ++ [o], l1, i2, e2, by simp, hlt, HE2, HO5, HR5, HN2, Hg5⟩, by show Z - ((j : Int) + 1).toNat < Z - ((j : Int)).toNat; omega⟩
      · obtain ⟨hl1, hi2, hee⟩ := hL.out.done (.inr her)
        subst hl1 hi2 hee
        have he3 : (er == 0) = false := by simpa using her
        have HE3 : Hid (l = acc) := by show _ = _; rw [hE.out, List.append_nil]
        go_wp2_with fail
        go_ret
        refine ⟨_, rfl, ?_, hR.out, hgr.out⟩
        rw [HE3.out]; exact hO.out
    · obtain ⟨hl1, hi2, hee⟩ := hL.out.done (.inl (by omega))
      subst hl1 hi2 hee
      have HE3 : Hid (l = acc) := by show _ = _; rw [hE.out, List.append_nil]
      obtain rfl : j = Z := by omega
      go_wp2_with fail
      go_ret
      refine ⟨_, rfl, ?_, hR.out, hgr.out⟩
      rw [HE3.out]; exact hO.out
end Go.Proofs.Ytdfjnpnkfjcpcaa

/- K29 -/
namespace Go.Proofs.Ytdfjnpnkfjcpcaa.Wi
open Go.Proofs.Ytdfjnpnkfjcpcaa
set_option linter.unusedVariables false
set_option linter.unusedSimpArgs false

theorem ofBe_be (u : Nat) : ∀ k, ofBe (be u k) = u % 256 ^ k
  | 0 => by simp [be, ofBe, Nat.mod_one]
  | k + 1 => by
    rw [be, ofBe_cons, be_length, ofBe_be u k, be_at, Int.toNat_natCast, Nat.pow_succ, Nat.mod_mul]
    rw [Nat.mul_comm, Nat.add_comm]

theorem wide_le (u : Nat) (hu : u ≤ 9223372036854775807) : wide u ≤ 8 := by
  have hb := Lib.bitLen_le u 64 (by omega) (by omega)
  unfold wide; omega

/-- The first byte of a number's bytes. -/
theorem be_first (u : Nat) (h : 0 < wide u) : (be u (wide u)).getD 0 0 = ((u / 256 ^ (wide u - 1) % 256 : Nat) : Int) := by
  obtain ⟨k, hk⟩ : ∃ k, wide u = k + 1 := ⟨wide u - 1, by omega⟩
  rw [hk, be, List.getD_cons_zero, be_at, Nat.add_sub_cancel]

theorem first_pos (u : Nat) (hu : u ≤ 9223372036854775807) (h : 0 < wide u) : 0 < u / 256 ^ (wide u - 1) ∧ u / 256 ^ (wide u - 1) < 256 := by
  have hb := wide_bound u u (by omega) (by omega)
  have h1 := hb.2 (wide_pos u h)
  refine ⟨Nat.div_pos h1 (Nat.pow_pos (by omega)), ?_⟩
  rw [Nat.div_lt_iff_lt_mul (Nat.pow_pos (by omega))]
  have : 256 ^ wide u = 256 * 256 ^ (wide u - 1) := by
    rw [Nat.mul_comm, ← Nat.pow_succ]; congr 1; omega
  omega

theorem numAt_num (u : Nat) (r : List Int) (hu : u ≤ 9223372036854775807) : numAt (num u ++ r) = (u, 1 + wide u, 0) := by
  have hw := wide_le u hu
  unfold numAt
  have hl : (num u ++ r).length = 1 + wide u + r.length := by simp [num, be_length]; omega
  have h0 : (num u ++ r).getD 0 0 = (wide u : Int) := by simp [num]
  have hd : ((num u ++ r).drop 1).take (wide u) = be u (wide u) := by
    simp [num, be_length]
  rw [if_neg (by omega)]
  simp only [h0]
  rw [if_neg (by omega), if_neg (by omega)]
  have h1 : 0 < wide u → (num u ++ r).getD 1 0 = ((u / 256 ^ (wide u - 1) % 256 : Nat) : Int) := by
    intro h
    rw [← be_first u h]
    have hlen := be_length u (wide u)
    simp only [num, List.cons_append, List.getD_eq_getElem?_getD]
    show (be u (wide u) ++ r)[0]?.getD 0 = _
    rw [List.getElem?_append_left (by omega)]
  rw [if_neg (fun ⟨ha, hb⟩ => by
    have hp := first_pos u hu (by omega)
    rw [h1 (by omega)] at hb
    have := Nat.mod_eq_of_lt hp.2
    omega)]
  rw [if_neg (fun ⟨ha, hb⟩ => by
    have h8 : wide u = 8 := by omega
    rw [h1 (by omega), h8] at hb
    have : u / 256 ^ 7 ≤ 127 := by omega
    have h2 : u / 256 ^ (8 - 1) % 256 ≤ u / 256 ^ (8 - 1) := Nat.mod_le _ _
    omega)]
  rw [Int.toNat_natCast, hd, ofBe_be, Nat.mod_eq_of_lt (wide_bound u u (by omega) (by omega)).1]
theorem num_length (u : Nat) : (num u).length = 1 + wide u := by simp [num, be_length]; omega
end Go.Proofs.Ytdfjnpnkfjcpcaa.Wi

namespace Go.Proofs.Ytdfjnpnkfjcpcaa.Tx
open Go.Proofs.Ytdfjnpnkfjcpcaa
set_option linter.unusedVariables false
set_option linter.unusedSimpArgs false
theorem dec_w4 (s : ByteArray) (p : Nat) : (Utf8.decode s p).2 ≤ 4 := by
  simp only [Utf8.decode]
  repeat' split
  all_goals simp

theorem size_le4 (s : ByteArray) : ∀ f p, s.size ≤ p + f → s.size - p ≤ 4 * (steps s f p).length
  | 0, p, h => by omega
  | f + 1, p, h => by
    by_cases hp : p < s.size
    · rw [steps_cons s f p hp, List.length_cons]
      have := size_le4 s f (p + (Utf8.decode s p).2) (by have := dec_pos s p hp; omega)
      have := dec_w4 s p
      omega
    · omega

theorem made_parts {s : ByteArray} {lo hi : Nat} {p : Nat → Bool} (h : madeB s lo hi p = true) : lo ≤ (runesOf s).length ∧ (runesOf s).length ≤ hi ∧ (runesOf s).all p = true := by
  unfold madeB at h
  simp only [Bool.and_eq_true, decide_eq_true_eq] at h
  exact ⟨h.1.1, h.1.2, h.2⟩
theorem made_size {s : ByteArray} {lo hi : Nat} {p : Nat → Bool} (h : madeB s lo hi p = true) : s.size ≤ 4 * hi := by
  have h1 := (made_parts h).2.1
  have h2 := size_le4 s s.size 0 (by omega)
  unfold runesOf at h1
  rw [List.length_map] at h1
  omega
end Go.Proofs.Ytdfjnpnkfjcpcaa.Tx

namespace Go.Proofs.Ytdfjnpnkfjcpcaa
set_option linter.unusedVariables false
set_option linter.unusedSimpArgs false
open Go.RowKit
theorem strOf_sb (s : ByteArray) : strOfNums (Wi.sb s) = s := by
  apply ByteArray.ext
  apply Array.toList_inj.1
  rw [strOfNums_data]
  unfold Wi.sb
  rw [List.map_map]
  conv => rhs; rw [← List.map_id s.data.toList]
  apply List.map_congr_left
  intro b _
  simp
theorem drop_app {xs a r : List Int} {i : Nat} (h : xs.drop i = a ++ r) : xs.drop (i + a.length) = r := by
  rw [← List.drop_drop, h, List.drop_left]
theorem key_size {s : ByteArray} (h : keyOk s = true) : s.size ≤ 96 := Tx.made_size h
theorem val_size {s : ByteArray} (h : valOk s = true) : s.size ≤ 192 := Tx.made_size h
theorem text_put {xs : List Int} {n i : Nat} {s : ByteArray} {r : List Int} {most : Int} (hl : xs.length = n) (hd : xs.drop i = (Wi.num s.size ++ Wi.sb s) ++ r) (hs : (s.size : Int) ≤ most) (hz : s.size ≤ 1000) :
    Wi.RC 73 (fun q => #[q, .int .i64 most]) (.string s) n xs i 0 (i + (Wi.num s.size ++ Wi.sb s).length) 0 := by
  intro w rb g cap h
  rw [List.append_assoc] at hd
  have ht : Wi.numAt (xs.drop i) = (s.size, 1 + Wi.wide s.size, 0) := by rw [hd]; exact Wi.numAt_num s.size (Wi.sb s ++ r) (by omega)
  have hd2 := drop_app hd
  rw [Wi.num_length] at hd2
  have hll := congrArg List.length hd
  simp only [List.length_append, List.length_drop, Wi.num_length, Wi.sb_length] at hll
  have hi := h.ile
  have hg := Wi.Text_good h most s.size (1 + Wi.wide s.size) ht (by omega) (by omega)
  rw [hd2, List.take_append_of_le_length (by rw [Wi.sb_length]; omega), List.take_of_length_le (by rw [Wi.sb_length]; omega), strOf_sb] at hg
  rw [show i + (Wi.num s.size ++ Wi.sb s).length = i + (1 + Wi.wide s.size) + s.size from by rw [List.length_append, Wi.num_length, Wi.sb_length]; omega]
  exact hg
theorem flag_put {xs : List Int} {n i : Nat} {b : Bool} {r : List Int} (hd : xs.drop i = Wi.num (if b then 1 else 0) ++ r) :
    Wi.RC 74 (fun q => #[q]) (.bool b) n xs i 0 (i + (Wi.num (if b then 1 else 0)).length) 0 := by
  intro w rb g cap h
  have ht : Wi.numAt (xs.drop i) = ((if b then 1 else 0), 1 + Wi.wide (if b then 1 else 0), 0) := by rw [hd]; exact Wi.numAt_num _ r (by split <;> omega)
  have hg := Wi.Flag_ok h (if b then 1 else 0) (1 + Wi.wide (if b then 1 else 0)) ht (by split <;> omega) b (by cases b <;> rfl)
  rw [Wi.num_length]
  exact hg
theorem within_put {xs : List Int} {n i u : Nat} {r : List Int} {most : Int} (hl : xs.length = n) (hd : xs.drop i = Wi.num u ++ r) (hu : (u : Int) ≤ most) (h6 : u ≤ 1000000) :
    Wi.RC 72 (fun q => #[q, .int .i64 0, .int .i64 most]) (.int .i64 (u : Nat)) n xs i 0 (i + (Wi.num u).length) 0 := by
  intro w rb g cap h
  have ht : Wi.numAt (xs.drop i) = (u, 1 + Wi.wide u, 0) := by rw [hd]; exact Wi.numAt_num _ r (by omega)
  have hll := congrArg List.length hd
  simp only [List.length_append, List.length_drop, Wi.num_length] at hll
  have hi := h.ile
  have hg := Wi.Within_ok h 0 most u (1 + Wi.wide u) ht (by omega) (by omega) (by omega)
  rw [Wi.num_length]
  exact hg
theorem op_put {xs : List Int} {n i : Nat} {o : Kop} {r : List Int} (hl : xs.length = n) (hd : xs.drop i = opB o ++ r) (hk : o.key.size ≤ 96) (hv : o.val.size ≤ 192) : OpR n xs i o (i + (opB o).length) 0 := by
  unfold opB at hd
  have e1 : xs.drop i = (Wi.num o.key.size ++ Wi.sb o.key) ++ (Wi.num (if o.has then 1 else 0) ++ ((Wi.num o.val.size ++ Wi.sb o.val) ++ r)) := by rw [hd]; simp only [List.append_assoc]
  have e2 := drop_app e1
  have e3 := drop_app e2
  refine ⟨_, _, _, _, text_put (most := 96) hl e1 (by omega) (by omega), flag_put e2, ?_⟩
  have h3 := text_put (most := 192) hl e3 (by omega) (by omega)
  rw [show i + (opB o).length = i + (Wi.num o.key.size ++ Wi.sb o.key).length + (Wi.num (if o.has then 1 else 0)).length + (Wi.num o.val.size ++ Wi.sb o.val).length from by unfold opB; simp only [List.length_append]; omega]
  exact h3
theorem reads_put {xs : List Int} {n : Nat} (hl : xs.length = n) : ∀ (l : List Kop) (i : Nat) (r : List Int), xs.drop i = opsB l ++ r → (∀ o ∈ l, o.key.size ≤ 96 ∧ o.val.size ≤ 192) → Reads (OpR n xs) l.length i l (i + (opsB l).length) 0
  | [], i, r, _, _ => by simpa [opsB] using Reads.nil (C := OpR n xs) i
  | o :: l, i, r, hd, h => by
    have e : opsB (o :: l) = opB o ++ opsB l := by simp [opsB]
    rw [e, List.append_assoc] at hd
    have h1 := op_put hl hd (h o (by simp)).1 (h o (by simp)).2
    have h2 := reads_put hl l (i + (opB o).length) r (drop_app hd) (fun x hx => h x (by simp [hx]))
    rw [e, List.length_append, ← Nat.add_assoc]
    exact .more h1 h2
theorem right_sizes {l : List Kop} (h : mayE l = 0) : ∀ o ∈ l, o.key.size ≤ 96 ∧ o.val.size ≤ 192 := by
  intro o ho
  have hv := ((mayE_zero l).1 h).1 o ho
  refine ⟨key_size hv.1, ?_⟩
  cases hh : o.has with
  | true => exact val_size (hv.2.1 hh)
  | false => rw [hv.2.2 hh]; decide
/-- How many, by both readers. -/
theorem within_step (xs : List Int) (n i : Nat) (most : Int) (hr : ∀ x ∈ xs, 0 ≤ x ∧ x < 256) (hl : xs.length = n) (hi : i ≤ n) : ∃ (Z : Nat) (i' : Nat) (err' : Int),
    Wi.RC 72 (fun q => #[q, .int .i64 0, .int .i64 most]) (.int .i64 (Z : Nat)) n xs i 0 i' err' ∧
    Wi.XC 75 (fun q => #[q, .int .i64 0, .int .i64 most]) (.int .i64 (Z : Nat)) n xs i 0 i' err' ∧ i' ≤ n ∧ Z ≤ 9223372036854775807 ∧ (err' ≠ 0 → Z = 0) := by
  obtain ⟨N, S, E, ht⟩ : ∃ N S E, Wi.numAt (xs.drop i) = (N, S, E) := ⟨_, _, _, rfl⟩
  by_cases hE : E = 0
  · subst hE
    have hon := numAt_on hr hl hi ht
    have hb := Wi.numAt_back (xs.drop i) (fun x hx => hr x (List.mem_of_mem_drop hx)) N S ht
    by_cases h2 : most < (N : Int)
    · exact ⟨0, i, 5, fun w rb g cap h => Wi.Within_range h 0 most N S ht (.inr h2), fun w xb p c h => Wi.XWithin_high h 0 most N S ht (by omega) h2, hi, by omega, fun _ => rfl⟩
    · exact ⟨N, i + S, 0, fun w rb g cap h => Wi.Within_ok h 0 most N S ht (by omega) h2 hon.2, fun w xb p c h => Wi.XWithin_ok h 0 most N S ht (by omega) h2, hon.2, hb.2, fun e => absurd rfl e⟩
  · exact ⟨0, i, E, fun w rb g cap h => Wi.Within_bad h 0 most (N, S, E) ht hE, fun w xb p c h => Wi.XWithin_bad h 0 most N S E ht hE, hi, by omega, fun _ => rfl⟩
end Go.Proofs.Ytdfjnpnkfjcpcaa
