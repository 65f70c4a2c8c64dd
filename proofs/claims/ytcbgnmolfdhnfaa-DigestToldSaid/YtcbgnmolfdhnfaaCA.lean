/-
  Plain: what two lists of placed pairs have unlike; what it takes to find it.
-/
import Derived.Test.YtcbgnmolfdhnfaaHA
import Derived.ArgAppend
import Derived.OwnWalk
namespace Go.Proofs.Ytcbgnmolfdhnfaa
set_option linter.unusedVariables false
set_option linter.unusedSimpArgs false
open Go.RowKit

theorem cmpB_cases (a b : ByteArray) : (klt a b = true ∧ Lib.compareBytes a.data.toList b.data.toList = -1) ∨ (a = b ∧ Lib.compareBytes a.data.toList b.data.toList = 0) ∨ (klt b a = true ∧ Lib.compareBytes a.data.toList b.data.toList = 1) := by
  have h : ∀ x y : List UInt8, (Go.Op.bytesLess x y = true ∧ Lib.compareBytes x y = -1) ∨ (x = y ∧ Lib.compareBytes x y = 0) ∨ (Go.Op.bytesLess y x = true ∧ Lib.compareBytes x y = 1) := by
    intro x
    induction x with
    | nil => intro y; cases y <;> simp [Lib.compareBytes, Go.Op.bytesLess]
    | cons c x ih =>
      intro y
      cases y with
      | nil => simp [Lib.compareBytes, Go.Op.bytesLess]
      | cons d y =>
        simp only [Lib.compareBytes, Go.Op.bytesLess]
        by_cases h : c < d
        · simp [h]
        · by_cases h' : d < c
          · simp [h, h']
          · have he : c = d := by
              have h1 : ¬ c.toNat < d.toNat := fun e => h (UInt8.lt_iff_toNat_lt.2 e)
              have h2 : ¬ d.toNat < c.toNat := fun e => h' (UInt8.lt_iff_toNat_lt.2 e)
              exact UInt8.toNat_inj.1 (by omega)
            subst he
            rcases ih y with ⟨h1, h2⟩ | ⟨h1, h2⟩ | ⟨h1, h2⟩
            · exact .inl (by simp [h1, h2])
            · subst h1
              exact .inr (.inl (by simp [h2]))
            · exact .inr (.inr (by simp [h1, h2]))
  unfold klt
  rw [ba_list, ba_list]
  rcases h a.data.toList b.data.toList with h | ⟨h, h2⟩ | h
  · exact .inl h
  · exact .inr (.inl ⟨by cases a; cases b; simp only [ByteArray.mk.injEq]; exact Array.toList_inj.1 h, h2⟩)
  · exact .inr (.inr h)
/-- The keys of which two lists by rising keys have not the same. -/
def mg : List Pl → List Pl → List ByteArray
  | [], T => T.map (·.1.2)
  | p :: S, [] => (p :: S).map (·.1.2)
  | p :: S, q :: T => if klt p.1.2 q.1.2 = true then p.1.2 :: mg S (q :: T) else if klt q.1.2 p.1.2 = true then q.1.2 :: mg (p :: S) T else if p.2 = q.2 then mg S T else p.1.2 :: mg S T
termination_by S T => S.length + T.length
theorem mg_nil (T : List Pl) : mg [] T = T.map (·.1.2) := by rw [mg]
theorem mg_nil2 (S : List Pl) : mg S [] = S.map (·.1.2) := by cases S <;> rw [mg]
theorem mg_lt {p q : Pl} {S T : List Pl} (h : klt p.1.2 q.1.2 = true) : mg (p :: S) (q :: T) = p.1.2 :: mg S (q :: T) := by rw [mg, if_pos h]
theorem mg_gt {p q : Pl} {S T : List Pl} (h : klt q.1.2 p.1.2 = true) : mg (p :: S) (q :: T) = q.1.2 :: mg (p :: S) T := by
  rw [mg, if_neg (by rw [klt_asym h]; decide), if_pos h]
theorem mg_eq {p q : Pl} {S T : List Pl} (h : p.1.2 = q.1.2) : mg (p :: S) (q :: T) = if p.2 = q.2 then mg S T else p.1.2 :: mg S T := by
  rw [mg, h, if_neg (by rw [klt_irr]; decide), if_neg (by rw [klt_irr]; decide)]
theorem mg_len : ∀ (k : Nat) (S T : List Pl), S.length + T.length = k → (mg S T).length ≤ k := by
  intro k
  induction k using Nat.strongRecOn with
  | _ k ih =>
    intro S T hk
    match S, T with
    | [], T => rw [mg_nil, List.length_map]; simp at hk; omega
    | p :: S, [] => rw [mg_nil2, List.length_map]; simp at hk ⊢; omega
    | p :: S, q :: T =>
      simp only [List.length_cons] at hk
      rcases klt_tri p.1.2 q.1.2 with h | h | h
      · rw [mg_lt h]
        have := ih (S.length + (T.length + 1)) (by omega) S (q :: T) rfl
        simp only [List.length_cons]; omega
      · rw [mg_eq h]
        have := ih (S.length + T.length) (by omega) S T rfl
        split
        · omega
        · simp only [List.length_cons]; omega
      · rw [mg_gt h]
        have := ih (S.length + 1 + T.length) (by omega) (p :: S) T rfl
        simp only [List.length_cons]; omega
/-- What is told of two parts. -/
noncomputable def Sd.vk (s : Sd) : Nat → List Pl → List Pl → List ByteArray
  | 0, S, T => if s.tr 0 S = s.tr 0 T then [] else mg S T
  | n + 1, S, T => if s.tr (n + 1) S = s.tr (n + 1) T then [] else catTo (fun i => s.vk n (sub n i S) (sub n i T)) 16
noncomputable def Sd.vd (s : Sd) : Nat → List Pl → List Pl → Nat
  | 0, _, _ => 0
  | n + 1, S, T => if s.tr (n + 1) S = s.tr (n + 1) T then 0 else 16 + sumTo (fun i => s.vd n (sub n i S) (sub n i T)) 16
noncomputable def Sd.vp (s : Sd) : Nat → List Pl → List Pl → Nat
  | 0, S, T => if s.tr 0 S = s.tr 0 T then 0 else S.length + T.length
  | n + 1, S, T => if s.tr (n + 1) S = s.tr (n + 1) T then 0 else sumTo (fun i => s.vp n (sub n i S) (sub n i T)) 16
theorem Sd.vk_le (s : Sd) (L : Nat) : ∀ (n : Nat) (S T : List Pl), S.length + T.length ≤ L → (s.vk n S T).length ≤ 16 ^ n * L
  | 0, S, T, h => by
    unfold Sd.vk
    split
    · simp
    · have := mg_len _ S T rfl
      omega
  | n + 1, S, T, h => by
    unfold Sd.vk
    split
    · simp
    · have := catTo_le (fun i => s.vk_le L n (sub n i S) (sub n i T) (by have := sub_len n i S; have := sub_len n i T; omega)) 16
      rw [Nat.pow_succ, Nat.mul_comm (16 ^ n) 16, Nat.mul_assoc]; exact this
theorem Sd.vp_le (s : Sd) (L : Nat) : ∀ (n : Nat) (S T : List Pl), S.length + T.length ≤ L → s.vp n S T ≤ 16 ^ n * L
  | 0, S, T, h => by unfold Sd.vp; split <;> omega
  | n + 1, S, T, h => by
    unfold Sd.vp
    split
    · simp
    · have := sumTo_le (fun i => s.vp_le L n (sub n i S) (sub n i T) (by have := sub_len n i S; have := sub_len n i T; omega)) 16
      rw [Nat.pow_succ, Nat.mul_comm (16 ^ n) 16, Nat.mul_assoc]; exact this
theorem Sd.vd_le (s : Sd) : ∀ (n : Nat) (S T : List Pl), s.vd n S T + 2 ≤ 2 * 16 ^ n
  | 0, S, T => by simp [Sd.vd]
  | n + 1, S, T => by
    unfold Sd.vd
    have hp : 1 ≤ 16 ^ n := Nat.one_le_pow _ _ (by decide)
    rw [Nat.pow_succ]
    split
    · omega
    · have := sumTo_le (f := fun i => s.vd n (sub n i S) (sub n i T)) (b := 2 * 16 ^ n - 2) (fun i => by have := s.vd_le n (sub n i S) (sub n i T); show s.vd n (sub n i S) (sub n i T) ≤ _; omega) 16
      omega
theorem Sd.v_same (s : Sd) {n : Nat} {S T : List Pl} (h : s.tr n S = s.tr n T) : s.vk n S T = [] ∧ s.vd n S T = 0 ∧ s.vp n S T = 0 := by
  cases n with
  | zero => exact ⟨by rw [Sd.vk, if_pos h], rfl, by rw [Sd.vp, if_pos h]⟩
  | succ n => exact ⟨by rw [Sd.vk, if_pos h], by rw [Sd.vd, if_pos h], by rw [Sd.vp, if_pos h]⟩

/-- The rest of a part's pairs. -/
def Sf (w : World) (M : Nat) (v : Value) (S : List Pl) : Prop := ∃ a c, v = .slice a S.length c ∧ S.length ≤ c ∧ c ≤ 9223372036854775807 ∧ (S = [] ∨ ∃ g off, a = some ⟨g, off, none⟩ ∧ g < M ∧ PairsAt w g off S)
theorem Sf.block {w w' : World} {M : Nat} {v : Value} {S : List Pl} (h : Sf w M v S) (hb : ∀ k, k < M → w'.heap[k]? = w.heap[k]?) : Sf w' M v S := by
  obtain ⟨a, c, hv, h1, h2, h3⟩ := h
  refine ⟨a, c, hv, h1, h2, h3.imp id ?_⟩
  rintro ⟨g, off, ha, hg, hp⟩
  exact ⟨g, off, ha, hg, hp.block (hb g hg)⟩
theorem Sf.below {w w' : World} {M : Nat} {v : Value} {S : List Pl} (h : Sf w M v S) (hb : Below M w w') : Sf w' M v S := h.block hb.block
theorem Sf.slice {w : World} {M : Nat} {v : Value} {S : List Pl} (h : Sf w M v S) : ∃ a c, v = .slice a S.length c := by
  obtain ⟨a, c, hv, _⟩ := h
  exact ⟨a, c, hv⟩
theorem pairs_tail {w : World} {g off : Nat} {p : Pl} {S : List Pl} (h : PairsAt w g off (p :: S)) : PairsAt w g (off + 3) S := fun i q hq => by
  have := h (i + 1) q hq
  have e : off + (i + 1) * 3 = off + 3 + i * 3 := by omega
  rw [e] at this
  exact this
/-- The first pair; what is left. -/
theorem Sf.cons {w : World} {M : Nat} {v : Value} {p : Pl} {S : List Pl} (h : Sf w M v (p :: S)) : ∃ g off c, v = .slice (some ⟨g, off, none⟩) (S.length + 1) c ∧ S.length + 1 ≤ c ∧ c ≤ 9223372036854775807 ∧ g < M ∧
    w.cell? ⟨g, off, none⟩ = some (.string p.1.2) ∧ w.cell? ⟨g, off + 1, none⟩ = some (.string p.2) ∧ w.cell? ⟨g, off + 2, none⟩ = some (.int .u64 p.1.1) ∧
    Sf w M (.slice (if c = 1 then some ⟨g, off, none⟩ else some ⟨g, off + 3, none⟩) S.length (c - 1)) S := by
  obtain ⟨a, c, rfl, h1, h2, h3⟩ := h
  obtain ⟨g, off, rfl, hg, hp⟩ := h3.resolve_left (fun e => by cases e)
  obtain ⟨c0, c1, c2⟩ := hp 0 p rfl
  simp only [Nat.zero_mul, Nat.add_zero] at c0 c1 c2
  refine ⟨g, off, c, rfl, h1, h2, hg, c0, c1, c2, _, _, rfl, by simp at h1; omega, by omega, ?_⟩
  by_cases hc : c = 1
  · exact .inl (List.eq_nil_of_length_eq_zero (by simp at h1; omega))
  · exact .inr ⟨g, off + 3, if_neg hc, hg, pairs_tail hp⟩
/-- What is left of either side. -/
def Rs (w w' : World) (M : Nat) (a : Option Addr) (r c : Nat) (R : List Pl) : Prop := w.grownBy w' none ∧ r ≤ c ∧ (R = [] ∨ ∃ g off, a = some ⟨g, off, none⟩ ∧ g < w'.heap.size ∧ PairsAt w' g off R ∧ (g < M ∨ w.heap.size ≤ g))
theorem pairs_own {w : World} {B g n c : Nat} {T : List Pl} (h : w.ownsRow B 118 3 (.slice (some ⟨g, 0, none⟩) n c) n (plL.all T)) (hn : n = T.length) : PairsAt w g 0 T := by
  have hi := Lay.in_own (I := plL) (ys := T) h hn
  obtain ⟨a', c', hv, _, _, hc⟩ := hi
  simp only [Value.slice.injEq] at hv
  obtain ⟨rfl, _, rfl⟩ := hv
  intro i p hp
  obtain ⟨g2, off, e, _, hat⟩ := hc.resolve_left (fun e => by rw [e] at hp; simp at hp)
  simp only [Option.some.injEq, Addr.mk.injEq] at e
  obtain ⟨rfl, rfl, _⟩ := e
  exact ⟨hat i p hp 0 _ rfl, hat i p hp 1 _ rfl, hat i p hp 2 _ rfl⟩
theorem wpList_rest {w : World} {ops : Array Oper} {rest : List Oper} {o : Oper} {a : Act} {Q : Exit → Act → World → Prop} (hgd : o.guard = none) (s x : Operand)
    (ho : o.op = .call { callee := .builtin .append, args := #[s, x], argTypes := #[95, 95] })
    {M : Nat} {a1 : Option Addr} {c1 n : Nat} {v2 : Value} {S T : List Pl} (hs : a.eval s = .slice a1 n n) (hn : n = S.length) (hx : a.eval x = v2) (h1 : Sf w M (.slice a1 n c1) S) (h2 : Sf w M v2 T) (hor : S = [] ∨ T = []) (hM : M ≤ w.heap.size) (hl : T.length ≤ 1000000)
    (hk : ∀ a' c' r w', r = (S ++ T).length → Rs w w' M a' r c' (S ++ T) → wpList Try.prog ops Q rest (a.put o.dst (.slice a' r c')) w') : wpList Try.prog ops Q (o :: rest) a w := by
  subst hn
  obtain ⟨i0, hi, hz0, hz1, hz2⟩ := info_parts Try.infoPlaced
  obtain ⟨a2, c2, rfl, hc2, _, hT⟩ := h2
  obtain ⟨a1', c1', hv, _, _, hS⟩ := h1
  simp only [Value.slice.injEq] at hv
  obtain ⟨rfl, _, rfl⟩ := hv
  by_cases hT0 : T = []
  · subst hT0
    refine wpList_plain hgd fun _ hK => ?_
    have hr : (Builtin.append_ #[95, 95] o.type #[.slice a1 S.length S.length, .slice a2 0 c2]).run Try.prog w = .ok (.slice a1 S.length S.length) w := by
      cases a1 <;> cases a2 <;> simp [Builtin.append_, run_underlying Try.underlying95, sizeOf, typeInfo, hi, Builtin.lenOf, Builtin.firstCells, storeCells, loadCellsFrom, loadCells]
    unfold Oper.wp execOp
    simp only [ho, resolve, invoke, builtin, Sem.run_bind, Sem.run_pure, Result.andThen_ok, List.map_toArray, List.map_cons, List.map_nil, hs, hx, hr, List.length_nil]
    refine hK _ _ (hk a1 S.length S.length _ (by rw [List.append_nil]) ⟨World.grownBy.refl w _, Nat.le_refl _, ?_⟩)
    rw [List.append_nil]
    refine hS.imp id ?_
    rintro ⟨g, off, ha, hg, hp⟩
    exact ⟨g, off, ha, by omega, hp, .inl hg⟩
  · obtain rfl := hor.resolve_right hT0
    obtain ⟨g2, off2, rfl, hg2, hp2⟩ := hT.resolve_left hT0
    have hpos := List.length_pos_iff.2 hT0
    have hmk : maxLen = 9223372036854775807 := by decide
    have hcell : ∀ j u, (plL.all T)[j]? = some u → w.cell? ((⟨g2, off2, none⟩ : Addr).add j) = some u := lay_cells (I := plL) (fun i p hp j v hv => by
      obtain ⟨h0, h1, h2⟩ := hp2 i p hp
      have e : plL.sz = 3 := rfl
      rw [e]
      rcases j with _ | _ | _ | j
      · cases hv; exact h0
      · cases hv; exact h1
      · cases hv; exact h2
      · simp [plL] at hv)
    have hgrow : ∃ v' w', (Builtin.append_ #[95, 95] o.type #[.slice a1 0 0, .slice (some ⟨g2, off2, none⟩) T.length c2]).run Try.prog w = .ok v' w' ∧ w'.ownsRow w.heap.size 118 3 v' (0 + T.length) ([] ++ plL.all T) ∧ w.grownBy w' none := by
      cases a1 with
      | some b =>
        exact run_append_arg_grows (P := Try.prog) w _ _ _ i0 _ 3 40 Try.underlying95 hi hz0 hz1 hz2 rfl (by decide) b 0 0 [] rfl (fun j u h => by simp at h) ⟨g2, off2, none⟩ T.length c2 (plL.all T) (Lay.all_len plL T) hcell (by omega) (by omega) (by omega)
      | none =>
        obtain ⟨v', w', hrun, r1, r2, _⟩ := run_append_own (P := Try.prog) w w.heap.size _ _ _ i0 _ 3 40 Try.underlying95 hi hz0 hz1 hz2 rfl (by decide) (.slice none 0 0) 0 [] (World.ownsRow_nil w _ _ _) ⟨g2, off2, none⟩ T.length c2 (plL.all T) (Lay.all_len plL T) hcell (Lay.all_ones plL T) (by omega) (by omega) (Nat.le_refl _)
        exact ⟨v', w', hrun, r1, r2⟩
    obtain ⟨v', w', hr, hown, hg⟩ := hgrow
    rw [Nat.zero_add, List.nil_append] at hown
    refine wpList_plain hgd fun _ hK => ?_
    unfold Oper.wp execOp
    simp only [ho, resolve, invoke, builtin, Sem.run_bind, Sem.run_pure, Result.andThen_ok, List.map_toArray, List.map_cons, List.map_nil, hs, hx, List.length_nil, hr]
    have hlt := hown.lt
    rcases hown.2 with ⟨_, h0⟩ | ⟨g, cap, cur, hv, hgb, hh, hnc, _⟩
    · omega
    · subst hv
      exact hK _ _ (hk _ cap T.length _ (by simp) ⟨hg, hnc, .inr ⟨g, 0, rfl, (hlt g rfl).2, by simpa using pairs_own hown rfl, .inr hgb⟩⟩)
end Go.Proofs.Ytcbgnmolfdhnfaa
