/-
  Maps: operations, events and plans, plainly.
-/
import Derived.Test.YtdfjnpnkfjcpcaaLs
import Derived.Test.YtdfjnpnkfjcpcaaTB17
import Derived.Test.YtdfjnpnkfjcpcaaTM5
import Derived.Test.YtdfjnpnkfjcpcaaQB4
import Derived.Laws.StructEq
namespace Go.Proofs.Ytdfjnpnkfjcpcaa
set_option linter.unusedVariables false
set_option linter.unusedSimpArgs false
open Go.RowKit

/-- An operation. -/
structure Kop where
  key : ByteArray
  has : Bool
  val : ByteArray
/-- An event. -/
structure Kev where
  pos : Int
  key : ByteArray
  had : Bool
  old : ByteArray
  has : Bool
  now : ByteArray
def opL : Lay Kop := ⟨fun o => [.string o.key, .bool o.has, .string o.val], 3, fun _ => rfl, by intro o u hu; simp at hu; rcases hu with rfl | rfl | rfl <;> rfl⟩
def evL : Lay Kev := ⟨fun e => [.int .i64 e.pos, .string e.key, .bool e.had, .string e.old, .bool e.has, .string e.now], 6, fun _ => rfl, by intro o u hu; simp at hu; rcases hu with rfl | rfl | rfl | rfl | rfl | rfl <;> rfl⟩

def val1 (L : List Pr) (k : ByteArray) : ByteArray := (look L k).getD ByteArray.empty
def hasB (L : List Pr) (k : ByteArray) : Bool := (look L k).isSome
def isB (L : List Pr) (o : Kop) : Bool := (hasB L o.key == o.has) && decide (val1 L o.key = o.val)
def evOf (L : List Pr) (pos : Int) (o : Kop) : Kev := ⟨pos, o.key, hasB L o.key, val1 L o.key, o.has, o.val⟩
def chg (L : List Pr) (pos : Int) (ops : List Kop) : List Kev := (ops.filter (fun o => !isB L o)).map (evOf L pos)
theorem chg_step (L : List Pr) (pos : Int) {ops : List Kop} {i : Nat} {o : Kop} (h : ops[i]? = some o) : chg L pos (ops.take (i + 1)) = if isB L o = true then chg L pos (ops.take i) else chg L pos (ops.take i) ++ [evOf L pos o] := by
  unfold chg
  rw [List.take_add_one, h, List.filter_append, List.map_append]
  cases hb : isB L o <;> simp [hb]
theorem chg_len (L : List Pr) (pos : Int) (ops : List Kop) : (chg L pos ops).length ≤ ops.length := by
  unfold chg
  rw [List.length_map]
  exact List.length_filter_le _ _
def lenE1 (n : Int) (e : Kev) : Int := (if e.has = true then n + 1 else n) - (if e.had = true then 1 else 0)
def lenE (n : Int) (es : List Kev) : Int := es.foldl lenE1 n
theorem lenE_step (n : Int) {es : List Kev} {i : Nat} {e : Kev} (h : es[i]? = some e) : lenE n (es.take (i + 1)) = lenE1 (lenE n (es.take i)) e := by
  unfold lenE
  rw [List.take_add_one, h, List.foldl_append]; rfl
theorem lenE_in : ∀ (es : List Kev) (n : Int), n - es.length ≤ lenE n es ∧ lenE n es ≤ n + es.length
  | [], n => by simp [lenE]
  | e :: es, n => by
    have ih := lenE_in es (lenE1 n e)
    have h : n - 1 ≤ lenE1 n e ∧ lenE1 n e ≤ n + 1 := by unfold lenE1; split <;> split <;> omega
    simp only [lenE, List.foldl_cons, List.length_cons] at ih ⊢
    omega
def take1 (L : List Pr) (e : Kev) : List Pr := if e.has = true then wi L (e.key, e.now) else wo L e.key
def takes (L : List Pr) (es : List Kev) : List Pr := es.foldl take1 L
theorem takes_step (L : List Pr) {es : List Kev} {i : Nat} {e : Kev} (h : es[i]? = some e) : takes L (es.take (i + 1)) = take1 (takes L (es.take i)) e := by
  unfold takes
  rw [List.take_add_one, h, List.foldl_append]; rfl
theorem take1_sorted {L : List Pr} (h : Sorted L) (e : Kev) : Sorted (take1 L e) := by
  unfold take1
  split
  · exact wi_sorted h _
  · exact wo_sorted h _
theorem take1_len (L : List Pr) (e : Kev) : (take1 L e).length ≤ L.length + 1 := by
  unfold take1
  split
  · exact wi_len _ _
  · have := wo_len L e.key; omega
theorem takes_sorted : ∀ (es : List Kev) {L : List Pr}, Sorted L → Sorted (takes L es)
  | [], _, h => h
  | e :: es, _, h => takes_sorted es (take1_sorted h e)
theorem takes_len : ∀ (es : List Kev) (L : List Pr), (takes L es).length ≤ L.length + es.length
  | [], L => Nat.le_refl _
  | e :: es, L => by
    have h1 := takes_len es (take1 L e)
    have h2 := take1_len L e
    simp only [takes, List.foldl_cons, List.length_cons] at h1 ⊢
    omega

def keyOk (s : ByteArray) : Bool := Tx.madeB s 1 24 Tx.plainB
def valOk (s : ByteArray) : Bool := Tx.madeB s 0 48 Tx.plainB
def hasK (l : List Kop) (k : ByteArray) : Bool := l.any fun o => decide (o.key = k)
theorem hasK_step {l : List Kop} {i : Nat} {o : Kop} (h : l[i]? = some o) (k : ByteArray) : hasK (l.take (i + 1)) k = (hasK (l.take i) k || decide (o.key = k)) := by
  unfold hasK
  rw [List.take_add_one, h]; simp
theorem hasK_hit {l : List Kop} {i : Nat} {o : Kop} (h : l[i]? = some o) {k : ByteArray} (e : o.key = k) : hasK l k = true := by
  unfold hasK
  rw [List.any_eq_true]
  exact ⟨o, List.mem_of_getElem? h, by simpa using e⟩
def may1 (pre : List Kop) (o : Kop) : Int :=
  if keyOk o.key = false then 20 else if (o.has && !valOk o.val || !o.has && !decide (o.val = ByteArray.empty)) = true then 21 else if hasK pre o.key = true then 61 else 0
def mayGo (pre : List Kop) : List Kop → Int
  | [] => 0
  | o :: l => if may1 pre o = 0 then mayGo (pre ++ [o]) l else may1 pre o
def mayE (l : List Kop) : Int := mayGo [] l
theorem may_step {l : List Kop} {i : Nat} {o : Kop} (h : l[i]? = some o) (hm : mayGo (l.take i) (l.drop i) = mayE l) :
    (may1 (l.take i) o = 0 → mayGo (l.take (i + 1)) (l.drop (i + 1)) = mayE l) ∧ (may1 (l.take i) o ≠ 0 → mayE l = may1 (l.take i) o) := by
  have hlt := (List.getElem?_eq_some_iff.1 h).1
  have e : l.drop i = o :: l.drop (i + 1) := by
    rw [List.drop_eq_getElem_cons hlt]
    congr 1
    exact (List.getElem?_eq_some_iff.1 h).2
  rw [e] at hm
  simp only [mayGo] at hm
  constructor
  · intro h0
    rw [if_pos h0] at hm
    rw [← hm, List.take_add_one, h]; rfl
  · intro h0
    rw [if_neg h0] at hm
    exact hm.symm
theorem may_end {l : List Kop} (h : mayGo (l.take l.length) (l.drop l.length) = mayE l) : mayE l = 0 := by
  rw [List.drop_length] at h
  exact h.symm
def ckE (conds ops : List Kop) : Int :=
  if (decide (ops.length = 0) || decide (6 < ops.length) || decide (6 < conds.length)) = true then 61 else if mayE conds = 0 then mayE ops else mayE conds
def plan (L : List Pr) (pos : Int) (conds ops : List Kop) : List Kev × Int :=
  if ckE conds ops = 0 then (if conds.all (isB L) = true then (if 24 < lenE L.length (chg L pos ops) then ([], 7) else (chg L pos ops, 0)) else ([], 60)) else ([], ckE conds ops)
def doo (L : List Pr) (pos : Int) (conds ops : List Kop) : List Pr := if (plan L pos conds ops).2 = 0 then takes L (plan L pos conds ops).1 else L
theorem plan_len (L : List Pr) (pos : Int) (conds ops : List Kop) : (plan L pos conds ops).1.length ≤ ops.length := by
  unfold plan
  repeat' split
  all_goals first | exact chg_len _ _ _ | simp
theorem ck_len {conds ops : List Kop} (h : ckE conds ops = 0) : ops.length ≤ 6 ∧ conds.length ≤ 6 ∧ 0 < ops.length := by
  unfold ckE at h
  split at h
  · cases h
  · rename_i hn
    simp only [Bool.or_eq_true, decide_eq_true_eq, not_or] at hn
    omega
theorem plan_len6 (L : List Pr) (pos : Int) (conds ops : List Kop) : (plan L pos conds ops).1.length ≤ 6 := by
  have hc := chg_len L pos ops
  unfold plan
  split
  · rename_i h
    have := (ck_len h).1
    repeat' split
    all_goals first | (simp only []; omega) | simp
  · simp
theorem doo_sorted {L : List Pr} (h : Sorted L) (pos : Int) (conds ops : List Kop) : Sorted (doo L pos conds ops) := by
  unfold doo
  split
  · exact takes_sorted _ h
  · exact h
theorem doo_len (L : List Pr) (pos : Int) (conds ops : List Kop) : (doo L pos conds ops).length ≤ L.length + 6 := by
  have h1 := takes_len (plan L pos conds ops).1 L
  have h2 := plan_len6 L pos conds ops
  unfold doo
  split <;> omega
end Go.Proofs.Ytdfjnpnkfjcpcaa
