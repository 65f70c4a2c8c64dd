/-
  Filters, plainly: which may be, why not, what they hold of.
-/
import Derived.Test.YtdeknkfhlmkabaaQA
import Derived.Test.YtdeknkfhlmkabaaLs
namespace Go.Proofs.Ytdeknkfhlmkabaa
set_option linter.unusedVariables false
set_option linter.unusedSimpArgs false
open Go.RowKit

inductive Fl where
  | mk (kind : Int) (name text : ByteArray) (kids : List Fl)
def Fl.kind : Fl → Int | .mk k _ _ _ => k
def Fl.name : Fl → ByteArray | .mk _ n _ _ => n
def Fl.text : Fl → ByteArray | .mk _ _ t _ => t
def Fl.kids : Fl → List Fl | .mk _ _ _ ks => ks
theorem kid_lt {f k : Fl} (h : k ∈ f.kids) : SizeOf.sizeOf k < SizeOf.sizeOf f := by
  obtain ⟨a, b, c, ks⟩ := f
  have h1 := List.sizeOf_lt_of_mem h
  simp only [Fl.kids] at h1
  simp only [Fl.mk.sizeOf_spec]
  omega
/-- To prove of every filter what its kids hand up. -/
theorem Fl.ind {P : Fl → Prop} (h : ∀ f, (∀ k ∈ f.kids, P k) → P f) (f : Fl) : P f := by
  have : ∀ n : Nat, ∀ g : Fl, SizeOf.sizeOf g < n → P g := by
    intro n
    induction n with
    | zero => intro g hg; omega
    | succ n ih => intro g hg; exact h g (fun k hk => ih k (by have := kid_lt hk; omega))
  exact this _ f (Nat.lt_succ_self _)

/-- An event. -/
structure Kev where
  pos : Int
  key : ByteArray
  had : Bool
  old : ByteArray
  has : Bool
  now : ByteArray
def evL : Lay Kev := ⟨fun e => [.int .i64 e.pos, .string e.key, .bool e.had, .string e.old, .bool e.has, .string e.now], 6, fun _ => rfl, by intro o u hu; simp at hu; rcases hu with rfl | rfl | rfl | rfl | rfl | rfl <;> rfl⟩

def keyOk (s : ByteArray) : Bool := Tx.madeB s 1 24 Tx.plainB
def valOk (s : ByteArray) : Bool := Tx.madeB s 0 48 Tx.plainB
def nameOk (s : ByteArray) : Bool := Tx.madeB s 1 8 Tx.letterB
def nilB (s : ByteArray) : Bool := s.toList.isEmpty
/-- Whether a part may be, by how many kids it has. -/
def mayF (k : Int) (n t : ByteArray) (m : Nat) : Bool :=
  if k = 0 then (nilB n && nilB t) && decide (m = 0) else if k = 3 then (nilB n && nilB t) && decide (m = 0) else if k = 1 then (nilB n && decide (m = 0)) && keyOk t
  else if k = 2 then (decide (m = 0) && nameOk n) && valOk t else if k = 4 then (nilB n && nilB t) && decide (m = 1) else if k = 5 then nilB n && nilB t else if k = 6 then nilB n && nilB t else false
/-- How many parts are gone through, and the first error, where so many levels may follow. -/
def ec : Nat → Fl → Nat → Nat × Int
  | 0, _, ah => (ah, 51)
  | m + 1, f, ah => if 24 ≤ ah then (ah, 51) else if mayF f.kind f.name f.text f.kids.length = false then (ah + 1, 50) else f.kids.foldl (fun a k => if a.2 = 0 then ec m k a.1 else a) (ah + 1, 0)
def ecs (m : Nat) (ks : List Fl) (ah : Nat) : Nat × Int := ks.foldl (fun a k => if a.2 = 0 then ec m k a.1 else a) (ah, 0)
theorem ec_succ (m : Nat) (f : Fl) (ah : Nat) : ec (m + 1) f ah = if 24 ≤ ah then (ah, 51) else if mayF f.kind f.name f.text f.kids.length = false then (ah + 1, 50) else ecs m f.kids (ah + 1) := rfl
def ckF (f : Fl) : Int := (ec 6 f 0).2
def beginsB (s p : ByteArray) : Bool := Lib.hasPrefix s.data.toList p.data.toList
def eqB (n t : ByteArray) (e : Kev) : Bool := e.has && ((Tx.fieldOf n (Tx.partsOf e.now 32)).2 && decide ((Tx.fieldOf n (Tx.partsOf e.now 32)).1 = t))
/-- What a filter holds of, so many levels down. -/
def hold : Nat → Fl → Kev → Bool
  | 0, _, _ => false
  | m + 1, f, e => if f.kind = 0 then true else if f.kind = 1 then beginsB e.key f.text else if f.kind = 2 then eqB f.name f.text e else if f.kind = 3 then e.has else if f.kind = 4 then !(f.kids.any (hold m · e)) else if f.kind = 5 then f.kids.all (hold m · e) else f.kids.any (hold m · e)
def holdsF (f : Fl) (e : Kev) : Bool := decide (ckF f = 0) && hold 6 f e
def passF (f : Fl) (l : List Kev) : List Kev := l.filter (holdsF f)
theorem ecs_zero (m : Nat) (ks : List Fl) (ah : Nat) : ecs m (ks.take 0) ah = (ah, 0) := rfl
/-- The first kids are gone through. -/
theorem ecs_step {ks : List Fl} {i : Nat} {k : Fl} (h : ks[i]? = some k) (m ah : Nat) (h0 : (ecs m (ks.take i) ah).2 = 0) :
    ecs m (ks.take (i + 1)) ah = ec m k (ecs m (ks.take i) ah).1 := by
  unfold ecs at h0 ⊢
  rw [List.take_add_one, h, List.foldl_append]
  simp only [Option.toList, List.foldl_cons, List.foldl_nil]
  rw [if_pos h0]
theorem fold_bad (m : Nat) : ∀ (ks : List Fl) (a : Nat × Int), a.2 ≠ 0 → ks.foldl (fun a k => if a.2 = 0 then ec m k a.1 else a) a = a
  | [], a, _ => rfl
  | k :: ks, a, h => by
    rw [List.foldl_cons, if_neg h]
    exact fold_bad m ks a h
theorem ecs_bad {ks : List Fl} {i : Nat} (m ah : Nat) (h0 : (ecs m (ks.take i) ah).2 ≠ 0) : ecs m ks ah = ecs m (ks.take i) ah := by
  have e : ecs m ks ah = (ks.drop i).foldl (fun a k => if a.2 = 0 then ec m k a.1 else a) (ecs m (ks.take i) ah) := by
    unfold ecs
    rw [← List.foldl_append, List.take_append_drop]
  rw [e]
  exact fold_bad m _ _ h0
/-- However far it is gone, no more than 24 parts. -/
theorem ecs_le (m : Nat) (ih : ∀ (f : Fl) a, a ≤ 24 → (ec m f a).1 ≤ 24 ∧ a ≤ (ec m f a).1) : ∀ (ks : List Fl) (a : Nat × Int), a.1 ≤ 24 → (ks.foldl (fun a k => if a.2 = 0 then ec m k a.1 else a) a).1 ≤ 24 ∧ a.1 ≤ (ks.foldl (fun a k => if a.2 = 0 then ec m k a.1 else a) a).1
  | [], a, h => ⟨h, Nat.le_refl _⟩
  | k :: ks, a, h => by
    rw [List.foldl_cons]
    split
    · have h1 := ih k a.1 h
      have h2 := ecs_le m ih ks (ec m k a.1) h1.1
      omega
    · exact ecs_le m ih ks a h
theorem ec_le : ∀ (m : Nat) (f : Fl) (a : Nat), a ≤ 24 → (ec m f a).1 ≤ 24 ∧ a ≤ (ec m f a).1
  | 0, f, a, h => ⟨h, Nat.le_refl _⟩
  | m + 1, f, a, h => by
    rw [ec_succ]
    split
    · exact ⟨h, Nat.le_refl _⟩
    · split
      · simp only; omega
      · have := ecs_le m (ec_le m) f.kids (a + 1, 0) (by simp only; omega)
        unfold ecs
        simp only at this
        omega
theorem ecs_err (m : Nat) (ih : ∀ (f : Fl) a, (ec m f a).2 = 0 ∨ (ec m f a).2 = 50 ∨ (ec m f a).2 = 51) : ∀ (ks : List Fl) (a : Nat × Int), (a.2 = 0 ∨ a.2 = 50 ∨ a.2 = 51) → (let r := ks.foldl (fun a k => if a.2 = 0 then ec m k a.1 else a) a; r.2 = 0 ∨ r.2 = 50 ∨ r.2 = 51)
  | [], a, h => h
  | k :: ks, a, h => by
    rw [List.foldl_cons]
    split
    · exact ecs_err m ih ks _ (ih k a.1)
    · exact ecs_err m ih ks a h
theorem ec_err : ∀ (m : Nat) (f : Fl) (a : Nat), (ec m f a).2 = 0 ∨ (ec m f a).2 = 50 ∨ (ec m f a).2 = 51
  | 0, f, a => .inr (.inr rfl)
  | m + 1, f, a => by
    rw [ec_succ]
    split
    · exact .inr (.inr rfl)
    · split
      · exact .inr (.inl rfl)
      · exact ecs_err m (ec_err m) f.kids (a + 1, 0) (.inl rfl)
end Go.Proofs.Ytdeknkfhlmkabaa
