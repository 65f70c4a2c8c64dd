/-
  Walks: kind; the examples.
-/
import Derived.Test.YtdeknkfhlmkabaaF14
import Derived.Test.YtdeknkfhlmkabaaF22
namespace Go.Proofs.Ytdeknkfhlmkabaa
set_option linter.unusedVariables false
set_option linter.unusedSimpArgs false
open Go.RowKit

theorem results_cell {fn : Func} {p : Tmp} {ty : TypeId} (h : fn.results = #[.cell p ty]) (tmps : Array Value) (P : Program) (w : World) :
    (results fn tmps).run P w = ((asAddr (tmps.getD p undef)).run P w).andThen fun a w₁ => (loadVar ty a).run P w₁ := by
  simp only [results, h]
  simp [Sem.run_bind, Result.andThen]
set_option maxRecDepth 100000 in
set_option maxHeartbeats 1600000 in
theorem kind_any (k : Int) (a : Option Addr) (n c : Nat) (w : World) : Calls Try.prog 36 #[.int .i64 k, .slice a n c] w fun e w' => e = .returned (.agg #[.int .i64 k, .string ByteArray.empty, .string ByteArray.empty, .slice a n c]) ∧ Below w.heap.size w w' := by
  go_enter Try.func36, Try.ntmps36
  go_wp2_with fail
  (try simp only [Exit.inBlock, Exit.then])
  refine bodyPost_ret (v := .agg #[.int .i64 k, .string ByteArray.empty, .string ByteArray.empty, .slice a n c]) ?_ rfl ⟨rfl, lay_alloc w _⟩
  rw [results_cell rfl]
  go_simp
  rfl
def aPre : Fl := .mk 1 ByteArray.empty "a".toUTF8 []
def aPut : Fl := .mk 3 ByteArray.empty ByteArray.empty []
def aF : Fl := .mk 5 ByteArray.empty ByteArray.empty [aPre, aPut]
def aNot : Fl := .mk 4 ByteArray.empty ByteArray.empty []
def aB : List Int := [1, 5, 0, 0, 1, 2, 1, 1, 0, 1, 1, 97, 0, 1, 3, 0, 0, 0]
theorem aF_ck : ckF aF = 0 := by decide +kernel
theorem aNot_ck : ckF aNot = 50 := by decide +kernel
theorem aF_b : flB 6 aF = aB := by decide +kernel
theorem aF_hold : holdsF aF ⟨0, "ab".toUTF8, false, ByteArray.empty, true, ByteArray.empty⟩ = true := by decide +kernel
theorem aF_hold2 : holdsF aF ⟨0, "ab".toUTF8, true, ByteArray.empty, false, ByteArray.empty⟩ = false := by decide +kernel
theorem aF_tk : (tk aB 6 (0, 0) 0) = ⟨true, aF, (18, 0), 3⟩ := by kernel_rfl
theorem aF_get : getOk aB = true := by unfold getOk goodF; rw [aF_tk]; decide +kernel
theorem Light.leaf {k : Int} {n t : ByteArray} (hn : n.size ≤ 8192) (ht : t.size ≤ 8192) : Light (.mk k n t []) := .mk _ hn ht (Nat.zero_le _) (fun k hk => by simp [Fl.kids] at hk)
theorem aF_light : Light aF := .mk _ (by decide) (by decide) (by decide) (fun k hk => by simp [aF, Fl.kids] at hk; rcases hk with rfl | rfl; exact .leaf (by decide) (by decide); exact .leaf (by decide) (by decide))
theorem aNot_light : Light aNot := .leaf (by decide) (by decide)
end Go.Proofs.Ytdeknkfhlmkabaa
