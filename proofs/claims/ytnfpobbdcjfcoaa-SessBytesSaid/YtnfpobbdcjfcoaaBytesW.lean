/-
  SessBytes: every argument.
-/
import Derived.Test.YtnfpobbdcjfcoaaBytesA
namespace Go.Proofs.Ytnfpobbdcjfcoaa
set_option linter.unusedVariables false
set_option linter.unusedSimpArgs false
open Go.RowKit
variable {w : World}

set_option maxHeartbeats 1600000 in
theorem Bytes_far {v v2 : Value} {ks ms : List Kd} (hks : KdsIn w v ks) (hms : KdsIn w v2 ms) {p : Option Addr} {n cb : Nat} (h : 500 < ks.length ∨ 500 < ms.length ∨ 8192 < n) :
    Calls Try.prog 8 #[v, v2, .slice p n cb] w (Yes w) := by
  obtain ⟨a, c, rfl, _⟩ := hks
  obtain ⟨a2, c2, rfl, _⟩ := hms
  by_cases h1 : 500 < ks.length
  · have g1 : 500 < ((ks.length : Nat) : Int) := by omega
    go_enter Try.func8, Try.ntmps8
    go_wp2_with fail
    go_fit (awake_any w)
    rintro e w1 ⟨rfl, hb⟩
    have HB := Lib.hid hb
    clear hb
    go_wp2_with fail
    go_ret
    exact ⟨rfl, HB.out⟩
  · have g1 : ((ks.length : Nat) : Int) ≤ 500 := by omega
    by_cases h2 : 500 < ms.length
    · have g2 : 500 < ((ms.length : Nat) : Int) := by omega
      go_enter Try.func8, Try.ntmps8
      go_wp2_with fail
      go_fit (awake_any w)
      rintro e w1 ⟨rfl, hb⟩
      have HB := Lib.hid hb
      clear hb
      go_wp2_with fail
      go_ret
      exact ⟨rfl, HB.out⟩
    · have g2 : ((ms.length : Nat) : Int) ≤ 500 := by omega
      have g3 : 8192 < ((n : Nat) : Int) := by omega
      go_enter Try.func8, Try.ntmps8
      go_wp2_with fail
      go_fit (awake_any w)
      rintro e w1 ⟨rfl, hb⟩
      have HB := Lib.hid hb
      clear hb
      go_wp2_with fail
      go_ret
      exact ⟨rfl, HB.out⟩

theorem Bytes_all {v v2 : Value} {ks ms : List Kd} {Q : Kd → Prop} {R : Prop} (hks : KdsIn w v ks) (hkq : ∀ k ∈ ks, k.q ≤ 9223372036854775807 ∧ Q k) (hms : KdsIn w v2 ms) (hmq : ∀ k ∈ ms, k.q ≤ 9223372036854775807 ∧ Q k) {p : Option Addr} {n cb : Nat} {xs : List Int} (hx : xs.length = n) (hb : Lib.BytesIn w p n xs) (hp : p = none → n = 0 ∧ cb = 0) (_ : R) (hr : ∀ x ∈ xs, 0 ≤ x ∧ x < 256) (hnc : n ≤ cb) :
    Calls Try.prog 8 #[v, v2, .slice p n cb] w (Yes w) := by
  by_cases h : 500 < ks.length ∨ 500 < ms.length ∨ 8192 < n
  · exact Bytes_far hks hms h
  · exact Bytes_any hks (fun k hk => (hkq k hk).1) hms hx hb hp hr (by omega) (by omega) (by omega)
end Go.Proofs.Ytnfpobbdcjfcoaa
