/-
  Walks: the calls of a tree that make trees, or tell pairs. (Written by gentree16.py.)
-/
import Derived.Test.YtdfjnpnkfjcpcaaTB15
namespace Go.Proofs.Ytdfjnpnkfjcpcaa
set_option linter.unusedVariables false
set_option linter.unusedSimpArgs false
open Go.RowKit

set_option maxRecDepth 100000 in
set_option maxHeartbeats 1600000 in
theorem Put_any {w : World} {t : T} {v : Option Addr} (k x : ByteArray) (h : Tr w w.heap.size t v) (g : Good t 500000000) : Calls Try.prog 58 #[.pointer v, .string k, .string x] w (Grows w (T.IsPut t (k, x))) := by
  have H := Lib.hid h
  have G := Lib.hid g
  clear h g
  go_enter Try.func58, Try.ntmps58
  go_wp2_with fail
  go_fit (top_any H.out)
  rintro e w' ⟨⟨z, rfl, hk⟩, rfl⟩
  have K := Lib.hid hk
  clear hk
  go_wp2_with fail
  go_fit (put_any (k, x) G.out.bal G.out.sorted (by have := G.out.size; omega) w z K.out)
  rintro e w1 ⟨v1, t1, rfl, hq, hk1, hb1⟩
  have HE : Hid (Grows w (T.IsPut t (k, x)) (.returned (.pointer (some ⟨w1.heap.size, 0, none⟩))) (w1.alloc (.cells #[.pointer v1] 104))) := ⟨_, t1, rfl, hq, tree_made hk1, hb1.trans ((below_alloc w1 _).mono hb1.size)⟩
  clear hq hk1 hb1
  go_wp2_with fail
  go_ret
  exact HE.out

/-- A pair, or that there is none. -/
def toldV (o : Option Pr) : Value := .tuple #[.agg #[.string (o.elim ByteArray.empty (·.1)), .string (o.elim ByteArray.empty (·.2))], .bool o.isSome]

end Go.Proofs.Ytdfjnpnkfjcpcaa
