/-
  DERIVED. GIVEN WITH THE SEED: THE CARDS: each row of YthmibccjnhmegaaDoorRows.lean that lists a variable, with what it lists TIED to the program's text (the seventh form; the later family's looks); each row that meets fmt, with fmt's text TOLD by the authors' own Lean function (tested against real Go, not proved from fmt's source: count such statements apart). THE CARD IS WHAT COUNTS. Prove the row's statement (the work); the ties are given (YthmibccjnhmegaaDoorTie.lean); close each card by the builder's one call (the guide's Derived/Test/ToyasCard.lean, 'card_holds'). Laid BY PROGRAM, IN A SANDBOX (cutbox-door.mjs). By AI agents, Wed Nov 11 2026. No macro, syntax, notation, axiom, sorry.
-/
import Derived.Test.YthmibccjnhmegaaDoorRows
import GoSem.ClaimSeven
namespace Go.Proofs.YthmibccjnhmegaaDoor
namespace Rows

/-- THE TIED CARD OF 'tidemarklaw02.TextKeys'. -/
def textKeysCard : Claim7 := { stood := { row := textKeysRow, standIns := [], harness := (true, "4fb22ebe18baf61d274c9c8f10d269a08a8f22e7a764ff64488f087c3f65cb17"), looks := false }, kinds := [], alts := [], laidByText := true, laidKinds := [.data, .pinned], laidTests := true, laidLooks := .later }
def TextKeysCardSaid : Prop := Claim7.holds Tryd.pinned (.plain (OpenSpec.ofChange textKeysSpec)) textKeysCard

/-- THE TIED CARD OF 'tidemarklaw02.TextParts'. -/
def textPartsCard : Claim7 := { stood := { row := textPartsRow, standIns := [], harness := (true, "4fb22ebe18baf61d274c9c8f10d269a08a8f22e7a764ff64488f087c3f65cb17"), looks := false }, kinds := [], alts := [], laidByText := true, laidKinds := [.data, .pinned], laidTests := true, laidLooks := .later }
def TextPartsCardSaid : Prop := Claim7.holds Tryd.pinned (.plain (OpenSpec.ofChange textPartsSpec)) textPartsCard

/-- THE TIED CARD OF 'tidemarklaw02.TextFields'. -/
def textFieldsCard : Claim7 := { stood := { row := textFieldsRow, standIns := [], harness := (true, "4fb22ebe18baf61d274c9c8f10d269a08a8f22e7a764ff64488f087c3f65cb17"), looks := false }, kinds := [], alts := [], laidByText := true, laidKinds := [.data, .pinned], laidTests := true, laidLooks := .later }
def TextFieldsCardSaid : Prop := Claim7.holds Tryd.pinned (.plain (OpenSpec.ofChange textFieldsSpec)) textFieldsCard

/-- THE TIED CARD OF 'tidemarklaw02.TextNumbers'. -/
def textNumbersCard : Claim7 := { stood := { row := textNumbersRow, standIns := [], harness := (true, "4fb22ebe18baf61d274c9c8f10d269a08a8f22e7a764ff64488f087c3f65cb17"), looks := false }, kinds := [], alts := [], laidByText := true, laidKinds := [.data, .pinned], laidTests := true, laidLooks := .later }
def TextNumbersCardSaid : Prop := Claim7.holds Tryd.pinned (.plain (OpenSpec.ofChange textNumbersSpec)) textNumbersCard

/-- THE TIED CARD OF 'tidemarklaw02.TextBegins'. -/
def textBeginsCard : Claim7 := { stood := { row := textBeginsRow, standIns := [], harness := (true, "4fb22ebe18baf61d274c9c8f10d269a08a8f22e7a764ff64488f087c3f65cb17"), looks := false }, kinds := [], alts := [], laidByText := true, laidKinds := [.data, .pinned], laidTests := true, laidLooks := .later }
def TextBeginsCardSaid : Prop := Claim7.holds Tryd.pinned (.plain (OpenSpec.ofChange textBeginsSpec)) textBeginsCard

/-- THE TIED CARD OF 'tidemarklaw02.TextJoined'. -/
def textJoinedCard : Claim7 := { stood := { row := textJoinedRow, standIns := [], harness := (true, "4fb22ebe18baf61d274c9c8f10d269a08a8f22e7a764ff64488f087c3f65cb17"), looks := false }, kinds := [], alts := [], laidByText := true, laidKinds := [.data, .pinned], laidTests := true, laidLooks := .later }
def TextJoinedCardSaid : Prop := Claim7.holds Tryd.pinned (.plain (OpenSpec.ofChange textJoinedSpec)) textJoinedCard

/-- THE TIED CARD OF 'tidemarklaw02.TextMade'. -/
def textMadeCard : Claim7 := { stood := { row := textMadeRow, standIns := [], harness := (true, "4fb22ebe18baf61d274c9c8f10d269a08a8f22e7a764ff64488f087c3f65cb17"), looks := false }, kinds := [], alts := [], laidByText := true, laidKinds := [.data, .pinned], laidTests := true, laidLooks := .later }
def TextMadeCardSaid : Prop := Claim7.holds Tryd.pinned (.plain (OpenSpec.ofChange textMadeSpec)) textMadeCard

/-- THE TIED CARD OF 'tidemarklaw02.TextTold'. -/
def textToldCard : Claim7 := { stood := { row := textToldRow, standIns := [], harness := (true, "4fb22ebe18baf61d274c9c8f10d269a08a8f22e7a764ff64488f087c3f65cb17"), looks := false }, kinds := [], alts := [], laidByText := true, laidKinds := [.data, .data, .data, .data, .pinned], laidTests := true, laidLooks := .later }
def TextToldCardSaid : Prop := Claim7.holds Tryd.pinned (.plain (OpenSpec.ofChange textToldSpec)) textToldCard

/-- THE TIED CARD OF 'tidemarklaw02.TextShort'. -/
def textShortCard : Claim7 := { stood := { row := textShortRow, standIns := [], harness := (true, "4fb22ebe18baf61d274c9c8f10d269a08a8f22e7a764ff64488f087c3f65cb17"), looks := false }, kinds := [], alts := [], laidByText := true, laidKinds := [.data, .pinned], laidTests := true, laidLooks := .later }
def TextShortCardSaid : Prop := Claim7.holds Tryd.pinned (.plain (OpenSpec.ofChange textShortSpec)) textShortCard

/-- THE TIED CARD OF 'tidemarklaw02.TextCut'. -/
def textCutCard : Claim7 := { stood := { row := textCutRow, standIns := [], harness := (true, "4fb22ebe18baf61d274c9c8f10d269a08a8f22e7a764ff64488f087c3f65cb17"), looks := false }, kinds := [], alts := [], laidByText := true, laidKinds := [.data, .pinned], laidTests := true, laidLooks := .later }
def TextCutCardSaid : Prop := Claim7.holds Tryd.pinned (.plain (OpenSpec.ofChange textCutSpec)) textCutCard

/-- THE TIED CARD OF 'tidemarklaw02.TextMany'. -/
def textManyCard : Claim7 := { stood := { row := textManyRow, standIns := [], harness := (true, "4fb22ebe18baf61d274c9c8f10d269a08a8f22e7a764ff64488f087c3f65cb17"), looks := false }, kinds := [], alts := [], laidByText := true, laidKinds := [.data, .pinned], laidTests := true, laidLooks := .later }
def TextManyCardSaid : Prop := Claim7.holds Tryd.pinned (.plain (OpenSpec.ofChange textManySpec)) textManyCard

/-- THE SECOND FORM's CARD OF 'tidemarklaw02.TextKeys'. -/
def textKeysUptoCard : Claim7 := { stood := { row := textKeysUptoRow, standIns := [], harness := (true, "4fb22ebe18baf61d274c9c8f10d269a08a8f22e7a764ff64488f087c3f65cb17"), looks := false }, kinds := [], alts := [], laidByText := true, laidKinds := [.data, .pinned], laidTests := true, laidLooks := .later }
def TextKeysUptoCardSaid : Prop := Claim7.holds Tryd.pinned (.plain (OpenSpec.upto textKeysSpec)) textKeysUptoCard

/-- THE SECOND FORM's CARD OF 'tidemarklaw02.TextParts'. -/
def textPartsUptoCard : Claim7 := { stood := { row := textPartsUptoRow, standIns := [], harness := (true, "4fb22ebe18baf61d274c9c8f10d269a08a8f22e7a764ff64488f087c3f65cb17"), looks := false }, kinds := [], alts := [], laidByText := true, laidKinds := [.data, .pinned], laidTests := true, laidLooks := .later }
def TextPartsUptoCardSaid : Prop := Claim7.holds Tryd.pinned (.plain (OpenSpec.upto textPartsSpec)) textPartsUptoCard

/-- THE SECOND FORM's CARD OF 'tidemarklaw02.TextFields'. -/
def textFieldsUptoCard : Claim7 := { stood := { row := textFieldsUptoRow, standIns := [], harness := (true, "4fb22ebe18baf61d274c9c8f10d269a08a8f22e7a764ff64488f087c3f65cb17"), looks := false }, kinds := [], alts := [], laidByText := true, laidKinds := [.data, .pinned], laidTests := true, laidLooks := .later }
def TextFieldsUptoCardSaid : Prop := Claim7.holds Tryd.pinned (.plain (OpenSpec.upto textFieldsSpec)) textFieldsUptoCard

/-- THE SECOND FORM's CARD OF 'tidemarklaw02.TextNumbers'. -/
def textNumbersUptoCard : Claim7 := { stood := { row := textNumbersUptoRow, standIns := [], harness := (true, "4fb22ebe18baf61d274c9c8f10d269a08a8f22e7a764ff64488f087c3f65cb17"), looks := false }, kinds := [], alts := [], laidByText := true, laidKinds := [.data, .pinned], laidTests := true, laidLooks := .later }
def TextNumbersUptoCardSaid : Prop := Claim7.holds Tryd.pinned (.plain (OpenSpec.upto textNumbersSpec)) textNumbersUptoCard

/-- THE SECOND FORM's CARD OF 'tidemarklaw02.TextBegins'. -/
def textBeginsUptoCard : Claim7 := { stood := { row := textBeginsUptoRow, standIns := [], harness := (true, "4fb22ebe18baf61d274c9c8f10d269a08a8f22e7a764ff64488f087c3f65cb17"), looks := false }, kinds := [], alts := [], laidByText := true, laidKinds := [.data, .pinned], laidTests := true, laidLooks := .later }
def TextBeginsUptoCardSaid : Prop := Claim7.holds Tryd.pinned (.plain (OpenSpec.upto textBeginsSpec)) textBeginsUptoCard

/-- THE SECOND FORM's CARD OF 'tidemarklaw02.TextJoined'. -/
def textJoinedUptoCard : Claim7 := { stood := { row := textJoinedUptoRow, standIns := [], harness := (true, "4fb22ebe18baf61d274c9c8f10d269a08a8f22e7a764ff64488f087c3f65cb17"), looks := false }, kinds := [], alts := [], laidByText := true, laidKinds := [.data, .pinned], laidTests := true, laidLooks := .later }
def TextJoinedUptoCardSaid : Prop := Claim7.holds Tryd.pinned (.plain (OpenSpec.upto textJoinedSpec)) textJoinedUptoCard

/-- THE SECOND FORM's CARD OF 'tidemarklaw02.TextMade'. -/
def textMadeUptoCard : Claim7 := { stood := { row := textMadeUptoRow, standIns := [], harness := (true, "4fb22ebe18baf61d274c9c8f10d269a08a8f22e7a764ff64488f087c3f65cb17"), looks := false }, kinds := [], alts := [], laidByText := true, laidKinds := [.data, .pinned], laidTests := true, laidLooks := .later }
def TextMadeUptoCardSaid : Prop := Claim7.holds Tryd.pinned (.plain (OpenSpec.upto textMadeSpec)) textMadeUptoCard

/-- THE SECOND FORM's CARD OF 'tidemarklaw02.TextTold'. -/
def textToldUptoCard : Claim7 := { stood := { row := textToldUptoRow, standIns := [], harness := (true, "4fb22ebe18baf61d274c9c8f10d269a08a8f22e7a764ff64488f087c3f65cb17"), looks := false }, kinds := [], alts := [], laidByText := true, laidKinds := [.data, .data, .data, .data, .pinned], laidTests := true, laidLooks := .later }
def TextToldUptoCardSaid : Prop := Claim7.holds Tryd.pinned (.plain (OpenSpec.upto textToldSpec)) textToldUptoCard

/-- THE SECOND FORM's CARD OF 'tidemarklaw02.TextShort'. -/
def textShortUptoCard : Claim7 := { stood := { row := textShortUptoRow, standIns := [], harness := (true, "4fb22ebe18baf61d274c9c8f10d269a08a8f22e7a764ff64488f087c3f65cb17"), looks := false }, kinds := [], alts := [], laidByText := true, laidKinds := [.data, .pinned], laidTests := true, laidLooks := .later }
def TextShortUptoCardSaid : Prop := Claim7.holds Tryd.pinned (.plain (OpenSpec.upto textShortSpec)) textShortUptoCard

/-- THE SECOND FORM's CARD OF 'tidemarklaw02.TextCut'. -/
def textCutUptoCard : Claim7 := { stood := { row := textCutUptoRow, standIns := [], harness := (true, "4fb22ebe18baf61d274c9c8f10d269a08a8f22e7a764ff64488f087c3f65cb17"), looks := false }, kinds := [], alts := [], laidByText := true, laidKinds := [.data, .pinned], laidTests := true, laidLooks := .later }
def TextCutUptoCardSaid : Prop := Claim7.holds Tryd.pinned (.plain (OpenSpec.upto textCutSpec)) textCutUptoCard

/-- THE SECOND FORM's CARD OF 'tidemarklaw02.TextMany'. -/
def textManyUptoCard : Claim7 := { stood := { row := textManyUptoRow, standIns := [], harness := (true, "4fb22ebe18baf61d274c9c8f10d269a08a8f22e7a764ff64488f087c3f65cb17"), looks := false }, kinds := [], alts := [], laidByText := true, laidKinds := [.data, .pinned], laidTests := true, laidLooks := .later }
def TextManyUptoCardSaid : Prop := Claim7.holds Tryd.pinned (.plain (OpenSpec.upto textManySpec)) textManyUptoCard
end Rows
end Go.Proofs.YthmibccjnhmegaaDoor
