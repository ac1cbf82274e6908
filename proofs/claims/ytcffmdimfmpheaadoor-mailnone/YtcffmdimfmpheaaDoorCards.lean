/-
  DERIVED. GIVEN WITH THE SEED: THE CARDS: each row of YtcffmdimfmpheaaDoorRows.lean that lists a variable, with what it lists TIED to the program's text (the seventh form; the later family's looks); each row that meets fmt, with fmt's text TOLD by the authors' own Lean function (tested against real Go, not proved from fmt's source: count such statements apart). THE CARD IS WHAT COUNTS. Prove the row's statement (the work); the ties are given (YtcffmdimfmpheaaDoorTie.lean); close each card by the builder's one call (the guide's Derived/Test/ToyasCard.lean, 'card_holds'). Laid BY PROGRAM, IN A SANDBOX (cutbox-door.mjs). By AI agents, Wed Nov 11 2026. No macro, syntax, notation, axiom, sorry.
-/
import Derived.Test.YtcffmdimfmpheaaDoorRows
import GoSem.ClaimSeven
namespace Go.Proofs.YtcffmdimfmpheaaDoor
namespace Rows

/-- THE TIED CARD OF 'wherrylaw15.MailActs'. -/
def mailActsCard : Claim7 := { stood := { row := mailActsRow, standIns := [], harness := (true, "c1cbe7ad6c603bfcaf42c5a38caf4342e16dde8683fe110bb63ded73dffd3832"), looks := false }, kinds := [], alts := [], laidByText := true, laidKinds := [.data], laidTests := true, laidLooks := .later }
def MailActsCardSaid : Prop := Claim7.holds Tryd.pinned (.plain (OpenSpec.ofChange mailActsSpec)) mailActsCard

/-- THE TIED CARD OF 'wherrylaw15.MailOrder'. -/
def mailOrderCard : Claim7 := { stood := { row := mailOrderRow, standIns := [], harness := (true, "c1cbe7ad6c603bfcaf42c5a38caf4342e16dde8683fe110bb63ded73dffd3832"), looks := false }, kinds := [], alts := [], laidByText := true, laidKinds := [.data], laidTests := true, laidLooks := .later }
def MailOrderCardSaid : Prop := Claim7.holds Tryd.pinned (.plain (OpenSpec.ofChange mailOrderSpec)) mailOrderCard

/-- THE TIED CARD OF 'wherrylaw15.MailCopies'. -/
def mailCopiesCard : Claim7 := { stood := { row := mailCopiesRow, standIns := [], harness := (true, "c1cbe7ad6c603bfcaf42c5a38caf4342e16dde8683fe110bb63ded73dffd3832"), looks := false }, kinds := [], alts := [], laidByText := true, laidKinds := [.data], laidTests := true, laidLooks := .later }
def MailCopiesCardSaid : Prop := Claim7.holds Tryd.pinned (.plain (OpenSpec.ofChange mailCopiesSpec)) mailCopiesCard

/-- THE TIED CARD OF 'wherrylaw15.MailNone'. -/
def mailNoneCard : Claim7 := { stood := { row := mailNoneRow, standIns := [], harness := (true, "c1cbe7ad6c603bfcaf42c5a38caf4342e16dde8683fe110bb63ded73dffd3832"), looks := false }, kinds := [], alts := [], laidByText := true, laidKinds := [.data], laidTests := true, laidLooks := .later }
def MailNoneCardSaid : Prop := Claim7.holds Tryd.pinned (.plain (OpenSpec.ofChange mailNoneSpec)) mailNoneCard

/-- THE SECOND FORM's CARD OF 'wherrylaw15.MailActs'. -/
def mailActsUptoCard : Claim7 := { stood := { row := mailActsUptoRow, standIns := [], harness := (true, "c1cbe7ad6c603bfcaf42c5a38caf4342e16dde8683fe110bb63ded73dffd3832"), looks := false }, kinds := [], alts := [], laidByText := true, laidKinds := [.data], laidTests := true, laidLooks := .later }
def MailActsUptoCardSaid : Prop := Claim7.holds Tryd.pinned (.plain (OpenSpec.upto mailActsSpec)) mailActsUptoCard

/-- THE SECOND FORM's CARD OF 'wherrylaw15.MailOrder'. -/
def mailOrderUptoCard : Claim7 := { stood := { row := mailOrderUptoRow, standIns := [], harness := (true, "c1cbe7ad6c603bfcaf42c5a38caf4342e16dde8683fe110bb63ded73dffd3832"), looks := false }, kinds := [], alts := [], laidByText := true, laidKinds := [.data], laidTests := true, laidLooks := .later }
def MailOrderUptoCardSaid : Prop := Claim7.holds Tryd.pinned (.plain (OpenSpec.upto mailOrderSpec)) mailOrderUptoCard

/-- THE SECOND FORM's CARD OF 'wherrylaw15.MailCopies'. -/
def mailCopiesUptoCard : Claim7 := { stood := { row := mailCopiesUptoRow, standIns := [], harness := (true, "c1cbe7ad6c603bfcaf42c5a38caf4342e16dde8683fe110bb63ded73dffd3832"), looks := false }, kinds := [], alts := [], laidByText := true, laidKinds := [.data], laidTests := true, laidLooks := .later }
def MailCopiesUptoCardSaid : Prop := Claim7.holds Tryd.pinned (.plain (OpenSpec.upto mailCopiesSpec)) mailCopiesUptoCard

/-- THE SECOND FORM's CARD OF 'wherrylaw15.MailNone'. -/
def mailNoneUptoCard : Claim7 := { stood := { row := mailNoneUptoRow, standIns := [], harness := (true, "c1cbe7ad6c603bfcaf42c5a38caf4342e16dde8683fe110bb63ded73dffd3832"), looks := false }, kinds := [], alts := [], laidByText := true, laidKinds := [.data], laidTests := true, laidLooks := .later }
def MailNoneUptoCardSaid : Prop := Claim7.holds Tryd.pinned (.plain (OpenSpec.upto mailNoneSpec)) mailNoneUptoCard
end Rows
end Go.Proofs.YtcffmdimfmpheaaDoor
