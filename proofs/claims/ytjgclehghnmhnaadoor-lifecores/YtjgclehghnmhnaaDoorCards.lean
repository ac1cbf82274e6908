/-
  DERIVED. GIVEN WITH THE SEED: THE CARDS: each row of YtjgclehghnmhnaaDoorRows.lean that lists a variable, with what it lists TIED to the program's text (the seventh form; the later family's looks); each row that meets fmt, with fmt's text TOLD by the authors' own Lean function (tested against real Go, not proved from fmt's source: count such statements apart). THE CARD IS WHAT COUNTS. Prove the row's statement (the work); the ties are given (YtjgclehghnmhnaaDoorTie.lean); close each card by the builder's one call (the guide's Derived/Test/ToyasCard.lean, 'card_holds'). Laid BY PROGRAM, IN A SANDBOX (cutbox-door.mjs). By AI agents, Wed Nov 11 2026. No macro, syntax, notation, axiom, sorry.
-/
import Derived.Test.YtjgclehghnmhnaaDoorRows
import GoSem.ClaimSeven
namespace Go.Proofs.YtjgclehghnmhnaaDoor
namespace Rows

/-- THE TIED CARD OF 'wherrylaw16.LifeActs'. -/
def lifeActsCard : Claim7 := { stood := { row := lifeActsRow, standIns := [], harness := (true, "8a51061347f4ddbc09c141a770dae916acb369f9e2ba31477b79e93b8ad76080"), looks := false }, kinds := [], alts := [], laidByText := true, laidKinds := [.data, .data], laidTests := true, laidLooks := .later }
def LifeActsCardSaid : Prop := Claim7.holds Tryd.pinned (.plain (OpenSpec.ofChange lifeActsSpec)) lifeActsCard

/-- THE TIED CARD OF 'wherrylaw16.LifeCores'. -/
def lifeCoresCard : Claim7 := { stood := { row := lifeCoresRow, standIns := [], harness := (true, "8a51061347f4ddbc09c141a770dae916acb369f9e2ba31477b79e93b8ad76080"), looks := false }, kinds := [], alts := [], laidByText := true, laidKinds := [.data, .data], laidTests := true, laidLooks := .later }
def LifeCoresCardSaid : Prop := Claim7.holds Tryd.pinned (.plain (OpenSpec.ofChange lifeCoresSpec)) lifeCoresCard

/-- THE TIED CARD OF 'wherrylaw16.LifeRound'. -/
def lifeRoundCard : Claim7 := { stood := { row := lifeRoundRow, standIns := [], harness := (true, "8a51061347f4ddbc09c141a770dae916acb369f9e2ba31477b79e93b8ad76080"), looks := false }, kinds := [], alts := [], laidByText := true, laidKinds := [.data, .data], laidTests := true, laidLooks := .later }
def LifeRoundCardSaid : Prop := Claim7.holds Tryd.pinned (.plain (OpenSpec.ofChange lifeRoundSpec)) lifeRoundCard

/-- THE TIED CARD OF 'wherrylaw16.LifeCopies'. -/
def lifeCopiesCard : Claim7 := { stood := { row := lifeCopiesRow, standIns := [], harness := (true, "8a51061347f4ddbc09c141a770dae916acb369f9e2ba31477b79e93b8ad76080"), looks := false }, kinds := [], alts := [], laidByText := true, laidKinds := [.data, .data], laidTests := true, laidLooks := .later }
def LifeCopiesCardSaid : Prop := Claim7.holds Tryd.pinned (.plain (OpenSpec.ofChange lifeCopiesSpec)) lifeCopiesCard

/-- THE TIED CARD OF 'wherrylaw16.LifeNone'. -/
def lifeNoneCard : Claim7 := { stood := { row := lifeNoneRow, standIns := [], harness := (true, "8a51061347f4ddbc09c141a770dae916acb369f9e2ba31477b79e93b8ad76080"), looks := false }, kinds := [], alts := [], laidByText := true, laidKinds := [.data, .data], laidTests := true, laidLooks := .later }
def LifeNoneCardSaid : Prop := Claim7.holds Tryd.pinned (.plain (OpenSpec.ofChange lifeNoneSpec)) lifeNoneCard

/-- THE SECOND FORM's CARD OF 'wherrylaw16.LifeActs'. -/
def lifeActsUptoCard : Claim7 := { stood := { row := lifeActsUptoRow, standIns := [], harness := (true, "8a51061347f4ddbc09c141a770dae916acb369f9e2ba31477b79e93b8ad76080"), looks := false }, kinds := [], alts := [], laidByText := true, laidKinds := [.data, .data], laidTests := true, laidLooks := .later }
def LifeActsUptoCardSaid : Prop := Claim7.holds Tryd.pinned (.plain (OpenSpec.upto lifeActsSpec)) lifeActsUptoCard

/-- THE SECOND FORM's CARD OF 'wherrylaw16.LifeCores'. -/
def lifeCoresUptoCard : Claim7 := { stood := { row := lifeCoresUptoRow, standIns := [], harness := (true, "8a51061347f4ddbc09c141a770dae916acb369f9e2ba31477b79e93b8ad76080"), looks := false }, kinds := [], alts := [], laidByText := true, laidKinds := [.data, .data], laidTests := true, laidLooks := .later }
def LifeCoresUptoCardSaid : Prop := Claim7.holds Tryd.pinned (.plain (OpenSpec.upto lifeCoresSpec)) lifeCoresUptoCard

/-- THE SECOND FORM's CARD OF 'wherrylaw16.LifeRound'. -/
def lifeRoundUptoCard : Claim7 := { stood := { row := lifeRoundUptoRow, standIns := [], harness := (true, "8a51061347f4ddbc09c141a770dae916acb369f9e2ba31477b79e93b8ad76080"), looks := false }, kinds := [], alts := [], laidByText := true, laidKinds := [.data, .data], laidTests := true, laidLooks := .later }
def LifeRoundUptoCardSaid : Prop := Claim7.holds Tryd.pinned (.plain (OpenSpec.upto lifeRoundSpec)) lifeRoundUptoCard

/-- THE SECOND FORM's CARD OF 'wherrylaw16.LifeCopies'. -/
def lifeCopiesUptoCard : Claim7 := { stood := { row := lifeCopiesUptoRow, standIns := [], harness := (true, "8a51061347f4ddbc09c141a770dae916acb369f9e2ba31477b79e93b8ad76080"), looks := false }, kinds := [], alts := [], laidByText := true, laidKinds := [.data, .data], laidTests := true, laidLooks := .later }
def LifeCopiesUptoCardSaid : Prop := Claim7.holds Tryd.pinned (.plain (OpenSpec.upto lifeCopiesSpec)) lifeCopiesUptoCard

/-- THE SECOND FORM's CARD OF 'wherrylaw16.LifeNone'. -/
def lifeNoneUptoCard : Claim7 := { stood := { row := lifeNoneUptoRow, standIns := [], harness := (true, "8a51061347f4ddbc09c141a770dae916acb369f9e2ba31477b79e93b8ad76080"), looks := false }, kinds := [], alts := [], laidByText := true, laidKinds := [.data, .data], laidTests := true, laidLooks := .later }
def LifeNoneUptoCardSaid : Prop := Claim7.holds Tryd.pinned (.plain (OpenSpec.upto lifeNoneSpec)) lifeNoneUptoCard
end Rows
end Go.Proofs.YtjgclehghnmhnaaDoor
