/-
  DERIVED. GIVEN WITH THE SEED: THE CARDS: each row of YtllnpkijojpccaaDoorRows.lean that lists a variable, with what it lists TIED to the program's text (the seventh form; the later family's looks); each row that meets fmt, with fmt's text TOLD by the authors' own Lean function (tested against real Go, not proved from fmt's source: count such statements apart). THE CARD IS WHAT COUNTS. Prove the row's statement (the work); the ties are given (YtllnpkijojpccaaDoorTie.lean); close each card by the builder's one call (the guide's Derived/Test/ToyasCard.lean, 'card_holds'). Laid BY PROGRAM, IN A SANDBOX (cutbox-door.mjs). By AI agents, Wed Nov 11 2026. No macro, syntax, notation, axiom, sorry.
-/
import Derived.Test.YtllnpkijojpccaaDoorRows
import GoSem.ClaimSeven
namespace Go.Proofs.YtllnpkijojpccaaDoor
namespace Rows

/-- THE TIED CARD OF 'wherrylaw13.CpuSteps'. -/
def cpuStepsCard : Claim7 := { stood := { row := cpuStepsRow, standIns := [], harness := (true, "4a613b73d358a450452358b4bcc701d5a8931e8329bbaaf4a94faa869acd7da6"), looks := false }, kinds := [], alts := [], laidByText := true, laidKinds := [.data], laidTests := true, laidLooks := .later }
def CpuStepsCardSaid : Prop := Claim7.holds Tryd.pinned (.plain (OpenSpec.ofChange cpuStepsSpec)) cpuStepsCard

/-- THE TIED CARD OF 'wherrylaw13.CpuGives'. -/
def cpuGivesCard : Claim7 := { stood := { row := cpuGivesRow, standIns := [], harness := (true, "4a613b73d358a450452358b4bcc701d5a8931e8329bbaaf4a94faa869acd7da6"), looks := false }, kinds := [], alts := [], laidByText := true, laidKinds := [.data], laidTests := true, laidLooks := .later }
def CpuGivesCardSaid : Prop := Claim7.holds Tryd.pinned (.plain (OpenSpec.ofChange cpuGivesSpec)) cpuGivesCard

/-- THE TIED CARD OF 'wherrylaw13.CpuParts'. -/
def cpuPartsCard : Claim7 := { stood := { row := cpuPartsRow, standIns := [], harness := (true, "4a613b73d358a450452358b4bcc701d5a8931e8329bbaaf4a94faa869acd7da6"), looks := false }, kinds := [], alts := [], laidByText := true, laidKinds := [.data], laidTests := true, laidLooks := .later }
def CpuPartsCardSaid : Prop := Claim7.holds Tryd.pinned (.plain (OpenSpec.ofChange cpuPartsSpec)) cpuPartsCard

/-- THE TIED CARD OF 'wherrylaw13.CpuNear'. -/
def cpuNearCard : Claim7 := { stood := { row := cpuNearRow, standIns := [], harness := (true, "4a613b73d358a450452358b4bcc701d5a8931e8329bbaaf4a94faa869acd7da6"), looks := false }, kinds := [], alts := [], laidByText := true, laidKinds := [.data], laidTests := true, laidLooks := .later }
def CpuNearCardSaid : Prop := Claim7.holds Tryd.pinned (.plain (OpenSpec.ofChange cpuNearSpec)) cpuNearCard

/-- THE TIED CARD OF 'wherrylaw13.CpuCounts'. -/
def cpuCountsCard : Claim7 := { stood := { row := cpuCountsRow, standIns := [], harness := (true, "4a613b73d358a450452358b4bcc701d5a8931e8329bbaaf4a94faa869acd7da6"), looks := false }, kinds := [], alts := [], laidByText := true, laidKinds := [.data], laidTests := true, laidLooks := .later }
def CpuCountsCardSaid : Prop := Claim7.holds Tryd.pinned (.plain (OpenSpec.ofChange cpuCountsSpec)) cpuCountsCard

/-- THE SECOND FORM's CARD OF 'wherrylaw13.CpuSteps'. -/
def cpuStepsUptoCard : Claim7 := { stood := { row := cpuStepsUptoRow, standIns := [], harness := (true, "4a613b73d358a450452358b4bcc701d5a8931e8329bbaaf4a94faa869acd7da6"), looks := false }, kinds := [], alts := [], laidByText := true, laidKinds := [.data], laidTests := true, laidLooks := .later }
def CpuStepsUptoCardSaid : Prop := Claim7.holds Tryd.pinned (.plain (OpenSpec.upto cpuStepsSpec)) cpuStepsUptoCard

/-- THE SECOND FORM's CARD OF 'wherrylaw13.CpuGives'. -/
def cpuGivesUptoCard : Claim7 := { stood := { row := cpuGivesUptoRow, standIns := [], harness := (true, "4a613b73d358a450452358b4bcc701d5a8931e8329bbaaf4a94faa869acd7da6"), looks := false }, kinds := [], alts := [], laidByText := true, laidKinds := [.data], laidTests := true, laidLooks := .later }
def CpuGivesUptoCardSaid : Prop := Claim7.holds Tryd.pinned (.plain (OpenSpec.upto cpuGivesSpec)) cpuGivesUptoCard

/-- THE SECOND FORM's CARD OF 'wherrylaw13.CpuParts'. -/
def cpuPartsUptoCard : Claim7 := { stood := { row := cpuPartsUptoRow, standIns := [], harness := (true, "4a613b73d358a450452358b4bcc701d5a8931e8329bbaaf4a94faa869acd7da6"), looks := false }, kinds := [], alts := [], laidByText := true, laidKinds := [.data], laidTests := true, laidLooks := .later }
def CpuPartsUptoCardSaid : Prop := Claim7.holds Tryd.pinned (.plain (OpenSpec.upto cpuPartsSpec)) cpuPartsUptoCard

/-- THE SECOND FORM's CARD OF 'wherrylaw13.CpuNear'. -/
def cpuNearUptoCard : Claim7 := { stood := { row := cpuNearUptoRow, standIns := [], harness := (true, "4a613b73d358a450452358b4bcc701d5a8931e8329bbaaf4a94faa869acd7da6"), looks := false }, kinds := [], alts := [], laidByText := true, laidKinds := [.data], laidTests := true, laidLooks := .later }
def CpuNearUptoCardSaid : Prop := Claim7.holds Tryd.pinned (.plain (OpenSpec.upto cpuNearSpec)) cpuNearUptoCard

/-- THE SECOND FORM's CARD OF 'wherrylaw13.CpuCounts'. -/
def cpuCountsUptoCard : Claim7 := { stood := { row := cpuCountsUptoRow, standIns := [], harness := (true, "4a613b73d358a450452358b4bcc701d5a8931e8329bbaaf4a94faa869acd7da6"), looks := false }, kinds := [], alts := [], laidByText := true, laidKinds := [.data], laidTests := true, laidLooks := .later }
def CpuCountsUptoCardSaid : Prop := Claim7.holds Tryd.pinned (.plain (OpenSpec.upto cpuCountsSpec)) cpuCountsUptoCard
end Rows
end Go.Proofs.YtllnpkijojpccaaDoor
