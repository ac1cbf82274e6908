/-
  DERIVED. GIVEN WITH THE SEED: THE CARDS: each row of YtkoekdbkjjjoaaaDoorRows.lean that lists a variable, with what it lists TIED to the program's text (the seventh form; the later family's looks); each row that meets fmt, with fmt's text TOLD by the authors' own Lean function (tested against real Go, not proved from fmt's source: count such statements apart). THE CARD IS WHAT COUNTS. Prove the row's statement (the work); the ties are given (YtkoekdbkjjjoaaaDoorTie.lean); close each card by the builder's one call (the guide's Derived/Test/ToyasCard.lean, 'card_holds'). Laid BY PROGRAM, IN A SANDBOX (cutbox-door.mjs). By AI agents, Wed Nov 11 2026. No macro, syntax, notation, axiom, sorry.
-/
import Derived.Test.YtkoekdbkjjjoaaaDoorRows
import GoSem.ClaimSeven
namespace Go.Proofs.YtkoekdbkjjjoaaaDoor
namespace Rows

/-- THE TIED CARD OF 'wherrylaw04.SlotsActs'. -/
def slotsActsCard : Claim7 := { stood := { row := slotsActsRow, standIns := [], harness := (true, "3ab03b7305f94d1c115eaf2b75a6db7d6715fd5fa49e66950f2f9152b58c6624"), looks := false }, kinds := [], alts := [], laidByText := true, laidKinds := [.data], laidTests := true, laidLooks := .later }
def SlotsActsCardSaid : Prop := Claim7.holds Tryd.pinned (.plain (OpenSpec.ofChange slotsActsSpec)) slotsActsCard

/-- THE TIED CARD OF 'wherrylaw04.SlotsIds'. -/
def slotsIdsCard : Claim7 := { stood := { row := slotsIdsRow, standIns := [], harness := (true, "3ab03b7305f94d1c115eaf2b75a6db7d6715fd5fa49e66950f2f9152b58c6624"), looks := false }, kinds := [], alts := [], laidByText := true, laidKinds := [.data], laidTests := true, laidLooks := .later }
def SlotsIdsCardSaid : Prop := Claim7.holds Tryd.pinned (.plain (OpenSpec.ofChange slotsIdsSpec)) slotsIdsCard

/-- THE TIED CARD OF 'wherrylaw04.SlotsOnce'. -/
def slotsOnceCard : Claim7 := { stood := { row := slotsOnceRow, standIns := [], harness := (true, "3ab03b7305f94d1c115eaf2b75a6db7d6715fd5fa49e66950f2f9152b58c6624"), looks := false }, kinds := [], alts := [], laidByText := true, laidKinds := [.data], laidTests := true, laidLooks := .later }
def SlotsOnceCardSaid : Prop := Claim7.holds Tryd.pinned (.plain (OpenSpec.ofChange slotsOnceSpec)) slotsOnceCard

/-- THE TIED CARD OF 'wherrylaw04.SlotsCopies'. -/
def slotsCopiesCard : Claim7 := { stood := { row := slotsCopiesRow, standIns := [], harness := (true, "3ab03b7305f94d1c115eaf2b75a6db7d6715fd5fa49e66950f2f9152b58c6624"), looks := false }, kinds := [], alts := [], laidByText := true, laidKinds := [.data], laidTests := true, laidLooks := .later }
def SlotsCopiesCardSaid : Prop := Claim7.holds Tryd.pinned (.plain (OpenSpec.ofChange slotsCopiesSpec)) slotsCopiesCard

/-- THE TIED CARD OF 'wherrylaw04.SlotsNone'. -/
def slotsNoneCard : Claim7 := { stood := { row := slotsNoneRow, standIns := [], harness := (true, "3ab03b7305f94d1c115eaf2b75a6db7d6715fd5fa49e66950f2f9152b58c6624"), looks := false }, kinds := [], alts := [], laidByText := true, laidKinds := [.data], laidTests := true, laidLooks := .later }
def SlotsNoneCardSaid : Prop := Claim7.holds Tryd.pinned (.plain (OpenSpec.ofChange slotsNoneSpec)) slotsNoneCard

/-- THE SECOND FORM's CARD OF 'wherrylaw04.SlotsActs'. -/
def slotsActsUptoCard : Claim7 := { stood := { row := slotsActsUptoRow, standIns := [], harness := (true, "3ab03b7305f94d1c115eaf2b75a6db7d6715fd5fa49e66950f2f9152b58c6624"), looks := false }, kinds := [], alts := [], laidByText := true, laidKinds := [.data], laidTests := true, laidLooks := .later }
def SlotsActsUptoCardSaid : Prop := Claim7.holds Tryd.pinned (.plain (OpenSpec.upto slotsActsSpec)) slotsActsUptoCard

/-- THE SECOND FORM's CARD OF 'wherrylaw04.SlotsIds'. -/
def slotsIdsUptoCard : Claim7 := { stood := { row := slotsIdsUptoRow, standIns := [], harness := (true, "3ab03b7305f94d1c115eaf2b75a6db7d6715fd5fa49e66950f2f9152b58c6624"), looks := false }, kinds := [], alts := [], laidByText := true, laidKinds := [.data], laidTests := true, laidLooks := .later }
def SlotsIdsUptoCardSaid : Prop := Claim7.holds Tryd.pinned (.plain (OpenSpec.upto slotsIdsSpec)) slotsIdsUptoCard

/-- THE SECOND FORM's CARD OF 'wherrylaw04.SlotsOnce'. -/
def slotsOnceUptoCard : Claim7 := { stood := { row := slotsOnceUptoRow, standIns := [], harness := (true, "3ab03b7305f94d1c115eaf2b75a6db7d6715fd5fa49e66950f2f9152b58c6624"), looks := false }, kinds := [], alts := [], laidByText := true, laidKinds := [.data], laidTests := true, laidLooks := .later }
def SlotsOnceUptoCardSaid : Prop := Claim7.holds Tryd.pinned (.plain (OpenSpec.upto slotsOnceSpec)) slotsOnceUptoCard

/-- THE SECOND FORM's CARD OF 'wherrylaw04.SlotsCopies'. -/
def slotsCopiesUptoCard : Claim7 := { stood := { row := slotsCopiesUptoRow, standIns := [], harness := (true, "3ab03b7305f94d1c115eaf2b75a6db7d6715fd5fa49e66950f2f9152b58c6624"), looks := false }, kinds := [], alts := [], laidByText := true, laidKinds := [.data], laidTests := true, laidLooks := .later }
def SlotsCopiesUptoCardSaid : Prop := Claim7.holds Tryd.pinned (.plain (OpenSpec.upto slotsCopiesSpec)) slotsCopiesUptoCard

/-- THE SECOND FORM's CARD OF 'wherrylaw04.SlotsNone'. -/
def slotsNoneUptoCard : Claim7 := { stood := { row := slotsNoneUptoRow, standIns := [], harness := (true, "3ab03b7305f94d1c115eaf2b75a6db7d6715fd5fa49e66950f2f9152b58c6624"), looks := false }, kinds := [], alts := [], laidByText := true, laidKinds := [.data], laidTests := true, laidLooks := .later }
def SlotsNoneUptoCardSaid : Prop := Claim7.holds Tryd.pinned (.plain (OpenSpec.upto slotsNoneSpec)) slotsNoneUptoCard
end Rows
end Go.Proofs.YtkoekdbkjjjoaaaDoor
