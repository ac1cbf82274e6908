/-
  NARROWER THAN 'FOR EVERY INPUT', by the rows' own cells (each row's printed sentence says how): EventReads: laid · EventRows: laid · EventBack: laid · EventBatches: laid.
  DERIVED. THE GIVEN ROWS OF THIS SEAT. 4 by the template 'for every input the law returns true; each argument reads behind the call as it read before'; 0 by the template 'total and deterministic' (their statements: YtgofijhopjpnhaaDoorTotals.lean).
  GIVEN WITH THE SEED: the statements are not yours to turn. If you find one false, say at which input.
  Laid BY PROGRAM, IN A SANDBOX (cutbox-rows.mjs): the forced cells as the released guide's own fill.sh prints them over the translation ebbd76f313918b96… (all of the seat's roots in one cut). By AI agents, Wed Nov 11 2026. No macro, syntax, notation, axiom, sorry.
-/
import Derived.Test.YtgofijhopjpnhaaDoorChecked
import GoSem.Claim
import GoSem.ClaimJoined
import GoSem.ClaimMapViews
import Derived.JoinedTies
import Derived.KernelRfl
namespace Go.Proofs.YtgofijhopjpnhaaDoor
/- THE CELL 'sum', in the pinned program and in every row, IS THE sha256 OF THE DUMP (.gsa) THAT YtgofijhopjpnhaaDoorProg.lean LOADS. Nothing in Lean hashes anything: it is a label: what it is worth is what the hold of that sum in a sandbox is worth. -/
noncomputable def Tryd.pinned : Pinned := { name := "ytgofijhopjpnhaadoor", sum := "ebbd76f313918b967727cfc3ee147e134526a74475734a9f19448a31a818b37f", checked := Tryd.checked }
namespace Rows
def none {H : Type} : Left H := { results := [], args := [] }

/- WHAT THE LISTED PACKAGE-LEVEL VARIABLES READ AS WHEN THE CALL BEGINS. Each datum BY PROGRAM (the guide's laid-datum.mjs) off the statement by which the dump's own 'gosem.cut.vars' lays the variable. In a bare row this is a premise. The card (YtgofijhopjpnhaaDoorCards.lean) ties it to the program's text. -/
def laid_wherry_event_kinds {H : Type} : DataW H := .agg [.agg [.lit (.string []), .agg [.lit (.int .i64 0), .lit (.int .i64 0)], .agg [.lit (.int .i64 0), .lit (.int .i64 0)], .agg [.lit (.int .i64 0), .lit (.int .i64 0)], .lit (.bool false)], .agg [.lit (.string [103, 114, 97, 110, 116]), .agg [.lit (.int .i64 1), .lit (.int .i64 1099511627776)], .agg [.lit (.int .i64 0), .lit (.int .i64 0)], .agg [.lit (.int .i64 0), .lit (.int .i64 0)], .lit (.bool false)], .agg [.lit (.string [112, 114, 101, 101, 109, 112, 116, 101, 100]), .agg [.lit (.int .i64 1), .lit (.int .i64 1099511627776)], .agg [.lit (.int .i64 1), .lit (.int .i64 1099511627776)], .agg [.lit (.int .i64 0), .lit (.int .i64 0)], .lit (.bool true)], .agg [.lit (.string [98, 108, 111, 99, 107, 101, 100]), .agg [.lit (.int .i64 1), .lit (.int .i64 1099511627776)], .agg [.lit (.int .i64 1), .lit (.int .i64 1099511627776)], .agg [.lit (.int .i64 0), .lit (.int .i64 0)], .lit (.bool false)], .agg [.lit (.string [117, 110, 98, 108, 111, 99, 107, 101, 100]), .agg [.lit (.int .i64 1), .lit (.int .i64 1099511627776)], .agg [.lit (.int .i64 1), .lit (.int .i64 1099511627776)], .agg [.lit (.int .i64 0), .lit (.int .i64 1000)], .lit (.bool false)], .agg [.lit (.string [100, 101, 109, 97, 110, 100]), .agg [.lit (.int .i64 0), .lit (.int .i64 0)], .agg [.lit (.int .i64 0), .lit (.int .i64 0)], .agg [.lit (.int .i64 0), .lit (.int .i64 1000)], .lit (.bool false)], .agg [.lit (.string [105, 100, 108, 101]), .agg [.lit (.int .i64 1), .lit (.int .i64 1099511627776)], .agg [.lit (.int .i64 0), .lit (.int .i64 0)], .agg [.lit (.int .i64 0), .lit (.int .i64 0)], .lit (.bool false)], .agg [.lit (.string [114, 101, 99, 121, 99, 108, 101]), .agg [.lit (.int .i64 1), .lit (.int .i64 1099511627776)], .agg [.lit (.int .i64 0), .lit (.int .i64 0)], .agg [.lit (.int .i64 0), .lit (.int .i64 0)], .lit (.bool false)]]

/-- 'wherrylaw14.EventReads': WHATEVER THE INPUT: true; the input reads as it did. -/
def eventReadsSpec : ChangeSpec := { name := "eventReads", fn := fun _ => fun
  | [d] => { results := [.lit (.bool true)], args := [d] }
  | _ => none }
def eventReadsRow : OpenClaim := { program := "ytgofijhopjpnhaadoor", sum := "ebbd76f313918b967727cfc3ee147e134526a74475734a9f19448a31a818b37f", func := "wherry/wherrylaw14.EventReads", spec := "eventReads", unfollowed := true, recurses := true, named := ["wherry/event.kinds"], apart := false, laid := [("wherry/event.kinds", laid_wherry_event_kinds)] }
def EventReadsSaid : Prop := eventReadsRow.holds Tryd.pinned (OpenSpec.ofChange eventReadsSpec)

/-- ITS FALSE NEIGHBOUR: 'it returns false'. Refute it at one input. -/
def eventReadsWrong : ChangeSpec := { name := "eventReads", fn := fun _ => fun
  | [d] => { results := [.lit (.bool false)], args := [d] }
  | _ => none }
def EventReadsWrongFalsely : Prop := eventReadsRow.holds Tryd.pinned (OpenSpec.ofChange eventReadsWrong)

/-- 'wherrylaw14.EventRows': WHATEVER THE INPUT: true; the input reads as it did. -/
def eventRowsSpec : ChangeSpec := { name := "eventRows", fn := fun _ => fun
  | [d1, d2, d3] => { results := [.lit (.bool true)], args := [d1, d2, d3] }
  | _ => none }
def eventRowsRow : OpenClaim := { program := "ytgofijhopjpnhaadoor", sum := "ebbd76f313918b967727cfc3ee147e134526a74475734a9f19448a31a818b37f", func := "wherry/wherrylaw14.EventRows", spec := "eventRows", unfollowed := true, recurses := true, named := ["wherry/event.kinds"], apart := false, laid := [("wherry/event.kinds", laid_wherry_event_kinds)] }
def EventRowsSaid : Prop := eventRowsRow.holds Tryd.pinned (OpenSpec.ofChange eventRowsSpec)

/-- ITS FALSE NEIGHBOUR: 'it returns false'. Refute it at one input. -/
def eventRowsWrong : ChangeSpec := { name := "eventRows", fn := fun _ => fun
  | [d1, d2, d3] => { results := [.lit (.bool false)], args := [d1, d2, d3] }
  | _ => none }
def EventRowsWrongFalsely : Prop := eventRowsRow.holds Tryd.pinned (OpenSpec.ofChange eventRowsWrong)

/-- 'wherrylaw14.EventBack': WHATEVER THE INPUT: true; the input reads as it did. -/
def eventBackSpec : ChangeSpec := { name := "eventBack", fn := fun _ => fun
  | [d1, d2, d3] => { results := [.lit (.bool true)], args := [d1, d2, d3] }
  | _ => none }
def eventBackRow : OpenClaim := { program := "ytgofijhopjpnhaadoor", sum := "ebbd76f313918b967727cfc3ee147e134526a74475734a9f19448a31a818b37f", func := "wherry/wherrylaw14.EventBack", spec := "eventBack", unfollowed := true, recurses := true, named := ["wherry/event.kinds"], apart := false, laid := [("wherry/event.kinds", laid_wherry_event_kinds)] }
def EventBackSaid : Prop := eventBackRow.holds Tryd.pinned (OpenSpec.ofChange eventBackSpec)

/-- ITS FALSE NEIGHBOUR: 'it returns false'. Refute it at one input. -/
def eventBackWrong : ChangeSpec := { name := "eventBack", fn := fun _ => fun
  | [d1, d2, d3] => { results := [.lit (.bool false)], args := [d1, d2, d3] }
  | _ => none }
def EventBackWrongFalsely : Prop := eventBackRow.holds Tryd.pinned (OpenSpec.ofChange eventBackWrong)

/-- 'wherrylaw14.EventBatches': WHATEVER THE INPUT: true; the input reads as it did. -/
def eventBatchesSpec : ChangeSpec := { name := "eventBatches", fn := fun _ => fun
  | [d1, d2] => { results := [.lit (.bool true)], args := [d1, d2] }
  | _ => none }
def eventBatchesRow : OpenClaim := { program := "ytgofijhopjpnhaadoor", sum := "ebbd76f313918b967727cfc3ee147e134526a74475734a9f19448a31a818b37f", func := "wherry/wherrylaw14.EventBatches", spec := "eventBatches", unfollowed := true, recurses := true, named := ["wherry/event.kinds"], apart := false, laid := [("wherry/event.kinds", laid_wherry_event_kinds)] }
def EventBatchesSaid : Prop := eventBatchesRow.holds Tryd.pinned (OpenSpec.ofChange eventBatchesSpec)

/-- ITS FALSE NEIGHBOUR: 'it returns false'. Refute it at one input. -/
def eventBatchesWrong : ChangeSpec := { name := "eventBatches", fn := fun _ => fun
  | [d1, d2] => { results := [.lit (.bool false)], args := [d1, d2] }
  | _ => none }
def EventBatchesWrongFalsely : Prop := eventBatchesRow.holds Tryd.pinned (OpenSpec.ofChange eventBatchesWrong)

/- THE SECOND FORM. 'bulk': how many values and letters a reading holds, each counted each time it is reached (what is shared counts as often as it is met; a slice's spare places count too). A statement '..UptoSaid' is the law's where the arguments, and the package variables that the reading takes, are together of bulk at most 1048576: NARROWER than '..Said'. Prove '..Said' where nothing that the law and all that it calls make is longer than what came in: it says more and counts as full. Else prove '..UptoSaid'. A law counts once. -/
mutual
def uptoBulk {H : Type} : DataW H → Nat
  | .lit (.string bytes) => bytes.length + 1
  | .lit _ => 1
  | .nil => 1
  | .ptr d => uptoBulk d + 1
  | .slice elems spare => uptoBulkAll elems + uptoBulkAll spare + 1
  | .agg parts => uptoBulkAll parts + 1
  | .iface _ d => uptoBulk d + 1
  | .map entries => uptoBulkEntries entries + 1
  | .held _ => 1
def uptoBulkAll {H : Type} : List (DataW H) → Nat
  | [] => 0
  | d :: r => uptoBulk d + uptoBulkAll r
def uptoBulkEntries {H : Type} : List (Lit × DataW H) → Nat
  | [] => 0
  | x :: r => uptoBulkEntry x + uptoBulkEntries r
def uptoBulkEntry {H : Type} : Lit × DataW H → Nat
  | (.string bytes, d) => bytes.length + uptoBulk d + 1
  | (_, d) => uptoBulk d + 1
 end
def uptoSmall : (H : Type) → List (DataW H) → Bool := fun _ ds => decide (uptoBulkAll ds ≤ 1048576)
def OpenSpec.upto (s : _root_.Go.ChangeSpec) : _root_.Go.OpenSpec := { _root_.Go.OpenSpec.ofChange s with cond := some uptoSmall }

/-- 'wherrylaw14.EventReads', WHERE WHAT IT READS IS OF BULK AT MOST 1048576: true; the input reads as it did. -/
def eventReadsUptoRow : OpenClaim := { program := "ytgofijhopjpnhaadoor", sum := "ebbd76f313918b967727cfc3ee147e134526a74475734a9f19448a31a818b37f", func := "wherry/wherrylaw14.EventReads", spec := "eventReads", unfollowed := true, recurses := true, named := ["wherry/event.kinds"], apart := false, laid := [("wherry/event.kinds", laid_wherry_event_kinds)], narrowed := true }
def EventReadsUptoSaid : Prop := eventReadsUptoRow.holds Tryd.pinned (OpenSpec.upto eventReadsSpec)

/-- 'wherrylaw14.EventRows', WHERE WHAT IT READS IS OF BULK AT MOST 1048576: true; the input reads as it did. -/
def eventRowsUptoRow : OpenClaim := { program := "ytgofijhopjpnhaadoor", sum := "ebbd76f313918b967727cfc3ee147e134526a74475734a9f19448a31a818b37f", func := "wherry/wherrylaw14.EventRows", spec := "eventRows", unfollowed := true, recurses := true, named := ["wherry/event.kinds"], apart := false, laid := [("wherry/event.kinds", laid_wherry_event_kinds)], narrowed := true }
def EventRowsUptoSaid : Prop := eventRowsUptoRow.holds Tryd.pinned (OpenSpec.upto eventRowsSpec)

/-- 'wherrylaw14.EventBack', WHERE WHAT IT READS IS OF BULK AT MOST 1048576: true; the input reads as it did. -/
def eventBackUptoRow : OpenClaim := { program := "ytgofijhopjpnhaadoor", sum := "ebbd76f313918b967727cfc3ee147e134526a74475734a9f19448a31a818b37f", func := "wherry/wherrylaw14.EventBack", spec := "eventBack", unfollowed := true, recurses := true, named := ["wherry/event.kinds"], apart := false, laid := [("wherry/event.kinds", laid_wherry_event_kinds)], narrowed := true }
def EventBackUptoSaid : Prop := eventBackUptoRow.holds Tryd.pinned (OpenSpec.upto eventBackSpec)

/-- 'wherrylaw14.EventBatches', WHERE WHAT IT READS IS OF BULK AT MOST 1048576: true; the input reads as it did. -/
def eventBatchesUptoRow : OpenClaim := { program := "ytgofijhopjpnhaadoor", sum := "ebbd76f313918b967727cfc3ee147e134526a74475734a9f19448a31a818b37f", func := "wherry/wherrylaw14.EventBatches", spec := "eventBatches", unfollowed := true, recurses := true, named := ["wherry/event.kinds"], apart := false, laid := [("wherry/event.kinds", laid_wherry_event_kinds)], narrowed := true }
def EventBatchesUptoSaid : Prop := eventBatchesUptoRow.holds Tryd.pinned (OpenSpec.upto eventBatchesSpec)

end Rows
end Go.Proofs.YtgofijhopjpnhaaDoor
