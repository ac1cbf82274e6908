/-
  NARROWER THAN 'FOR EVERY INPUT', by the rows' own cells (each row's printed sentence says how): MailActs: laid · MailOrder: laid · MailCopies: laid · MailNone: laid.
  DERIVED. THE GIVEN ROWS OF THIS SEAT. 4 by the template 'for every input the law returns true; each argument reads behind the call as it read before'; 0 by the template 'total and deterministic' (their statements: YtcffmdimfmpheaaDoorTotals.lean).
  GIVEN WITH THE SEED: the statements are not yours to turn. If you find one false, say at which input.
  Laid BY PROGRAM, IN A SANDBOX (cutbox-rows.mjs): the forced cells as the released guide's own fill.sh prints them over the translation b26a982bf6e78c45… (all of the seat's roots in one cut). By AI agents, Wed Nov 11 2026. No macro, syntax, notation, axiom, sorry.
-/
import Derived.Test.YtcffmdimfmpheaaDoorChecked
import GoSem.Claim
import GoSem.ClaimJoined
import GoSem.ClaimMapViews
import Derived.JoinedTies
import Derived.KernelRfl
namespace Go.Proofs.YtcffmdimfmpheaaDoor
/- THE CELL 'sum', in the pinned program and in every row, IS THE sha256 OF THE DUMP (.gsa) THAT YtcffmdimfmpheaaDoorProg.lean LOADS. Nothing in Lean hashes anything: it is a label: what it is worth is what the hold of that sum in a sandbox is worth. -/
noncomputable def Tryd.pinned : Pinned := { name := "ytcffmdimfmpheaadoor", sum := "b26a982bf6e78c45f1115e928d813e3e1793969caa2d48c841c247feba0c4448", checked := Tryd.checked }
namespace Rows
def none {H : Type} : Left H := { results := [], args := [] }

/- WHAT THE LISTED PACKAGE-LEVEL VARIABLES READ AS WHEN THE CALL BEGINS. Each datum BY PROGRAM (the guide's laid-datum.mjs) off the statement by which the dump's own 'gosem.cut.vars' lays the variable. In a bare row this is a premise. The card (YtcffmdimfmpheaaDoorCards.lean) ties it to the program's text. -/
def laid_wherry_event_kinds {H : Type} : DataW H := .agg [.agg [.lit (.string []), .agg [.lit (.int .i64 0), .lit (.int .i64 0)], .agg [.lit (.int .i64 0), .lit (.int .i64 0)], .agg [.lit (.int .i64 0), .lit (.int .i64 0)], .lit (.bool false)], .agg [.lit (.string [103, 114, 97, 110, 116]), .agg [.lit (.int .i64 1), .lit (.int .i64 1099511627776)], .agg [.lit (.int .i64 0), .lit (.int .i64 0)], .agg [.lit (.int .i64 0), .lit (.int .i64 0)], .lit (.bool false)], .agg [.lit (.string [112, 114, 101, 101, 109, 112, 116, 101, 100]), .agg [.lit (.int .i64 1), .lit (.int .i64 1099511627776)], .agg [.lit (.int .i64 1), .lit (.int .i64 1099511627776)], .agg [.lit (.int .i64 0), .lit (.int .i64 0)], .lit (.bool true)], .agg [.lit (.string [98, 108, 111, 99, 107, 101, 100]), .agg [.lit (.int .i64 1), .lit (.int .i64 1099511627776)], .agg [.lit (.int .i64 1), .lit (.int .i64 1099511627776)], .agg [.lit (.int .i64 0), .lit (.int .i64 0)], .lit (.bool false)], .agg [.lit (.string [117, 110, 98, 108, 111, 99, 107, 101, 100]), .agg [.lit (.int .i64 1), .lit (.int .i64 1099511627776)], .agg [.lit (.int .i64 1), .lit (.int .i64 1099511627776)], .agg [.lit (.int .i64 0), .lit (.int .i64 1000)], .lit (.bool false)], .agg [.lit (.string [100, 101, 109, 97, 110, 100]), .agg [.lit (.int .i64 0), .lit (.int .i64 0)], .agg [.lit (.int .i64 0), .lit (.int .i64 0)], .agg [.lit (.int .i64 0), .lit (.int .i64 1000)], .lit (.bool false)], .agg [.lit (.string [105, 100, 108, 101]), .agg [.lit (.int .i64 1), .lit (.int .i64 1099511627776)], .agg [.lit (.int .i64 0), .lit (.int .i64 0)], .agg [.lit (.int .i64 0), .lit (.int .i64 0)], .lit (.bool false)], .agg [.lit (.string [114, 101, 99, 121, 99, 108, 101]), .agg [.lit (.int .i64 1), .lit (.int .i64 1099511627776)], .agg [.lit (.int .i64 0), .lit (.int .i64 0)], .agg [.lit (.int .i64 0), .lit (.int .i64 0)], .lit (.bool false)]]

/-- 'wherrylaw15.MailActs': WHATEVER THE INPUT: true; the input reads as it did. -/
def mailActsSpec : ChangeSpec := { name := "mailActs", fn := fun _ => fun
  | [d1, d2, d3] => { results := [.lit (.bool true)], args := [d1, d2, d3] }
  | _ => none }
def mailActsRow : OpenClaim := { program := "ytcffmdimfmpheaadoor", sum := "b26a982bf6e78c45f1115e928d813e3e1793969caa2d48c841c247feba0c4448", func := "wherry/wherrylaw15.MailActs", spec := "mailActs", unfollowed := true, recurses := true, named := ["wherry/event.kinds"], apart := false, laid := [("wherry/event.kinds", laid_wherry_event_kinds)] }
def MailActsSaid : Prop := mailActsRow.holds Tryd.pinned (OpenSpec.ofChange mailActsSpec)

/-- ITS FALSE NEIGHBOUR: 'it returns false'. Refute it at one input. -/
def mailActsWrong : ChangeSpec := { name := "mailActs", fn := fun _ => fun
  | [d1, d2, d3] => { results := [.lit (.bool false)], args := [d1, d2, d3] }
  | _ => none }
def MailActsWrongFalsely : Prop := mailActsRow.holds Tryd.pinned (OpenSpec.ofChange mailActsWrong)

/-- 'wherrylaw15.MailOrder': WHATEVER THE INPUT: true; the input reads as it did. -/
def mailOrderSpec : ChangeSpec := { name := "mailOrder", fn := fun _ => fun
  | [d1, d2] => { results := [.lit (.bool true)], args := [d1, d2] }
  | _ => none }
def mailOrderRow : OpenClaim := { program := "ytcffmdimfmpheaadoor", sum := "b26a982bf6e78c45f1115e928d813e3e1793969caa2d48c841c247feba0c4448", func := "wherry/wherrylaw15.MailOrder", spec := "mailOrder", unfollowed := true, recurses := true, named := ["wherry/event.kinds"], apart := false, laid := [("wherry/event.kinds", laid_wherry_event_kinds)] }
def MailOrderSaid : Prop := mailOrderRow.holds Tryd.pinned (OpenSpec.ofChange mailOrderSpec)

/-- ITS FALSE NEIGHBOUR: 'it returns false'. Refute it at one input. -/
def mailOrderWrong : ChangeSpec := { name := "mailOrder", fn := fun _ => fun
  | [d1, d2] => { results := [.lit (.bool false)], args := [d1, d2] }
  | _ => none }
def MailOrderWrongFalsely : Prop := mailOrderRow.holds Tryd.pinned (OpenSpec.ofChange mailOrderWrong)

/-- 'wherrylaw15.MailCopies': WHATEVER THE INPUT: true; the input reads as it did. -/
def mailCopiesSpec : ChangeSpec := { name := "mailCopies", fn := fun _ => fun
  | [d1, d2] => { results := [.lit (.bool true)], args := [d1, d2] }
  | _ => none }
def mailCopiesRow : OpenClaim := { program := "ytcffmdimfmpheaadoor", sum := "b26a982bf6e78c45f1115e928d813e3e1793969caa2d48c841c247feba0c4448", func := "wherry/wherrylaw15.MailCopies", spec := "mailCopies", unfollowed := true, recurses := true, named := ["wherry/event.kinds"], apart := false, laid := [("wherry/event.kinds", laid_wherry_event_kinds)] }
def MailCopiesSaid : Prop := mailCopiesRow.holds Tryd.pinned (OpenSpec.ofChange mailCopiesSpec)

/-- ITS FALSE NEIGHBOUR: 'it returns false'. Refute it at one input. -/
def mailCopiesWrong : ChangeSpec := { name := "mailCopies", fn := fun _ => fun
  | [d1, d2] => { results := [.lit (.bool false)], args := [d1, d2] }
  | _ => none }
def MailCopiesWrongFalsely : Prop := mailCopiesRow.holds Tryd.pinned (OpenSpec.ofChange mailCopiesWrong)

/-- 'wherrylaw15.MailNone': WHATEVER THE INPUT: true; the input reads as it did. -/
def mailNoneSpec : ChangeSpec := { name := "mailNone", fn := fun _ => fun
  | [d] => { results := [.lit (.bool true)], args := [d] }
  | _ => none }
def mailNoneRow : OpenClaim := { program := "ytcffmdimfmpheaadoor", sum := "b26a982bf6e78c45f1115e928d813e3e1793969caa2d48c841c247feba0c4448", func := "wherry/wherrylaw15.MailNone", spec := "mailNone", unfollowed := true, recurses := true, named := ["wherry/event.kinds"], apart := false, laid := [("wherry/event.kinds", laid_wherry_event_kinds)] }
def MailNoneSaid : Prop := mailNoneRow.holds Tryd.pinned (OpenSpec.ofChange mailNoneSpec)

/-- ITS FALSE NEIGHBOUR: 'it returns false'. Refute it at one input. -/
def mailNoneWrong : ChangeSpec := { name := "mailNone", fn := fun _ => fun
  | [d] => { results := [.lit (.bool false)], args := [d] }
  | _ => none }
def MailNoneWrongFalsely : Prop := mailNoneRow.holds Tryd.pinned (OpenSpec.ofChange mailNoneWrong)

/- THE SECOND FORM. 'bulk': how many values and letters a reading holds, each counted each time it is reached (what is shared counts as often as it is met; a slice's spare places count too). A statement '..UptoSaid' is the law's where the arguments, and the package variables that the reading takes, are together of bulk at most 1048576: NARROWER than '..Said'. Prove '..Said' where nothing that the law and all that it calls make is longer than what came in: it says more and counts as full. Else prove '..UptoSaid'. A law counts once. -/
mutual
def uptoBulk {H : Type} : DataW H → Nat
  | .lit (.string bytes) => bytes.length + 1
  | .lit _ => 1
  | .nil => 1
  | .ptr d => uptoBulk d + 1
  | .slice elems spare => uptoBulkAll elems + uptoBulkAll spare + 1
  | .agg parts => uptoBulkAll parts + 1
  | .iface _ d => uptoBulk d + 1
  | .map entries => uptoBulkEntries entries + 1
  | .held _ => 1
def uptoBulkAll {H : Type} : List (DataW H) → Nat
  | [] => 0
  | d :: r => uptoBulk d + uptoBulkAll r
def uptoBulkEntries {H : Type} : List (Lit × DataW H) → Nat
  | [] => 0
  | x :: r => uptoBulkEntry x + uptoBulkEntries r
def uptoBulkEntry {H : Type} : Lit × DataW H → Nat
  | (.string bytes, d) => bytes.length + uptoBulk d + 1
  | (_, d) => uptoBulk d + 1
 end
def uptoSmall : (H : Type) → List (DataW H) → Bool := fun _ ds => decide (uptoBulkAll ds ≤ 1048576)
def OpenSpec.upto (s : _root_.Go.ChangeSpec) : _root_.Go.OpenSpec := { _root_.Go.OpenSpec.ofChange s with cond := some uptoSmall }

/-- 'wherrylaw15.MailActs', WHERE WHAT IT READS IS OF BULK AT MOST 1048576: true; the input reads as it did. -/
def mailActsUptoRow : OpenClaim := { program := "ytcffmdimfmpheaadoor", sum := "b26a982bf6e78c45f1115e928d813e3e1793969caa2d48c841c247feba0c4448", func := "wherry/wherrylaw15.MailActs", spec := "mailActs", unfollowed := true, recurses := true, named := ["wherry/event.kinds"], apart := false, laid := [("wherry/event.kinds", laid_wherry_event_kinds)], narrowed := true }
def MailActsUptoSaid : Prop := mailActsUptoRow.holds Tryd.pinned (OpenSpec.upto mailActsSpec)

/-- 'wherrylaw15.MailOrder', WHERE WHAT IT READS IS OF BULK AT MOST 1048576: true; the input reads as it did. -/
def mailOrderUptoRow : OpenClaim := { program := "ytcffmdimfmpheaadoor", sum := "b26a982bf6e78c45f1115e928d813e3e1793969caa2d48c841c247feba0c4448", func := "wherry/wherrylaw15.MailOrder", spec := "mailOrder", unfollowed := true, recurses := true, named := ["wherry/event.kinds"], apart := false, laid := [("wherry/event.kinds", laid_wherry_event_kinds)], narrowed := true }
def MailOrderUptoSaid : Prop := mailOrderUptoRow.holds Tryd.pinned (OpenSpec.upto mailOrderSpec)

/-- 'wherrylaw15.MailCopies', WHERE WHAT IT READS IS OF BULK AT MOST 1048576: true; the input reads as it did. -/
def mailCopiesUptoRow : OpenClaim := { program := "ytcffmdimfmpheaadoor", sum := "b26a982bf6e78c45f1115e928d813e3e1793969caa2d48c841c247feba0c4448", func := "wherry/wherrylaw15.MailCopies", spec := "mailCopies", unfollowed := true, recurses := true, named := ["wherry/event.kinds"], apart := false, laid := [("wherry/event.kinds", laid_wherry_event_kinds)], narrowed := true }
def MailCopiesUptoSaid : Prop := mailCopiesUptoRow.holds Tryd.pinned (OpenSpec.upto mailCopiesSpec)

/-- 'wherrylaw15.MailNone', WHERE WHAT IT READS IS OF BULK AT MOST 1048576: true; the input reads as it did. -/
def mailNoneUptoRow : OpenClaim := { program := "ytcffmdimfmpheaadoor", sum := "b26a982bf6e78c45f1115e928d813e3e1793969caa2d48c841c247feba0c4448", func := "wherry/wherrylaw15.MailNone", spec := "mailNone", unfollowed := true, recurses := true, named := ["wherry/event.kinds"], apart := false, laid := [("wherry/event.kinds", laid_wherry_event_kinds)], narrowed := true }
def MailNoneUptoSaid : Prop := mailNoneUptoRow.holds Tryd.pinned (OpenSpec.upto mailNoneSpec)

end Rows
end Go.Proofs.YtcffmdimfmpheaaDoor
