/-
  No cell of these rows narrows 'for every input' (looked for: loops, veiled, ifaces, maps, wideKeys, modest, calm, conditions, laid).
  DERIVED. THE GIVEN ROWS OF THIS SEAT. 5 by the template 'for every input the law returns true; each argument reads behind the call as it read before'; 0 by the template 'total and deterministic' (their statements: YtpaedcknhlojkaaTotals.lean).
  GIVEN WITH THE SEED: the statements are not yours to turn. If you find one false, say at which input.
  Laid BY PROGRAM, IN A SANDBOX (cutbox-rows.mjs): the forced cells as the released guide's own fill.sh prints them over the translation 437e9b42970ea39a… (all of the seat's roots in one cut). By AI agents, Wed Nov 11 2026. No macro, syntax, notation, axiom, sorry.
-/
import Derived.Test.YtpaedcknhlojkaaChecked
import GoSem.Claim
import GoSem.ClaimJoined
import GoSem.ClaimMapViews
import Derived.JoinedTies
import Derived.KernelRfl
namespace Go.Proofs.Ytpaedcknhlojkaa
/- THE CELL 'sum', in the pinned program and in every row, IS THE sha256 OF THE DUMP (.gsa) THAT YtpaedcknhlojkaaProg.lean LOADS. Nothing in Lean hashes anything: it is a label: what it is worth is what the hold of that sum in a sandbox is worth. -/
noncomputable def Try.pinned : Pinned := { name := "ytpaedcknhlojkaa", sum := "437e9b42970ea39aa664f368046490264c682bb05f474b8fed2a4959dcdf20af", checked := Try.checked }
namespace Rows
def none {H : Type} : Left H := { results := [], args := [] }

/-- 'wherrylaw05.LinksActs': WHATEVER THE INPUT: true; the input reads as it did. -/
def linksActsSpec : ChangeSpec := { name := "linksActs", fn := fun _ => fun
  | [d1, d2, d3] => { results := [.lit (.bool true)], args := [d1, d2, d3] }
  | _ => none }
def linksActsRow : OpenClaim := { program := "ytpaedcknhlojkaa", sum := "437e9b42970ea39aa664f368046490264c682bb05f474b8fed2a4959dcdf20af", func := "wherry/wherrylaw05.LinksActs", spec := "linksActs", unfollowed := true, recurses := true, apart := false }
def LinksActsSaid : Prop := linksActsRow.holds Try.pinned (OpenSpec.ofChange linksActsSpec)

/-- ITS FALSE NEIGHBOUR: 'it returns false'. Refute it at one input. -/
def linksActsWrong : ChangeSpec := { name := "linksActs", fn := fun _ => fun
  | [d1, d2, d3] => { results := [.lit (.bool false)], args := [d1, d2, d3] }
  | _ => none }
def LinksActsWrongFalsely : Prop := linksActsRow.holds Try.pinned (OpenSpec.ofChange linksActsWrong)

/-- 'wherrylaw05.LinksOnce': WHATEVER THE INPUT: true; the input reads as it did. -/
def linksOnceSpec : ChangeSpec := { name := "linksOnce", fn := fun _ => fun
  | [d] => { results := [.lit (.bool true)], args := [d] }
  | _ => none }
def linksOnceRow : OpenClaim := { program := "ytpaedcknhlojkaa", sum := "437e9b42970ea39aa664f368046490264c682bb05f474b8fed2a4959dcdf20af", func := "wherry/wherrylaw05.LinksOnce", spec := "linksOnce", unfollowed := true, recurses := true, apart := false }
def LinksOnceSaid : Prop := linksOnceRow.holds Try.pinned (OpenSpec.ofChange linksOnceSpec)

/-- ITS FALSE NEIGHBOUR: 'it returns false'. Refute it at one input. -/
def linksOnceWrong : ChangeSpec := { name := "linksOnce", fn := fun _ => fun
  | [d] => { results := [.lit (.bool false)], args := [d] }
  | _ => none }
def LinksOnceWrongFalsely : Prop := linksOnceRow.holds Try.pinned (OpenSpec.ofChange linksOnceWrong)

/-- 'wherrylaw05.LinksMoves': WHATEVER THE INPUT: true; the input reads as it did. -/
def linksMovesSpec : ChangeSpec := { name := "linksMoves", fn := fun _ => fun
  | [d1, d2] => { results := [.lit (.bool true)], args := [d1, d2] }
  | _ => none }
def linksMovesRow : OpenClaim := { program := "ytpaedcknhlojkaa", sum := "437e9b42970ea39aa664f368046490264c682bb05f474b8fed2a4959dcdf20af", func := "wherry/wherrylaw05.LinksMoves", spec := "linksMoves", unfollowed := true, recurses := true, apart := false }
def LinksMovesSaid : Prop := linksMovesRow.holds Try.pinned (OpenSpec.ofChange linksMovesSpec)

/-- ITS FALSE NEIGHBOUR: 'it returns false'. Refute it at one input. -/
def linksMovesWrong : ChangeSpec := { name := "linksMoves", fn := fun _ => fun
  | [d1, d2] => { results := [.lit (.bool false)], args := [d1, d2] }
  | _ => none }
def LinksMovesWrongFalsely : Prop := linksMovesRow.holds Try.pinned (OpenSpec.ofChange linksMovesWrong)

/-- 'wherrylaw05.LinksCopies': WHATEVER THE INPUT: true; the input reads as it did. -/
def linksCopiesSpec : ChangeSpec := { name := "linksCopies", fn := fun _ => fun
  | [d1, d2] => { results := [.lit (.bool true)], args := [d1, d2] }
  | _ => none }
def linksCopiesRow : OpenClaim := { program := "ytpaedcknhlojkaa", sum := "437e9b42970ea39aa664f368046490264c682bb05f474b8fed2a4959dcdf20af", func := "wherry/wherrylaw05.LinksCopies", spec := "linksCopies", unfollowed := true, recurses := true, apart := false }
def LinksCopiesSaid : Prop := linksCopiesRow.holds Try.pinned (OpenSpec.ofChange linksCopiesSpec)

/-- ITS FALSE NEIGHBOUR: 'it returns false'. Refute it at one input. -/
def linksCopiesWrong : ChangeSpec := { name := "linksCopies", fn := fun _ => fun
  | [d1, d2] => { results := [.lit (.bool false)], args := [d1, d2] }
  | _ => none }
def LinksCopiesWrongFalsely : Prop := linksCopiesRow.holds Try.pinned (OpenSpec.ofChange linksCopiesWrong)

/-- 'wherrylaw05.LinksNone': WHATEVER THE INPUT: true; the input reads as it did. -/
def linksNoneSpec : ChangeSpec := { name := "linksNone", fn := fun _ => fun
  | [d] => { results := [.lit (.bool true)], args := [d] }
  | _ => none }
def linksNoneRow : OpenClaim := { program := "ytpaedcknhlojkaa", sum := "437e9b42970ea39aa664f368046490264c682bb05f474b8fed2a4959dcdf20af", func := "wherry/wherrylaw05.LinksNone", spec := "linksNone", unfollowed := true, recurses := true, apart := false }
def LinksNoneSaid : Prop := linksNoneRow.holds Try.pinned (OpenSpec.ofChange linksNoneSpec)

/-- ITS FALSE NEIGHBOUR: 'it returns false'. Refute it at one input. -/
def linksNoneWrong : ChangeSpec := { name := "linksNone", fn := fun _ => fun
  | [d] => { results := [.lit (.bool false)], args := [d] }
  | _ => none }
def LinksNoneWrongFalsely : Prop := linksNoneRow.holds Try.pinned (OpenSpec.ofChange linksNoneWrong)

/- THE SECOND FORM. 'bulk': how many values and letters a reading holds, each counted each time it is reached (what is shared counts as often as it is met; a slice's spare places count too). A statement '..UptoSaid' is the law's where the arguments, and the package variables that the reading takes, are together of bulk at most 1048576: NARROWER than '..Said'. Prove '..Said' where nothing that the law and all that it calls make is longer than what came in: it says more and counts as full. Else prove '..UptoSaid'. A law counts once. -/
mutual
def uptoBulk {H : Type} : DataW H → Nat
  | .lit (.string bytes) => bytes.length + 1
  | .lit _ => 1
  | .nil => 1
  | .ptr d => uptoBulk d + 1
  | .slice elems spare => uptoBulkAll elems + uptoBulkAll spare + 1
  | .agg parts => uptoBulkAll parts + 1
  | .iface _ d => uptoBulk d + 1
  | .map entries => uptoBulkEntries entries + 1
  | .held _ => 1
def uptoBulkAll {H : Type} : List (DataW H) → Nat
  | [] => 0
  | d :: r => uptoBulk d + uptoBulkAll r
def uptoBulkEntries {H : Type} : List (Lit × DataW H) → Nat
  | [] => 0
  | x :: r => uptoBulkEntry x + uptoBulkEntries r
def uptoBulkEntry {H : Type} : Lit × DataW H → Nat
  | (.string bytes, d) => bytes.length + uptoBulk d + 1
  | (_, d) => uptoBulk d + 1
 end
def uptoSmall : (H : Type) → List (DataW H) → Bool := fun _ ds => decide (uptoBulkAll ds ≤ 1048576)
def OpenSpec.upto (s : _root_.Go.ChangeSpec) : _root_.Go.OpenSpec := { _root_.Go.OpenSpec.ofChange s with cond := some uptoSmall }

/-- 'wherrylaw05.LinksActs', WHERE WHAT IT READS IS OF BULK AT MOST 1048576: true; the input reads as it did. -/
def linksActsUptoRow : OpenClaim := { program := "ytpaedcknhlojkaa", sum := "437e9b42970ea39aa664f368046490264c682bb05f474b8fed2a4959dcdf20af", func := "wherry/wherrylaw05.LinksActs", spec := "linksActs", unfollowed := true, recurses := true, apart := false, narrowed := true }
def LinksActsUptoSaid : Prop := linksActsUptoRow.holds Try.pinned (OpenSpec.upto linksActsSpec)

/-- 'wherrylaw05.LinksOnce', WHERE WHAT IT READS IS OF BULK AT MOST 1048576: true; the input reads as it did. -/
def linksOnceUptoRow : OpenClaim := { program := "ytpaedcknhlojkaa", sum := "437e9b42970ea39aa664f368046490264c682bb05f474b8fed2a4959dcdf20af", func := "wherry/wherrylaw05.LinksOnce", spec := "linksOnce", unfollowed := true, recurses := true, apart := false, narrowed := true }
def LinksOnceUptoSaid : Prop := linksOnceUptoRow.holds Try.pinned (OpenSpec.upto linksOnceSpec)

/-- 'wherrylaw05.LinksMoves', WHERE WHAT IT READS IS OF BULK AT MOST 1048576: true; the input reads as it did. -/
def linksMovesUptoRow : OpenClaim := { program := "ytpaedcknhlojkaa", sum := "437e9b42970ea39aa664f368046490264c682bb05f474b8fed2a4959dcdf20af", func := "wherry/wherrylaw05.LinksMoves", spec := "linksMoves", unfollowed := true, recurses := true, apart := false, narrowed := true }
def LinksMovesUptoSaid : Prop := linksMovesUptoRow.holds Try.pinned (OpenSpec.upto linksMovesSpec)

/-- 'wherrylaw05.LinksCopies', WHERE WHAT IT READS IS OF BULK AT MOST 1048576: true; the input reads as it did. -/
def linksCopiesUptoRow : OpenClaim := { program := "ytpaedcknhlojkaa", sum := "437e9b42970ea39aa664f368046490264c682bb05f474b8fed2a4959dcdf20af", func := "wherry/wherrylaw05.LinksCopies", spec := "linksCopies", unfollowed := true, recurses := true, apart := false, narrowed := true }
def LinksCopiesUptoSaid : Prop := linksCopiesUptoRow.holds Try.pinned (OpenSpec.upto linksCopiesSpec)

/-- 'wherrylaw05.LinksNone', WHERE WHAT IT READS IS OF BULK AT MOST 1048576: true; the input reads as it did. -/
def linksNoneUptoRow : OpenClaim := { program := "ytpaedcknhlojkaa", sum := "437e9b42970ea39aa664f368046490264c682bb05f474b8fed2a4959dcdf20af", func := "wherry/wherrylaw05.LinksNone", spec := "linksNone", unfollowed := true, recurses := true, apart := false, narrowed := true }
def LinksNoneUptoSaid : Prop := linksNoneUptoRow.holds Try.pinned (OpenSpec.upto linksNoneSpec)

end Rows
end Go.Proofs.Ytpaedcknhlojkaa
