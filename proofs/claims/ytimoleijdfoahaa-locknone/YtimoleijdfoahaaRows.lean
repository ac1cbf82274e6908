/-
  No cell of these rows narrows 'for every input' (looked for: loops, veiled, ifaces, maps, wideKeys, modest, calm, conditions, laid).
  DERIVED. THE GIVEN ROWS OF THIS SEAT. 5 by the template 'for every input the law returns true; each argument reads behind the call as it read before'; 0 by the template 'total and deterministic' (their statements: YtimoleijdfoahaaTotals.lean).
  GIVEN WITH THE SEED: the statements are not yours to turn. If you find one false, say at which input.
  Laid BY PROGRAM, IN A SANDBOX (cutbox-rows.mjs): the forced cells as the released guide's own fill.sh prints them over the translation 26833bc44de3465d… (all of the seat's roots in one cut). By AI agents, Wed Nov 11 2026. No macro, syntax, notation, axiom, sorry.
-/
import Derived.Test.YtimoleijdfoahaaChecked
import GoSem.Claim
import GoSem.ClaimJoined
import GoSem.ClaimMapViews
import Derived.JoinedTies
import Derived.KernelRfl
namespace Go.Proofs.Ytimoleijdfoahaa
/- THE CELL 'sum', in the pinned program and in every row, IS THE sha256 OF THE DUMP (.gsa) THAT YtimoleijdfoahaaProg.lean LOADS. Nothing in Lean hashes anything: it is a label: what it is worth is what the hold of that sum in a sandbox is worth. -/
noncomputable def Try.pinned : Pinned := { name := "ytimoleijdfoahaa", sum := "26833bc44de3465d89cf857aab65d4399506c55118bd6929b42a8012fb600fa2", checked := Try.checked }
namespace Rows
def none {H : Type} : Left H := { results := [], args := [] }

/-- 'wherrylaw19.LockActs': WHATEVER THE INPUT: true; the input reads as it did. -/
def lockActsSpec : ChangeSpec := { name := "lockActs", fn := fun _ => fun
  | [d1, d2] => { results := [.lit (.bool true)], args := [d1, d2] }
  | _ => none }
def lockActsRow : OpenClaim := { program := "ytimoleijdfoahaa", sum := "26833bc44de3465d89cf857aab65d4399506c55118bd6929b42a8012fb600fa2", func := "wherry/wherrylaw19.LockActs", spec := "lockActs", unfollowed := true, recurses := true, apart := false }
def LockActsSaid : Prop := lockActsRow.holds Try.pinned (OpenSpec.ofChange lockActsSpec)

/-- ITS FALSE NEIGHBOUR: 'it returns false'. Refute it at one input. -/
def lockActsWrong : ChangeSpec := { name := "lockActs", fn := fun _ => fun
  | [d1, d2] => { results := [.lit (.bool false)], args := [d1, d2] }
  | _ => none }
def LockActsWrongFalsely : Prop := lockActsRow.holds Try.pinned (OpenSpec.ofChange lockActsWrong)

/-- 'wherrylaw19.LockWaits': WHATEVER THE INPUT: true; the input reads as it did. -/
def lockWaitsSpec : ChangeSpec := { name := "lockWaits", fn := fun _ => fun
  | [d] => { results := [.lit (.bool true)], args := [d] }
  | _ => none }
def lockWaitsRow : OpenClaim := { program := "ytimoleijdfoahaa", sum := "26833bc44de3465d89cf857aab65d4399506c55118bd6929b42a8012fb600fa2", func := "wherry/wherrylaw19.LockWaits", spec := "lockWaits", unfollowed := true, recurses := true, apart := false }
def LockWaitsSaid : Prop := lockWaitsRow.holds Try.pinned (OpenSpec.ofChange lockWaitsSpec)

/-- ITS FALSE NEIGHBOUR: 'it returns false'. Refute it at one input. -/
def lockWaitsWrong : ChangeSpec := { name := "lockWaits", fn := fun _ => fun
  | [d] => { results := [.lit (.bool false)], args := [d] }
  | _ => none }
def LockWaitsWrongFalsely : Prop := lockWaitsRow.holds Try.pinned (OpenSpec.ofChange lockWaitsWrong)

/-- 'wherrylaw19.LockOrder': WHATEVER THE INPUT: true; the input reads as it did. -/
def lockOrderSpec : ChangeSpec := { name := "lockOrder", fn := fun _ => fun
  | [d] => { results := [.lit (.bool true)], args := [d] }
  | _ => none }
def lockOrderRow : OpenClaim := { program := "ytimoleijdfoahaa", sum := "26833bc44de3465d89cf857aab65d4399506c55118bd6929b42a8012fb600fa2", func := "wherry/wherrylaw19.LockOrder", spec := "lockOrder", unfollowed := true, recurses := true, apart := false }
def LockOrderSaid : Prop := lockOrderRow.holds Try.pinned (OpenSpec.ofChange lockOrderSpec)

/-- ITS FALSE NEIGHBOUR: 'it returns false'. Refute it at one input. -/
def lockOrderWrong : ChangeSpec := { name := "lockOrder", fn := fun _ => fun
  | [d] => { results := [.lit (.bool false)], args := [d] }
  | _ => none }
def LockOrderWrongFalsely : Prop := lockOrderRow.holds Try.pinned (OpenSpec.ofChange lockOrderWrong)

/-- 'wherrylaw19.LockConds': WHATEVER THE INPUT: true; the input reads as it did. -/
def lockCondsSpec : ChangeSpec := { name := "lockConds", fn := fun _ => fun
  | [d] => { results := [.lit (.bool true)], args := [d] }
  | _ => none }
def lockCondsRow : OpenClaim := { program := "ytimoleijdfoahaa", sum := "26833bc44de3465d89cf857aab65d4399506c55118bd6929b42a8012fb600fa2", func := "wherry/wherrylaw19.LockConds", spec := "lockConds", unfollowed := true, recurses := true, apart := false }
def LockCondsSaid : Prop := lockCondsRow.holds Try.pinned (OpenSpec.ofChange lockCondsSpec)

/-- ITS FALSE NEIGHBOUR: 'it returns false'. Refute it at one input. -/
def lockCondsWrong : ChangeSpec := { name := "lockConds", fn := fun _ => fun
  | [d] => { results := [.lit (.bool false)], args := [d] }
  | _ => none }
def LockCondsWrongFalsely : Prop := lockCondsRow.holds Try.pinned (OpenSpec.ofChange lockCondsWrong)

/-- 'wherrylaw19.LockNone': WHATEVER THE INPUT: true; the input reads as it did. -/
def lockNoneSpec : ChangeSpec := { name := "lockNone", fn := fun _ => fun
  | [d] => { results := [.lit (.bool true)], args := [d] }
  | _ => none }
def lockNoneRow : OpenClaim := { program := "ytimoleijdfoahaa", sum := "26833bc44de3465d89cf857aab65d4399506c55118bd6929b42a8012fb600fa2", func := "wherry/wherrylaw19.LockNone", spec := "lockNone", unfollowed := true, recurses := true, apart := false }
def LockNoneSaid : Prop := lockNoneRow.holds Try.pinned (OpenSpec.ofChange lockNoneSpec)

/-- ITS FALSE NEIGHBOUR: 'it returns false'. Refute it at one input. -/
def lockNoneWrong : ChangeSpec := { name := "lockNone", fn := fun _ => fun
  | [d] => { results := [.lit (.bool false)], args := [d] }
  | _ => none }
def LockNoneWrongFalsely : Prop := lockNoneRow.holds Try.pinned (OpenSpec.ofChange lockNoneWrong)

/- THE SECOND FORM. 'bulk': how many values and letters a reading holds, each counted each time it is reached (what is shared counts as often as it is met; a slice's spare places count too). A statement '..UptoSaid' is the law's where the arguments, and the package variables that the reading takes, are together of bulk at most 1048576: NARROWER than '..Said'. Prove '..Said' where nothing that the law and all that it calls make is longer than what came in: it says more and counts as full. Else prove '..UptoSaid'. A law counts once. -/
mutual
def uptoBulk {H : Type} : DataW H → Nat
  | .lit (.string bytes) => bytes.length + 1
  | .lit _ => 1
  | .nil => 1
  | .ptr d => uptoBulk d + 1
  | .slice elems spare => uptoBulkAll elems + uptoBulkAll spare + 1
  | .agg parts => uptoBulkAll parts + 1
  | .iface _ d => uptoBulk d + 1
  | .map entries => uptoBulkEntries entries + 1
  | .held _ => 1
def uptoBulkAll {H : Type} : List (DataW H) → Nat
  | [] => 0
  | d :: r => uptoBulk d + uptoBulkAll r
def uptoBulkEntries {H : Type} : List (Lit × DataW H) → Nat
  | [] => 0
  | x :: r => uptoBulkEntry x + uptoBulkEntries r
def uptoBulkEntry {H : Type} : Lit × DataW H → Nat
  | (.string bytes, d) => bytes.length + uptoBulk d + 1
  | (_, d) => uptoBulk d + 1
 end
def uptoSmall : (H : Type) → List (DataW H) → Bool := fun _ ds => decide (uptoBulkAll ds ≤ 1048576)
def OpenSpec.upto (s : _root_.Go.ChangeSpec) : _root_.Go.OpenSpec := { _root_.Go.OpenSpec.ofChange s with cond := some uptoSmall }

/-- 'wherrylaw19.LockActs', WHERE WHAT IT READS IS OF BULK AT MOST 1048576: true; the input reads as it did. -/
def lockActsUptoRow : OpenClaim := { program := "ytimoleijdfoahaa", sum := "26833bc44de3465d89cf857aab65d4399506c55118bd6929b42a8012fb600fa2", func := "wherry/wherrylaw19.LockActs", spec := "lockActs", unfollowed := true, recurses := true, apart := false, narrowed := true }
def LockActsUptoSaid : Prop := lockActsUptoRow.holds Try.pinned (OpenSpec.upto lockActsSpec)

/-- 'wherrylaw19.LockWaits', WHERE WHAT IT READS IS OF BULK AT MOST 1048576: true; the input reads as it did. -/
def lockWaitsUptoRow : OpenClaim := { program := "ytimoleijdfoahaa", sum := "26833bc44de3465d89cf857aab65d4399506c55118bd6929b42a8012fb600fa2", func := "wherry/wherrylaw19.LockWaits", spec := "lockWaits", unfollowed := true, recurses := true, apart := false, narrowed := true }
def LockWaitsUptoSaid : Prop := lockWaitsUptoRow.holds Try.pinned (OpenSpec.upto lockWaitsSpec)

/-- 'wherrylaw19.LockOrder', WHERE WHAT IT READS IS OF BULK AT MOST 1048576: true; the input reads as it did. -/
def lockOrderUptoRow : OpenClaim := { program := "ytimoleijdfoahaa", sum := "26833bc44de3465d89cf857aab65d4399506c55118bd6929b42a8012fb600fa2", func := "wherry/wherrylaw19.LockOrder", spec := "lockOrder", unfollowed := true, recurses := true, apart := false, narrowed := true }
def LockOrderUptoSaid : Prop := lockOrderUptoRow.holds Try.pinned (OpenSpec.upto lockOrderSpec)

/-- 'wherrylaw19.LockConds', WHERE WHAT IT READS IS OF BULK AT MOST 1048576: true; the input reads as it did. -/
def lockCondsUptoRow : OpenClaim := { program := "ytimoleijdfoahaa", sum := "26833bc44de3465d89cf857aab65d4399506c55118bd6929b42a8012fb600fa2", func := "wherry/wherrylaw19.LockConds", spec := "lockConds", unfollowed := true, recurses := true, apart := false, narrowed := true }
def LockCondsUptoSaid : Prop := lockCondsUptoRow.holds Try.pinned (OpenSpec.upto lockCondsSpec)

/-- 'wherrylaw19.LockNone', WHERE WHAT IT READS IS OF BULK AT MOST 1048576: true; the input reads as it did. -/
def lockNoneUptoRow : OpenClaim := { program := "ytimoleijdfoahaa", sum := "26833bc44de3465d89cf857aab65d4399506c55118bd6929b42a8012fb600fa2", func := "wherry/wherrylaw19.LockNone", spec := "lockNone", unfollowed := true, recurses := true, apart := false, narrowed := true }
def LockNoneUptoSaid : Prop := lockNoneUptoRow.holds Try.pinned (OpenSpec.upto lockNoneSpec)

end Rows
end Go.Proofs.Ytimoleijdfoahaa
