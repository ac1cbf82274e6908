/- Rows of ints of a call's own; an append to one; the reference's Ints. -/
import Derived.Test.YtjgclehghnmhnaaDoorSNew
import Derived.Deep.RegionLaw
namespace Go.Proofs.YtjgclehghnmhnaaDoor
open Go.RowKit

section
variable {w w' : World} {q : List Int}
end

end Go.Proofs.YtjgclehghnmhnaaDoor
