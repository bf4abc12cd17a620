/- What package sub's openedSubgroup answers where something is wrong, and what Normaliser, Normal, Core and Closure answer then. Condition: the library's table of places lies as its text lays it. -/
import Derived.Test.YtmgengplfebmjaaDoorNr2
namespace Go.Proofs.YtmgengplfebmjaaDoor
open Go Go.RowKit

end Go.Proofs.YtmgengplfebmjaaDoor
