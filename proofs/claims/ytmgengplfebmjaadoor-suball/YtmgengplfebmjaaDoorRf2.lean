/- What the document's ListFault and SetFault tell. -/
import Derived.Test.YtmgengplfebmjaaDoorOps
namespace Go.Proofs.YtmgengplfebmjaaDoor
open Go Go.RowKit

end Go.Proofs.YtmgengplfebmjaaDoor
