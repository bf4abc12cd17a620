/- What the document's ListFault and SetFault tell. -/
import Derived.Test.YtelglfegpfhbpaaDoorOps
namespace Go.Proofs.YtelglfegpfhbpaaDoor
open Go Go.RowKit

end Go.Proofs.YtelglfegpfhbpaaDoor
