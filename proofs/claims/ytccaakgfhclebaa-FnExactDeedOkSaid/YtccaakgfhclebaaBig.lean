/-
  laws.big; what every law answers.
-/
import Derived.Test.YtccaakgfhclebaaBase
namespace Go.Proofs.Ytccaakgfhclebaa
open Go.RowKit

end Go.Proofs.Ytccaakgfhclebaa
