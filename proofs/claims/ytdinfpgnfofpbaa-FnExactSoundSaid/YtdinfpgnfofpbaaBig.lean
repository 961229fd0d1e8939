/-
  laws.big; what every law answers.
-/
import Derived.Test.YtdinfpgnfofpbaaBase
namespace Go.Proofs.Ytdinfpgnfofpbaa
open Go.RowKit

end Go.Proofs.Ytdinfpgnfofpbaa
