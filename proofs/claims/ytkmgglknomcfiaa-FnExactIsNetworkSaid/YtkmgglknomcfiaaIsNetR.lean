/-
  What both IsNetwork answer, as the law's walk calls it. No statement of the seat is proved here.
-/
import Derived.Test.YtkmgglknomcfiaaSNet3
import Derived.Test.YtkmgglknomcfiaaNetTo
import Derived.Test.YtkmgglknomcfiaaNetEq
import Derived.Test.YtkmgglknomcfiaaNetSz
namespace Go.Proofs.Ytkmgglknomcfiaa
open Go.RowKit
def isNetworkR0 (n : Net) : Bool := okN n
end Go.Proofs.Ytkmgglknomcfiaa
