/-
  What the law of IsProgram calls the answer. No statement of the seat is proved here.
-/
import Derived.Test.YtamhbjmljgkfpaaIsP
import Derived.Test.YtamhbjmljgkfpaaBoxes
namespace Go.Proofs.Ytamhbjmljgkfpaa
end Go.Proofs.Ytamhbjmljgkfpaa
