/-
  What the model's NewActor answers. No statement of the seat is proved here.
-/
import Derived.Test.YtkeoefbkeommhaaActs
namespace Go.Proofs.Ytkeoefbkeommhaa
open Go.RowKit

end Go.Proofs.Ytkeoefbkeommhaa
