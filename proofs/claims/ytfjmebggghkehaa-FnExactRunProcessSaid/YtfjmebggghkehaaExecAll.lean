/-
  What the program's execute does, at every operation but the halt. No statement of the seat is proved here.
-/
import Derived.Test.YtfjmebggghkehaaExecOp1
import Derived.Test.YtfjmebggghkehaaExecOp2
import Derived.Test.YtfjmebggghkehaaExecOp3
import Derived.Test.YtfjmebggghkehaaExecOp4
import Derived.Test.YtfjmebggghkehaaExecOp5
import Derived.Test.YtfjmebggghkehaaExecOp6
import Derived.Test.YtfjmebggghkehaaExecOp7
import Derived.Test.YtfjmebggghkehaaExecOp8
import Derived.Test.YtfjmebggghkehaaExecOp9
import Derived.Test.YtfjmebggghkehaaExecOp10
namespace Go.Proofs.Ytfjmebggghkehaa
open Go.RowKit

theorem iexec_all (lo g r rc : Nat) (pv : Value) (p : Prg) (k : Nat) (x : Ins) (regs : List Int) (t : Int) (w : World) (hp : PrgV w pv p) (hok : okP p = true) (hx : p.code[k]? = some x) (hop : x.op ≠ 11)
    (hg : w.heap[g]? = some (.cells #[.int .i64 k, .slice (some ⟨r, 0, none⟩) 4 rc] 43)) (hr : Own lo w (.slice (some ⟨r, 0, none⟩) 4 rc) regs) (hlen : regs.length = 4) (hs : isS regs = true) :
    Calls Try.prog 84 #[pv, .pointer (some ⟨g, 0, none⟩), .int .i64 t] w fun e w' => e = .returned (.int .i64 (outI x regs)) ∧
      w'.heap[g]? = some (.cells #[.int .i64 (pcI x regs k), .slice (some ⟨r, 0, none⟩) 4 rc] 43) ∧ Own lo w' (.slice (some ⟨r, 0, none⟩) 4 rc) (regsI x regs t) ∧ Two g r w w' := by
  have ho := okI_ops ((okP_parts hok).2 x (List.mem_of_getElem? hx))
  have : x.op = 1 ∨ x.op = 2 ∨ x.op = 3 ∨ x.op = 4 ∨ x.op = 5 ∨ x.op = 6 ∨ x.op = 7 ∨ x.op = 8 ∨ x.op = 9 ∨ x.op = 10 := by omega
  rcases this with h | h | h | h | h | h | h | h | h | h
  · exact iexec_1 lo g r rc pv p k x regs t w hp hok hx h hg hr hlen hs
  · exact iexec_2 lo g r rc pv p k x regs t w hp hok hx h hg hr hlen hs
  · exact iexec_3 lo g r rc pv p k x regs t w hp hok hx h hg hr hlen hs
  · exact iexec_4 lo g r rc pv p k x regs t w hp hok hx h hg hr hlen hs
  · exact iexec_5 lo g r rc pv p k x regs t w hp hok hx h hg hr hlen hs
  · exact iexec_6 lo g r rc pv p k x regs t w hp hok hx h hg hr hlen hs
  · exact iexec_7 lo g r rc pv p k x regs t w hp hok hx h hg hr hlen hs
  · exact iexec_8 lo g r rc pv p k x regs t w hp hok hx h hg hr hlen hs
  · exact iexec_9 lo g r rc pv p k x regs t w hp hok hx h hg hr hlen hs
  · exact iexec_10 lo g r rc pv p k x regs t w hp hok hx h hg hr hlen hs
end Go.Proofs.Ytfjmebggghkehaa
