/-
  CanStep and IsQuiet over values and objects in pairs. No statement of the seat is proved here.
-/
import Derived.Test.YtjphamgkigekkaaCanI
import Derived.Test.YtjphamgkigekkaaCanS
import Derived.Test.YtjphamgkigekkaaIsStB
namespace Go.Proofs.Ytjphamgkigekkaa
open Go.RowKit

theorem icanstep_w (v : Value) (n : Net) (u : Value) (s : Stt) (k : Int) (w : World) (hv : NetV w v n) (hu : StV w u s) (_ : (Lit.int .i64 k).wf = true) :
    Calls Try.prog 47 #[v, u, .int .i64 k] w fun e w' => e = .returned (.bool (canStepR0 n s k)) ∧ Below w.heap.size w w' := icanstep_any v u n s k w hv hu
theorem scanstep_w (v : Value) (n : Net) (u : Value) (s : Stt) (k : Int) (w : World) (hv : NetV w v n) (hu : StV w u s) (_ : (Lit.int .i64 k).wf = true) :
    Calls Try.prog 46 #[v, u, .int .i64 k] w fun e w' => e = .returned (.bool (canStepR0 n s k)) ∧ Below w.heap.size w w' := scanstep_any v u n s k w hv hu
theorem iisquiet_w (v : Value) (n : Net) (u : Value) (s : Stt) (w : World) (hv : NetV w v n) (hu : StV w u s) :
    Calls Try.prog 49 #[v, u] w fun e w' => e = .returned (.bool (isQuietR0 n s)) ∧ Below w.heap.size w w' := iisquiet_any v u n s w hv hu
theorem sisquiet_w (v : Value) (n : Net) (u : Value) (s : Stt) (w : World) (hv : NetV w v n) (hu : StV w u s) :
    Calls Try.prog 48 #[v, u] w fun e w' => e = .returned (.bool (isQuietR0 n s)) ∧ Below w.heap.size w w' := sisquiet_any v u n s w hv hu
end Go.Proofs.Ytjphamgkigekkaa
