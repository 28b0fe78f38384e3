/-
  What NewActor, IsActor, WantOf answer, in the program and in its model. No statement of the seat is proved here.
-/
import Derived.Test.YtkeoefbkeommhaaIsP
import Derived.Test.YtkeoefbkeommhaaOpb
import Derived.Test.YtkeoefbkeommhaaBas
namespace Go.Proofs.Ytkeoefbkeommhaa
open Go.RowKit

def newActorR0 (p : Prg) : Act := if okP p then ⟨0, [0, 0, 0, 0]⟩ else ⟨0, []⟩
theorem newActor_len0 (p : Prg) : (newActorR0 p).regs.length ≤ 1048576 := by unfold newActorR0; split <;> simp

theorem own_lit4 (W : World) (g : Nat) (a b c d : Int) (hg : g = W.heap.size) : Own g (W.alloc (.cells #[.int .i64 a, .int .i64 b, .int .i64 c, .int .i64 d] 3)) (.slice (some ⟨g, 0, none⟩) 4 4) [a, b, c, d] := by
  subst hg
  exact ⟨rfl, .inr ⟨W.heap.size, 4, _, rfl, Nat.le_refl _, heap_alloc_new W _, Nat.le_refl _, by unfold maxLen; omega, rfl, rfl⟩⟩
theorem zeros4 : [Value.int .i64 0, .int .i64 0, .int .i64 0, .int .i64 0] = vals [0, 0, 0, 0] := rfl

def wantOfR0 (p : Prg) (a : Act) : Int := if (okP p && okA p a) = true then wantC p.code a.pc.toNat else 0
def wantOfR1 (p : Prg) (a : Act) : Int := if (okP p && okA p a) = true then portC p.code a.pc.toNat else 0

def isActorR0 (p : Prg) (a : Act) : Bool := okP p && okA p a
end Go.Proofs.Ytkeoefbkeommhaa
