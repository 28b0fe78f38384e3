/-
  States as data, and what the law's own functions do with them. No statement of the seat is proved here.
-/
import Derived.Test.YtkeoefbkeommhaaStB
import Derived.Test.YtkeoefbkeommhaaNetLw
import Derived.Deep.RegionHeld3
namespace Go.Proofs.Ytkeoefbkeommhaa
open Go.RowKit

structure Stt where
  acts : List Act
  queues : List (List Int)
  sent : List (List Int)
  steps : Int
/-- 'v' reads as the state 's'. -/
def StV (w : World) (v : Value) (s : Stt) : Prop := ∃ a q r, v = .agg #[a, q, r, .int .i64 s.steps] ∧ SlA w a s.acts ∧ SlR w q s.queues ∧ SlR w r s.sent
theorem StV.below {w w' : World} {v : Value} {s : Stt} (h : StV w v s) (hb : Below w.heap.size w w') : StV w' v s := by
  obtain ⟨a, q, r, e, h1, h2, h3⟩ := h; exact ⟨a, q, r, e, h1.below hb, h2.below hb, h3.below hb⟩
theorem SlR.shape {w : World} {v : Value} {xss : List (List Int)} (h : SlR w v xss) : ∃ a c, v = .slice a xss.length c := by
  obtain ⟨a, c, h, _⟩ := h; exact ⟨a, c, h⟩
theorem SlR.len {w : World} {v : Value} {xs : List (List Int)} (h : SlR w v xs) : xs.length ≤ 9223372036854775807 := by
  obtain ⟨_, _, _, h1, h2, _⟩ := h; unfold maxLen at h2; omega
theorem SlR.atb {w : World} {a : Option Addr} {m cap : Nat} {ps : List (List Int)} (h : SlR w (.slice a m cap) ps) {k : Nat} {x : List Int} (hx : ps[k]? = some x) :
    ∃ b off c, a = some ⟨b, off, none⟩ ∧ b < w.heap.size ∧ w.cell? ⟨b, off + k, none⟩ = some c ∧ Sl w c x := by
  obtain ⟨a', cap', hv, _, _, _, hr⟩ := h
  simp only [Value.slice.injEq] at hv
  obtain ⟨rfl, rfl, rfl⟩ := hv
  rcases hr with rfl | ⟨b, off, rfl, hb, hc⟩
  · simp at hx
  · obtain ⟨c, h0, h1⟩ := hc k x hx
    exact ⟨b, off, c, rfl, hb, h0, h1⟩
theorem StV.shape {w : World} {v : Value} {s : Stt} (h : StV w v s) : ∃ a b c d e f, v = .agg #[.slice a s.acts.length b, .slice c s.queues.length d, .slice e s.sent.length f, .int .i64 s.steps] := by
  obtain ⟨x, q, r, rfl, h1, h2, h3⟩ := h
  obtain ⟨a, b, rfl⟩ := h1.shape
  obtain ⟨c, d, rfl⟩ := h2.shape
  obtain ⟨e, f, rfl⟩ := h3.shape
  exact ⟨a, b, c, d, e, f, rfl⟩
def szS (s : Stt) : Nat := sumA s.acts + (sumR s.queues + sumR s.sent)
theorem set4_0 {w : World} {g T : Nat} {u0 u1 u2 u3 : Value} (h : w.heap[g]? = some (.cells #[u0, u1, u2, u3] T)) (v : Value) : (w.setCell ⟨g, 0, none⟩ v).heap[g]? = some (.cells #[v, u1, u2, u3] T) := by
  rw [heap_setCell_same w g 0 #[u0, u1, u2, u3] T v h]; rfl
theorem set4_1 {w : World} {g T : Nat} {u0 u1 u2 u3 : Value} (h : w.heap[g]? = some (.cells #[u0, u1, u2, u3] T)) (v : Value) : (w.setCell ⟨g, 1, none⟩ v).heap[g]? = some (.cells #[u0, v, u2, u3] T) := by
  rw [heap_setCell_same w g 1 #[u0, u1, u2, u3] T v h]; rfl
theorem set4_2 {w : World} {g T : Nat} {u0 u1 u2 u3 : Value} (h : w.heap[g]? = some (.cells #[u0, u1, u2, u3] T)) (v : Value) : (w.setCell ⟨g, 2, none⟩ v).heap[g]? = some (.cells #[u0, u1, v, u3] T) := by
  rw [heap_setCell_same w g 2 #[u0, u1, u2, u3] T v h]; rfl

def stS (s : Stt) : Nat := sumA s.acts + sumT s.queues + sumT s.sent
theorem sumT_le_R (xss : List (List Int)) : sumT xss ≤ sumR xss := by have := sumT_R xss; omega
end Go.Proofs.Ytkeoefbkeommhaa
