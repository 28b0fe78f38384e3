/-
  Capacities of a network: which are some, and the uniform ones, both sides. No statement of the seat is proved here.
-/
import Derived.Test.YtkeoefbkeommhaaStM
import Derived.Test.YtkeoefbkeommhaaLawKit
namespace Go.Proofs.Ytkeoefbkeommhaa
open Go.RowKit

def capB (l : Lnk) (c : Int) : Bool := decide ((l.tok.length : Int) ≤ c) && decide (c ≤ 400)
def capP (ls : List Lnk) (cs : List Int) (i : Nat) : Bool := capB (ls.getD i lnk0) (cs.getD i 0)
def areCapacitiesR0 (n : Net) (cs : List Int) : Bool := okN n && (decide (n.links.length = cs.length) && upTo (capP n.links cs) n.links.length)
theorem Sl.atb {w : World} {a : Option Addr} {m cap : Nat} {xs : List Int} (h : Sl w (.slice a m cap) xs) {k : Nat} {x : Int} (hx : xs[k]? = some x) :
    ∃ b off, a = some ⟨b, off, none⟩ ∧ b < w.heap.size ∧ w.cell? ⟨b, off + k, none⟩ = some (.int .i64 x) := by
  obtain ⟨a', cap', hv, _, _, _, hr⟩ := h
  simp only [Value.slice.injEq] at hv
  obtain ⟨rfl, rfl, rfl⟩ := hv
  have hk := (List.getElem?_eq_some_iff.1 hx).1
  rcases hr with rfl | ⟨b, off, rfl, hb, hc⟩
  · simp at hx
  · refine ⟨b, off, rfl, hb, ?_⟩
    rw [hc k hk]
    simp [List.getD, hx]
theorem Sl.len {w : World} {v : Value} {xs : List Int} (h : Sl w v xs) : xs.length ≤ 9223372036854775807 := by
  obtain ⟨_, _, _, h1, h2, _⟩ := h; unfold maxLen at h2; omega

end Go.Proofs.Ytkeoefbkeommhaa
