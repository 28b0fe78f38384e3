/-
  The state at first: StartState of the model and of the program. No statement of the seat is proved here.
-/
import Derived.Test.YtkeoefbkeommhaaGrowA
import Derived.Test.YtkeoefbkeommhaaActsN
import Derived.Deep.Cut
import Derived.Deep.CutRange
import Derived.Deep.RegionHeld3
import Derived.Deep.RegionLaw
import Derived.Deep.AppendLies
import Derived.Maps.AppendAt
import Derived.Outline
namespace Go.Proofs.Ytkeoefbkeommhaa
open Go.RowKit

def startStateR0 (n : Net) : Stt := if okN n then ⟨n.progs.map newActorR0, toksL n, toksL n, 0⟩ else ⟨[], [], [], 0⟩
theorem start_no {n : Net} (h : okN n = false) : startStateR0 n = ⟨[], [], [], 0⟩ := by unfold startStateR0; rw [h]; rfl
theorem start_yes {n : Net} (h : okN n = true) : startStateR0 n = ⟨n.progs.map newActorR0, toksL n, toksL n, 0⟩ := by unfold startStateR0; rw [h]; rfl
theorem startState_bd (n : Net) : szS (startStateR0 n) ≤ 100000 := by
  cases h : okN n with
  | false => rw [start_no h]; simp [szS, sumA, sumR]
  | true =>
    rw [start_yes h]
    have hl := okN_len h
    have h1 := sumA_le (c := 4) (n.progs.map newActorR0) (fun x hx => by
      obtain ⟨p, _, rfl⟩ := List.mem_map.1 hx
      unfold newActorR0; split <;> simp)
    have h2 := sumT_le (c := 400) (toksL n) (fun xs hx => by
      unfold toksL at hx
      obtain ⟨l, hl, rfl⟩ := List.mem_map.1 hx
      exact isS_len (tok_isS h hl))
    have h3 := sumT_R (toksL n)
    have h4 : (toksL n).length = n.links.length := by unfold toksL; simp
    rw [List.length_map] at h1
    have h0 : szS ⟨n.progs.map newActorR0, toksL n, toksL n, 0⟩ = sumA (n.progs.map newActorR0) + (sumR (toksL n) + sumR (toksL n)) := rfl
    rw [h0]
    omega
theorem set4_all {w : World} {g T : Nat} {u0 u1 u2 u3 : Value} (h : w.heap[g]? = some (.cells #[u0, u1, u2, u3] T)) (a b c d : Value) :
    ((((w.setCell ⟨g, 0, none⟩ a).setCell ⟨g, 1, none⟩ b).setCell ⟨g, 2, none⟩ c).setCell ⟨g, 3, none⟩ d).heap[g]? = some (.cells #[a, b, c, d] T) ∧ Out g (g + 1) w ((((w.setCell ⟨g, 0, none⟩ a).setCell ⟨g, 1, none⟩ b).setCell ⟨g, 2, none⟩ c).setCell ⟨g, 3, none⟩ d) := by
  have h0 := set4_0 h a
  have h1 := set4_1 h0 b
  have h2 := set4_2 h1 c
  refine ⟨?_, ((((Out.refl g (g + 1) w).setC (p := ⟨g, 0, none⟩) (Nat.le_refl _) (by simp) _).setC (p := ⟨g, 1, none⟩) (Nat.le_refl _) (by simp) _).setC (p := ⟨g, 2, none⟩) (Nat.le_refl _) (by simp) _).setC (p := ⟨g, 3, none⟩) (Nat.le_refl _) (by simp) _⟩
  rw [heap_setCell_same _ g 3 #[a, b, c, u3] T d h2]; rfl
theorem Fam.outB {lo B T : Nat} {w w' : World} {us : List Value} {xss : List (List Int)} {cs : Array Value} (hF : Fam lo w us xss) (hB : w.heap[B]? = some (.cells cs T)) (h1 : T ≠ 3) (ho : Out B (B + 1) w w') : Fam lo w' us xss := by
  refine ⟨hF.len, fun i u xs hu hx => ?_, hF.apart⟩
  have hv := hF.own i u xs hu hx
  refine ⟨hv.1, ?_⟩
  rcases hv.2 with hn | ⟨g, cap, cur, rfl, hbb, hg, rest⟩
  · exact .inl hn
  · exact .inr ⟨g, cap, cur, rfl, hbb, (ho.block g (lt_of hg) (by have : g ≠ B := (fun e => by subst e; rw [hg] at hB; simp at hB; exact h1 hB.2.symm); omega)).trans hg, rest⟩
theorem grow_box {w w' : World} {row : Option Nat} {o lit : Obj} {B : Nat} (h : w.heap[B]? = some o) (hg : (w.alloc lit).grownBy w' row) (hne : some B ≠ row) : w'.heap[B]? = some o :=
  (hg.block B (by have := lt_of h; simp; omega) hne).trans ((Below.heap_alloc _ _ _ (lt_of h)).trans h)
theorem QR.mono {lo hi lo' hi' : Nat} {w : World} {q r : Value} {Q S : List (List Int)} (h : QR lo hi w q r Q S) (h1 : lo' ≤ lo) (h2 : hi ≤ hi') : QR lo' hi' w q r Q S := by
  obtain ⟨u2, u3, v2, v3, l2, l3, hF, hh⟩ := h
  exact ⟨u2, u3, v2.mono h1 h2, v3.mono h1 h2, l2, l3, hF.mono h1, fun x hx b e => Nat.lt_of_lt_of_le (hh x hx b e) h2⟩


end Go.Proofs.Ytkeoefbkeommhaa
