/-
  What the program's execute does, at every operation but the halt. No statement of the seat is proved here.
  A family of rows of ints, and a step of an actor. No statement of the seat is proved here.
-/
import Derived.Test.YtjphamgkigekkaaExecOp1
import Derived.Test.YtjphamgkigekkaaExecOp2
import Derived.Test.YtjphamgkigekkaaExecOp3
import Derived.Test.YtjphamgkigekkaaExecOp4
import Derived.Test.YtjphamgkigekkaaExecOp5
import Derived.Test.YtjphamgkigekkaaExecOp6
import Derived.Test.YtjphamgkigekkaaExecOp7
import Derived.Test.YtjphamgkigekkaaExecOp8
import Derived.Test.YtjphamgkigekkaaExecOp9
import Derived.Test.YtjphamgkigekkaaExecOp10
import Derived.Test.YtjphamgkigekkaaFamA
namespace Go.Proofs.Ytjphamgkigekkaa
open Go.RowKit

theorem iexec_all (lo g r rc : Nat) (pv : Value) (p : Prg) (k : Nat) (x : Ins) (regs : List Int) (t : Int) (w : World) (hp : PrgV w pv p) (hok : okP p = true) (hx : p.code[k]? = some x) (hop : x.op ≠ 11)
    (hg : w.heap[g]? = some (.cells #[.int .i64 k, .slice (some ⟨r, 0, none⟩) 4 rc] 98)) (hr : Own lo w (.slice (some ⟨r, 0, none⟩) 4 rc) regs) (hlen : regs.length = 4) (hs : isS regs = true) :
    Calls Try.prog 162 #[pv, .pointer (some ⟨g, 0, none⟩), .int .i64 t] w fun e w' => e = .returned (.int .i64 (outI x regs)) ∧
      w'.heap[g]? = some (.cells #[.int .i64 (pcI x regs k), .slice (some ⟨r, 0, none⟩) 4 rc] 98) ∧ Own lo w' (.slice (some ⟨r, 0, none⟩) 4 rc) (regsI x regs t) ∧ Two g r w w' := by
  have ho := okI_ops ((okP_parts hok).2 x (List.mem_of_getElem? hx))
  have : x.op = 1 ∨ x.op = 2 ∨ x.op = 3 ∨ x.op = 4 ∨ x.op = 5 ∨ x.op = 6 ∨ x.op = 7 ∨ x.op = 8 ∨ x.op = 9 ∨ x.op = 10 := by omega
  rcases this with h | h | h | h | h | h | h | h | h | h
  · exact iexec_1 lo g r rc pv p k x regs t w hp hok hx h hg hr hlen hs
  · exact iexec_2 lo g r rc pv p k x regs t w hp hok hx h hg hr hlen hs
  · exact iexec_3 lo g r rc pv p k x regs t w hp hok hx h hg hr hlen hs
  · exact iexec_4 lo g r rc pv p k x regs t w hp hok hx h hg hr hlen hs
  · exact iexec_5 lo g r rc pv p k x regs t w hp hok hx h hg hr hlen hs
  · exact iexec_6 lo g r rc pv p k x regs t w hp hok hx h hg hr hlen hs
  · exact iexec_7 lo g r rc pv p k x regs t w hp hok hx h hg hr hlen hs
  · exact iexec_8 lo g r rc pv p k x regs t w hp hok hx h hg hr hlen hs
  · exact iexec_9 lo g r rc pv p k x regs t w hp hok hx h hg hr hlen hs
  · exact iexec_10 lo g r rc pv p k x regs t w hp hok hx h hg hr hlen hs

/-- A step of an actor whose registers are the row j. -/
theorem Fam.two {lo g r rc j T : Nat} {w w' : World} {fs : List Value} {xss : List (List Int)} {xs' : List Int} {cs : Array Value} (h : Fam lo w fs xss) (hj : fs[j]? = some (.slice (some ⟨r, 0, none⟩) 4 rc))
    (hg : w.heap[g]? = some (.cells cs T)) (hT : T ≠ 3) (h2 : Two g r w w') (ho : Own lo w' (.slice (some ⟨r, 0, none⟩) 4 rc) xs') : Fam lo w' fs (xss.set j xs') := by
  have := h.upd (w' := w') hj (fun v xs hv ha => ?_) ho (.inl rfl)
  · rwa [show fs.set j (.slice (some ⟨r, 0, none⟩) 4 rc) = fs from by
      apply List.ext_getElem?
      intro i
      rw [List.getElem?_set]
      by_cases e : j = i
      · rw [if_pos e, if_pos (List.getElem?_eq_some_iff.1 hj).1, ← e, hj]
      · rw [if_neg e]] at this
  · have hl := hv.lt
    refine ⟨hv.1, ?_⟩
    rcases hv.2 with hn | ⟨q, cap, cur, rfl, hbb, hq, rest⟩
    · exact .inl hn
    · refine .inr ⟨q, cap, cur, rfl, hbb, ?_, rest⟩
      have n1 : q ≠ g := by
        intro e
        subst e
        rw [hq] at hg
        simp at hg
        exact hT hg.2.symm
      have n2 : q ≠ r := by
        rcases ha with ha | ha
        · simp [Value.ownBlock] at ha
        · simpa [Value.ownBlock] using ha
      rw [h2.block q (lt_of hq) n1 n2]
      exact hq
end Go.Proofs.Ytjphamgkigekkaa
