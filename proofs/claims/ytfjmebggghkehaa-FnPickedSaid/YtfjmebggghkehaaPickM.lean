/-
  What a run of the sample program 'pick' leaves. No statement of the seat is proved here.
-/
import Derived.Test.YtfjmebggghkehaaRun
namespace Go.Proofs.Ytfjmebggghkehaa
open Go.RowKit

def pickC : List Ins := [⟨1, 0, 0, 0⟩, ⟨9, 0, 4, 0⟩, ⟨1, 1, 2, 0⟩, ⟨8, 0, 5, 0⟩, ⟨1, 1, 1, 0⟩, ⟨2, 1, 0, 0⟩, ⟨8, 0, 0, 0⟩]
theorem runS_go {code : List Ins} {inp : List (List Int)} {st : St} {n : Nat} (h : stuckS code inp st = false) : runS code inp (n + 1) st = runS code inp n (stepS (insAt code st.pc) inp st) := by
  rw [runS, if_neg (by rw [h]; decide)]
theorem runS_end {code : List Ins} {inp : List (List Int)} {st : St} {n : Nat} (h : stuckS code inp st = true) : runS code inp n st = (st, wantC code st.pc) := by
  cases n with
  | zero => rw [runS, if_pos h]
  | succ n => rw [runS, if_pos h]
/-- What is picked, and how much of both was taken. -/
def pickL : List Int → List Int → List Int → List Int × Nat × Nat
  | [], _, _ => ([], 0, 0)
  | c :: cs, a, b =>
    if c = 0 then
      match a with
      | [] => ([], 0, 0)
      | x :: a' => (x :: (pickL cs a' b).1, (pickL cs a' b).2.1 + 1, (pickL cs a' b).2.2)
    else
      match b with
      | [] => ([], 0, 0)
      | x :: b' => (x :: (pickL cs a b').1, (pickL cs a b').2.1, (pickL cs a b').2.2 + 1)
theorem pick_a0 {x : Int} {cs b : List Int} (h : x = 0) : pickL (x :: cs) [] b = ([], 0, 0) := by rw [pickL.eq_def]; simp [h]
theorem pick_a1 {x y : Int} {cs a b : List Int} (h : x = 0) : pickL (x :: cs) (y :: a) b = (y :: (pickL cs a b).1, (pickL cs a b).2.1 + 1, (pickL cs a b).2.2) := by rw [pickL.eq_def]; simp [h]
theorem pick_b0 {x : Int} {cs a : List Int} (h : x ≠ 0) : pickL (x :: cs) a [] = ([], 0, 0) := by rw [pickL.eq_def]; simp [h]
theorem pick_b1 {x y : Int} {cs a b : List Int} (h : x ≠ 0) : pickL (x :: cs) a (y :: b) = (y :: (pickL cs a b).1, (pickL cs a b).2.1, (pickL cs a b).2.2 + 1) := by rw [pickL.eq_def]; simp [h]
theorem pickL_len : ∀ (c a b : List Int), (pickL c a b).1.length ≤ c.length
  | [], _, _ => by simp [pickL]
  | c :: cs, a, b => by
    unfold pickL
    split
    · cases a with
      | nil => simp
      | cons x a' => have := pickL_len cs a' b; simp; omega
    · cases b with
      | nil => simp
      | cons x b' => have := pickL_len cs a b'; simp; omega
def pst (pc : Nat) (r0 r1 : Int) (o : List Int) (uc ua ub : Nat) : St := ⟨pc, [r0, r1, 0, 0], [o], [(uc : Int), (ua : Int), (ub : Int)]⟩
section
variable {c a b o : List Int} {r0 r1 : Int} {uc ua ub n : Nat}
theorem p0_stuck : stuckS pickC [c, a, b] (pst 0 r0 r1 o uc ua ub) = decide (uc = c.length) := by
  show ((false || (true && ((uc : Int) == (c.length : Int)))) || false) = _
  by_cases h : uc = c.length
  · subst h; simp
  · rw [decide_eq_false h]; simp; omega
theorem p0_step : stepS (insAt pickC 0) [c, a, b] (pst 0 r0 r1 o uc ua ub) = pst 1 (c.getD uc 0) r1 o (uc + 1) ua ub := by
  show St.mk _ _ _ _ = _
  unfold pst
  congr 1
theorem p4_stuck : stuckS pickC [c, a, b] (pst 4 r0 r1 o uc ua ub) = decide (ua = a.length) := by
  show ((false || (true && ((ua : Int) == (a.length : Int)))) || false) = _
  by_cases h : ua = a.length
  · subst h; simp
  · rw [decide_eq_false h]; simp; omega
theorem p4_step : stepS (insAt pickC 4) [c, a, b] (pst 4 r0 r1 o uc ua ub) = pst 5 r0 (a.getD ua 0) o uc (ua + 1) ub := by
  show St.mk _ _ _ _ = _
  unfold pst
  congr 1
theorem p2_stuck : stuckS pickC [c, a, b] (pst 2 r0 r1 o uc ua ub) = decide (ub = b.length) := by
  show ((false || (true && ((ub : Int) == (b.length : Int)))) || false) = _
  by_cases h : ub = b.length
  · subst h; simp
  · rw [decide_eq_false h]; simp; omega
theorem p2_step : stepS (insAt pickC 2) [c, a, b] (pst 2 r0 r1 o uc ua ub) = pst 3 r0 (b.getD ub 0) o uc ua (ub + 1) := by
  show St.mk _ _ _ _ = _
  unfold pst
  congr 1
theorem p1_stuck : stuckS pickC [c, a, b] (pst 1 r0 r1 o uc ua ub) = false := rfl
theorem p3_stuck : stuckS pickC [c, a, b] (pst 3 r0 r1 o uc ua ub) = false := rfl
theorem p6_stuck : stuckS pickC [c, a, b] (pst 6 r0 r1 o uc ua ub) = false := rfl
theorem p5_stuck (h : o.length < 400) : stuckS pickC [c, a, b] (pst 5 r0 r1 o uc ua ub) = false := by
  show ((false || false) || (true && ((o.length : Int) == 400))) = false
  simp; omega
theorem p1_step : stepS (insAt pickC 1) [c, a, b] (pst 1 r0 r1 o uc ua ub) = pst (if r0 = 0 then 4 else 2) r0 r1 o uc ua ub := by
  unfold stepS pst
  have e : pcI (insAt pickC 1) [r0, r1, 0, 0] 1 = if r0 = 0 then 4 else 2 := rfl
  show St.mk (pcI (insAt pickC 1) [r0, r1, 0, 0] 1).toNat _ _ _ = _
  rw [e]
  congr 1
  split <;> rfl
theorem p3_step : stepS (insAt pickC 3) [c, a, b] (pst 3 r0 r1 o uc ua ub) = pst 5 r0 r1 o uc ua ub := rfl
theorem p6_step : stepS (insAt pickC 6) [c, a, b] (pst 6 r0 r1 o uc ua ub) = pst 0 r0 r1 o uc ua ub := rfl
theorem p5_step : stepS (insAt pickC 5) [c, a, b] (pst 5 r0 r1 o uc ua ub) = pst 6 r0 r1 (o ++ [r1]) uc ua ub := rfl
end
theorem pick_run (c a b : List Int) : ∀ (n uc ua ub : Nat) (r0 r1 : Int) (o : List Int) (f : Nat), uc + n = c.length → ua ≤ a.length → ub ≤ b.length → o.length + n ≤ 400 → 6 * n ≤ f →
    ∃ pc r0' r1' uc', runS pickC [c, a, b] f (pst 0 r0 r1 o uc ua ub) = (pst pc r0' r1' (o ++ (pickL (c.drop uc) (a.drop ua) (b.drop ub)).1) uc' (ua + (pickL (c.drop uc) (a.drop ua) (b.drop ub)).2.1) (ub + (pickL (c.drop uc) (a.drop ua) (b.drop ub)).2.2), 2)
  | 0, uc, ua, ub, r0, r1, o, f, h1, _, _, _, _ => by
    have hs : stuckS pickC [c, a, b] (pst 0 r0 r1 o uc ua ub) = true := by rw [p0_stuck]; exact decide_eq_true (by omega)
    rw [runS_end hs, List.drop_eq_nil_of_le (show c.length ≤ uc by omega)]
    exact ⟨0, r0, r1, uc, by simp [pickL]; rfl⟩
  | n + 1, uc, ua, ub, r0, r1, o, f, h1, h2, h3, h4, h5 => by
    obtain ⟨g, rfl⟩ : ∃ g, f = g + 6 := ⟨f - 6, by omega⟩
    have hlt : uc < c.length := by omega
    have hs : stuckS pickC [c, a, b] (pst 0 r0 r1 o uc ua ub) = false := by rw [p0_stuck]; exact decide_eq_false (by omega)
    rw [runS_go hs, show insAt pickC (pst 0 r0 r1 o uc ua ub).pc = insAt pickC 0 from rfl, p0_step, runS_go p1_stuck, show insAt pickC (pst 1 (c.getD uc 0) r1 o (uc + 1) ua ub).pc = insAt pickC 1 from rfl, p1_step]
    have hd : c.drop uc = c.getD uc 0 :: c.drop (uc + 1) := by rw [List.drop_eq_getElem_cons hlt]; simp [List.getD, hlt]
    rw [hd]
    by_cases hz : c.getD uc 0 = 0
    · rw [if_pos hz]
      by_cases ha : ua = a.length
      · have hs4 : stuckS pickC [c, a, b] (pst 4 (c.getD uc 0) r1 o (uc + 1) ua ub) = true := by rw [p4_stuck]; exact decide_eq_true ha
        rw [runS_end hs4, List.drop_eq_nil_of_le (show a.length ≤ ua by omega)]
        exact ⟨4, c.getD uc 0, r1, uc + 1, by rw [pick_a0 hz]; simp; rfl⟩
      · have hs4 : stuckS pickC [c, a, b] (pst 4 (c.getD uc 0) r1 o (uc + 1) ua ub) = false := by rw [p4_stuck]; exact decide_eq_false ha
        have hda : a.drop ua = a.getD ua 0 :: a.drop (ua + 1) := by rw [List.drop_eq_getElem_cons (by omega)]; simp [List.getD, show ua < a.length by omega]
        rw [runS_go hs4, show insAt pickC (pst 4 (c.getD uc 0) r1 o (uc + 1) ua ub).pc = insAt pickC 4 from rfl, p4_step, runS_go (p5_stuck (by omega)), show insAt pickC (pst 5 (c.getD uc 0) (a.getD ua 0) o (uc + 1) (ua + 1) ub).pc = insAt pickC 5 from rfl, p5_step, runS_go p6_stuck,
          show insAt pickC (pst 6 (c.getD uc 0) (a.getD ua 0) (o ++ [a.getD ua 0]) (uc + 1) (ua + 1) ub).pc = insAt pickC 6 from rfl, p6_step]
        obtain ⟨pc, x, y, z, e⟩ := pick_run c a b n (uc + 1) (ua + 1) ub (c.getD uc 0) (a.getD ua 0) (o ++ [a.getD ua 0]) (g + 1) (by omega) (by omega) h3 (by simp; omega) (by omega)
        refine ⟨pc, x, y, z, ?_⟩
        rw [e, hda, pick_a1 hz]
        simp only [List.append_assoc, List.singleton_append]
        congr 2
        omega
    · rw [if_neg hz]
      by_cases hb : ub = b.length
      · have hs2 : stuckS pickC [c, a, b] (pst 2 (c.getD uc 0) r1 o (uc + 1) ua ub) = true := by rw [p2_stuck]; exact decide_eq_true hb
        rw [runS_end hs2, List.drop_eq_nil_of_le (show b.length ≤ ub by omega)]
        exact ⟨2, c.getD uc 0, r1, uc + 1, by rw [pick_b0 hz]; simp; rfl⟩
      · have hs2 : stuckS pickC [c, a, b] (pst 2 (c.getD uc 0) r1 o (uc + 1) ua ub) = false := by rw [p2_stuck]; exact decide_eq_false hb
        have hdb : b.drop ub = b.getD ub 0 :: b.drop (ub + 1) := by rw [List.drop_eq_getElem_cons (by omega)]; simp [List.getD, show ub < b.length by omega]
        rw [runS_go hs2, show insAt pickC (pst 2 (c.getD uc 0) r1 o (uc + 1) ua ub).pc = insAt pickC 2 from rfl, p2_step, runS_go p3_stuck, show insAt pickC (pst 3 (c.getD uc 0) (b.getD ub 0) o (uc + 1) ua (ub + 1)).pc = insAt pickC 3 from rfl, p3_step,
          runS_go (p5_stuck (by omega)), show insAt pickC (pst 5 (c.getD uc 0) (b.getD ub 0) o (uc + 1) ua (ub + 1)).pc = insAt pickC 5 from rfl, p5_step, runS_go p6_stuck,
          show insAt pickC (pst 6 (c.getD uc 0) (b.getD ub 0) (o ++ [b.getD ub 0]) (uc + 1) ua (ub + 1)).pc = insAt pickC 6 from rfl, p6_step]
        obtain ⟨pc, x, y, z, e⟩ := pick_run c a b n (uc + 1) ua (ub + 1) (c.getD uc 0) (b.getD ub 0) (o ++ [b.getD ub 0]) g (by omega) h2 (by omega) (by simp; omega) (by omega)
        refine ⟨pc, x, y, z, ?_⟩
        rw [e, hdb, pick_b1 hz]
        simp only [List.append_assoc, List.singleton_append]
        congr 2
        omega
end Go.Proofs.Ytfjmebggghkehaa
