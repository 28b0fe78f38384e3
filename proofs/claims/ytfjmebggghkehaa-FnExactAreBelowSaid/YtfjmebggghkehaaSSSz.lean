/-
  Sizes of slices of slices of ints by the law's own functions. No statement of the seat is proved here.
-/
import Derived.Test.YtfjmebggghkehaaSSTo
import Derived.Test.YtfjmebggghkehaaNetSz
namespace Go.Proofs.Ytfjmebggghkehaa
open Go.RowKit

def sumR (xs : List (List Int)) : Nat := xs.length + (xs.map fun p => p.length).sum
theorem len_sumR {xss : List (List Int)} {xs : List Int} (h : xs ∈ xss) : xs.length ≤ sumR xss := by
  unfold sumR
  induction xss with
  | nil => cases h
  | cons y ys ih =>
    simp only [List.map_cons, List.sum_cons, List.length_cons]
    rcases List.mem_cons.1 h with e | e
    · subst e; omega
    · have := ih e; omega
set_option maxRecDepth 100000 in
set_option maxHeartbeats 1600000 in
theorem szSS_any (v : Value) (xs : List (List Int)) (left : Int) (w : World) (h : SlR w v xs) (hl : 0 ≤ left ∧ left ≤ 1048576) :
    Calls Try.prog 38 #[v, .int .i64 left] w fun e w' => e = .returned (.int .i64 (if ((sumR xs : Nat) : Int) ≤ left then left - ((sumR xs : Nat) : Int) else -1)) ∧ Below w.heap.size w w' := by
  obtain ⟨a, cap, rfl, _, hm, _, hc⟩ := h
  have hm' : xs.length ≤ 9223372036854775807 := by unfold maxLen at hm; omega
  have wi : wrap64 (left - xs.length) = left - xs.length := IntWalk.wrap64_in _ (by unfold maxLen at hm; omega)
  clear hm
  obtain ⟨m, hmm⟩ : ∃ m, m = xs.length := ⟨_, rfl⟩
  obtain ⟨r, hr⟩ : ∃ r, r = (if ((sumR xs : Nat) : Int) ≤ left then left - ((sumR xs : Nat) : Int) else -1) := ⟨_, rfl⟩
  rw [← hr]
  rw [← hmm] at hm' wi ⊢
  have HM := Lib.hid hmm
  have HR := Lib.hid hr
  clear hmm hr
  obtain ⟨l1, hl1⟩ : ∃ l1 : Int, l1 = left - m := ⟨_, rfl⟩
  rw [← hl1] at wi
  have HL1 := Lib.hid hl1
  by_cases h0 : left - (m : Int) < 0
  · have d : decide (l1 < 0) = true := decide_eq_true (by omega)
    have hE : r = -1 := by rw [HR.out, if_neg (by unfold sumR; have := HM.out; omega)]
    subst hE
    rw [hl1] at d
    clear hl1 wi
    have wi : wrap64 (left - (m : Int)) = left - (m : Int) := IntWalk.wrap64_in _ (by omega)
    go_enter Try.func38, Try.ntmps38
    go_wp2_with fail
    go_ret
    exact ⟨rfl, Below.refl _ _⟩
  · have d : decide (left - (m : Int) < 0) = false := decide_eq_false h0
    have h1 : 0 ≤ left - (m : Int) := by omega
    clear hl1 wi
    have wi : wrap64 (left - (m : Int)) = left - (m : Int) := IntWalk.wrap64_in _ (by omega)
    have H1 := Lib.hid h1
    have HLL := Lib.hid hl
    go_enter Try.func38, Try.ntmps38
    go_wp2_with fail
    go_loopw [1, 5] (fun t i wr => ∃ (k : Nat) (z : Int), k ≤ m ∧ i = .int .i64 k ∧ t = .int .i64 z ∧ (0 ≤ z ∧ z ≤ 1048576) ∧ Hid (z = left - (m : Int) - ((((xs.take k).map fun p => p.length).sum : Nat) : Int)) ∧ Hid (Below w.heap.size w wr)) (fun _ i _ => m - (intOf i).toNat)
    case atStart => exact ⟨0, left - (m : Int), Nat.zero_le _, rfl, rfl, by have := H1.out; have := HLL.out; omega, Lib.hid (by simp), Lib.hid (Below.refl _ _)⟩
    case round =>
      obtain ⟨k, z, hk, rfl, rfl, hz, HZ, HB⟩ := hrel
      by_cases hlt : k < m
      · rcases hc with rfl | ⟨b, off, rfl, hbl, hcell⟩
        · exact absurd hlt (by have := HM.out; simp at this; omega)
        · obtain ⟨x, hx⟩ : ∃ x, xs[k]? = some x := ⟨_, List.getElem?_eq_getElem (by rw [← HM.out]; exact hlt)⟩
          obtain ⟨u1, e0, ee⟩ := hcell k x hx
          have HS := Lib.hid (ee.below HB.out)
          have c0 := (HB.out.cell (p := ⟨b, off + k, none⟩) hbl).trans e0
          have hbk : b < wr.heap.size := Nat.lt_of_lt_of_le hbl HB.out.size
          have HSUM := Lib.hid (sum_step (f := fun p : List Int => p.length) hx)
          have HTAKE := Lib.hid (sum_take (f := fun p : List Int => p.length) xs (k + 1))
          clear hx hcell e0 ee
          obtain ⟨ul, hul⟩ : ∃ z, z = x.length := ⟨_, rfl⟩
          have HUL := Lib.hid hul
          have SC := Lib.hid (szIntS_any u1 x z wr HS.out hz)
          rw [← hul] at SC
          clear hul
          by_cases hs : (ul : Int) ≤ z
          · rw [if_pos hs] at SC
            have dz : decide (z - (ul : Int) < 0) = false := decide_eq_false (by omega)
            have HSS := Lib.hid hs
            have HZZ := Lib.hid hz
            clear hs hz
            go_wp2_with (go_at_call 102; with_reducible refine SC.out.mono ?_; rintro e w2 ⟨rfl, rfl⟩; have HB1 := Lib.hid HB.out)
            go_roundw
            case rel => exact ⟨k + 1, z - ul, by omega, by go_num, rfl, by have := HSS.out; have := HZZ.out; omega, Lib.hid (by rw [HSUM.out, HZ.out]; have := HUL.out; omega), HB1⟩
            case measure => simp [intOf]; omega
          · rw [if_neg hs] at SC
            have HSS := Lib.hid hs
            clear hs hz
            go_wp2_with (go_at_call 102; with_reducible refine SC.out.mono ?_; rintro e w2 ⟨rfl, rfl⟩; have HB1 := Lib.hid HB.out)
            go_ret
            have hE : r = -1 := by
              rw [HR.out, if_neg]
              unfold sumR
              have := HSS.out; have := HZ.out; have := HSUM.out; have := HTAKE.out; have := HUL.out; have := HM.out
              omega
            subst hE
            exact ⟨rfl, HB1.out⟩
      · have hE : r = z := by
          have hz1 := HZ.out
          rw [List.take_of_length_le (by rw [← HM.out]; omega)] at hz1
          rw [HR.out, if_pos (by unfold sumR; have := HM.out; omega)]
          unfold sumR
          have := HM.out
          omega
        subst hE
        go_wp2_with fail
        go_ret
        exact ⟨rfl, HB.out⟩

end Go.Proofs.Ytfjmebggghkehaa
