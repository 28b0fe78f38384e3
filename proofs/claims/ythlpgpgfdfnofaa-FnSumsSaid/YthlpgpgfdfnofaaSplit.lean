/-
  What SplitStream leaves, in the program and in its model. No statement of the seat is proved here.
-/
import Derived.Test.YthlpgpgfdfnofaaMeet
namespace Go.Proofs.Ythlpgpgfdfnofaa
open Go.RowKit

def pick (b : Bool) : List Int → List Int
  | [] => []
  | x :: xs => if b then x :: pick (!b) xs else pick (!b) xs
theorem pick_len : ∀ (b : Bool) (xs : List Int), (pick b xs).length ≤ xs.length
  | _, [] => by simp [pick]
  | b, x :: xs => by
    have := pick_len (!b) xs
    unfold pick
    cases b <;> simp at * <;> omega
theorem pick_snoc : ∀ (b : Bool) (xs : List Int) (x : Int), pick b (xs ++ [x]) = pick b xs ++ (if (xs.length % 2 == 0) = b then [x] else [])
  | b, [], x => by cases b <;> simp [pick]
  | b, y :: xs, x => by
    have := pick_snoc (!b) xs x
    simp only [List.cons_append, pick, this, List.length_cons]
    have e : ((xs.length + 1) % 2 == 0) = !(xs.length % 2 == 0) := by
      rcases Nat.mod_two_eq_zero_or_one xs.length with h | h <;> simp [Nat.add_mod, h]
    simp only [e]
    cases b <;> cases (xs.length % 2 == 0) <;> simp
def splitStreamR0 (xs : List Int) : List Int := if isS xs then pick true xs else []
def splitStreamR1 (xs : List Int) : List Int := if isS xs then pick false xs else []
theorem splitStream_len0 (xs : List Int) : (splitStreamR0 xs).length ≤ 400 := by
  unfold splitStreamR0
  split
  · have := isS_len (by assumption : isS xs = true); have := pick_len true xs; omega
  · simp
theorem splitStream_len1 (xs : List Int) : (splitStreamR1 xs).length ≤ 400 := by
  unfold splitStreamR1
  split
  · have := isS_len (by assumption : isS xs = true); have := pick_len false xs; omega
  · simp
theorem split1 {xs : List Int} (h : isS xs = false) : splitStreamR0 xs = [] ∧ splitStreamR1 xs = [] := by simp [splitStreamR0, splitStreamR1, h]
theorem split2 {xs : List Int} (h : isS xs = true) : splitStreamR0 xs = pick true xs ∧ splitStreamR1 xs = pick false xs := by simp [splitStreamR0, splitStreamR1, h]
theorem pick_yes {b : Bool} {xs : List Int} {k : Nat} {x : Int} (h : k < xs.length) (hx : x = xs.getD k 0) (hp : (k % 2 == 0) = b) : pick b (xs.take (k + 1)) = pick b (xs.take k) ++ [x] := by
  rw [take_snoc' h, pick_snoc, ← hx, if_pos (by rw [List.length_take, Nat.min_eq_left (by omega)]; exact hp)]
theorem pick_no {b : Bool} {xs : List Int} {k : Nat} (h : k < xs.length) (hp : (k % 2 == 0) ≠ b) : pick b (xs.take (k + 1)) = pick b (xs.take k) := by
  rw [take_snoc' h, pick_snoc, if_neg (by rw [List.length_take, Nat.min_eq_left (by omega)]; exact hp), List.append_nil]
theorem pick_le {b : Bool} {xs : List Int} {k : Nat} : (pick b (xs.take k)).length ≤ k := by
  have := pick_len b (xs.take k); have := List.length_take_le k xs; omega
set_option maxHeartbeats 1600000 in
theorem isplit_any (v : Value) (xs : List Int) (w : World) (h : Sl w v xs) :
    Calls Try.prog 26 #[v] w fun e w' => ∃ r s, e = .returned (.tuple #[r, s]) ∧ Own w.heap.size w' r (splitStreamR0 xs) ∧ Own w.heap.size w' s (splitStreamR1 xs) ∧ Apart r s ∧ Below w.heap.size w w' := by
  obtain ⟨a, cap, rfl, hr⟩ := h
  have C1 := Lib.hid (istream_any _ xs w ⟨a, cap, rfl, hr⟩)
  cases h1 : isS xs with
  | false =>
    rw [(split1 h1).1, (split1 h1).2]
    rw [h1] at C1
    clear h1 hr
    go_enter Try.func26, Try.ntmps26
    go_wp2_with fail
    refine C1.out.mono ?_
    rintro e w' ⟨rfl, rfl⟩
    go_wp2_with fail
    go_ret2
    exact ⟨_, _, rfl, own_nil _ _, own_nil _ _, apart_nil _, Below.refl _ _⟩
  | true =>
    have hl1 := isS_len h1
    rw [(split2 h1).1, (split2 h1).2]
    rw [h1] at C1
    have hc := hr.2.2.2
    obtain ⟨i0, hi, hz0, hz1, hz2⟩ := info_parts info
    clear h1 hr
    have Q : True := trivial
    have hw0 : Own w.heap.size w (.slice none 0 0) [] := own_nil _ _
    have ha0 := apart_nil (.slice none 0 0)
    have hb0 := Below.refl w.heap.size w
    go_enter Try.func26, Try.ntmps26
    go_wp2_with fail
    refine C1.out.mono ?_
    rintro e w' ⟨rfl, rfl⟩
    clear C1
    go_wp2_with fail
    go_loopw [4, 5, 13] (fun o o2 i wr => ∃ k : Nat, k ≤ xs.length ∧ i = .int .i64 k ∧ Own w.heap.size wr o (pick true (xs.take k)) ∧ Own w.heap.size wr o2 (pick false (xs.take k)) ∧ Apart o o2 ∧ Below w.heap.size w wr) (fun _ _ i _ => xs.length - (intOf i).toNat)
    case atStart => exact ⟨0, Nat.zero_le _, rfl, hw0, hw0, ha0, hb0⟩
    case round =>
      clear hw0 ha0 hb0 Q
      obtain ⟨k, hk, rfl, hoe, hoo, hap, hb⟩ := hrel
      by_cases hlt : k < xs.length
      · rcases hc with rfl | ⟨b, off, rfl, hbl, hcell⟩
        · exact absurd hlt (by simp)
        · obtain ⟨x, hx⟩ : ∃ x, x = xs.getD k 0 := ⟨_, rfl⟩
          have hck := (hb.cell (p := ⟨b, off + k, none⟩) hbl).trans (hcell k hlt)
          rw [← hx] at hck
          have HX := Lib.hid hx
          clear hx hcell
          have hsz := hb.size
          obtain ⟨L, hL⟩ : ∃ L, L = pick true (xs.take k) := ⟨_, rfl⟩
          obtain ⟨M, hM⟩ : ∃ M, M = pick false (xs.take k) := ⟨_, rfl⟩
          rw [← hL] at hoe
          rw [← hM] at hoo
          have hLk : L.length ≤ k := by rw [hL]; exact pick_le
          have hMk : M.length ≤ k := by rw [hM]; exact pick_le
          have HL := Lib.hid hL
          have HM := Lib.hid hM
          have HE : Hid (Own w.heap.size wr _ L) := hoe
          have HO : Hid (Own w.heap.size wr _ M) := hoo
          replace hb := Lib.hid hb
          replace hap := Lib.hid hap
          clear hL hM hoe hoo
          by_cases hp : k % 2 = 0
          · have hp2 : ((k : Int) % 2 == 0) = true := by simp; omega
            have HP := Lib.hid hp
            clear hp
            go_wp2_with (at_builtin; refine wpList_append_own_at _ rfl _ _ 26 rfl w.heap.size 3 i0 (.int .i64 0) 1 8 Try.underlying26 hi hz0 hz1 hz2 rfl (by decide) _ _ _ rfl (World.ownsRow.alloc HE.out _) ⟨wr.heap.size, 0, none⟩ 1 1 [.int .i64 x] rfl rfl (one_src _ _) (one_one _) ?c3 ?c4 ?c5 ?_)
            case c3 => unfold maxLen; omega
            case c4 => omega
            case c5 => simp; omega
            intro v' w1 hown hgrow _ hat
            have R := app_rel hb.out hsz (Nat.le_refl _) HE.out hown hgrow
            have R2 := app_other HO.out hap.out.symm hgrow (by simpa using hat)
            have HR := Lib.hid R
            have HR2 := Lib.hid R2
            clear hown hgrow hat R R2 hb hap
            go_wp2_with fail
            go_roundw
            case rel => exact ⟨k + 1, by omega, by go_num, by rw [pick_yes hlt HX.out (by simp [HP.out]), ← HL.out]; exact HR.out.1, by rw [pick_no hlt (by simp [HP.out]), ← HM.out]; exact HR2.out.1, HR2.out.2.symm, HR.out.2⟩
            case measure => simp [intOf]; omega
          · have hp2 : ((k : Int) % 2 == 0) = false := by simp; omega
            have HP := Lib.hid hp
            clear hp
            go_wp2_with (at_builtin; refine wpList_append_own_at _ rfl _ _ 26 rfl w.heap.size 3 i0 (.int .i64 0) 1 8 Try.underlying26 hi hz0 hz1 hz2 rfl (by decide) _ _ _ rfl (World.ownsRow.alloc HO.out _) ⟨wr.heap.size, 0, none⟩ 1 1 [.int .i64 x] rfl rfl (one_src _ _) (one_one _) ?c3 ?c4 ?c5 ?_)
            case c3 => unfold maxLen; omega
            case c4 => omega
            case c5 => simp; omega
            intro v' w1 hown hgrow _ hat
            have R := app_rel hb.out hsz (Nat.le_refl _) HO.out hown hgrow
            have R2 := app_other HE.out hap.out hgrow (by simpa using hat)
            have HR := Lib.hid R
            have HR2 := Lib.hid R2
            clear hown hgrow hat R R2 hb hap
            go_wp2_with fail
            go_roundw
            case rel => exact ⟨k + 1, by omega, by go_num, by rw [pick_no hlt (by simp [HP.out]), ← HL.out]; exact HR2.out.1, by rw [pick_yes hlt HX.out (by simp [HP.out]), ← HM.out]; exact HR.out.1, HR2.out.2, HR.out.2⟩
            case measure => simp [intOf]; omega
      · have e : xs.take k = xs := List.take_of_length_le (by omega)
        rw [e] at hoe hoo
        clear e
        go_wp2_with fail
        go_ret2
        exact ⟨_, _, rfl, hoe, hoo, hap, hb⟩

set_option maxHeartbeats 1600000 in
theorem ssplit_any (v : Value) (xs : List Int) (w : World) (h : Sl w v xs) :
    Calls Try.prog 44 #[v] w fun e w' => ∃ r s, e = .returned (.tuple #[r, s]) ∧ Own w.heap.size w' r (splitStreamR0 xs) ∧ Own w.heap.size w' s (splitStreamR1 xs) ∧ Apart r s ∧ Below w.heap.size w w' := by
  obtain ⟨a, cap, rfl, hr⟩ := h
  have C1 := Lib.hid (sstream_any _ xs w ⟨a, cap, rfl, hr⟩)
  cases h1 : isS xs with
  | false =>
    rw [(split1 h1).1, (split1 h1).2]
    rw [h1] at C1
    clear h1 hr
    go_enter Try.func44, Try.ntmps44
    go_wp2_with fail
    refine C1.out.mono ?_
    rintro e w' ⟨rfl, rfl⟩
    go_wp2_with fail
    go_ret2
    exact ⟨_, _, rfl, own_nil _ _, own_nil _ _, apart_nil _, Below.refl _ _⟩
  | true =>
    have hl1 := isS_len h1
    rw [(split2 h1).1, (split2 h1).2]
    rw [h1] at C1
    have hc := hr.2.2.2
    obtain ⟨i0, hi, hz0, hz1, hz2⟩ := info_parts info
    clear h1 hr
    have Q : True := trivial
    have hw1 : Own w.heap.size (w.alloc (.cells #[] 3)) (.slice (some ⟨w.heap.size, 0, none⟩) 0 0) [] := lit0 w
    have hw0 : Own w.heap.size ((w.alloc (.cells #[] 3)).alloc (.cells #[] 3)) (.slice (some ⟨w.heap.size, 0, none⟩) 0 0) [] := World.ownsRow.alloc hw1 _
    have hw2 := lit1 w
    have ha0 : Apart (.slice (some ⟨w.heap.size, 0, none⟩) 0 0) (.slice (some ⟨w.heap.size + 1, 0, none⟩) 0 0) := .inr (by simp [Value.ownBlock])
    have hb0 := ((Below.refl w.heap.size w).alloc (Nat.le_refl _) (.cells #[] 3)).alloc (by simp) (.cells #[] 3)
    clear hw1
    go_enter Try.func44, Try.ntmps44
    go_wp2_with fail
    refine C1.out.mono ?_
    rintro e w' ⟨rfl, rfl⟩
    clear C1
    go_wp2_with fail
    go_loopw [4, 5, 15] (fun o o2 i wr => ∃ k : Nat, k ≤ xs.length ∧ i = .int .i64 k ∧ Own w.heap.size wr o (pick true (xs.take k)) ∧ Own w.heap.size wr o2 (pick false (xs.take k)) ∧ Apart o o2 ∧ Below w.heap.size w wr) (fun _ _ i _ => xs.length - (intOf i).toNat)
    case atStart => exact ⟨0, Nat.zero_le _, rfl, hw0, hw2, ha0, hb0⟩
    case round =>
      clear hw0 ha0 hb0 hw2 Q
      obtain ⟨k, hk, rfl, hoe, hoo, hap, hb⟩ := hrel
      by_cases hlt : k < xs.length
      · rcases hc with rfl | ⟨b, off, rfl, hbl, hcell⟩
        · exact absurd hlt (by simp)
        · obtain ⟨x, hx⟩ : ∃ x, x = xs.getD k 0 := ⟨_, rfl⟩
          have hck := (hb.cell (p := ⟨b, off + k, none⟩) hbl).trans (hcell k hlt)
          rw [← hx] at hck
          have HX := Lib.hid hx
          clear hx hcell
          have hsz := hb.size
          obtain ⟨L, hL⟩ : ∃ L, L = pick true (xs.take k) := ⟨_, rfl⟩
          obtain ⟨M, hM⟩ : ∃ M, M = pick false (xs.take k) := ⟨_, rfl⟩
          rw [← hL] at hoe
          rw [← hM] at hoo
          have hLk : L.length ≤ k := by rw [hL]; exact pick_le
          have hMk : M.length ≤ k := by rw [hM]; exact pick_le
          have HL := Lib.hid hL
          have HM := Lib.hid hM
          have HE : Hid (Own w.heap.size wr _ L) := hoe
          have HO : Hid (Own w.heap.size wr _ M) := hoo
          replace hb := Lib.hid hb
          replace hap := Lib.hid hap
          clear hL hM hoe hoo
          by_cases hp : k % 2 = 0
          · have hp2 : ((k : Int) % 2 == 0) = true := by simp; omega
            have HP := Lib.hid hp
            clear hp
            go_wp2_with (at_builtin; refine wpList_append_own_at _ rfl _ _ 26 rfl w.heap.size 3 i0 (.int .i64 0) 1 8 Try.underlying26 hi hz0 hz1 hz2 rfl (by decide) _ _ _ rfl (World.ownsRow.alloc HE.out _) ⟨wr.heap.size, 0, none⟩ 1 1 [.int .i64 x] rfl rfl (one_src _ _) (one_one _) ?c3 ?c4 ?c5 ?_)
            case c3 => unfold maxLen; omega
            case c4 => omega
            case c5 => simp; omega
            intro v' w1 hown hgrow _ hat
            have R := app_rel hb.out hsz (Nat.le_refl _) HE.out hown hgrow
            have R2 := app_other HO.out hap.out.symm hgrow (by simpa using hat)
            have HR := Lib.hid R
            have HR2 := Lib.hid R2
            clear hown hgrow hat R R2 hb hap
            go_wp2_with fail
            go_roundw
            case rel => exact ⟨k + 1, by omega, by go_num, by rw [pick_yes hlt HX.out (by simp [HP.out]), ← HL.out]; exact HR.out.1, by rw [pick_no hlt (by simp [HP.out]), ← HM.out]; exact HR2.out.1, HR2.out.2.symm, HR.out.2⟩
            case measure => simp [intOf]; omega
          · have hp2 : ((k : Int) % 2 == 0) = false := by simp; omega
            have HP := Lib.hid hp
            clear hp
            go_wp2_with (at_builtin; refine wpList_append_own_at _ rfl _ _ 26 rfl w.heap.size 3 i0 (.int .i64 0) 1 8 Try.underlying26 hi hz0 hz1 hz2 rfl (by decide) _ _ _ rfl (World.ownsRow.alloc HO.out _) ⟨wr.heap.size, 0, none⟩ 1 1 [.int .i64 x] rfl rfl (one_src _ _) (one_one _) ?c3 ?c4 ?c5 ?_)
            case c3 => unfold maxLen; omega
            case c4 => omega
            case c5 => simp; omega
            intro v' w1 hown hgrow _ hat
            have R := app_rel hb.out hsz (Nat.le_refl _) HO.out hown hgrow
            have R2 := app_other HE.out hap.out hgrow (by simpa using hat)
            have HR := Lib.hid R
            have HR2 := Lib.hid R2
            clear hown hgrow hat R R2 hb hap
            go_wp2_with fail
            go_roundw
            case rel => exact ⟨k + 1, by omega, by go_num, by rw [pick_no hlt (by simp [HP.out]), ← HL.out]; exact HR2.out.1, by rw [pick_yes hlt HX.out (by simp [HP.out]), ← HM.out]; exact HR.out.1, HR2.out.2, HR.out.2⟩
            case measure => simp [intOf]; omega
      · have e : xs.take k = xs := List.take_of_length_le (by omega)
        rw [e] at hoe hoo
        clear e
        go_wp2_with fail
        go_ret2
        exact ⟨_, _, rfl, hoe, hoo, hap, hb⟩

end Go.Proofs.Ythlpgpgfdfnofaa
