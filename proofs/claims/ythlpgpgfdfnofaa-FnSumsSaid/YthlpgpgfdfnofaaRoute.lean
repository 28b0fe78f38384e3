/-
  What RouteStream leaves, in the program and in its model. No statement of the seat is proved here.
-/
import Derived.Test.YthlpgpgfdfnofaaOwn
import Derived.Test.YthlpgpgfdfnofaaStream
import Derived.OpenShut
namespace Go.Proofs.Ythlpgpgfdfnofaa
open Go.RowKit

def isMul (m x : Int) : Bool := x.tmod m == 0
def rt (b : Bool) (m : Int) (xs : List Int) : List Int := xs.filter fun x => isMul m x == b
theorem rt_len (b : Bool) (m : Int) (xs : List Int) : (rt b m xs).length ≤ xs.length := List.length_filter_le _ _
def routeB (xs : List Int) (m : Int) : Bool := isS xs && decide (0 < m)
def routeStreamR0 (xs : List Int) (m : Int) : List Int := if routeB xs m then rt true m xs else []
def routeStreamR1 (xs : List Int) (m : Int) : List Int := if routeB xs m then rt false m xs else []
theorem routeStream_len0 (xs : List Int) (m : Int) : (routeStreamR0 xs m).length ≤ 400 := by
  unfold routeStreamR0
  split
  · rename_i h; unfold routeB at h; simp at h; have := isS_len h.1; have := rt_len true m xs; omega
  · simp
theorem routeStream_len1 (xs : List Int) (m : Int) : (routeStreamR1 xs m).length ≤ 400 := by
  unfold routeStreamR1
  split
  · rename_i h; unfold routeB at h; simp at h; have := isS_len h.1; have := rt_len false m xs; omega
  · simp
theorem route1 {xs : List Int} {m : Int} (h : isS xs = false) : routeStreamR0 xs m = [] ∧ routeStreamR1 xs m = [] := by simp [routeStreamR0, routeStreamR1, routeB, h]
theorem route3 {xs : List Int} {m : Int} (h : ¬ 0 < m) : routeStreamR0 xs m = [] ∧ routeStreamR1 xs m = [] := by simp [routeStreamR0, routeStreamR1, routeB, h]
theorem route2 {xs : List Int} {m : Int} (h : isS xs = true) (k : 0 < m) : routeStreamR0 xs m = rt true m xs ∧ routeStreamR1 xs m = rt false m xs := by simp [routeStreamR0, routeStreamR1, routeB, h, k]
theorem rt_yes {b : Bool} {m : Int} {xs : List Int} {k : Nat} {x : Int} (h : k < xs.length) (hx : x = xs.getD k 0) (hp : isMul m x = b) : rt b m (xs.take (k + 1)) = rt b m (xs.take k) ++ [x] := by
  rw [take_snoc' h, ← hx]; simp [rt, hp]
theorem rt_no {b : Bool} {m : Int} {xs : List Int} {k : Nat} {x : Int} (h : k < xs.length) (hx : x = xs.getD k 0) (hp : isMul m x ≠ b) : rt b m (xs.take (k + 1)) = rt b m (xs.take k) := by
  rw [take_snoc' h, ← hx]; simp [rt, hp]
theorem rt_le {b : Bool} {m : Int} {xs : List Int} {k : Nat} : (rt b m (xs.take k)).length ≤ k := by
  have := rt_len b m (xs.take k); have := List.length_take_le k xs; omega
theorem tmod_abs {x m : Int} (hm : 0 < m) (h1 : -999999 ≤ x) (h2 : x ≤ 999999) : -999999 ≤ x.tmod m ∧ x.tmod m ≤ 999999 := by
  rcases Int.le_total 0 x with h | h
  · have e := Int.tmod_eq_emod_of_nonneg h (b := m)
    have a1 := Int.emod_nonneg x (show m ≠ 0 by omega)
    have a2 := Int.mul_ediv_add_emod x m
    have a3 := Int.mul_nonneg (show 0 ≤ m by omega) (Int.ediv_nonneg h (show 0 ≤ m by omega))
    omega
  · have e := Int.tmod_eq_emod_of_nonneg (show 0 ≤ -x by omega) (b := m)
    rw [Int.neg_tmod] at e
    have a1 := Int.emod_nonneg (-x) (show m ≠ 0 by omega)
    have a2 := Int.mul_ediv_add_emod (-x) m
    have a3 := Int.mul_nonneg (show 0 ≤ m by omega) (Int.ediv_nonneg (show 0 ≤ -x by omega) (show 0 ≤ m by omega))
    omega
theorem tok_at {xs : List Int} {k : Nat} {x : Int} (hs : isS xs = true) (h : k < xs.length) (hx : x = xs.getD k 0) : -999999 ≤ x ∧ x ≤ 999999 :=
  isTok_bd (isS_all hs x (by rw [hx]; simp [List.getD, h]))

set_option maxRecDepth 100000 in
set_option maxHeartbeats 1600000 in
theorem iroute_any (v : Value) (xs : List Int) (m : Int) (w : World) (h : Sl w v xs) (hm : (Lit.int .i64 m).wf = true) :
    Calls Try.prog 27 #[v, .int .i64 m] w fun e w' => ∃ r s, e = .returned (.tuple #[r, s]) ∧ Own w.heap.size w' r (routeStreamR0 xs m) ∧ Own w.heap.size w' s (routeStreamR1 xs m) ∧ Apart r s ∧ Below w.heap.size w w' := by
  obtain ⟨a, cap, rfl, hr⟩ := h
  have C1 := Lib.hid (istream_any _ xs w ⟨a, cap, rfl, hr⟩)
  cases h1 : isS xs with
  | false =>
    rw [(route1 (m := m) h1).1, (route1 (m := m) h1).2]
    rw [h1] at C1
    clear h1 hr
    go_enter Try.func27, Try.ntmps27
    go_wp2_with fail
    refine C1.out.mono ?_
    rintro e w' ⟨rfl, rfl⟩
    go_wp2_with fail
    go_ret2
    exact ⟨_, _, rfl, own_nil _ _, own_nil _ _, apart_nil _, Below.refl _ _⟩
  | true =>
    have hl1 := isS_len h1
    have HS1 := Lib.hid h1
    have hmb := bounds_i64 hm
    by_cases hm0 : 0 < m
    case neg =>
      rw [(route3 (xs := xs) hm0).1, (route3 (xs := xs) hm0).2]
      rw [h1] at C1
      clear h1 hr
      have dm : decide (m ≤ 0) = true := decide_eq_true (by omega)
      go_enter Try.func27, Try.ntmps27
      go_wp2_with fail
      refine C1.out.mono ?_
      rintro e w' ⟨rfl, rfl⟩
      go_wp2_with fail
      go_ret2
      exact ⟨_, _, rfl, own_nil _ _, own_nil _ _, apart_nil _, Below.refl _ _⟩
    rw [(route2 h1 hm0).1, (route2 h1 hm0).2]
    have dm : decide (m ≤ 0) = false := decide_eq_false (by omega)
    rw [h1] at C1
    have hc := hr.2.2.2
    obtain ⟨i0, hi, hz0, hz1, hz2⟩ := info_parts info
    clear h1 hr
    have Q : True := trivial
    have hw0 : Own w.heap.size w (.slice none 0 0) [] := own_nil _ _
    have ha0 := apart_nil (.slice none 0 0)
    have hb0 := Below.refl w.heap.size w
    go_enter Try.func27, Try.ntmps27
    go_wp2_with fail
    refine C1.out.mono ?_
    rintro e w' ⟨rfl, rfl⟩
    clear C1
    go_wp2_with fail
    go_loopw [6, 7, 19] (fun o o2 i wr => ∃ k : Nat, k ≤ xs.length ∧ i = .int .i64 k ∧ Own w.heap.size wr o (rt true m (xs.take k)) ∧ Own w.heap.size wr o2 (rt false m (xs.take k)) ∧ Apart o o2 ∧ Below w.heap.size w wr) (fun _ _ i _ => xs.length - (intOf i).toNat)
    case atStart => exact ⟨0, Nat.zero_le _, rfl, hw0, hw0, ha0, hb0⟩
    case round =>
      clear hw0 ha0 hb0 Q
      obtain ⟨k, hk, rfl, hoe, hoo, hap, hb⟩ := hrel
      by_cases hlt : k < xs.length
      · rcases hc with rfl | ⟨b, off, rfl, hbl, hcell⟩
        · exact absurd hlt (by simp)
        · obtain ⟨x, hx⟩ : ∃ x, x = xs.getD k 0 := ⟨_, rfl⟩
          have hck := (hb.cell (p := ⟨b, off + k, none⟩) hbl).trans (hcell k hlt)
          rw [← hx] at hck
          have htb := tok_at HS1.out hlt hx
          have htm := tmod_abs hm0 htb.1 htb.2
          have HX := Lib.hid hx
          clear hx hcell
          have hsz := hb.size
          obtain ⟨L, hL⟩ : ∃ L, L = rt true m (xs.take k) := ⟨_, rfl⟩
          obtain ⟨M, hM⟩ : ∃ M, M = rt false m (xs.take k) := ⟨_, rfl⟩
          rw [← hL] at hoe
          rw [← hM] at hoo
          have hLk : L.length ≤ k := by rw [hL]; exact rt_le
          have hMk : M.length ≤ k := by rw [hM]; exact rt_le
          have HL := Lib.hid hL
          have HM := Lib.hid hM
          have HE : Hid (Own w.heap.size wr _ L) := hoe
          have HO : Hid (Own w.heap.size wr _ M) := hoo
          replace hb := Lib.hid hb
          replace hap := Lib.hid hap
          clear hL hM hoe hoo
          by_cases hp : x.tmod m = 0
          · have hp2 : (x.tmod m == 0) = true := by simpa using hp
            have hp3 : isMul m x = true := hp2
            have HP := Lib.hid hp3
            clear hp hp3
            go_wp2_with (at_builtin; refine wpList_append_own_at _ rfl _ _ 26 rfl w.heap.size 3 i0 (.int .i64 0) 1 8 Try.underlying26 hi hz0 hz1 hz2 rfl (by decide) _ _ _ rfl (World.ownsRow.alloc HE.out _) ⟨wr.heap.size, 0, none⟩ 1 1 [.int .i64 x] rfl rfl (one_src _ _) (one_one _) ?c3 ?c4 ?c5 ?_)
            case c3 => unfold maxLen; omega
            case c4 => omega
            case c5 => simp; omega
            intro v' w1 hown hgrow _ hat
            have R := app_rel hb.out hsz (Nat.le_refl _) HE.out hown hgrow
            have R2 := app_other HO.out hap.out.symm hgrow (by simpa using hat)
            have HR := Lib.hid R
            have HR2 := Lib.hid R2
            clear hown hgrow hat R R2 hb hap
            go_wp2_with fail
            go_roundw
            case rel => exact ⟨k + 1, by omega, by go_num, by rw [rt_yes hlt HX.out HP.out, ← HL.out]; exact HR.out.1, by rw [rt_no hlt HX.out (by rw [HP.out]; decide), ← HM.out]; exact HR2.out.1, HR2.out.2.symm, HR.out.2⟩
            case measure => simp [intOf]; omega
          · have hp2 : (x.tmod m == 0) = false := by simpa using hp
            have hp3 : isMul m x = false := hp2
            have HP := Lib.hid hp3
            clear hp hp3
            go_wp2_with (at_builtin; refine wpList_append_own_at _ rfl _ _ 26 rfl w.heap.size 3 i0 (.int .i64 0) 1 8 Try.underlying26 hi hz0 hz1 hz2 rfl (by decide) _ _ _ rfl (World.ownsRow.alloc HO.out _) ⟨wr.heap.size, 0, none⟩ 1 1 [.int .i64 x] rfl rfl (one_src _ _) (one_one _) ?c3 ?c4 ?c5 ?_)
            case c3 => unfold maxLen; omega
            case c4 => omega
            case c5 => simp; omega
            intro v' w1 hown hgrow _ hat
            have R := app_rel hb.out hsz (Nat.le_refl _) HO.out hown hgrow
            have R2 := app_other HE.out hap.out hgrow (by simpa using hat)
            have HR := Lib.hid R
            have HR2 := Lib.hid R2
            clear hown hgrow hat R R2 hb hap
            go_wp2_with fail
            go_roundw
            case rel => exact ⟨k + 1, by omega, by go_num, by rw [rt_no hlt HX.out (by rw [HP.out]; decide), ← HL.out]; exact HR2.out.1, by rw [rt_yes hlt HX.out HP.out, ← HM.out]; exact HR.out.1, HR2.out.2, HR.out.2⟩
            case measure => simp [intOf]; omega
      · have e : xs.take k = xs := List.take_of_length_le (by omega)
        rw [e] at hoe hoo
        clear e
        go_wp2_with fail
        go_ret2
        exact ⟨_, _, rfl, hoe, hoo, hap, hb⟩

end Go.Proofs.Ythlpgpgfdfnofaa
