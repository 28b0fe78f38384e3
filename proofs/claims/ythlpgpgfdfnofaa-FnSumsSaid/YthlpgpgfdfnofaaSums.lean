/-
  What SumsOf and StepsOf leave, in the program and in its model. No statement of the seat is proved here.
-/
import Derived.Test.YthlpgpgfdfnofaaOwn
import Derived.Test.YthlpgpgfdfnofaaStream
import Derived.Test.YthlpgpgfdfnofaaWrap
namespace Go.Proofs.Ythlpgpgfdfnofaa
open Go.RowKit

def acc (xs : List Int) (k : Nat) : Int := (xs.take k).foldl (fun s x => wrapT (s + x)) 0
def sumsL (xs : List Int) (k : Nat) : List Int := (List.range k).map fun j => acc xs (j + 1)
def prev (xs : List Int) (k : Nat) : Int := if k = 0 then 0 else xs.getD (k - 1) 0
def stepsL (xs : List Int) (k : Nat) : List Int := (List.range k).map fun j => wrapT (xs.getD j 0 - prev xs j)
def sumsOfR0 (xs : List Int) : List Int := if isS xs then sumsL xs xs.length else []
def stepsOfR0 (xs : List Int) : List Int := if isS xs then stepsL xs xs.length else []
theorem sumsL_len (xs : List Int) (k : Nat) : (sumsL xs k).length = k := by simp [sumsL]
theorem stepsL_len (xs : List Int) (k : Nat) : (stepsL xs k).length = k := by simp [stepsL]
theorem sumsOf_len0 (xs : List Int) : (sumsOfR0 xs).length ≤ 400 := by
  unfold sumsOfR0
  split
  · rw [sumsL_len]; exact isS_len (by assumption)
  · simp
theorem stepsOf_len0 (xs : List Int) : (stepsOfR0 xs).length ≤ 400 := by
  unfold stepsOfR0
  split
  · rw [stepsL_len]; exact isS_len (by assumption)
  · simp
theorem sums1 {xs : List Int} (h : isS xs = false) : sumsOfR0 xs = [] := by simp [sumsOfR0, h]
theorem sums2 {xs : List Int} (h : isS xs = true) : sumsOfR0 xs = sumsL xs xs.length := by simp [sumsOfR0, h]
theorem steps1 {xs : List Int} (h : isS xs = false) : stepsOfR0 xs = [] := by simp [stepsOfR0, h]
theorem steps2 {xs : List Int} (h : isS xs = true) : stepsOfR0 xs = stepsL xs xs.length := by simp [stepsOfR0, h]
theorem acc_zero (xs : List Int) : acc xs 0 = 0 := by simp [acc]
theorem acc_succ {xs : List Int} {k : Nat} {x : Int} (h : k < xs.length) (hx : x = xs.getD k 0) : acc xs (k + 1) = wrapT (acc xs k + x) := by
  unfold acc; rw [take_snoc' h, ← hx, List.foldl_append]; rfl
theorem acc_bd (xs : List Int) : ∀ k, -999999 ≤ acc xs k ∧ acc xs k ≤ 999999 := by
  intro k
  unfold acc
  rcases List.eq_nil_or_concat (xs.take k) with h | ⟨l, z, h⟩
  · rw [h]; simp
  · rw [h, List.concat_eq_append, List.foldl_append]; exact wrapT_bd _
theorem sumsL_succ {xs : List Int} {k : Nat} {x : Int} (h : k < xs.length) (hx : x = xs.getD k 0) : sumsL xs (k + 1) = sumsL xs k ++ [wrapT (acc xs k + x)] := by
  rw [← acc_succ h hx]; simp [sumsL, List.range_succ]
theorem prev_zero (xs : List Int) : prev xs 0 = 0 := by simp [prev]
theorem prev_succ {xs : List Int} {k : Nat} {x : Int} (hx : x = xs.getD k 0) : prev xs (k + 1) = x := by simp [prev, hx]
theorem tok_in {xs : List Int} {k : Nat} {x : Int} (hs : isS xs = true) (h : k < xs.length) (hx : x = xs.getD k 0) : -999999 ≤ x ∧ x ≤ 999999 :=
  isTok_bd (isS_all hs x (by rw [hx]; simp [List.getD, h]))
theorem prev_bd {xs : List Int} (hs : isS xs = true) {k : Nat} (h : k ≤ xs.length) : -999999 ≤ prev xs k ∧ prev xs k ≤ 999999 := by
  unfold prev
  split
  · omega
  · exact tok_in hs (by omega) rfl
theorem stepsL_succ {xs : List Int} {k : Nat} {x : Int} (hx : x = xs.getD k 0) : stepsL xs (k + 1) = stepsL xs k ++ [wrapT (x - prev xs k)] := by
  rw [hx]; simp [stepsL, List.range_succ]

def fillL (ys : List Int) (n : Nat) : List Int := ys ++ List.replicate (n - ys.length) 0
theorem fillL_len {ys : List Int} {n : Nat} (h : ys.length ≤ n) : (fillL ys n).length = n := by simp [fillL]; omega
theorem fillL_zero {w1 : World} {B n : Nat} {v : Value} (h : w1.ownsRow B 3 1 v n (madeCells #[Value.int IntKind.i64 0] n).toList) : w1.ownsRow B 3 1 v n (vals (fillL [] n)) := by
  have e : vals (fillL [] n) = List.replicate n (.int .i64 0) := by simp [fillL, vals]
  rw [e, ← toList_madeCells_one]; exact h
theorem fillL_all {ys : List Int} {n : Nat} (h : ys.length = n) : fillL ys n = ys := by simp [fillL, h]
theorem fillL_set {ys : List Int} {n : Nat} {x : Int} (h : ys.length < n) : (vals (fillL ys n)).set ys.length (.int .i64 x) = vals (fillL (ys ++ [x]) n) := by
  obtain ⟨m, hm⟩ : ∃ m, n - ys.length = m + 1 := ⟨n - ys.length - 1, by omega⟩
  have hm2 : n - (ys ++ [x]).length = m := by simp; omega
  unfold fillL
  rw [hm, hm2]
  simp [vals, List.replicate_succ]

set_option maxRecDepth 100000 in
set_option maxHeartbeats 1600000 in
theorem isums_any (v : Value) (xs : List Int) (w : World) (h : Sl w v xs) :
    Calls Try.prog 30 #[v] w fun e w' => ∃ r, e = .returned r ∧ Own w.heap.size w' r (sumsOfR0 xs) ∧ Below w.heap.size w w' := by
  obtain ⟨a, cap, rfl, hr⟩ := h
  have C1 := Lib.hid (istream_any _ xs w ⟨a, cap, rfl, hr⟩)
  cases h1 : isS xs with
  | false =>
    rw [sums1 h1]
    rw [h1] at C1
    clear h1 hr
    go_enter Try.func30, Try.ntmps30
    go_wp2_with fail
    refine C1.out.mono ?_
    rintro e w' ⟨rfl, rfl⟩
    go_wp2_with fail
    go_ret
    exact ⟨_, rfl, own_nil _ _, Below.refl _ _⟩
  | true =>
    have hl1 := isS_len h1
    have HS1 := Lib.hid h1
    rw [sums2 h1]
    rw [h1] at C1
    have hc := hr.2.2.2
    obtain ⟨i0, hi, hz0, hz1, hz2⟩ := info_parts info
    clear h1 hr
    obtain ⟨n, hn⟩ : ∃ n, xs.length = n := ⟨_, rfl⟩
    rw [hn] at C1 hl1 hc ⊢
    have HN := Lib.hid hn
    clear hn
    go_enter Try.func30, Try.ntmps30
    go_wp2_with fail
    refine C1.out.mono ?_
    rintro e w' ⟨rfl, rfl⟩
    clear C1
    go_wp2_with (at_make; refine wpList_make_full _ rfl _ _ 26 rfl w.heap.size 3 i0 (.int .i64 0) 1 Try.underlying26 hi hz0 hz1 _ _ _ _ n rfl rfl rfl rfl ?b2 ?b3 ?b4 ?_)
    case b2 => rw [hz2]; omega
    case b3 => unfold maxLen; omega
    case b4 => exact Nat.le_refl _
    intro w1 hown hgrow
    have hb := (Below.refl w.heap.size w).grown hgrow (Nat.le_refl _) (by simp)
    have HO0 := Lib.hid (fillL_zero hown)
    clear hgrow hi hz0 hz1 hz2 hown
    go_wp2_with fail
    go_loopw [4, 15] (fun s i wr => ∃ k : Nat, k ≤ n ∧ i = .int .i64 k ∧ s = .int .i64 (acc xs k) ∧ Hid (wr.ownsRow w.heap.size 3 1 (.slice (some ⟨w.heap.size, 0, none⟩) n n) n (vals (fillL (sumsL xs k) n))) ∧ Below w.heap.size w wr) (fun _ i _ => n - (intOf i).toNat)
    case atStart => exact ⟨0, Nat.zero_le _, rfl, by rw [acc_zero], HO0, hb⟩
    case round =>
      clear HO0 hb
      obtain ⟨k, hk, rfl, rfl, HO, hb⟩ := hrel
      by_cases hlt : k < n
      · rcases hc with rfl | ⟨b, off, rfl, hbl, hcell⟩
        · exact absurd hlt (by have := HN.out; simp at this; omega)
        · obtain ⟨x, hx⟩ : ∃ x, x = xs.getD k 0 := ⟨_, rfl⟩
          have hck := (hb.cell (p := ⟨b, off + k, none⟩) hbl).trans (hcell k hlt)
          rw [← hx] at hck
          have hxb := tok_in HS1.out (by rw [HN.out]; exact hlt) hx
          have hsb := acc_bd xs k
          have E1 := Lib.hid (sumsL_succ (xs := xs) (by rw [HN.out]; exact hlt) hx)
          have E2 := Lib.hid (acc_succ (xs := xs) (by rw [HN.out]; exact hlt) hx)
          have EL := Lib.hid (sumsL_len xs k)
          obtain ⟨s, hs⟩ : ∃ s, acc xs k = s := ⟨_, rfl⟩
          obtain ⟨L, hL⟩ : ∃ L, sumsL xs k = L := ⟨_, rfl⟩
          rw [hs] at hsb E1 E2 ⊢
          rw [hL] at HO E1 EL
          have C2 := Lib.hid (fun w => iwrap_any (s + x) w)
          obtain ⟨y, hy⟩ : ∃ y, wrapT (s + x) = y := ⟨_, rfl⟩
          rw [hy] at C2 E1 E2
          have hfz := HO.out.frozenAt k
          have hck3 : ∃ q, wr.cell? ⟨w.heap.size, k, none⟩ = some q := by
            rw [HO.out.cellAt k (by omega), List.getElem?_eq_getElem (by simp only [vals, List.length_map]; rw [fillL_len (by rw [EL.out]; omega)]; exact hlt)]; exact ⟨_, rfl⟩
          obtain ⟨q, hq⟩ := hck3
          have R := HO.out.stored k (.int .i64 y)
          have e := fillL_set (ys := L) (n := n) (x := y) (by rw [EL.out]; exact hlt)
          rw [EL.out] at e
          rw [e] at R
          have HR := Lib.hid R
          have HX := Lib.hid hx
          clear hx hcell hs hL hy R e HO
          go_wp2_with (go_at_call 16; refine (C2.out _).mono ?_; rintro e w' ⟨rfl, rfl⟩)
          go_roundw
          case rel => exact ⟨k + 1, by omega, by go_num, by rw [E2.out], by rw [E1.out]; exact HR.out.1, hb.setCell (Nat.le_refl _) _⟩
          case measure => simp [intOf]; omega
      · obtain rfl : k = n := by omega
        have e := fillL_all (sumsL_len xs k)
        rw [e] at HO
        go_wp2_with fail
        go_ret
        refine ⟨_, rfl, ?_, hb⟩
        unfold Own
        rw [sumsL_len]
        exact HO.out

set_option maxRecDepth 100000 in
set_option maxHeartbeats 1600000 in
theorem isteps_any (v : Value) (xs : List Int) (w : World) (h : Sl w v xs) :
    Calls Try.prog 29 #[v] w fun e w' => ∃ r, e = .returned r ∧ Own w.heap.size w' r (stepsOfR0 xs) ∧ Below w.heap.size w w' := by
  obtain ⟨a, cap, rfl, hr⟩ := h
  have C1 := Lib.hid (istream_any _ xs w ⟨a, cap, rfl, hr⟩)
  cases h1 : isS xs with
  | false =>
    rw [steps1 h1]
    rw [h1] at C1
    clear h1 hr
    go_enter Try.func29, Try.ntmps29
    go_wp2_with fail
    refine C1.out.mono ?_
    rintro e w' ⟨rfl, rfl⟩
    go_wp2_with fail
    go_ret
    exact ⟨_, rfl, own_nil _ _, Below.refl _ _⟩
  | true =>
    have hl1 := isS_len h1
    have HS1 := Lib.hid h1
    rw [steps2 h1]
    rw [h1] at C1
    have hc := hr.2.2.2
    obtain ⟨i0, hi, hz0, hz1, hz2⟩ := info_parts info
    clear h1 hr
    obtain ⟨n, hn⟩ : ∃ n, xs.length = n := ⟨_, rfl⟩
    rw [hn] at C1 hl1 hc ⊢
    have HN := Lib.hid hn
    clear hn
    go_enter Try.func29, Try.ntmps29
    go_wp2_with fail
    refine C1.out.mono ?_
    rintro e w' ⟨rfl, rfl⟩
    clear C1
    go_wp2_with (at_make; refine wpList_make_full _ rfl _ _ 26 rfl w.heap.size 3 i0 (.int .i64 0) 1 Try.underlying26 hi hz0 hz1 _ _ _ _ n rfl rfl rfl rfl ?b2 ?b3 ?b4 ?_)
    case b2 => rw [hz2]; omega
    case b3 => unfold maxLen; omega
    case b4 => exact Nat.le_refl _
    intro w1 hown hgrow
    have hb := (Below.refl w.heap.size w).grown hgrow (Nat.le_refl _) (by simp)
    have HO0 := Lib.hid (fillL_zero hown)
    clear hgrow hi hz0 hz1 hz2 hown
    go_wp2_with fail
    go_loopw [4, 15] (fun s i wr => ∃ k : Nat, k ≤ n ∧ i = .int .i64 k ∧ s = .int .i64 (prev xs k) ∧ Hid (wr.ownsRow w.heap.size 3 1 (.slice (some ⟨w.heap.size, 0, none⟩) n n) n (vals (fillL (stepsL xs k) n))) ∧ Below w.heap.size w wr) (fun _ i _ => n - (intOf i).toNat)
    case atStart => exact ⟨0, Nat.zero_le _, rfl, by rw [prev_zero], HO0, hb⟩
    case round =>
      clear HO0 hb
      obtain ⟨k, hk, rfl, rfl, HO, hb⟩ := hrel
      by_cases hlt : k < n
      · rcases hc with rfl | ⟨b, off, rfl, hbl, hcell⟩
        · exact absurd hlt (by have := HN.out; simp at this; omega)
        · obtain ⟨x, hx⟩ : ∃ x, x = xs.getD k 0 := ⟨_, rfl⟩
          have hck := (hb.cell (p := ⟨b, off + k, none⟩) hbl).trans (hcell k hlt)
          rw [← hx] at hck
          have hxb := tok_in HS1.out (by rw [HN.out]; exact hlt) hx
          have hsb := prev_bd HS1.out (show k ≤ xs.length by rw [HN.out]; exact hk)
          have E1 := Lib.hid (stepsL_succ (xs := xs) hx)
          have E2 := Lib.hid (prev_succ (xs := xs) hx)
          have EL := Lib.hid (stepsL_len xs k)
          obtain ⟨s, hs⟩ : ∃ s, prev xs k = s := ⟨_, rfl⟩
          obtain ⟨L, hL⟩ : ∃ L, stepsL xs k = L := ⟨_, rfl⟩
          rw [hs] at hsb E1 ⊢
          rw [hL] at HO E1 EL
          have C2 := Lib.hid (fun w => iwrap_any (x - s) w)
          obtain ⟨y, hy⟩ : ∃ y, wrapT (x - s) = y := ⟨_, rfl⟩
          rw [hy] at C2 E1
          have hfz := HO.out.frozenAt k
          have hck3 : ∃ q, wr.cell? ⟨w.heap.size, k, none⟩ = some q := by
            rw [HO.out.cellAt k (by omega), List.getElem?_eq_getElem (by simp only [vals, List.length_map]; rw [fillL_len (by rw [EL.out]; omega)]; exact hlt)]; exact ⟨_, rfl⟩
          obtain ⟨q, hq⟩ := hck3
          have R := HO.out.stored k (.int .i64 y)
          have e := fillL_set (ys := L) (n := n) (x := y) (by rw [EL.out]; exact hlt)
          rw [EL.out] at e
          rw [e] at R
          have HR := Lib.hid R
          have HX := Lib.hid hx
          clear hx hcell hs hL hy R e HO
          go_wp2_with (go_at_call 16; refine (C2.out _).mono ?_; rintro e w' ⟨rfl, rfl⟩)
          go_roundw
          case rel => exact ⟨k + 1, by omega, by go_num, by rw [E2.out], by rw [E1.out]; exact HR.out.1, hb.setCell (Nat.le_refl _) _⟩
          case measure => simp [intOf]; omega
      · obtain rfl : k = n := by omega
        have e := fillL_all (stepsL_len xs k)
        rw [e] at HO
        go_wp2_with fail
        go_ret
        refine ⟨_, rfl, ?_, hb⟩
        unfold Own
        rw [stepsL_len]
        exact HO.out

end Go.Proofs.Ythlpgpgfdfnofaa
