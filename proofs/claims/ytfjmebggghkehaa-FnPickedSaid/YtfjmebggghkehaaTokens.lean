/-
  The model's drawn streams: a stream of tokens, no longer than asked, in memory of its own. No statement of the seat is proved here.
-/
import Derived.Test.YtfjmebggghkehaaCur
import Derived.Test.YtfjmebggghkehaaStream
namespace Go.Proofs.Ytfjmebggghkehaa
open Go.RowKit

theorem lit_own (w : World) (cs : List Int) (h : cs.length ≤ 1000) : Own w.heap.size (w.alloc (.cells (vals cs).toArray 3)) (.slice (some ⟨w.heap.size, 0, none⟩) cs.length cs.length) cs := by
  have := World.ownsRow_lit (base := w.heap.size) (e := 3) (size := 1) w (vals cs).toArray cs.length (Nat.le_refl _) (by unfold maxLen; omega) (by simp [vals])
  simpa [Own] using this

theorem own_other {lo b : Nat} {w w' : World} {v : Value} {xs : List Int} (h : Own lo w v xs) (hg : w.grownBy w' (some b)) (hb : b < lo) : Own lo w' v xs := by
  refine World.ownsRow.kept h hg ?_
  cases hv : v.ownBlock with
  | none => exact .inl rfl
  | some k => right; intro e; have := h.lt k hv; simp at e; omega
theorem grown_app {w w2 w3 : World} {b : Nat} {v : Value} {o : Obj} (hg : w.grownBy w2 (some b)) (h : (w2.alloc o).grownBy w3 v.ownBlock) (hv : ∀ k, v.ownBlock = some k → w.heap.size ≤ k) : w.grownBy w3 (some b) := by
  have hs := hg.size
  have hs3 := h.size
  simp at hs3
  refine ⟨h.os.trans hg.os, h.tape.trans hg.tape, h.output.trans hg.output, by omega, fun k hk hne => ?_⟩
  rw [h.block k (by simp; omega) (fun e => by have := hv k e.symm; omega), Below.heap_alloc _ _ _ (by omega)]
  exact hg.block k hk hne
theorem cur_app {w2 w3 : World} {b : Nat} {bs : List Int} {v : Value} {o : Obj} (hc : Cur w2 b bs) (h : (w2.alloc o).grownBy w3 v.ownBlock) (hv : ∀ k, v.ownBlock = some k → b < k) : Cur w3 b bs :=
  (hc.alloc o).below ((Below.refl _ _).grown h (by have := hc.lt; simp; omega) (fun k e => by have := hv k e; omega))

set_option maxRecDepth 100000 in
set_option maxHeartbeats 800000 in
theorem some_any (b : Nat) (bs : List Int) (w : World) (h : Cur w b bs) :
    Calls Try.prog 133 #[.pointer (some ⟨b, 0, none⟩)] w fun e w' => ∃ r : Int, e = .returned (.int .i64 r) ∧ isTok r = true ∧ Cur w' b bs ∧ w.grownBy w' (some b) := by
  go_enter Try.func133, Try.ntmps133
  go_wp2_with fail
  refine (once_any b bs 9 _ h (by omega) (by omega)).mono ?_
  rintro e w1 ⟨r, rfl, hc, hg⟩
  cases r with
  | true =>
    have ho := lit_own w1 [999999, -999999, 999998, 500000, -500000] (by simp)
    have hl := hc.lt
    have hc2 := hc.alloc (.cells (vals [999999, -999999, 999998, 500000, -500000]).toArray 3)
    have C := Lib.hid (int_any b bs w1.heap.size 5 _ _ hc2 ho.sl (by omega) (by omega) (by omega))
    clear ho hc2
    simp only [vals, List.map_cons, List.map_nil] at C
    go_wp2_with fail
    refine C.out.mono ?_
    rintro e w2 ⟨r, rfl, hm, hc3, hg2⟩
    go_wp2_with fail
    go_ret
    refine ⟨r, rfl, ?_, hc3, hg.trans ((World.grownBy_alloc _ _ _).trans hg2)⟩
    simp at hm
    rcases hm with rfl | rfl | rfl | rfl | rfl <;> rfl
  | false =>
    go_wp2_with fail
    refine (lbelow_any b bs 15 _ hc (by omega) (by omega)).mono ?_
    rintro e w2 ⟨r, rfl, h0, h1, hc2, hg2⟩
    go_wp2_with fail
    go_ret
    exact ⟨_, rfl, isTok_yes (by omega) (by omega), hc2, hg.trans hg2⟩

set_option maxRecDepth 100000 in
set_option maxHeartbeats 800000 in
theorem tokens_any (b : Nat) (bs : List Int) (n : Nat) (w : World) (h : Cur w b bs) (hn : n ≤ 100) :
    Calls Try.prog 71 #[.pointer (some ⟨b, 0, none⟩), .int .i64 n] w fun e w' => ∃ v xs, e = .returned v ∧ Own w.heap.size w' v xs ∧ xs.length ≤ n ∧ xs.all isTok = true ∧ Cur w' b bs ∧ w.grownBy w' (some b) := by
  have hlt := h.lt
  have hc0 := h.alloc (.cells #[] 3)
  have ho0 : Own w.heap.size (w.alloc (.cells #[] 3)) (.slice (some ⟨w.heap.size, 0, none⟩) 0 0) [] := lit0 w
  have hg0 := World.grownBy_alloc w (.cells #[] 3) (some b)
  obtain ⟨i0, hi, hz0, hz1, hz2⟩ := info_parts info
  clear h
  go_enter Try.func71, Try.ntmps71
  go_wp2_with fail
  refine (lbelow_any b bs ((n : Int) + 1) _ hc0 (by omega) (by omega)).mono ?_
  rintro e w1 ⟨r, rfl, h0, h1, hc1, hg1⟩
  have ho1 := World.ownsRow.kept ho0 hg1 (.inr (by simp [Value.ownBlock]; omega))
  have hg2 := hg0.trans hg1
  clear hc0 ho0 hg0 hg1
  go_wp2_with fail
  go_loopw [5, 6] (fun o i wr => ∃ (xs : List Int) (j : Nat), i = .int .i64 j ∧ xs.length + j ≤ n ∧ Hid (xs.all isTok = true) ∧ Own w.heap.size wr o xs ∧ Cur wr b bs ∧ w.grownBy wr (some b)) (fun _ i _ => (intOf i).toNat)
  case atStart => exact ⟨[], r.toNat, by rw [show ((r.toNat : Nat) : Int) = r by omega], by simp; omega, rfl, ho1, hc1, hg2⟩
  case round =>
    clear ho1 hc1 hg2
    obtain ⟨xs, j, rfl, hl, ht, HO, hc, hg⟩ := hrel
    by_cases hj : 0 < j
    · have hsz := hg.size
      have HG := Lib.hid hg
      have HO' : Hid (Own w.heap.size wr _ xs) := HO
      clear hg HO
      go_wp2_with fail
      refine (some_any b bs _ hc).mono ?_
      rintro e w2 ⟨x, rfl, hx, hc2, hg2⟩
      have HX := Lib.hid hx
      have HO2 := Lib.hid (own_other HO'.out hg2 hlt)
      have HG2 := Lib.hid (HG.out.trans hg2)
      have hsz2 := HG2.out.size
      clear hx hg2 HO' HG hc
      go_wp2_with (at_builtin; refine wpList_append_own_at _ rfl _ _ 23 rfl w.heap.size 3 i0 (.int .i64 0) 1 8 Try.underlying23 hi hz0 hz1 hz2 rfl (by decide) _ _ _ rfl (World.ownsRow.alloc HO2.out _) ⟨w2.heap.size, 0, none⟩ 1 1 [.int .i64 x] rfl rfl (one_src _ _) (one_one _) ?c3 ?c4 ?c5 ?_)
      case c3 => unfold maxLen; omega
      case c4 => omega
      case c5 => first | omega | (simp; omega)
      intro v' w3 hown hgrow _ _
      have R := Lib.hid (app_rel (Below.refl w.heap.size w2) hsz2 (Nat.le_refl _) HO2.out hown hgrow).1
      have hcc := cur_app hc2 hgrow (fun k e => by have := (HO2.out.lt k e).1; omega)
      have hgg := Lib.hid (grown_app HG2.out hgrow (fun k e => (HO2.out.lt k e).1))
      clear hown hgrow HO2 HG2 hc2
      go_wp2_with fail
      go_roundw
      case rel => exact ⟨xs ++ [x], j - 1, by rw [show ((j - 1 : Nat) : Int) = (j : Int) - 1 by omega], by simp; omega, by simp [Hid, HX.out]; simpa using ht.out, R.out, hcc, hgg.out⟩
      case measure => simp [intOf]; omega
    · obtain rfl : j = 0 := by omega
      go_wp2_with fail
      go_ret
      exact ⟨_, xs, rfl, HO, by omega, ht.out, hc, hg⟩

end Go.Proofs.Ytfjmebggghkehaa
