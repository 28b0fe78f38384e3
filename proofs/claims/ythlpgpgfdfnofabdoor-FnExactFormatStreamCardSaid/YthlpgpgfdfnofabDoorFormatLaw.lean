/-
  The walk of the law FnExactFormatStream: where the library's table of powers holds what its text lays, it answers true and changes nothing that was there.
-/
import Derived.Test.YthlpgpgfdfnofabDoorFormat2
import Derived.Test.YthlpgpgfdfnofabDoorCopy
import Derived.Test.YthlpgpgfdfnofabDoorEq
namespace Go.Proofs.YthlpgpgfdfnofabDoor
open Go.RowKit

set_option maxRecDepth 100000 in
set_option maxHeartbeats 1600000 in
theorem fnExactFormatStream_core (p : Option Addr) (c : Nat) (xs : List Int) (w : World) (h : Sl w (.slice p xs.length c) xs) (ht : Tab w) (hs : xs.length ≤ 1048576) :
    Calls Tryd.prog 3 #[.slice p xs.length c] w fun e w' => e = .returned (.bool true) ∧ Below w.heap.size w w' := by
  have H := Lib.hid h
  have HT := Lib.hid ht
  clear h ht
  have hB := Below.refl w.heap.size w
  obtain ⟨S, hS⟩ : ∃ S : ByteArray, S = ⟨(fmtT xs).toArray⟩ := ⟨_, rfl⟩
  have CS := Lib.hid (fun v w h => sformat_any v xs w h)
  have CI := Lib.hid (fun v w h ht => iformat_any v xs w h ht)
  rw [← hS] at CS CI
  clear hS
  go_enter Tryd.func3, Tryd.ntmps3
  go_wp2_with fail
  refine (toInt_any _ xs _ (H.out.below hB) hs).mono ?_
  rintro e w1 ⟨t0, rfl, o_t0, hb⟩
  replace o_t0 := o_t0.mono hB.size
  replace hB := hB.trans (hb.mono hB.size)
  clear hb
  go_wp2_with fail
  refine (CS.out _ _ o_t0.sl).mono ?_
  rintro e w1 ⟨rfl, hb⟩
  replace hB := hB.trans (hb.mono hB.size)
  clear hb o_t0
  go_wp2_with fail
  refine (toInt_any _ xs _ (H.out.below hB) hs).mono ?_
  rintro e w1 ⟨y0, rfl, o_y0, hb⟩
  replace o_y0 := o_y0.mono hB.size
  replace hB := hB.trans (hb.mono hB.size)
  clear hb
  go_wp2_with fail
  refine (CI.out _ _ o_y0.sl (HT.out.below hB)).mono ?_
  rintro e w1 ⟨rfl, hb⟩
  replace o_y0 := o_y0.below hb
  replace hB := hB.trans (hb.mono hB.size)
  clear hb
  go_wp2_with fail
  refine (toInt_any _ xs _ (H.out.below hB) hs).mono ?_
  rintro e w1 ⟨z0, rfl, o_z0, hb⟩
  replace o_y0 := o_y0.below hb
  replace o_z0 := o_z0.mono hB.size
  replace hB := hB.trans (hb.mono hB.size)
  clear hb
  go_wp2_with fail
  refine (eqS_ok _ _ _ _ o_y0.sl o_z0.sl).mono ?_
  rintro e w1 ⟨rfl, hb⟩
  replace hB := hB.trans (hb.mono hB.size)
  clear hb
  go_wp2_with fail
  go_ret
  exact ⟨rfl, hB⟩

set_option maxHeartbeats 400000 in
theorem fnExactFormatStream_walk {a0 : Value} {x0 : List Int} (w : World) (h0 : Sl w a0 x0) (ht : Tab w) :
    Calls Tryd.prog 3 #[a0] w fun e w' => e = .returned (.bool true) ∧ Below w.heap.size w w' := by
  obtain ⟨p0, c0, rfl, r0⟩ := h0
  have H0 := Lib.hid (show Sl w _ x0 from ⟨p0, c0, rfl, r0⟩)
  have b0 : x0.length ≤ 9223372036854775807 := by have := r0.1; have := r0.2.1; unfold maxLen at this; omega
  have HT := Lib.hid ht
  clear r0 ht
  by_cases hs0 : x0.length ≤ 1048576
  · exact fnExactFormatStream_core p0 c0 x0 _ H0.out HT.out hs0
  · go_enter Tryd.func3, Tryd.ntmps3
    go_wp2_with fail
    go_ret
    exact ⟨rfl, Below.refl _ _⟩

end Go.Proofs.YthlpgpgfdfnofabDoor
