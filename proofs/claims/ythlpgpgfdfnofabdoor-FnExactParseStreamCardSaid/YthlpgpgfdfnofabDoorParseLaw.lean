/-
  The walk of the law FnExactParseStream: where the library's variables hold what its text lays, it answers true and changes nothing that was there.
-/
import Derived.Test.YthlpgpgfdfnofabDoorCut6
import Derived.Test.YthlpgpgfdfnofabDoorCopy
import Derived.Test.YthlpgpgfdfnofabDoorEq
namespace Go.Proofs.YthlpgpgfdfnofabDoor
open Go.RowKit

theorem psR_len (l : List UInt8) : ((psR l).getD []).length ≤ 400 := by
  unfold psR
  split
  · simp
  · split
    · split
      · rename_i h; simpa using isS_len h
      · simp
    · simp

set_option maxRecDepth 100000 in
set_option maxHeartbeats 1600000 in
theorem fnExactParseStream_core (s : ByteArray) (w : World) (hs : s.size ≤ 1048576) (hv : Vars w) :
    Calls Tryd.prog 4 #[.string s] w fun e w' => e = .returned (.bool true) ∧ Below w.heap.size w w' := by
  have HV := Lib.hid hv
  have hB := Below.refl w.heap.size w
  have hl0 := Lib.hid (psR_len s.data.toList)
  have CS := Lib.hid (fun w => sparse_any s w hs)
  have CI := Lib.hid (fun w h => iparse_any s w hs h)
  obtain ⟨X, hX⟩ : ∃ X, (psR s.data.toList).getD [] = X := ⟨_, rfl⟩
  obtain ⟨bb, hbb⟩ : ∃ bb, (psR s.data.toList).isSome = bb := ⟨_, rfl⟩
  rw [hX] at hl0
  simp only [hX, hbb] at CS CI
  clear hX hbb hv
  go_enter Tryd.func4, Tryd.ntmps4
  go_wp2_with fail
  refine (CS.out _).mono ?_
  rintro e w2 ⟨r0, rfl, o_r0, hb2⟩
  replace o_r0 := o_r0.mono hB.size
  replace hB := hB.trans (hb2.mono hB.size)
  clear hb2
  go_wp2_with fail
  refine (CI.out _ (HV.out.below hB)).mono ?_
  have q_r0 := o_r0
  rintro e w4 ⟨g0, rfl, o_g0, hb4⟩
  replace o_r0 := o_r0.below hb4
  have ap_r0_g0 := Apart.of_lt q_r0 o_g0 (Nat.le_refl _)
  clear q_r0
  replace o_g0 := o_g0.mono hB.size
  replace hB := hB.trans (hb4.mono hB.size)
  clear hb4
  go_wp2_with fail
  refine (eqS_ok _ _ _ _ o_g0.sl o_r0.sl).mono ?_
  rintro e w5 ⟨rfl, hb5⟩
  replace o_r0 := o_r0.below hb5
  replace o_g0 := o_g0.below hb5
  replace hB := hB.trans (hb5.mono hB.size)
  clear hb5
  go_wp2_with fail
  refine (mark_any _ _ X _ _ o_g0 (by omega) (by have := hl0.out; omega) (by have := hl0.out; omega)).mono ?_
  rintro e w10 ⟨rfl, m_g0, hg10⟩
  replace o_r0 := o_r0.kept hg10 ap_r0_g0
  replace hB := hB.grown hg10 hB.size (fun k e => (Own.lt o_g0 k e).1)
  clear hg10 o_g0
  have o_g0 := m_g0
  clear m_g0
  go_wp2_with fail
  refine (held_any _ (1) X.length _ o_g0.sl (by omega) (by have := hl0.out; omega) (by have := hl0.out; omega)).mono ?_
  rintro e w' ⟨rfl, rfl⟩
  go_wp2_with fail
  refine (CI.out _ (HV.out.below hB)).mono ?_
  rintro e w13 ⟨k0, rfl, o_k0, hb13⟩
  replace o_r0 := o_r0.below hb13
  replace o_g0 := o_g0.below hb13
  replace o_k0 := o_k0.mono hB.size
  replace hB := hB.trans (hb13.mono hB.size)
  clear hb13
  go_wp2_with fail
  refine (eqS_ok _ _ _ _ o_k0.sl o_r0.sl).mono ?_
  rintro e w14 ⟨rfl, hb14⟩
  replace o_g0 := o_g0.below hb14
  replace hB := hB.trans (hb14.mono hB.size)
  clear hb14
  go_wp2_with fail
  refine (held_any _ (1) X.length _ o_g0.sl (by omega) (by have := hl0.out; omega) (by have := hl0.out; omega)).mono ?_
  rintro e w' ⟨rfl, rfl⟩
  go_wp2_with fail
  go_ret
  exact ⟨rfl, hB⟩

set_option maxHeartbeats 400000 in
theorem fnExactParseStream_walk (s : ByteArray) (w : World) (hs : s.size ≤ 9223372036854775807) (hv : Vars w) :
    Calls Tryd.prog 4 #[.string s] w fun e w' => e = .returned (.bool true) ∧ Below w.heap.size w w' := by
  have HV := Lib.hid hv
  clear hv
  by_cases hs0 : s.size ≤ 1048576
  · exact fnExactParseStream_core s w hs0 HV.out
  · have hd : decide ((1048576 : Int) < (s.size : Int)) = true := decide_eq_true (by omega)
    go_enter Tryd.func4, Tryd.ntmps4
    go_wp2_with fail
    go_ret
    exact ⟨rfl, Below.refl _ _⟩

end Go.Proofs.YthlpgpgfdfnofabDoor
