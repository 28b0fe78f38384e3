/-
  What the program reads as a number: strconv.Atoi, held against its own numeral. No statement of the seat is proved here.
-/
import Derived.Test.YthlpgpgfdfnofabDoorNumMath
import Derived.Test.YthlpgpgfdfnofabDoorOwn
import Derived.Test.YthlpgpgfdfnofabDoorShelf2
import Derived.WalkSmall
import Derived.Lib.AppendIntMem
import Derived.Lib.AtoiErrMem
namespace Go.Proofs.YthlpgpgfdfnofabDoor
open Go.RowKit
open Go.Lib (decDigits itoa)

theorem gPow : Tryd.prog.globalNamed "internal/strconv.uint64pow10" = some 0 := by kernel_rfl
theorem gES : Tryd.prog.globalNamed "strconv.ErrSyntax" = some 2 := by kernel_rfl
theorem gER : Tryd.prog.globalNamed "strconv.ErrRange" = some 3 := by kernel_rfl
/-- The library's variables that the road reads: the table of powers, the two errors. -/
def Vars (w : World) : Prop := Go.Lib.TabIs Tryd.prog w "internal/strconv.uint64pow10" .u64 Go.Lib.pow10Tab ∧
  (∃ tp p, w.var? Tryd.prog "strconv.ErrSyntax" = some #[.iface tp p]) ∧ (∃ tp p, w.var? Tryd.prog "strconv.ErrRange" = some #[.iface tp p])
theorem var_lt {w : World} {n : String} {g : Nat} {v : Value} (hg : Tryd.prog.globalNamed n = some g) (h : w.var? Tryd.prog n = some #[v]) : g < w.heap.size :=
  World.block_lt_of_cell? w ⟨g, 0, none⟩ (by have := World.var?_cell hg h 0; simpa using this)
theorem Vars.below {w w' : World} (h : Vars w) (hb : Below w.heap.size w w') : Vars w' := by
  obtain ⟨h1, ⟨t, p, h2⟩, ⟨t2, p2, h3⟩⟩ := h
  exact ⟨var?_below hb gPow (World.block_lt_of_cell? w _ (Go.Lib.TabIs.cell h1 gPow 0 (by decide))) h1, ⟨t, p, var?_below hb gES (var_lt gES h2) h2⟩, ⟨t2, p2, var?_below hb gER (var_lt gER h3) h3⟩⟩

def pdc (l : List UInt8) : Option Int := match Go.Lib.atoiAll l with
  | .ok n => if itoa n = l then some n else none
  | _ => none
theorem atoiAll_bd {l : List UInt8} {n : Int} (h : Go.Lib.atoiAll l = .ok n) : -9223372036854775808 ≤ n ∧ n ≤ 9223372036854775807 := by
  unfold Go.Lib.atoiAll at h
  split at h
  · cases h
  · simp only at h
    split at h
    · cases h
    · cases h
    · split at h
      · cases h
      · split at h
        · cases h
        · injection h with h
          subst h
          split <;> omega

set_option maxRecDepth 100000 in
set_option maxHeartbeats 800000 in
theorem pdec_any (s : ByteArray) (w : World) (hs : s.size ≤ 1048577) (hv : Vars w) :
    Calls Tryd.prog 20 #[.string s] w fun e w' => e = .returned (.tuple #[.int .i64 ((pdc s.data.toList).getD 0), .bool (pdc s.data.toList).isSome]) ∧ Below w.heap.size w w' := by
  unfold pdc
  rcases hA : Go.Lib.atoiAll s.data.toList with n | _ | _
  · have hb := atoiAll_bd hA
    have C := Lib.hid (Any.strconv_Atoi_ok Tryd.laysC172 s (by omega) n hA w)
    have HT := Lib.hid hv
    clear hv
    by_cases he : itoa n = s.data.toList
    · simp only [he, if_true, Option.getD_some, Option.isSome_some]
      have hse : s = ⟨(itoa n).toArray⟩ := by rw [he]
      have CI := Lib.hid (fun w h => Tryd.strconv_Itoa n hb.1 hb.2 w h)
      rw [← hse] at CI
      clear hse he hA
      go_enter Tryd.func20, Tryd.ntmps20
      go_wp2_with fail
      refine C.out.mono ?_
      rintro e w1 ⟨rfl, hw⟩
      have hb1 : Below w.heap.size w w1 := by
        rcases hw with rfl | ⟨t, rfl⟩
        · exact Below.refl _ _
        · exact Go.Lib.bytesWorld_below _ _ _
      clear hw
      go_wp2_with fail
      refine (CI.out _ (HT.out.below hb1).1).mono ?_
      rintro e w2 ⟨rfl, q, os, hw2⟩
      have hb2 : Below w1.heap.size w1 w2 := by rw [hw2]; exact Go.Lib.below_grow _ w1 (Nat.le_refl _) q os
      have hb3 := hb1.trans (hb2.mono hb1.size)
      clear hw2 hb1 hb2
      go_wp2_with fail
      go_ret2
      exact ⟨rfl, hb3⟩
    · simp only [he, if_false, Option.getD_none, Option.isSome_none]
      have CI := Lib.hid (fun w h => Tryd.strconv_Itoa n hb.1 hb.2 w h)
      obtain ⟨z, hz⟩ : ∃ z, itoa n = z := ⟨_, rfl⟩
      rw [hz] at CI he
      clear hz hA
      have hne : (z == s.toList) = false := by
        rw [beq_eq_false_iff_ne, ByteArray.toList_eq]
        exact he
      have HNE := Lib.hid he
      clear he
      go_enter Tryd.func20, Tryd.ntmps20
      go_wp2_with fail
      refine C.out.mono ?_
      rintro e w1 ⟨rfl, hw⟩
      have hb1 : Below w.heap.size w w1 := by
        rcases hw with rfl | ⟨t, rfl⟩
        · exact Below.refl _ _
        · exact Go.Lib.bytesWorld_below _ _ _
      clear hw
      go_wp2_with fail
      refine (CI.out _ (HT.out.below hb1).1).mono ?_
      rintro e w2 ⟨rfl, q, os, hw2⟩
      have hb2 : Below w1.heap.size w1 w2 := by rw [hw2]; exact Go.Lib.below_grow _ w1 (Nat.le_refl _) q os
      have hb3 := hb1.trans (hb2.mono hb1.size)
      clear hw2 hb1 hb2
      go_wp2_with fail
      go_ret2
      exact ⟨rfl, hb3⟩
  · simp only [Option.getD_none, Option.isSome_none]
    obtain ⟨tp, p, hvar⟩ := hv.2.1
    have C := Lib.hid (Any.strconv_Atoi_syntax_var Tryd.laysC172 s (by omega) hA tp p w hvar)
    clear hA hvar hv
    go_enter Tryd.func20, Tryd.ntmps20
    go_wp2_with fail
    refine C.out.mono ?_
    rintro e w1 ⟨N, rfl, _, _, hb1⟩
    go_wp2_with fail
    go_ret2
    exact ⟨rfl, hb1⟩
  · simp only [Option.getD_none, Option.isSome_none]
    obtain ⟨tp, p, hvar⟩ := hv.2.2
    have C := Lib.hid (Any.strconv_Atoi_range_var Tryd.laysC172 s (by omega) hA tp p w hvar)
    clear hA hvar hv
    go_enter Tryd.func20, Tryd.ntmps20
    go_wp2_with fail
    refine C.out.mono ?_
    rintro e w1 ⟨N, rfl, _, _, hb1⟩
    go_wp2_with fail
    go_ret2
    exact ⟨rfl, hb1⟩

end Go.Proofs.YthlpgpgfdfnofabDoor
