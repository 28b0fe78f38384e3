/-
  Sizes of networks by the law's own functions. No statement of the seat is proved here.
-/
import Derived.Test.YtjphamgkigekkaaNetTo
import Derived.Deep.RegionWith
namespace Go.Proofs.Ytjphamgkigekkaa
open Go.RowKit


set_option maxHeartbeats 1600000 in
theorem szLnk_any (v : Value) (p : Lnk) (left : Int) (w : World) (h : LnkV w v p) (hl : 0 ≤ left ∧ left ≤ 1048576) :
    Calls Try.prog 111 #[v, .int .i64 left] w fun e w' => e = .returned (.int .i64 (if (p.tok.length : Int) ≤ left then left - p.tok.length else -1)) ∧ Below w.heap.size w w' := by
  obtain ⟨c, rfl, hc⟩ := h
  obtain ⟨f, o, t, i, tok⟩ := p
  simp only [] at hc ⊢
  have HC := Lib.hid hc
  obtain ⟨a, cap, rfl, hrest⟩ := hc
  clear hrest
  have HL := Lib.hid hl
  have hb := Lib.hid ((Below.refl w.heap.size w).al (.cells #[.int .i64 f, .int .i64 o, .int .i64 t, .int .i64 i, .slice a tok.length cap] 125))
  have C := Lib.hid (szIntS_any _ tok left _ (HC.out.below (hb.out.mono (by simp))) HL.out)
  clear hl
  by_cases hc : (tok.length : Int) ≤ left
  · rw [if_pos hc] at C ⊢
    have d : decide (left - (tok.length : Int) < 0) = false := decide_eq_false (by omega)
    go_enter Try.func111, Try.ntmps111
    go_wp2_with (go_at_call 58; refine C.out.mono ?_; rintro e w2 ⟨rfl, rfl⟩)
    go_ret
    exact ⟨rfl, hb.out⟩
  · rw [if_neg hc] at C ⊢
    go_enter Try.func111, Try.ntmps111
    go_wp2_with (go_at_call 58; refine C.out.mono ?_; rintro e w2 ⟨rfl, rfl⟩)
    go_ret
    exact ⟨rfl, hb.out⟩
theorem sum_step {α : Type} {f : α → Nat} {xs : List α} {k : Nat} {x : α} (hx : xs[k]? = some x) : ((xs.take (k + 1)).map f).sum = ((xs.take k).map f).sum + f x := by
  have hk := (List.getElem?_eq_some_iff.1 hx).1
  rw [List.take_succ_eq_append_getElem hk, (List.getElem?_eq_some_iff.1 hx).2]
  simp
theorem sum_take {α : Type} {f : α → Nat} (xs : List α) (k : Nat) : ((xs.take k).map f).sum ≤ (xs.map f).sum := by
  have h := congrArg List.sum (congrArg (List.map f) (List.take_append_drop k xs))
  rw [List.map_append, List.sum_append] at h
  omega

def sumP (xs : List Prg) : Nat := xs.length + (xs.map fun p => p.code.length).sum
set_option maxRecDepth 100000 in
set_option maxHeartbeats 1600000 in
theorem szProgramS_any (v : Value) (xs : List Prg) (left : Int) (w : World) (h : SlP w v xs) (hl : 0 ≤ left ∧ left ≤ 1048576) :
    Calls Try.prog 56 #[v, .int .i64 left] w fun e w' => e = .returned (.int .i64 (if ((sumP xs : Nat) : Int) ≤ left then left - ((sumP xs : Nat) : Int) else -1)) ∧ Below w.heap.size w w' := by
  obtain ⟨a, cap, rfl, _, hm, _, hc⟩ := h
  have hm' : xs.length ≤ 9223372036854775807 := by unfold maxLen at hm; omega
  have wi : wrap64 (left - xs.length) = left - xs.length := IntWalk.wrap64_in _ (by unfold maxLen at hm; omega)
  clear hm
  obtain ⟨m, hmm⟩ : ∃ m, m = xs.length := ⟨_, rfl⟩
  obtain ⟨r, hr⟩ : ∃ r, r = (if ((sumP xs : Nat) : Int) ≤ left then left - ((sumP xs : Nat) : Int) else -1) := ⟨_, rfl⟩
  rw [← hr]
  rw [← hmm] at hm' wi ⊢
  have HM := Lib.hid hmm
  have HR := Lib.hid hr
  clear hmm hr
  obtain ⟨l1, hl1⟩ : ∃ l1 : Int, l1 = left - m := ⟨_, rfl⟩
  rw [← hl1] at wi
  have HL1 := Lib.hid hl1
  by_cases h0 : left - (m : Int) < 0
  · have d : decide (l1 < 0) = true := decide_eq_true (by omega)
    have hE : r = -1 := by rw [HR.out, if_neg (by unfold sumP; have := HM.out; omega)]
    subst hE
    rw [hl1] at d
    clear hl1 wi
    have wi : wrap64 (left - (m : Int)) = left - (m : Int) := IntWalk.wrap64_in _ (by omega)
    go_enter Try.func56, Try.ntmps56
    go_wp2_with fail
    go_ret
    exact ⟨rfl, Below.refl _ _⟩
  · have d : decide (left - (m : Int) < 0) = false := decide_eq_false h0
    have h1 : 0 ≤ left - (m : Int) := by omega
    clear hl1 wi
    have wi : wrap64 (left - (m : Int)) = left - (m : Int) := IntWalk.wrap64_in _ (by omega)
    have H1 := Lib.hid h1
    have HLL := Lib.hid hl
    go_enter Try.func56, Try.ntmps56
    go_wp2_with fail
    go_loopw [1, 5] (fun t i wr => ∃ (k : Nat) (z : Int), k ≤ m ∧ i = .int .i64 k ∧ t = .int .i64 z ∧ (0 ≤ z ∧ z ≤ 1048576) ∧ Hid (z = left - (m : Int) - ((((xs.take k).map fun p => p.code.length).sum : Nat) : Int)) ∧ Hid (Below w.heap.size w wr)) (fun _ i _ => m - (intOf i).toNat)
    case atStart => exact ⟨0, left - (m : Int), Nat.zero_le _, rfl, rfl, by have := H1.out; have := HLL.out; omega, Lib.hid (by simp), Lib.hid (Below.refl _ _)⟩
    case round =>
      obtain ⟨k, z, hk, rfl, rfl, hz, HZ, HB⟩ := hrel
      by_cases hlt : k < m
      · rcases hc with rfl | ⟨b, off, rfl, hbl, hcell⟩
        · exact absurd hlt (by have := HM.out; simp at this; omega)
        · obtain ⟨x, hx⟩ : ∃ x, xs[k]? = some x := ⟨_, List.getElem?_eq_getElem (by rw [← HM.out]; exact hlt)⟩
          obtain ⟨u1, e0, e1, e2, ee⟩ := hcell k x hx
          obtain ⟨ua, uc, e6⟩ := (ee).shape
          have HS := Lib.hid ((ee).below HB.out)
          have c0 := (HB.out.cell (p := ⟨b, off + k * 3, none⟩) hbl).trans e0
          have c1 := (HB.out.cell (p := ⟨b, off + k * 3 + 1, none⟩) hbl).trans e1
          have c2 := (HB.out.cell (p := ⟨b, off + k * 3 + 2, none⟩) hbl).trans e2
          have hbk : b < wr.heap.size := Nat.lt_of_lt_of_le hbl HB.out.size
          have HSUM := Lib.hid (sum_step (f := fun p : Prg => p.code.length) hx)
          have HTAKE := Lib.hid (sum_take (f := fun p : Prg => p.code.length) xs (k + 1))
          clear hx hcell e0 e1 e2 ee
          obtain ⟨pi, po, pc⟩ := x
          simp only [] at c0 c1 c2 e6 HS HSUM
          obtain ⟨ul, hul⟩ : ∃ z, z = pc.length := ⟨_, rfl⟩
          rw [← hul] at e6
          have HUL := Lib.hid hul
          subst e6
          have SC := Lib.hid (szPrg_any (.agg #[.int .i64 pi, .int .i64 po, .slice ua ul uc]) ⟨pi, po, pc⟩ z wr ⟨_, rfl, HS.out⟩ hz)
          simp only [] at SC
          rw [← hul] at SC
          clear hul
          by_cases hs : (ul : Int) ≤ z
          · rw [if_pos hs] at SC
            have dz : decide (z - (ul : Int) < 0) = false := decide_eq_false (by omega)
            have HSS := Lib.hid hs
            have HZZ := Lib.hid hz
            clear hs hz
            go_wp2_with (go_at_call 110; with_reducible refine SC.out.mono ?_; rintro e w2 ⟨rfl, hb1⟩; have HB1 := Lib.hid (HB.out.trans (hb1.mono HB.out.size)); clear hb1)
            go_roundw
            case rel => exact ⟨k + 1, z - ul, by omega, by go_num, rfl, by have := HSS.out; have := HZZ.out; omega, Lib.hid (by rw [HSUM.out, HZ.out]; have := HUL.out; omega), HB1⟩
            case measure => simp [intOf]; omega
          · rw [if_neg hs] at SC
            have HSS := Lib.hid hs
            clear hs hz
            go_wp2_with (go_at_call 110; with_reducible refine SC.out.mono ?_; rintro e w2 ⟨rfl, hb1⟩; have HB1 := Lib.hid (HB.out.trans (hb1.mono HB.out.size)); clear hb1)
            go_ret
            have hE : r = -1 := by
              rw [HR.out, if_neg]
              unfold sumP
              have := HSS.out; have := HZ.out; have := HSUM.out; have := HTAKE.out; have := HUL.out; have := HM.out
              omega
            subst hE
            exact ⟨rfl, HB1.out⟩
      · have hE : r = z := by
          have hz1 := HZ.out
          rw [List.take_of_length_le (by rw [← HM.out]; omega)] at hz1
          rw [HR.out, if_pos (by unfold sumP; have := HM.out; omega)]
          unfold sumP
          have := HM.out
          omega
        subst hE
        go_wp2_with fail
        go_ret
        exact ⟨rfl, HB.out⟩

def sumL (xs : List Lnk) : Nat := xs.length + (xs.map fun p => p.tok.length).sum
set_option maxRecDepth 100000 in
set_option maxHeartbeats 1600000 in
theorem szLinkS_any (v : Value) (xs : List Lnk) (left : Int) (w : World) (h : SlL w v xs) (hl : 0 ≤ left ∧ left ≤ 1048576) :
    Calls Try.prog 57 #[v, .int .i64 left] w fun e w' => e = .returned (.int .i64 (if ((sumL xs : Nat) : Int) ≤ left then left - ((sumL xs : Nat) : Int) else -1)) ∧ Below w.heap.size w w' := by
  obtain ⟨a, cap, rfl, _, hm, _, hc⟩ := h
  have hm' : xs.length ≤ 9223372036854775807 := by unfold maxLen at hm; omega
  have wi : wrap64 (left - xs.length) = left - xs.length := IntWalk.wrap64_in _ (by unfold maxLen at hm; omega)
  clear hm
  obtain ⟨m, hmm⟩ : ∃ m, m = xs.length := ⟨_, rfl⟩
  obtain ⟨r, hr⟩ : ∃ r, r = (if ((sumL xs : Nat) : Int) ≤ left then left - ((sumL xs : Nat) : Int) else -1) := ⟨_, rfl⟩
  rw [← hr]
  rw [← hmm] at hm' wi ⊢
  have HM := Lib.hid hmm
  have HR := Lib.hid hr
  clear hmm hr
  obtain ⟨l1, hl1⟩ : ∃ l1 : Int, l1 = left - m := ⟨_, rfl⟩
  rw [← hl1] at wi
  have HL1 := Lib.hid hl1
  by_cases h0 : left - (m : Int) < 0
  · have d : decide (l1 < 0) = true := decide_eq_true (by omega)
    have hE : r = -1 := by rw [HR.out, if_neg (by unfold sumL; have := HM.out; omega)]
    subst hE
    rw [hl1] at d
    clear hl1 wi
    have wi : wrap64 (left - (m : Int)) = left - (m : Int) := IntWalk.wrap64_in _ (by omega)
    go_enter Try.func57, Try.ntmps57
    go_wp2_with fail
    go_ret
    exact ⟨rfl, Below.refl _ _⟩
  · have d : decide (left - (m : Int) < 0) = false := decide_eq_false h0
    have h1 : 0 ≤ left - (m : Int) := by omega
    clear hl1 wi
    have wi : wrap64 (left - (m : Int)) = left - (m : Int) := IntWalk.wrap64_in _ (by omega)
    have H1 := Lib.hid h1
    have HLL := Lib.hid hl
    go_enter Try.func57, Try.ntmps57
    go_wp2_with fail
    go_loopw [1, 5] (fun t i wr => ∃ (k : Nat) (z : Int), k ≤ m ∧ i = .int .i64 k ∧ t = .int .i64 z ∧ (0 ≤ z ∧ z ≤ 1048576) ∧ Hid (z = left - (m : Int) - ((((xs.take k).map fun p => p.tok.length).sum : Nat) : Int)) ∧ Hid (Below w.heap.size w wr)) (fun _ i _ => m - (intOf i).toNat)
    case atStart => exact ⟨0, left - (m : Int), Nat.zero_le _, rfl, rfl, by have := H1.out; have := HLL.out; omega, Lib.hid (by simp), Lib.hid (Below.refl _ _)⟩
    case round =>
      obtain ⟨k, z, hk, rfl, rfl, hz, HZ, HB⟩ := hrel
      by_cases hlt : k < m
      · rcases hc with rfl | ⟨b, off, rfl, hbl, hcell⟩
        · exact absurd hlt (by have := HM.out; simp at this; omega)
        · obtain ⟨x, hx⟩ : ∃ x, xs[k]? = some x := ⟨_, List.getElem?_eq_getElem (by rw [← HM.out]; exact hlt)⟩
          obtain ⟨u1, e0, e1, e2, e3, e4, ee⟩ := hcell k x hx
          obtain ⟨ua, uc, e6⟩ := (ee.2).shape
          have HS := Lib.hid ((ee.2).below HB.out)
          have c0 := (HB.out.cell (p := ⟨b, off + k * 5, none⟩) hbl).trans e0
          have c1 := (HB.out.cell (p := ⟨b, off + k * 5 + 1, none⟩) hbl).trans e1
          have c2 := (HB.out.cell (p := ⟨b, off + k * 5 + 2, none⟩) hbl).trans e2
          have c3 := (HB.out.cell (p := ⟨b, off + k * 5 + 3, none⟩) hbl).trans e3
          have c4 := (HB.out.cell (p := ⟨b, off + k * 5 + 4, none⟩) hbl).trans e4
          have hbk : b < wr.heap.size := Nat.lt_of_lt_of_le hbl HB.out.size
          have HSUM := Lib.hid (sum_step (f := fun p : Lnk => p.tok.length) hx)
          have HTAKE := Lib.hid (sum_take (f := fun p : Lnk => p.tok.length) xs (k + 1))
          clear hx hcell e0 e1 e2 e3 e4 ee
          obtain ⟨xf, xo, xt, xi, pc⟩ := x
          simp only [] at c0 c1 c2 c3 c4 e6 HS HSUM
          obtain ⟨ul, hul⟩ : ∃ z, z = pc.length := ⟨_, rfl⟩
          rw [← hul] at e6
          have HUL := Lib.hid hul
          subst e6
          have SC := Lib.hid (szLnk_any (.agg #[.int .i64 xf, .int .i64 xo, .int .i64 xt, .int .i64 xi, .slice ua ul uc]) ⟨xf, xo, xt, xi, pc⟩ z wr ⟨_, rfl, HS.out⟩ hz)
          simp only [] at SC
          rw [← hul] at SC
          clear hul
          by_cases hs : (ul : Int) ≤ z
          · rw [if_pos hs] at SC
            have dz : decide (z - (ul : Int) < 0) = false := decide_eq_false (by omega)
            have HSS := Lib.hid hs
            have HZZ := Lib.hid hz
            clear hs hz
            go_wp2_with (go_at_call 111; with_reducible refine SC.out.mono ?_; rintro e w2 ⟨rfl, hb1⟩; have HB1 := Lib.hid (HB.out.trans (hb1.mono HB.out.size)); clear hb1)
            go_roundw
            case rel => exact ⟨k + 1, z - ul, by omega, by go_num, rfl, by have := HSS.out; have := HZZ.out; omega, Lib.hid (by rw [HSUM.out, HZ.out]; have := HUL.out; omega), HB1⟩
            case measure => simp [intOf]; omega
          · rw [if_neg hs] at SC
            have HSS := Lib.hid hs
            clear hs hz
            go_wp2_with (go_at_call 111; with_reducible refine SC.out.mono ?_; rintro e w2 ⟨rfl, hb1⟩; have HB1 := Lib.hid (HB.out.trans (hb1.mono HB.out.size)); clear hb1)
            go_ret
            have hE : r = -1 := by
              rw [HR.out, if_neg]
              unfold sumL
              have := HSS.out; have := HZ.out; have := HSUM.out; have := HTAKE.out; have := HUL.out; have := HM.out
              omega
            subst hE
            exact ⟨rfl, HB1.out⟩
      · have hE : r = z := by
          have hz1 := HZ.out
          rw [List.take_of_length_le (by rw [← HM.out]; omega)] at hz1
          rw [HR.out, if_pos (by unfold sumL; have := HM.out; omega)]
          unfold sumL
          have := HM.out
          omega
        subst hE
        go_wp2_with fail
        go_ret
        exact ⟨rfl, HB.out⟩

set_option maxHeartbeats 1600000 in
theorem szNet_any (v : Value) (n : Net) (left : Int) (w : World) (h : NetV w v n) (hl : 0 ≤ left ∧ left ≤ 1048576) :
    Calls Try.prog 15 #[v, .int .i64 left] w fun e w' => e = .returned (.int .i64 (if ((szN n : Nat) : Int) ≤ left then left - ((szN n : Nat) : Int) else -1)) ∧ Below w.heap.size w w' := by
  obtain ⟨c, d, rfl, hp, hq⟩ := h
  obtain ⟨ps, ls⟩ := n
  simp only [] at hp hq
  have HP := Lib.hid hp
  have HQ := Lib.hid hq
  have HLL := Lib.hid hl
  clear hp hq
  have hs : szN ⟨ps, ls⟩ = sumP ps + sumL ls := rfl
  obtain ⟨sp, hsp⟩ : ∃ z, z = sumP ps := ⟨_, rfl⟩
  obtain ⟨sl, hsl⟩ : ∃ z, z = sumL ls := ⟨_, rfl⟩
  rw [hs, ← hsp, ← hsl]
  have hb := Lib.hid ((Below.refl w.heap.size w).al (.cells #[c, d] 25))
  have hH := Lib.hid (hp1 w (.cells #[c, d] 25))
  have CP := Lib.hid (szProgramS_any c ps left _ (HP.out.below hb.out) HLL.out)
  rw [← hsp] at CP
  clear hs hsp
  by_cases h1 : (sp : Int) ≤ left
  · rw [if_pos h1] at CP
    have CL := Lib.hid (fun W (hw : Below w.heap.size w W) => szLinkS_any d ls (left - (sp : Int)) W (HQ.out.below hw) (by have := HLL.out; omega))
    simp only [← hsl] at CL
    have d1 : decide (left - (sp : Int) < 0) = false := decide_eq_false (by omega)
    clear hsl
    by_cases h2 : (sl : Int) ≤ left - (sp : Int)
    · simp only [if_pos h2] at CL
      have d2 : decide (left - (sp : Int) - (sl : Int) < 0) = false := decide_eq_false (by omega)
      have hE : (if ((sp + sl : Nat) : Int) ≤ left then left - ((sp + sl : Nat) : Int) else -1) = left - (sp : Int) - (sl : Int) := by rw [if_pos (by omega)]; omega
      rw [hE]
      clear hE h1 h2 hl
      go_enter Try.func15, Try.ntmps15
      go_wp2_with (first | (go_at_call 56; with_reducible refine CP.out.mono ?_; rintro e w2 ⟨rfl, hb1⟩; have HB1 := Lib.hid (hb.out.trans (hb1.mono hb.out.size)); have B := blk_in hH.out hb1; obtain ⟨c0, c1⟩ := cells2 B; clear hb1 B) | (go_at_call 57; with_reducible refine (CL.out _ HB1.out).mono ?_; rintro e w3 ⟨rfl, hb3⟩; have HB3 := Lib.hid (HB1.out.trans (hb3.mono HB1.out.size)); clear hb3))
      go_ret
      exact ⟨rfl, HB3.out⟩
    · simp only [if_neg h2] at CL
      have hE : (if ((sp + sl : Nat) : Int) ≤ left then left - ((sp + sl : Nat) : Int) else -1) = -1 := by rw [if_neg (by omega)]
      rw [hE]
      clear hE h1 h2 hl
      go_enter Try.func15, Try.ntmps15
      go_wp2_with (first | (go_at_call 56; with_reducible refine CP.out.mono ?_; rintro e w2 ⟨rfl, hb1⟩; have HB1 := Lib.hid (hb.out.trans (hb1.mono hb.out.size)); have B := blk_in hH.out hb1; obtain ⟨c0, c1⟩ := cells2 B; clear hb1 B) | (go_at_call 57; with_reducible refine (CL.out _ HB1.out).mono ?_; rintro e w3 ⟨rfl, hb3⟩; have HB3 := Lib.hid (HB1.out.trans (hb3.mono HB1.out.size)); clear hb3))
      go_ret
      exact ⟨rfl, HB3.out⟩
  · rw [if_neg h1] at CP
    have hE : (if ((sp + sl : Nat) : Int) ≤ left then left - ((sp + sl : Nat) : Int) else -1) = -1 := by rw [if_neg (by omega)]
    rw [hE]
    clear hE h1 hl hsl
    go_enter Try.func15, Try.ntmps15
    go_wp2_with (go_at_call 56; with_reducible refine CP.out.mono ?_; rintro e w2 ⟨rfl, hb1⟩; have HB1 := Lib.hid (hb.out.trans (hb1.mono hb.out.size)); clear hb1)
    go_ret
    exact ⟨rfl, HB1.out⟩
end Go.Proofs.Ytjphamgkigekkaa
