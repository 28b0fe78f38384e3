/-
  The walk of the law FnSums: it answers true and changes nothing that was there.
-/
import Derived.Test.YthlpgpgfdfnofaaSumsMath
import Derived.Test.YthlpgpgfdfnofaaDraw
namespace Go.Proofs.Ythlpgpgfdfnofaa
open Go.RowKit

theorem cell_own {w : World} {lo : Nat} {a : Option Addr} {c : Nat} {xs : List Int} (h : Own lo w (.slice a xs.length c) xs) {k : Nat} (hk : k < xs.length) :
    ∃ b off, a = some ⟨b, off, none⟩ ∧ w.cell? ⟨b, off + k, none⟩ = some (.int .i64 (xs.getD k 0)) := by
  obtain ⟨a', c', hv, _, _, _, hc⟩ := h.sl
  simp only [Value.slice.injEq, true_and] at hv
  obtain ⟨rfl, rfl⟩ := hv
  rcases hc with rfl | ⟨b, off, ha, _, hc⟩
  · simp at hk
  · exact ⟨b, off, ha, hc k hk⟩
theorem getD_mem {xs : List Int} {k : Nat} (hk : k < xs.length) : xs.getD k 0 ∈ xs := by simp [List.getD, hk]

set_option maxRecDepth 100000 in
set_option maxHeartbeats 3200000 in
theorem fnSums_core (a : Option Addr) (cap : Nat) (bs : List Int) (w : World) (h : Sb w (.slice a bs.length cap) bs) (hs : bs.length ≤ 1048576) :
    Calls Try.prog 5 #[.slice a bs.length cap] w fun e w' => e = .returned (.bool true) ∧ Below w.heap.size w w' := by
  have H := Lib.hid h
  have HS := Lib.hid hs
  obtain ⟨l, hl⟩ : ∃ l, l = bs.length := ⟨_, rfl⟩
  rw [← hl] at H hs ⊢
  clear h hl
  have hB := Below.refl w.heap.size w
  go_enter Try.func5, Try.ntmps5
  go_wp2_with fail
  refine (make_any _ bs 30 _ H.out HS.out (by omega) (by omega)).mono ?_
  rintro e w1 ⟨v, s, rfl, o_v, hls, hts, hb⟩
  have hsS : isS s = true := isS_mk (by omega) (fun x hx => List.all_eq_true.1 hts x hx)
  have HSS := Lib.hid hsS
  clear hsS hts
  replace o_v := o_v.mono hB.size
  replace hB := hB.trans (hb.mono hB.size)
  clear hb
  obtain ⟨va, vc, rfl⟩ := o_v.shape
  go_wp2_with fail
  refine (at_any _ bs 1 _ (H.out.below hB) HS.out (by omega) (by omega)).mono ?_
  rintro e w' ⟨r1, rfl, a1, b1, rfl⟩
  go_wp2_with fail
  have em : ∃ m : Int, m = 1 + r1 % 5 ∧ 1 ≤ m ∧ m ≤ 5 := ⟨_, rfl, by omega, by omega⟩
  obtain ⟨m, hm, hm1, hm5⟩ := em
  simp only [← hm]
  clear hm a1 b1
  refine (isplit_any _ s _ o_v.sl).mono ?_
  rintro e w1 ⟨ev, od, rfl, o_ev, o_od, _, hb⟩
  replace o_v := o_v.below hb
  replace o_ev := o_ev.mono hB.size
  replace o_od := o_od.mono hB.size
  replace hB := hB.trans (hb.mono hB.size)
  clear hb
  rw [(split2 HSS.out).1] at o_ev
  rw [(split2 HSS.out).2] at o_od
  go_wp2_with fail
  refine (iroute_any _ s m _ o_v.sl (WalkArith.wf_i64 (by omega))).mono ?_
  rintro e w1 ⟨one, two, rfl, o_one, o_two, _, hb⟩
  replace o_v := o_v.below hb
  replace o_ev := o_ev.below hb
  replace o_od := o_od.below hb
  replace o_one := o_one.mono hB.size
  replace o_two := o_two.mono hB.size
  replace hB := hB.trans (hb.mono hB.size)
  clear hb
  rw [(route2 HSS.out (show 0 < m by omega)).1] at o_one
  rw [(route2 HSS.out (show 0 < m by omega)).2] at o_two
  have HM1 := Lib.hid (fun x hx => rt_mul (m := m) (s := s) (b := true) x hx)
  have HM2 := Lib.hid (fun x hx => rt_mul (m := m) (s := s) (b := false) x hx)
  have HT1 := Lib.hid (fun x hx => rt_tok (m := m) (s := s) (b := true) HSS.out x hx)
  have HT2 := Lib.hid (fun x hx => rt_tok (m := m) (s := s) (b := false) HSS.out x hx)
  have HLL := Lib.hid (rt_both m s)
  have hl1 := rt_len true m s
  have hl2 := rt_len false m s
  obtain ⟨L1, e1⟩ : ∃ L1, rt true m s = L1 := ⟨_, rfl⟩
  obtain ⟨L2, e2⟩ : ∃ L2, rt false m s = L2 := ⟨_, rfl⟩
  rw [e1] at o_one HM1 HT1 HLL hl1
  rw [e2] at o_two HM2 HT2 HLL hl2
  clear e1 e2
  obtain ⟨oa, oc, rfl⟩ := o_one.shape
  obtain ⟨ta, tc, rfl⟩ := o_two.shape
  go_wp2_with fail
  go_loop [37] (fun i => ∃ k : Nat, k ≤ L1.length ∧ i = .int .i64 k) (fun i => L1.length - (intOf i).toNat)
  case atStart => exact ⟨0, Nat.zero_le _, rfl⟩
  case round =>
  obtain ⟨k, hk, rfl⟩ := hrel
  by_cases hlt : k < L1.length
  · obtain ⟨b, off, rfl, hck⟩ := cell_own o_one hlt
    have hx1 := HT1.out _ (getD_mem hlt)
    have hx2 := HM1.out _ (getD_mem hlt)
    generalize L1.getD k 0 = x at hck hx1 hx2
    have hx3 : x.tmod m = 0 := by simpa [isMul] using hx2
    clear hx2
    go_wp2_with fail
    go_round
    case rel => exact ⟨k + 1, by omega, by go_num⟩
    case measure => simp [intOf]; omega
  clear hk
  go_wp2_with fail
  go_loop [48] (fun i => ∃ k : Nat, k ≤ L2.length ∧ i = .int .i64 k) (fun i => L2.length - (intOf i).toNat)
  case atStart => exact ⟨0, Nat.zero_le _, rfl⟩
  case round =>
  obtain ⟨k2, hk2, rfl⟩ := hrel
  by_cases hlt2 : k2 < L2.length
  · obtain ⟨b, off, rfl, hck⟩ := cell_own o_two hlt2
    have hx1 := HT2.out _ (getD_mem hlt2)
    have hx2 := HM2.out _ (getD_mem hlt2)
    generalize L2.getD k2 0 = x at hck hx1 hx2
    have hx3 : (x.tmod m == 0) = false := hx2
    have hx4 := tmod_abs (show 0 < m by omega) hx1.1 hx1.2
    clear hx2
    go_wp2_with fail
    go_round
    case rel => exact ⟨k2 + 1, by omega, by go_num⟩
    case measure => simp [intOf]; omega
  clear hk2
  have hh := hold4 (K := 3) HSS.out (by omega)
  have hhl := hl_len s 3
  have HH := Lib.hid hh
  clear hh
  go_wp2_with fail
  have C3 := ihold_any _ s ((3 : Nat) : Int) _ o_v.sl (WalkArith.wf_i64 (by omega))
  rw [HH.out.1, HH.out.2, show ((3 : Nat) : Int) = 3 from rfl] at C3
  refine C3.mono ?_
  rintro e w1 ⟨held, rfl, o_held, hb⟩
  replace o_v := o_v.below hb
  replace o_ev := o_ev.below hb
  replace o_od := o_od.below hb
  replace o_one := o_one.below hb
  replace o_two := o_two.below hb
  replace o_held := o_held.mono hB.size
  replace hB := hB.trans (hb.mono hB.size)
  clear hb
  obtain ⟨ha, hc, hv⟩ := o_held.shape
  rw [hhl] at hv
  subst hv
  clear hhl C3 HH
  go_wp2_with fail
  refine (isums_any _ s _ o_v.sl).mono ?_
  rintro e w1 ⟨p1, rfl, o_p1, hb⟩
  replace o_v := o_v.below hb
  replace o_ev := o_ev.below hb
  replace o_od := o_od.below hb
  replace o_one := o_one.below hb
  replace o_two := o_two.below hb
  replace o_held := o_held.below hb
  replace o_p1 := o_p1.mono hB.size
  replace hB := hB.trans (hb.mono hB.size)
  clear hb
  go_wp2_with fail
  refine (isteps_any _ _ _ o_p1.sl).mono ?_
  rintro e w1 ⟨p2, rfl, o_p2, hb⟩
  replace o_v := o_v.below hb
  replace o_ev := o_ev.below hb
  replace o_od := o_od.below hb
  replace o_one := o_one.below hb
  replace o_two := o_two.below hb
  replace o_held := o_held.below hb
  replace o_p1 := o_p1.below hb
  replace o_p2 := o_p2.mono hB.size
  replace hB := hB.trans (hb.mono hB.size)
  clear hb
  rw [steps_sums HSS.out] at o_p2
  go_wp2_with fail
  refine (ints_ok _ _ s _ o_p2.sl o_v.sl).mono ?_
  rintro e w1 ⟨rfl, hb⟩
  replace o_v := o_v.below hb
  replace o_ev := o_ev.below hb
  replace o_od := o_od.below hb
  replace o_one := o_one.below hb
  replace o_two := o_two.below hb
  replace o_held := o_held.below hb
  replace o_p1 := o_p1.below hb
  replace o_p2 := o_p2.below hb
  replace hB := hB.trans (hb.mono hB.size)
  clear hb
  go_wp2_with fail
  refine (isteps_any _ s _ o_v.sl).mono ?_
  rintro e w1 ⟨p3, rfl, o_p3, hb⟩
  replace o_v := o_v.below hb
  replace o_ev := o_ev.below hb
  replace o_od := o_od.below hb
  replace o_one := o_one.below hb
  replace o_two := o_two.below hb
  replace o_held := o_held.below hb
  replace o_p1 := o_p1.below hb
  replace o_p2 := o_p2.below hb
  replace o_p3 := o_p3.mono hB.size
  replace hB := hB.trans (hb.mono hB.size)
  clear hb
  go_wp2_with fail
  refine (isums_any _ _ _ o_p3.sl).mono ?_
  rintro e w1 ⟨p4, rfl, o_p4, hb⟩
  replace o_v := o_v.below hb
  replace o_ev := o_ev.below hb
  replace o_od := o_od.below hb
  replace o_one := o_one.below hb
  replace o_two := o_two.below hb
  replace o_held := o_held.below hb
  replace o_p1 := o_p1.below hb
  replace o_p2 := o_p2.below hb
  replace o_p3 := o_p3.below hb
  replace o_p4 := o_p4.mono hB.size
  replace hB := hB.trans (hb.mono hB.size)
  clear hb
  rw [sums_steps HSS.out] at o_p4
  go_wp2_with fail
  refine (ints_ok _ _ s _ o_p4.sl o_v.sl).mono ?_
  rintro e w1 ⟨rfl, hb⟩
  replace o_v := o_v.below hb
  replace o_ev := o_ev.below hb
  replace o_od := o_od.below hb
  replace o_one := o_one.below hb
  replace o_two := o_two.below hb
  replace o_held := o_held.below hb
  replace o_p1 := o_p1.below hb
  replace o_p2 := o_p2.below hb
  replace o_p3 := o_p3.below hb
  replace o_p4 := o_p4.below hb
  replace hB := hB.trans (hb.mono hB.size)
  clear hb
  go_wp2_with fail
  refine (ialt_any _ _ _ _ _ o_ev.sl o_od.sl).mono ?_
  rintro e w1 ⟨p5, rfl, o_p5, hb⟩
  replace o_v := o_v.below hb
  replace o_ev := o_ev.below hb
  replace o_od := o_od.below hb
  replace o_one := o_one.below hb
  replace o_two := o_two.below hb
  replace o_held := o_held.below hb
  replace o_p1 := o_p1.below hb
  replace o_p2 := o_p2.below hb
  replace o_p3 := o_p3.below hb
  replace o_p4 := o_p4.below hb
  replace o_p5 := o_p5.mono hB.size
  replace hB := hB.trans (hb.mono hB.size)
  clear hb
  rw [split_alt HSS.out] at o_p5
  go_wp2_with fail
  refine (ints_ok _ _ s _ o_p5.sl o_v.sl).mono ?_
  rintro e w1 ⟨rfl, hb⟩
  replace o_v := o_v.below hb
  replace o_ev := o_ev.below hb
  replace o_od := o_od.below hb
  replace o_one := o_one.below hb
  replace o_two := o_two.below hb
  replace o_held := o_held.below hb
  replace o_p1 := o_p1.below hb
  replace o_p2 := o_p2.below hb
  replace o_p3 := o_p3.below hb
  replace o_p4 := o_p4.below hb
  replace o_p5 := o_p5.below hb
  replace hB := hB.trans (hb.mono hB.size)
  clear hb
  have hsum : ((L1.length : Int) + (L2.length : Int) == (s.length : Int)) = true := by have := HLL.out; simp; omega
  go_wp2_with fail
  go_ret
  exact ⟨rfl, hB⟩

set_option maxHeartbeats 400000 in
theorem fnSums_walk {v : Value} {bs : List Int} (w : World) (h : Sb w v bs) :
    Calls Try.prog 5 #[v] w fun e w' => e = .returned (.bool true) ∧ Below w.heap.size w w' := by
  obtain ⟨a, cap, rfl, r⟩ := h
  by_cases hs : bs.length ≤ 1048576
  · exact fnSums_core a cap bs w ⟨a, cap, rfl, r⟩ hs
  · have b0 : bs.length ≤ 9223372036854775807 := by have := r.1; have := r.2.1; unfold maxLen at this; omega
    clear r
    go_enter Try.func5, Try.ntmps5
    go_wp2_with fail
    go_ret
    exact ⟨rfl, Below.refl _ _⟩

end Go.Proofs.Ythlpgpgfdfnofaa
