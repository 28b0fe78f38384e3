/-
  What RunProcess answers, the program's and the model's, refusals too. No statement of the seat is proved here.
-/
import Derived.Test.YtfjmebggghkehaaRunA
import Derived.Test.YtfjmebggghkehaaRunM
import Derived.Test.YtfjmebggghkehaaLawKit
namespace Go.Proofs.Ytfjmebggghkehaa
open Go.RowKit

def runR0 (p : Prg) (inp : List (List Int)) (f : Int) : List (List Int) := if runOk p inp f then (runOf p inp f).1.outs else []
def runR1 (p : Prg) (inp : List (List Int)) (f : Int) : List Int := if runOk p inp f then (runOf p inp f).1.used else []
theorem runS_good {p : Prg} {inp : List (List Int)} (hp : okP p = true) (hi : ∀ xs ∈ inp, isS xs = true) : ∀ (n : Nat) (st : St), GoodS p inp st → GoodS p inp (runS p.code inp n st).1
  | 0, st, h => by unfold runS; exact h
  | n + 1, st, h => by
    unfold runS
    by_cases hs : stuckS p.code inp st = true
    · rw [if_pos hs]; exact h
    · rw [if_neg hs]
      obtain ⟨x, hx, hi2, h11, hok, h1, h2⟩ := not_stuck hp (by simpa using hs)
      rw [hi2]
      exact runS_good hp hi n _ (step_good hi h hx hok h1 h2)
theorem runOk_good {p : Prg} {inp : List (List Int)} {f : Int} (h : runOk p inp f = true) : GoodS p inp (runOf p inp f).1 ∧ 0 ≤ p.ins ∧ p.ins ≤ 3 ∧ 0 ≤ p.outs ∧ p.outs ≤ 3 := by
  unfold runOk at h
  rw [Bool.and_eq_true, Bool.and_eq_true] at h
  obtain ⟨⟨h1, h2⟩, h4⟩ := h
  have hP := (okP_parts h1).1
  refine ⟨?_, by omega⟩
  obtain ⟨pi, po, code⟩ := p
  simp only [] at hP h2
  obtain ⟨ni, rfl⟩ : ∃ n : Nat, pi = n := ⟨pi.toNat, by omega⟩
  obtain ⟨no, rfl⟩ : ∃ n : Nat, po = n := ⟨po.toNat, by omega⟩
  exact runS_good h1 (areS_parts h2).2 _ _ (start_good h1)
theorem sumT_le {c : Nat} : ∀ (xss : List (List Int)), (∀ xs ∈ xss, xs.length ≤ c) → sumT xss ≤ c * xss.length
  | [], _ => by simp [sumT]
  | x :: xs, h => by
    have h1 := sumT_le xs (fun y hy => h y (List.mem_cons_of_mem _ hy))
    have h2 := h x (List.mem_cons_self ..)
    unfold sumT at h1 ⊢
    rw [List.map_cons, List.sum_cons, List.length_cons, Nat.mul_add, Nat.mul_one]
    show stR x + _ ≤ _
    unfold stR at h1 ⊢
    omega
theorem runR_bd (p : Prg) (inp : List (List Int)) (f : Int) : (runR0 p inp f).length ≤ 3 ∧ sumT (runR0 p inp f) ≤ 1200 ∧ (runR1 p inp f).length ≤ 3 := by
  unfold runR0 runR1
  cases h : runOk p inp f with
  | false => simp [sumT]
  | true =>
    simp only [if_true]
    obtain ⟨g, a, b, c, d⟩ := runOk_good h
    have h1 := g.outsN
    have h2 := g.usedN
    refine ⟨by omega, ?_, by omega⟩
    have := sumT_le (c := 400) (runOf p inp f).1.outs (fun xs hx => by
      obtain ⟨i, hi⟩ := List.getElem?_of_mem hx
      exact isS_len (g.outs i xs hi))
    omega
theorem fam_hi {lo : Nat} {w : World} {us : List Value} {xss : List (List Int)} (h : Fam lo w us xss) : ∀ x ∈ us, ∀ q, x.ownBlock = some q → q < w.heap.size := by
  intro x hx q e
  obtain ⟨i, hi⟩ := List.getElem?_of_mem hx
  exact ((h.get hi).lt q e).2
theorem OutO.h {lo : Nat} {w : World} {v u : Value} {outs : List (List Int)} {used : List Int} (h : OutO lo w v u outs used) (hl : outs.length ≤ 1000) : OutH lo w.heap.size w v u outs used := by
  obtain ⟨us, B, h1, h2, h3, h4⟩ := h
  have hl2 := h4.len
  simp only [List.length_append, List.length_cons, List.length_nil] at hl2
  exact ⟨us, .inr ⟨B, us.length, us.toArray, h1, h2, lt_of h3, Nat.le_refl _, by unfold maxLen; omega, h3, by simp⟩, h4, fam_hi h4⟩
theorem OutM.h {lo : Nat} {w : World} {v u : Value} {outs : List (List Int)} {used : List Int} (h : OutM lo w v u outs used) : OutH lo w.heap.size w v u outs used := by
  obtain ⟨us, B, cap, cur, h1, h2, h3, h4, h5, h6, h7⟩ := h
  exact ⟨us, .inr ⟨B, cap, cur, h1, h2, lt_of h5, h3, h4, h5, h6⟩, h7, fam_hi h7⟩
theorem runR_no {p : Prg} {inp : List (List Int)} {f : Int} (h : runOk p inp f = false) : runR0 p inp f = [] ∧ runR1 p inp f = [] := by
  unfold runR0 runR1; rw [h]; exact ⟨rfl, rfl⟩
theorem runR_yes {p : Prg} {inp : List (List Int)} {f : Int} (h : runOk p inp f = true) : runR0 p inp f = (runOf p inp f).1.outs ∧ runR1 p inp f = (runOf p inp f).1.used := by
  unfold runR0 runR1; rw [h]; exact ⟨rfl, rfl⟩

theorem irun_h (pv iv : Value) (p : Prg) (inp : List (List Int)) (f : Int) (w : World) (hp : PrgV w pv p) (hi : SlR w iv inp) :
    Calls Try.prog 17 #[pv, iv, .int .i64 f] w fun e w' => ∃ ov uv, e = .returned (.tuple #[ov, uv, .int .i64 (runProcessR2 p inp f), .bool (runOk p inp f)]) ∧ OutH w.heap.size w'.heap.size w' ov uv (runR0 p inp f) (runR1 p inp f) ∧ Below w.heap.size w w' := by
  refine (irun_any pv iv p inp f w hp hi).mono ?_
  rintro e w' ⟨ov, uv, rfl, ho, hb⟩
  refine ⟨ov, uv, rfl, ?_, hb⟩
  have bd := runR_bd p inp f
  unfold OutR at ho
  cases hk : runOk p inp f with
  | true =>
    rw [if_pos hk] at ho
    rw [(runR_yes hk).1, (runR_yes hk).2]
    rw [(runR_yes hk).1] at bd
    exact ho.h (by omega)
  | false =>
    rw [if_neg (by rw [hk]; decide)] at ho
    obtain ⟨rfl, rfl⟩ := ho
    rw [(runR_no hk).1, (runR_no hk).2]
    exact outH_nil _ _ _

set_option maxRecDepth 100000 in
set_option maxHeartbeats 8000000 in
theorem srun_any (pv iv : Value) (p : Prg) (inp : List (List Int)) (f : Int) (w : World) (hp : PrgV w pv p) (hi : SlR w iv inp) :
    Calls Try.prog 39 #[pv, iv, .int .i64 f] w fun e w' => ∃ ov uv, e = .returned (.tuple #[ov, uv, .int .i64 (runProcessR2 p inp f), .bool (runOk p inp f)]) ∧ OutH w.heap.size w'.heap.size w' ov uv (runR0 p inp f) (runR1 p inp f) ∧ Below w.heap.size w w' := by
  obtain ⟨c, rfl, hc⟩ := hp
  have HC := Lib.hid hc
  have HI := Lib.hid hi
  have CL := fun (n : Nat) (hn : n ≤ 3000) (W : World) (ni no : Nat) (hpn : p = ⟨ni, no, p.code⟩) (hok : okP p = true) (hs : areS inp ni = true) (hw : Below w.heap.size w W) => srunl_good (.agg #[.int .i64 p.ins, .int .i64 p.outs, c]) iv ni no p.code inp n W (by rw [← hpn]; exact ⟨c, rfl, hc.below hw⟩) (hi.below hw) (by rw [← hpn]; exact hok) hs hn
  obtain ⟨pi, po, code⟩ := p
  simp only [] at HC hc CL ⊢
  have hb := Lib.hid ((Below.refl w.heap.size w).al (.cells #[.int .i64 pi, .int .i64 po, c] 31))
  have hH := Lib.hid (hp1 w (.cells #[.int .i64 pi, .int .i64 po, c] 31))
  have CP := Lib.hid (fun (W : World) (hw : Below w.heap.size w W) => sisp_any (.agg #[.int .i64 pi, .int .i64 po, c]) ⟨pi, po, code⟩ W ⟨_, rfl, HC.out.below hw⟩)
  have HCL := Lib.hid CL
  clear hc CL
  have refuse : ∀ (W : World), runOk ⟨pi, po, code⟩ inp f = false → Below w.heap.size w W → ∃ ov uv, Ending.returned (.tuple #[.slice none 0 0, .slice none 0 0, .int .i64 0, .bool false]) = .returned (.tuple #[ov, uv, .int .i64 (runProcessR2 ⟨pi, po, code⟩ inp f), .bool (runOk ⟨pi, po, code⟩ inp f)]) ∧ OutH w.heap.size W.heap.size W ov uv (runR0 ⟨pi, po, code⟩ inp f) (runR1 ⟨pi, po, code⟩ inp f) ∧ Below w.heap.size w W := by
    intro W hk hw
    refine ⟨_, _, by rw [runR2_no hk, hk], ?_, hw⟩
    rw [(runR_no hk).1, (runR_no hk).2]
    exact outH_nil _ _ _
  have RF := Lib.hid refuse
  clear refuse
  obtain ⟨a, cap, rfl, hl, hm, hn, hcc⟩ := hi
  have hm' : inp.length ≤ 9223372036854775807 := by unfold maxLen at hm; omega
  clear hm hn
  obtain ⟨m, hmm⟩ : ∃ m, m = inp.length := ⟨_, rfl⟩
  rw [← hmm] at hm' hl ⊢
  have HM := Lib.hid hmm
  obtain ⟨GOAL, hGOAL⟩ : ∃ G : Ending → World → Prop, G = fun e w' => ∃ ov uv, e = .returned (.tuple #[ov, uv, .int .i64 (runProcessR2 ⟨pi, po, code⟩ inp f), .bool (runOk ⟨pi, po, code⟩ inp f)]) ∧ OutH w.heap.size w'.heap.size w' ov uv (runR0 ⟨pi, po, code⟩ inp f) (runR1 ⟨pi, po, code⟩ inp f) ∧ Below w.heap.size w w' := ⟨_, rfl⟩
  rw [← hGOAL]
  have HG := Lib.hid hGOAL
  have RF2 := Lib.hid (fun (W : World) (hk : runOk ⟨pi, po, code⟩ inp f = false) (hw : Below w.heap.size w W) => (show GOAL (.returned (.tuple #[.slice none 0 0, .slice none 0 0, .int .i64 0, .bool false])) W by rw [HG.out]; exact RF.out W hk hw))
  clear hGOAL hmm RF
  cases h1 : okP ⟨pi, po, code⟩ with
  | false =>
    have HK := Lib.hid (runOk_p (inp := inp) (f := f) h1)
    rw [h1] at CP
    clear h1
    go_enter Try.func39, Try.ntmps39
    go_wp2_with (go_at_call 103; with_reducible refine (CP.out _ hb.out).mono ?_; rintro e w2 ⟨rfl, hb1⟩; have HB1 := Lib.hid (hb.out.trans (hb1.mono hb.out.size)); clear hb1)
    exact bodyPost_ret (v := .tuple #[.slice none 0 0, .slice none 0 0, .int .i64 0, .bool false]) (by simp [results, Try.results39, go_sem]) rfl (RF2.out _ HK.out HB1.out)
  | true =>
    have HP := Lib.hid h1
    have hP := (okP_parts h1).1
    simp only [] at hP
    rw [h1] at CP
    clear h1
    by_cases hn : (m : Int) = pi
    case neg =>
      have d0 : ((m : Int) == pi) = false := by simp; exact hn
      have HK := Lib.hid (show runOk ⟨pi, po, code⟩ inp f = false from runOk_s (by unfold areS; rw [← HM.out, decide_eq_false hn]; rfl))
      go_enter Try.func39, Try.ntmps39
      go_wp2_with (go_at_call 103; with_reducible refine (CP.out _ hb.out).mono ?_; rintro e w2 ⟨rfl, hb1⟩; have HB1 := Lib.hid (hb.out.trans (hb1.mono hb.out.size)); have G := blk_in hH.out hb1; obtain ⟨p0, p1, p2⟩ := cells3 G; have lp := lt_of G; clear hb1 G)
      exact bodyPost_ret (v := .tuple #[.slice none 0 0, .slice none 0 0, .int .i64 0, .bool false]) (by simp [results, Try.results39, go_sem]) rfl (RF2.out _ HK.out HB1.out)
    have HN := Lib.hid hn
    subst hn
    by_cases hf : 0 ≤ f ∧ f ≤ 3000
    case neg =>
      have HK := Lib.hid (show runOk ⟨(m : Int), po, code⟩ inp f = false from runOk_f hf)
      have IB := Lib.hid (fun (W : World) => (show Calls Try.prog 104 #[.int .i64 f, .int .i64 0, .int .i64 3000] W fun e w' => e = .returned (.bool false) ∧ W = w' by have q := sin_any f 0 3000 W; rw [show inB 0 3000 f = false from decide_eq_false hf] at q; exact q))
      clear hf
      go_enter Try.func39, Try.ntmps39
      go_wp2_with (first | (go_at_call 104; with_reducible refine (IB.out _).mono ?_; rintro e w2 ⟨rfl, rfl⟩) | (go_at_call 103; with_reducible refine (CP.out _ hb.out).mono ?_; rintro e w2 ⟨rfl, hb1⟩; have HB1 := Lib.hid (hb.out.trans (hb1.mono hb.out.size)); have G := blk_in hH.out hb1; obtain ⟨p0, p1, p2⟩ := cells3 G; have lp := lt_of G; clear hb1 G))
      exact bodyPost_ret (v := .tuple #[.slice none 0 0, .slice none 0 0, .int .i64 0, .bool false]) (by simp [results, Try.results39, go_sem]) rfl (RF2.out _ HK.out HB1.out)
    have IB := Lib.hid (fun (W : World) => (show Calls Try.prog 104 #[.int .i64 f, .int .i64 0, .int .i64 3000] W fun e w' => e = .returned (.bool true) ∧ W = w' by have q := sin_any f 0 3000 W; rw [show inB 0 3000 f = true from decide_eq_true hf] at q; exact q))
    have HF := Lib.hid hf
    clear hf
    go_enter Try.func39, Try.ntmps39
    go_wp2_with (first | (go_at_call 104; with_reducible refine (IB.out _).mono ?_; rintro e w2 ⟨rfl, rfl⟩) | (go_at_call 103; with_reducible refine (CP.out _ hb.out).mono ?_; rintro e W2 ⟨rfl, hb1⟩; have HB1 := Lib.hid (hb.out.trans (hb1.mono hb.out.size)); have HG1 := Lib.hid (blk_in hH.out hb1); obtain ⟨p0, p1, p2⟩ := cells3 HG1.out; have lp := lt_of HG1.out; clear hb1))
    go_loop [33] (fun i => ∃ j : Nat, j ≤ m ∧ i = .int .i64 j ∧ Hid ((inp.take j).all isS = true)) (fun i => m - (intOf i).toNat)
    case atStart => exact ⟨0, Nat.zero_le _, rfl, by simp [Hid]⟩
    case round =>
      obtain ⟨j, hj, rfl, hA⟩ := hrel
      by_cases hlt : j < m
      · rcases hcc with rfl | ⟨b, off, rfl, hbl, hcell⟩
        · exact absurd hlt (by have := HM.out; simp at this; omega)
        · obtain ⟨x, hx⟩ : ∃ x, inp[j]? = some x := ⟨_, List.getElem?_eq_getElem (by rw [← HM.out]; exact hlt)⟩
          obtain ⟨u, hu, hs'⟩ := hcell j x hx
          have HX := Lib.hid hx
          have hu2 := (HB1.out.cell (p := ⟨b, off + j, none⟩) hbl).trans hu
          have hbl2 : b < W2.heap.size := Nat.lt_of_lt_of_le hbl HB1.out.size
          have C := Lib.hid (sstream_any u x _ (hs'.below HB1.out))
          clear hx hcell hs' hu
          cases ht : isS x with
          | true =>
            rw [ht] at C
            go_wp2_with (go_at_call 105; refine C.out.mono ?_; rintro e w' ⟨rfl, rfl⟩)
            go_round
            case rel => exact ⟨j + 1, by omega, by go_num, allS_step HX.out hA.out ht⟩
            case measure => simp [intOf]; omega
          | false =>
            rw [ht] at C
            have HK := Lib.hid (show runOk ⟨(m : Int), po, code⟩ inp f = false from runOk_s (by unfold areS; rw [allS_no HX.out ht]; simp))
            go_wp2_with (go_at_call 105; refine C.out.mono ?_; rintro e w' ⟨rfl, rfl⟩)
            exact bodyPost_ret (v := .tuple #[.slice none 0 0, .slice none 0 0, .int .i64 0, .bool false]) (by simp [results, Try.results39, go_sem]) rfl (RF2.out _ HK.out HB1.out)
      · have hA1 := hA.out
        rw [List.take_of_length_le (by rw [← HM.out]; omega)] at hA1
        have hs : areS inp (m : Int) = true := by unfold areS; rw [hA1, ← HM.out]; simp
        obtain ⟨no, hno⟩ : ∃ n : Nat, po = n := ⟨po.toNat, by omega⟩
        obtain ⟨n, hnf⟩ : ∃ n : Nat, f = n := ⟨f.toNat, by have := HF.out; omega⟩
        have hk : runOk ⟨(m : Int), po, code⟩ inp f = true := by unfold runOk; rw [HP.out, hs, decide_eq_true HF.out]; rfl
        have CL := HCL.out n (by have := HF.out; omega) _ m no (by rw [hno]) HP.out hs HB1.out
        rw [hno] at CL
        have FIN := Lib.hid (fun (W : World) (ov uv : Value) (ho : OutM W2.heap.size W ov uv (runS code inp n (startS m no)).1.outs (runS code inp n (startS m no)).1.used) (hw : Below W2.heap.size W2 W) => (show GOAL (.returned (.tuple #[ov, uv, .int .i64 (runS code inp n (startS m no)).2, .bool true])) W by
          rw [HG.out]
          refine ⟨ov, uv, ?_, ?_, HB1.out.trans (hw.mono HB1.out.size)⟩
          · unfold runProcessR2; rw [if_pos hk, hk]; unfold runOf; rw [hno, hnf]; rfl
          · rw [(runR_yes hk).1, (runR_yes hk).2]; unfold runOf; rw [hno, hnf]; exact (ho.mono HB1.out.size).h))
        have HCL2 := Lib.hid CL
        rw [← HM.out] at HCL2
        obtain ⟨R, hR⟩ : ∃ R, R = runS code inp n (startS m no) := ⟨_, rfl⟩
        rw [← hR] at FIN HCL2
        obtain ⟨pq, hpq⟩ : ∃ z, z = portR code R := ⟨_, rfl⟩
        rw [← hpq] at HCL2
        obtain ⟨wy, hwy⟩ : ∃ z, z = R.2 := ⟨_, rfl⟩
        rw [← hwy] at HCL2 FIN
        subst hno hnf
        clear hR hpq hwy CL hk hs hA hA1 hcc hP HF
        go_wp2_with (go_at_call 106; with_reducible refine HCL2.out.mono ?_; rintro e w8 ⟨ov, uv, rfl, ho, hb8⟩; have F8 := Lib.hid (FIN.out _ ov uv ho hb8); clear ho hb8)
        exact bodyPost_ret (v := .tuple #[ov, uv, .int .i64 wy, .bool true]) (by simp [results, Try.results39, go_sem]) rfl F8.out
theorem srun_w (pv : Value) (p : Prg) (iv : Value) (inp : List (List Int)) (f : Int) (w : World) (hp : PrgV w pv p) (hi : SlR w iv inp) (_ : (Lit.int .i64 f).wf = true) :
    Calls Try.prog 39 #[pv, iv, .int .i64 f] w fun e w' => ∃ ov uv, e = .returned (.tuple #[ov, uv, .int .i64 (runProcessR2 p inp f), .bool (runOk p inp f)]) ∧ OutH w.heap.size w'.heap.size w' ov uv (runR0 p inp f) (runR1 p inp f) ∧ Below w.heap.size w w' := srun_any pv iv p inp f w hp hi
theorem irun_w (pv : Value) (p : Prg) (iv : Value) (inp : List (List Int)) (f : Int) (w : World) (hp : PrgV w pv p) (hi : SlR w iv inp) (_ : (Lit.int .i64 f).wf = true) :
    Calls Try.prog 17 #[pv, iv, .int .i64 f] w fun e w' => ∃ ov uv, e = .returned (.tuple #[ov, uv, .int .i64 (runProcessR2 p inp f), .bool (runOk p inp f)]) ∧ OutH w.heap.size w'.heap.size w' ov uv (runR0 p inp f) (runR1 p inp f) ∧ Below w.heap.size w w' := irun_h pv iv p inp f w hp hi
end Go.Proofs.Ytfjmebggghkehaa
