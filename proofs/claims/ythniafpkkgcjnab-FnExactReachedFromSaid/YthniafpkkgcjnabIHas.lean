/-
  What the program's HasCycle, ReachedFrom answer. No statement of the seat is proved here.
-/
import Derived.Test.YthniafpkkgcjnabIReach
namespace Go.Proofs.Ythniafpkkgcjnab
open Go.RowKit

def metB (ls : List Lnk) (n k : Nat) : Bool := (rnd (k : Int) ls n n).getD k false
theorem metB_mem {ls : List Lnk} {n : Nat} (hok : EndsOk ls n) (k : Nat) : decide ((k : Int) ∈ reachL ls n k) = metB ls n k := by
  unfold metB
  rw [Bool.eq_iff_iff, decide_eq_true_iff, reachL_mem hok, met_iff hok]
theorem any_step {q : Nat → Bool} {k : Nat} (h : (List.range k).any q = false) (hq : q k = false) : (List.range (k + 1)).any q = false := by
  rw [List.range_succ, List.any_append, h]; simp [hq]
theorem any_hit {q : Nat → Bool} {k m : Nat} (hk : k < m) (hq : q k = true) : (List.range m).any q = true := by
  rw [List.any_eq_true]
  exact ⟨k, List.mem_range.2 hk, hq⟩
theorem hasCycle_bad {n : Net} (h : okN n = false) : hasCycleR0 n = false := by unfold hasCycleR0; rw [h]; rfl
theorem hasCycle_ok {n : Net} (h : okN n = true) : hasCycleR0 n = (List.range n.progs.length).any (metB n.links n.progs.length) := by unfold hasCycleR0; rw [h]; rfl

set_option maxRecDepth 100000 in
set_option maxHeartbeats 4000000 in
theorem ihas_any (v : Value) (n : Net) (w : World) (h : NetV w v n) :
    Calls Try.prog 36 #[v] w fun e w' => e = .returned (.bool (hasCycleR0 n)) ∧ Below w.heap.size w w' := by
  have CN := Lib.hid (fun (W : World) (hw : Below w.heap.size w W) => iisnet_any v n W (h.below hw))
  obtain ⟨r, hr⟩ : ∃ r, r = hasCycleR0 n := ⟨_, rfl⟩
  rw [← hr]
  obtain ⟨c, d, rfl, hp, hl⟩ := h
  have HL := Lib.hid hl
  obtain ⟨la, lcap, rfl⟩ := hl.shape
  obtain ⟨pa, pcap, rfl⟩ := hp.shape
  obtain ⟨m, hm⟩ : ∃ m, m = n.progs.length := ⟨_, rfl⟩
  obtain ⟨ll, hll⟩ : ∃ m, m = n.links.length := ⟨_, rfl⟩
  rw [← hm, ← hll] at CN ⊢
  rw [← hll] at HL
  clear hp hl
  have hb := Lib.hid ((Below.refl w.heap.size w).al (.cells #[.slice pa m pcap, .slice la ll lcap] 32))
  have hH := Lib.hid (hp1 w (.cells #[.slice pa m pcap, .slice la ll lcap] 32))
  cases ho : okN n with
  | false =>
    rw [ho] at CN
    have e1 := Lib.hid (hr.trans (hasCycle_bad ho))
    clear ho hr hm hll
    go_enter Try.func36, Try.ntmps36
    go_wp2_with (go_at_call 57; with_reducible refine (CN.out _ hb.out).mono ?_; rintro e w2 ⟨rfl, hb1⟩; have HB1 := Lib.hid (hb.out.trans (hb1.mono hb.out.size)); clear hb1)
    go_ret
    exact ⟨ret_bool e1.out, HB1.out⟩
  | true =>
    rw [ho] at CN
    have HOK := Lib.hid (show EndsOk n.links m by rw [hm]; exact okN_ends ho)
    have HR := Lib.hid (show r = (List.range m).any (metB n.links m) by rw [hm]; exact hr.trans (hasCycle_ok ho))
    have hm12 : m ≤ 12 := by rw [hm]; exact (okN_len ho).1
    have hl30 : n.links.length ≤ 30 := (okN_len ho).2.1
    have HLL := Lib.hid hll
    clear ho hr hm hll
    go_enter Try.func36, Try.ntmps36
    go_wp2_with (go_at_call 57; with_reducible refine (CN.out _ hb.out).mono ?_; rintro e w2 ⟨rfl, hb1⟩; have HB1 := Lib.hid hb1; have G1 := Lib.hid (blk_in hH.out hb1); obtain ⟨k0, k1⟩ := cells2 G1.out; have gl := lt_of G1.out; clear hb1)
    go_loopw [10] (fun i wr => ∃ k : Nat, k ≤ m ∧ i = .int .i64 k ∧ Hid ((List.range k).any (metB n.links m) = false) ∧ Hid (Below (w.heap.size + 1) (w.alloc (.cells #[.slice pa m pcap, .slice la ll lcap] 32)) wr)) (fun i _ => m - (intOf i).toNat)
    case atStart => exact ⟨0, Nat.zero_le _, rfl, Lib.hid (by simp), Lib.hid (by have := HB1.out; rw [al_size] at this; exact this)⟩
    case round =>
      clear k0 k1 gl
      obtain ⟨k, hk, rfl, HA, HW⟩ := hrel
      have HB := Lib.hid (hb.out.trans (HW.out.mono (by omega)))
      by_cases hlt : k < m
      · have G := Lib.hid (blk_in hH.out (HW.out.mono (by simp)))
        obtain ⟨k0, k1⟩ := cells2 G.out
        have gl := lt_of G.out
        have CR := Lib.hid (ireach_any (.slice la ll lcap) n.links m (k : Int) wr (HL.out.below HB.out) hl30 HOK.out hm12 (by omega))
        obtain ⟨rl, hrl⟩ : ∃ z, z = reachL n.links m (k : Int) := ⟨_, rfl⟩
        rw [← hrl] at CR
        cases hd : metB n.links m k with
        | true =>
          have hdm : decide ((k : Int) ∈ rl) = true := by rw [hrl, metB_mem HOK.out]; exact hd
          have CC := Lib.hid (fun (W : World) (v : Value) (h : Sl W v rl) => (show Calls Try.prog 72 #[v, .int .i64 k] W fun e w' => e = .returned (.bool true) ∧ W = w' by have := icont_any v rl k W h; rw [hdm] at this; exact this))
          have HE := Lib.hid (HR.out.trans (any_hit hlt hd))
          clear hd hdm hrl
          go_wp2_with (first | (go_at_call 71; with_reducible refine CR.out.mono ?_; rintro e w3 ⟨rv, rfl, ho3, hb3⟩; have HO3 := Lib.hid ho3; have HB3 := Lib.hid (HB.out.trans (hb3.mono HB.out.size)); clear ho3 hb3) | (go_at_call 72; with_reducible refine (CC.out _ _ HO3.out.sl).mono ?_; rintro e w' ⟨rfl, rfl⟩))
          go_ret
          exact ⟨ret_bool HE.out, HB3.out⟩
        | false =>
          have hdm : decide ((k : Int) ∈ rl) = false := by rw [hrl, metB_mem HOK.out]; exact hd
          have CC := Lib.hid (fun (W : World) (v : Value) (h : Sl W v rl) => (show Calls Try.prog 72 #[v, .int .i64 k] W fun e w' => e = .returned (.bool false) ∧ W = w' by have := icont_any v rl k W h; rw [hdm] at this; exact this))
          have HE := Lib.hid (any_step HA.out hd)
          clear hd hdm hrl
          go_wp2_with (first | (go_at_call 71; with_reducible refine CR.out.mono ?_; rintro e w3 ⟨rv, rfl, ho3, hb3⟩; have HO3 := Lib.hid ho3; have HW3 := Lib.hid (HW.out.trans (hb3.mono (by have := gl; omega))); clear ho3 hb3) | (go_at_call 72; with_reducible refine (CC.out _ _ HO3.out.sl).mono ?_; rintro e w' ⟨rfl, rfl⟩))
          go_roundw
          case rel => exact ⟨k + 1, by omega, by go_num, HE, HW3⟩
          case measure => simp [intOf]; omega
      · have e : k = m := by omega
        subst e
        go_wp2_with fail
        go_ret
        exact ⟨ret_bool (HR.out.trans HA.out), HB.out⟩

set_option maxHeartbeats 800000 in
theorem ispro_any (v : Value) (n : Net) (p : Int) (w : World) (h : NetV w v n) :
    Calls Try.prog 70 #[v, .int .i64 p] w fun e w' => e = .returned (.bool (decide (0 ≤ p ∧ p < (n.progs.length : Int)))) ∧ Below w.heap.size w w' := by
  obtain ⟨c, d, rfl, hp, hl⟩ := h
  have hlen := hp.len
  obtain ⟨pa, pcap, rfl⟩ := hp.shape
  obtain ⟨m, hm⟩ : ∃ m, m = n.progs.length := ⟨_, rfl⟩
  obtain ⟨r, hr⟩ : ∃ r, r = decide (0 ≤ p ∧ p < (n.progs.length : Int)) := ⟨_, rfl⟩
  rw [← hr]
  rw [← hm] at hr hlen ⊢
  have HR := Lib.hid hr
  clear hm hp hl hr
  have hb := Lib.hid ((Below.refl w.heap.size w).al (.cells #[.slice pa m pcap, d] 32))
  by_cases h0 : 0 ≤ p
  · by_cases h1 : p < (m : Int)
    · have hh := Lib.hid (show r = true by rw [HR.out]; exact decide_eq_true ⟨h0, h1⟩)
      go_enter Try.func70, Try.ntmps70
      go_wp2_with fail
      go_ret
      exact ⟨ret_bool (by first | (rw [hh.out]; done) | (rw [hh.out]; simp [h0, h1]; done) | simp_all), hb.out⟩
    · have hh := Lib.hid (show r = false by rw [HR.out]; exact decide_eq_false (fun q => h1 q.2))
      go_enter Try.func70, Try.ntmps70
      go_wp2_with fail
      go_ret
      exact ⟨ret_bool (by first | (rw [hh.out]; done) | (rw [hh.out]; simp [h1]; done) | simp_all), hb.out⟩
  · have hh := Lib.hid (show r = false by rw [HR.out]; exact decide_eq_false (fun q => h0 q.1))
    go_enter Try.func70, Try.ntmps70
    go_wp2_with fail
    go_ret
    exact ⟨ret_bool (by first | (rw [hh.out]; done) | (rw [hh.out]; simp [h0]; done) | simp_all), hb.out⟩

theorem reached_no {n : Net} {p : Int} (h : reachedFromR1 n p = false) : reachedFromR0 n p = [] := by unfold reachedFromR0; rw [h]; rfl
theorem reached_yes {n : Net} {p : Int} (h : reachedFromR1 n p = true) : reachedFromR0 n p = reachL n.links n.progs.length p := by unfold reachedFromR0; rw [h]; rfl
set_option maxRecDepth 100000 in
set_option maxHeartbeats 4000000 in
theorem ireachedFrom_any (v : Value) (n : Net) (p : Int) (w : World) (h : NetV w v n) :
    Calls Try.prog 33 #[v, .int .i64 p] w fun e w' => ∃ r, e = .returned (.tuple #[r, .bool (reachedFromR1 n p)]) ∧ Own w.heap.size w' r (reachedFromR0 n p) ∧ Below w.heap.size w w' := by
  have CN := Lib.hid (fun (W : World) (hw : Below w.heap.size w W) => iisnet_any v n W (h.below hw))
  have CP := Lib.hid (fun (W : World) (hw : Below w.heap.size w W) => ispro_any v n p W (h.below hw))
  obtain ⟨r0, hr0⟩ : ∃ r, r = reachedFromR0 n p := ⟨_, rfl⟩
  obtain ⟨r1, hr1⟩ : ∃ r, r = reachedFromR1 n p := ⟨_, rfl⟩
  rw [← hr0, ← hr1]
  obtain ⟨c, d, rfl, hp, hl⟩ := h
  have HL := Lib.hid hl
  obtain ⟨la, lcap, rfl⟩ := hl.shape
  obtain ⟨pa, pcap, rfl⟩ := hp.shape
  obtain ⟨m, hm⟩ : ∃ m, m = n.progs.length := ⟨_, rfl⟩
  obtain ⟨ll, hll⟩ : ∃ m, m = n.links.length := ⟨_, rfl⟩
  rw [← hm, ← hll] at CN CP ⊢
  rw [← hll] at HL
  clear hp hl
  have hb := Lib.hid ((Below.refl w.heap.size w).al (.cells #[.slice pa m pcap, .slice la ll lcap] 32))
  have hH := Lib.hid (hp1 w (.cells #[.slice pa m pcap, .slice la ll lcap] 32))
  cases ho : okN n with
  | false =>
    rw [ho] at CN
    have q1 : reachedFromR1 n p = false := by unfold reachedFromR1; rw [ho]; rfl
    have e1 := Lib.hid (hr1.trans q1)
    have e0 := Lib.hid (hr0.trans (reached_no q1))
    clear ho hr0 hr1 hm hll q1
    go_enter Try.func33, Try.ntmps33
    go_wp2_with (go_at_call 57; with_reducible refine (CN.out _ hb.out).mono ?_; rintro e w2 ⟨rfl, hb1⟩; have HB1 := Lib.hid (hb.out.trans (hb1.mono hb.out.size)); clear hb1)
    go_ret2
    obtain rfl := e1.out
    obtain rfl := e0.out
    exact ⟨_, rfl, own_nil _ _, HB1.out⟩
  | true =>
    rw [ho] at CN
    cases hq : decide (0 ≤ p ∧ p < (m : Int)) with
    | false =>
      rw [hq] at CP
      have q1 : reachedFromR1 n p = false := by unfold reachedFromR1; rw [ho, ← hm, hq]; rfl
      have e1 := Lib.hid (hr1.trans q1)
      have e0 := Lib.hid (hr0.trans (reached_no q1))
      clear ho hr0 hr1 hm hll q1 hq
      go_enter Try.func33, Try.ntmps33
      go_wp2_with (first | (go_at_call 70; with_reducible refine (CP.out _ HB1.out).mono ?_; rintro e w3 ⟨rfl, hb2⟩; have HB2 := Lib.hid (HB1.out.trans (hb2.mono HB1.out.size)); have hg2 := blk_in G1.out hb2; clear k0 k1 gl; obtain ⟨k0, k1⟩ := cells2 hg2; have gl := lt_of hg2; clear hb2 hg2) | (go_at_call 57; with_reducible refine (CN.out _ hb.out).mono ?_; rintro e w2 ⟨rfl, hb1⟩; have HB1 := Lib.hid (hb.out.trans (hb1.mono hb.out.size)); have G1 := Lib.hid (blk_in hH.out hb1); obtain ⟨k0, k1⟩ := cells2 G1.out; have gl := lt_of G1.out; clear hb1))
      go_ret2
      obtain rfl := e1.out
      obtain rfl := e0.out
      exact ⟨_, rfl, own_nil _ _, HB2.out⟩
    | true =>
      rw [hq] at CP
      have q1 : reachedFromR1 n p = true := by unfold reachedFromR1; rw [ho, ← hm, hq]; rfl
      have e1 := Lib.hid (hr1.trans q1)
      have e0 := Lib.hid (show reachL n.links m p = r0 by rw [hm]; exact (hr0.trans (reached_yes q1)).symm)
      have hp0 := of_decide_eq_true hq
      have hok : EndsOk n.links m := by rw [hm]; exact okN_ends ho
      have hm12 : m ≤ 12 := by rw [hm]; exact (okN_len ho).1
      have hl30 : n.links.length ≤ 30 := (okN_len ho).2.1
      have CR := Lib.hid (fun (W : World) (hw : Below w.heap.size w W) => (show Calls Try.prog 71 #[.slice la ll lcap, .int .i64 p] W fun e w' => ∃ r, e = .returned r ∧ Own W.heap.size w' r r0 ∧ Below W.heap.size W w' by rw [← e0.out]; exact ireach_any (.slice la ll lcap) n.links m p W (HL.out.below hw) hl30 hok hm12 hp0.1))
      clear ho hr0 hr1 hm hll q1 hq hok hp0 e0
      go_enter Try.func33, Try.ntmps33
      go_wp2_with (first | (go_at_call 70; with_reducible refine (CP.out _ HB1.out).mono ?_; rintro e w3 ⟨rfl, hb2⟩; have HB2 := Lib.hid (HB1.out.trans (hb2.mono HB1.out.size)); have hg2 := blk_in G1.out hb2; clear k0 k1 gl; obtain ⟨k0, k1⟩ := cells2 hg2; have gl := lt_of hg2; clear hb2 hg2) | (go_at_call 57; with_reducible refine (CN.out _ hb.out).mono ?_; rintro e w2 ⟨rfl, hb1⟩; have HB1 := Lib.hid (hb.out.trans (hb1.mono hb.out.size)); have G1 := Lib.hid (blk_in hH.out hb1); obtain ⟨k0, k1⟩ := cells2 G1.out; have gl := lt_of G1.out; clear hb1) | (go_at_call 71; with_reducible refine (CR.out _ HB2.out).mono ?_; rintro e w4 ⟨rv, rfl, ho4, hb4⟩; have HO4 := Lib.hid (Own.mono (lo' := w.heap.size) ho4 HB2.out.size); have HB4 := Lib.hid (HB2.out.trans (hb4.mono HB2.out.size)); clear ho4 hb4))
      go_ret2
      obtain rfl := e1.out
      exact ⟨_, rfl, HO4.out, HB4.out⟩
end Go.Proofs.Ythniafpkkgcjnab
