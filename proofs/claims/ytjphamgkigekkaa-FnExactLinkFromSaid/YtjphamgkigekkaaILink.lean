/-
  What the program's LinkTo, LinkFrom answer. No statement of the seat is proved here.
-/
import Derived.Test.YtjphamgkigekkaaIdx
namespace Go.Proofs.Ytjphamgkigekkaa
open Go.RowKit

set_option maxRecDepth 100000 in
set_option maxHeartbeats 4000000 in
theorem iatT_any (v : Value) (n : Net) (a b : Int) (w : World) (h : NetV w v n) :
    Calls Try.prog 106 #[v, .func (.func 107) #[] #[], .agg #[.int .i64 a, .int .i64 b]] w fun e w' => e = .returned (.tuple #[.int .i64 (linkIx Lnk.tgt n (a, b)), .bool (linkOk Lnk.tgt n (a, b))]) ∧ Below w.heap.size w w' := by
  obtain ⟨r0, hr0⟩ : ∃ r, r = linkIx Lnk.tgt n (a, b) := ⟨_, rfl⟩
  obtain ⟨r1, hr1⟩ : ∃ r, r = linkOk Lnk.tgt n (a, b) := ⟨_, rfl⟩
  rw [← hr0, ← hr1]
  have CN := Lib.hid (fun (W : World) (hw : Below w.heap.size w W) => iisnet_any v n W (h.below hw))
  obtain ⟨c, d, rfl, hp, hl⟩ := h
  have CX := Lib.hid (fun (W : World) (hw : Below w.heap.size w W) => iindexT_any d n.links a b W (hl.below hw))
  obtain ⟨la, lcap, rfl⟩ := hl.shape
  obtain ⟨pa, pcap, rfl⟩ := hp.shape
  obtain ⟨m, hm⟩ : ∃ m, m = n.progs.length := ⟨_, rfl⟩
  obtain ⟨ll, hll⟩ : ∃ m, m = n.links.length := ⟨_, rfl⟩
  rw [← hm, ← hll] at CN ⊢
  rw [← hll] at CX
  clear hp hl hm hll
  have hb := Lib.hid (((Below.refl w.heap.size w).al (.cells #[.slice pa m pcap, .slice la ll lcap] 34)).al (.cells #[.int .i64 a, .int .i64 b] 119))
  have hH0 := Lib.hid (hp21 w (.cells #[.slice pa m pcap, .slice la ll lcap] 34) (.cells #[.int .i64 a, .int .i64 b] 119))
  have hH2 := Lib.hid (hp2 w (.cells #[.slice pa m pcap, .slice la ll lcap] 34) (.cells #[.int .i64 a, .int .i64 b] 119))
  cases ho : okN n with
  | false =>
    rw [ho] at CN
    have e1 := Lib.hid (hr1.trans (linkOk_bad (g := Lnk.tgt) (e := (a, b)) ho))
    have e0 := Lib.hid (hr0.trans (linkIx_no (g := Lnk.tgt) (e := (a, b)) (linkOk_bad ho)))
    clear ho hr0 hr1
    go_enter Try.func106, Try.ntmps106
    go_wp2_with (go_at_call 73; with_reducible refine (CN.out _ hb.out).mono ?_; rintro e w2 ⟨rfl, hb1⟩; have HB1 := Lib.hid (hb.out.trans (hb1.mono hb.out.size)); clear hb1)
    go_ret2
    obtain rfl := e1.out
    obtain rfl := e0.out
    exact ⟨rfl, HB1.out⟩
  | true =>
    rw [ho] at CN
    have CO := Lib.hid (fun W => iout_any a b W)
    by_cases hq : ((a, b) : End) = outE
    · rw [decide_eq_true hq] at CO
      have e1 := Lib.hid (hr1.trans (linkOk_out (g := Lnk.tgt) (n := n) hq))
      have e0 := Lib.hid (hr0.trans (linkIx_no (linkOk_out (g := Lnk.tgt) (n := n) hq)))
      clear ho hr0 hr1 hq
      go_enter Try.func106, Try.ntmps106
      go_wp2_with (first | (go_at_call 145; with_reducible refine (CO.out _).mono ?_; rintro e w3 ⟨rfl, hb2⟩; have HB2 := Lib.hid (HB1.out.trans (hb2.mono HB1.out.size)); have J0 := Lib.hid (blk_in K0.out hb2); have J2 := Lib.hid (blk_in K2.out hb2); clear c20 c21 k0 k1 gl gl0; obtain ⟨k0, k1⟩ := cells2 J0.out; obtain ⟨c20, c21⟩ := cells2 J2.out; have gl0 := lt_of J0.out; have gl := lt_of J2.out; clear hb2) | (go_at_call 73; with_reducible refine (CN.out _ hb.out).mono ?_; rintro e w2 ⟨rfl, hb1⟩; have HB1 := Lib.hid (hb.out.trans (hb1.mono hb.out.size)); have K0 := Lib.hid (blk_in hH0.out hb1); have K2 := Lib.hid (blk_in hH2.out hb1); obtain ⟨k0, k1⟩ := cells2 K0.out; obtain ⟨c20, c21⟩ := cells2 K2.out; have gl0 := lt_of K0.out; have gl := lt_of K2.out; clear hb1))
      go_ret2
      obtain rfl := e1.out
      obtain rfl := e0.out
      exact ⟨rfl, HB2.out⟩
    · rw [decide_eq_false hq] at CO
      by_cases hm : ((a, b) : End) ∈ n.links.map Lnk.tgt
      · have e1 := Lib.hid (hr1.trans (linkOk_yes ho hq hm))
        have e0 := Lib.hid (hr0.trans (linkIx_yes (linkOk_yes ho hq hm)))
        obtain ⟨q, hqq⟩ : ∃ q, q = (n.links.map Lnk.tgt).idxOf (a, b) := ⟨_, rfl⟩
        have hi : idxE Lnk.tgt n.links (a, b) = (q : Int) := by unfold idxE; rw [if_pos hm, hqq]
        rw [← hqq] at e0
        rw [hi] at CX
        have dq : ((q : Int) == -1) = false := by rw [beq_eq_false_iff_ne]; omega
        clear ho hr0 hr1 hq hm hqq hi
        go_enter Try.func106, Try.ntmps106
        go_wp2_with (first | (go_at_call 144; with_reducible refine (CX.out _ HB2.out).mono ?_; rintro e w4 ⟨rfl, hb4⟩; have HB4 := Lib.hid (HB2.out.trans (hb4.mono HB2.out.size)); clear hb4) | (go_at_call 145; with_reducible refine (CO.out _).mono ?_; rintro e w3 ⟨rfl, hb2⟩; have HB2 := Lib.hid (HB1.out.trans (hb2.mono HB1.out.size)); have J0 := Lib.hid (blk_in K0.out hb2); have J2 := Lib.hid (blk_in K2.out hb2); clear c20 c21 k0 k1 gl gl0; obtain ⟨k0, k1⟩ := cells2 J0.out; obtain ⟨c20, c21⟩ := cells2 J2.out; have gl0 := lt_of J0.out; have gl := lt_of J2.out; clear hb2) | (go_at_call 73; with_reducible refine (CN.out _ hb.out).mono ?_; rintro e w2 ⟨rfl, hb1⟩; have HB1 := Lib.hid (hb.out.trans (hb1.mono hb.out.size)); have K0 := Lib.hid (blk_in hH0.out hb1); have K2 := Lib.hid (blk_in hH2.out hb1); obtain ⟨k0, k1⟩ := cells2 K0.out; obtain ⟨c20, c21⟩ := cells2 K2.out; have gl0 := lt_of K0.out; have gl := lt_of K2.out; clear hb1))
        go_ret2
        obtain rfl := e1.out
        obtain rfl := e0.out
        exact ⟨rfl, HB4.out⟩
      · have e1 := Lib.hid (hr1.trans (linkOk_not (g := Lnk.tgt) hm))
        have e0 := Lib.hid (hr0.trans (linkIx_no (linkOk_not (g := Lnk.tgt) hm)))
        have hi : idxE Lnk.tgt n.links (a, b) = -1 := idxE_none hm
        rw [hi] at CX
        clear ho hr0 hr1 hq hm hi
        go_enter Try.func106, Try.ntmps106
        go_wp2_with (first | (go_at_call 144; with_reducible refine (CX.out _ HB2.out).mono ?_; rintro e w4 ⟨rfl, hb4⟩; have HB4 := Lib.hid (HB2.out.trans (hb4.mono HB2.out.size)); clear hb4) | (go_at_call 145; with_reducible refine (CO.out _).mono ?_; rintro e w3 ⟨rfl, hb2⟩; have HB2 := Lib.hid (HB1.out.trans (hb2.mono HB1.out.size)); have J0 := Lib.hid (blk_in K0.out hb2); have J2 := Lib.hid (blk_in K2.out hb2); clear c20 c21 k0 k1 gl gl0; obtain ⟨k0, k1⟩ := cells2 J0.out; obtain ⟨c20, c21⟩ := cells2 J2.out; have gl0 := lt_of J0.out; have gl := lt_of J2.out; clear hb2) | (go_at_call 73; with_reducible refine (CN.out _ hb.out).mono ?_; rintro e w2 ⟨rfl, hb1⟩; have HB1 := Lib.hid (hb.out.trans (hb1.mono hb.out.size)); have K0 := Lib.hid (blk_in hH0.out hb1); have K2 := Lib.hid (blk_in hH2.out hb1); obtain ⟨k0, k1⟩ := cells2 K0.out; obtain ⟨c20, c21⟩ := cells2 K2.out; have gl0 := lt_of K0.out; have gl := lt_of K2.out; clear hb1))
        go_ret2
        obtain rfl := e1.out
        obtain rfl := e0.out
        exact ⟨rfl, HB4.out⟩

set_option maxRecDepth 100000 in
set_option maxHeartbeats 1600000 in
theorem ilinkTo_any (v : Value) (n : Net) (p j : Int) (w : World) (h : NetV w v n) :
    Calls Try.prog 53 #[v, .int .i64 p, .int .i64 j] w fun e w' => e = .returned (.tuple #[.int .i64 (linkToR0 n p j), .bool (linkToR1 n p j)]) ∧ Below w.heap.size w w' := by
  have CA := Lib.hid (fun (W : World) (hw : Below w.heap.size w W) => (show Calls Try.prog 106 #[v, .func (.func 107) #[] #[], .agg #[.int .i64 p, .int .i64 j]] W fun e w' => e = .returned (.tuple #[.int .i64 (linkToR0 n p j), .bool (linkToR1 n p j)]) ∧ Below W.heap.size W w' from iatT_any v n p j W (h.below hw)))
  obtain ⟨r0, hr0⟩ : ∃ r, r = linkToR0 n p j := ⟨_, rfl⟩
  obtain ⟨r1, hr1⟩ : ∃ r, r = linkToR1 n p j := ⟨_, rfl⟩
  rw [← hr0, ← hr1] at CA ⊢
  clear hr0 hr1
  obtain ⟨c, d, rfl, hp, hl⟩ := h
  obtain ⟨la, lcap, rfl⟩ := hl.shape
  obtain ⟨pa, pcap, rfl⟩ := hp.shape
  obtain ⟨m, hm⟩ : ∃ m, m = n.progs.length := ⟨_, rfl⟩
  obtain ⟨ll, hll⟩ : ∃ m, m = n.links.length := ⟨_, rfl⟩
  rw [← hm, ← hll] at CA ⊢
  clear hp hl hm hll
  have hb := Lib.hid ((Below.refl w.heap.size w).al (.cells #[.slice pa m pcap, .slice la ll lcap] 34))
  go_enter Try.func53, Try.ntmps53
  go_wp2_with (go_at_call 106; with_reducible refine (CA.out _ hb.out).mono ?_; rintro e w2 ⟨rfl, hb1⟩; have HB1 := Lib.hid (hb.out.trans (hb1.mono hb.out.size)); clear hb1)
  go_ret2
  exact ⟨rfl, HB1.out⟩


set_option maxRecDepth 100000 in
set_option maxHeartbeats 4000000 in
theorem iatS_any (v : Value) (n : Net) (a b : Int) (w : World) (h : NetV w v n) :
    Calls Try.prog 106 #[v, .func (.func 109) #[] #[], .agg #[.int .i64 a, .int .i64 b]] w fun e w' => e = .returned (.tuple #[.int .i64 (linkIx Lnk.src n (a, b)), .bool (linkOk Lnk.src n (a, b))]) ∧ Below w.heap.size w w' := by
  obtain ⟨r0, hr0⟩ : ∃ r, r = linkIx Lnk.src n (a, b) := ⟨_, rfl⟩
  obtain ⟨r1, hr1⟩ : ∃ r, r = linkOk Lnk.src n (a, b) := ⟨_, rfl⟩
  rw [← hr0, ← hr1]
  have CN := Lib.hid (fun (W : World) (hw : Below w.heap.size w W) => iisnet_any v n W (h.below hw))
  obtain ⟨c, d, rfl, hp, hl⟩ := h
  have CX := Lib.hid (fun (W : World) (hw : Below w.heap.size w W) => iindexS_any d n.links a b W (hl.below hw))
  obtain ⟨la, lcap, rfl⟩ := hl.shape
  obtain ⟨pa, pcap, rfl⟩ := hp.shape
  obtain ⟨m, hm⟩ : ∃ m, m = n.progs.length := ⟨_, rfl⟩
  obtain ⟨ll, hll⟩ : ∃ m, m = n.links.length := ⟨_, rfl⟩
  rw [← hm, ← hll] at CN ⊢
  rw [← hll] at CX
  clear hp hl hm hll
  have hb := Lib.hid (((Below.refl w.heap.size w).al (.cells #[.slice pa m pcap, .slice la ll lcap] 34)).al (.cells #[.int .i64 a, .int .i64 b] 119))
  have hH0 := Lib.hid (hp21 w (.cells #[.slice pa m pcap, .slice la ll lcap] 34) (.cells #[.int .i64 a, .int .i64 b] 119))
  have hH2 := Lib.hid (hp2 w (.cells #[.slice pa m pcap, .slice la ll lcap] 34) (.cells #[.int .i64 a, .int .i64 b] 119))
  cases ho : okN n with
  | false =>
    rw [ho] at CN
    have e1 := Lib.hid (hr1.trans (linkOk_bad (g := Lnk.src) (e := (a, b)) ho))
    have e0 := Lib.hid (hr0.trans (linkIx_no (g := Lnk.src) (e := (a, b)) (linkOk_bad ho)))
    clear ho hr0 hr1
    go_enter Try.func106, Try.ntmps106
    go_wp2_with (go_at_call 73; with_reducible refine (CN.out _ hb.out).mono ?_; rintro e w2 ⟨rfl, hb1⟩; have HB1 := Lib.hid (hb.out.trans (hb1.mono hb.out.size)); clear hb1)
    go_ret2
    obtain rfl := e1.out
    obtain rfl := e0.out
    exact ⟨rfl, HB1.out⟩
  | true =>
    rw [ho] at CN
    have CO := Lib.hid (fun W => iout_any a b W)
    by_cases hq : ((a, b) : End) = outE
    · rw [decide_eq_true hq] at CO
      have e1 := Lib.hid (hr1.trans (linkOk_out (g := Lnk.src) (n := n) hq))
      have e0 := Lib.hid (hr0.trans (linkIx_no (linkOk_out (g := Lnk.src) (n := n) hq)))
      clear ho hr0 hr1 hq
      go_enter Try.func106, Try.ntmps106
      go_wp2_with (first | (go_at_call 145; with_reducible refine (CO.out _).mono ?_; rintro e w3 ⟨rfl, hb2⟩; have HB2 := Lib.hid (HB1.out.trans (hb2.mono HB1.out.size)); have J0 := Lib.hid (blk_in K0.out hb2); have J2 := Lib.hid (blk_in K2.out hb2); clear c20 c21 k0 k1 gl gl0; obtain ⟨k0, k1⟩ := cells2 J0.out; obtain ⟨c20, c21⟩ := cells2 J2.out; have gl0 := lt_of J0.out; have gl := lt_of J2.out; clear hb2) | (go_at_call 73; with_reducible refine (CN.out _ hb.out).mono ?_; rintro e w2 ⟨rfl, hb1⟩; have HB1 := Lib.hid (hb.out.trans (hb1.mono hb.out.size)); have K0 := Lib.hid (blk_in hH0.out hb1); have K2 := Lib.hid (blk_in hH2.out hb1); obtain ⟨k0, k1⟩ := cells2 K0.out; obtain ⟨c20, c21⟩ := cells2 K2.out; have gl0 := lt_of K0.out; have gl := lt_of K2.out; clear hb1))
      go_ret2
      obtain rfl := e1.out
      obtain rfl := e0.out
      exact ⟨rfl, HB2.out⟩
    · rw [decide_eq_false hq] at CO
      by_cases hm : ((a, b) : End) ∈ n.links.map Lnk.src
      · have e1 := Lib.hid (hr1.trans (linkOk_yes ho hq hm))
        have e0 := Lib.hid (hr0.trans (linkIx_yes (linkOk_yes ho hq hm)))
        obtain ⟨q, hqq⟩ : ∃ q, q = (n.links.map Lnk.src).idxOf (a, b) := ⟨_, rfl⟩
        have hi : idxE Lnk.src n.links (a, b) = (q : Int) := by unfold idxE; rw [if_pos hm, hqq]
        rw [← hqq] at e0
        rw [hi] at CX
        have dq : ((q : Int) == -1) = false := by rw [beq_eq_false_iff_ne]; omega
        clear ho hr0 hr1 hq hm hqq hi
        go_enter Try.func106, Try.ntmps106
        go_wp2_with (first | (go_at_call 144; with_reducible refine (CX.out _ HB2.out).mono ?_; rintro e w4 ⟨rfl, hb4⟩; have HB4 := Lib.hid (HB2.out.trans (hb4.mono HB2.out.size)); clear hb4) | (go_at_call 145; with_reducible refine (CO.out _).mono ?_; rintro e w3 ⟨rfl, hb2⟩; have HB2 := Lib.hid (HB1.out.trans (hb2.mono HB1.out.size)); have J0 := Lib.hid (blk_in K0.out hb2); have J2 := Lib.hid (blk_in K2.out hb2); clear c20 c21 k0 k1 gl gl0; obtain ⟨k0, k1⟩ := cells2 J0.out; obtain ⟨c20, c21⟩ := cells2 J2.out; have gl0 := lt_of J0.out; have gl := lt_of J2.out; clear hb2) | (go_at_call 73; with_reducible refine (CN.out _ hb.out).mono ?_; rintro e w2 ⟨rfl, hb1⟩; have HB1 := Lib.hid (hb.out.trans (hb1.mono hb.out.size)); have K0 := Lib.hid (blk_in hH0.out hb1); have K2 := Lib.hid (blk_in hH2.out hb1); obtain ⟨k0, k1⟩ := cells2 K0.out; obtain ⟨c20, c21⟩ := cells2 K2.out; have gl0 := lt_of K0.out; have gl := lt_of K2.out; clear hb1))
        go_ret2
        obtain rfl := e1.out
        obtain rfl := e0.out
        exact ⟨rfl, HB4.out⟩
      · have e1 := Lib.hid (hr1.trans (linkOk_not (g := Lnk.src) hm))
        have e0 := Lib.hid (hr0.trans (linkIx_no (linkOk_not (g := Lnk.src) hm)))
        have hi : idxE Lnk.src n.links (a, b) = -1 := idxE_none hm
        rw [hi] at CX
        clear ho hr0 hr1 hq hm hi
        go_enter Try.func106, Try.ntmps106
        go_wp2_with (first | (go_at_call 144; with_reducible refine (CX.out _ HB2.out).mono ?_; rintro e w4 ⟨rfl, hb4⟩; have HB4 := Lib.hid (HB2.out.trans (hb4.mono HB2.out.size)); clear hb4) | (go_at_call 145; with_reducible refine (CO.out _).mono ?_; rintro e w3 ⟨rfl, hb2⟩; have HB2 := Lib.hid (HB1.out.trans (hb2.mono HB1.out.size)); have J0 := Lib.hid (blk_in K0.out hb2); have J2 := Lib.hid (blk_in K2.out hb2); clear c20 c21 k0 k1 gl gl0; obtain ⟨k0, k1⟩ := cells2 J0.out; obtain ⟨c20, c21⟩ := cells2 J2.out; have gl0 := lt_of J0.out; have gl := lt_of J2.out; clear hb2) | (go_at_call 73; with_reducible refine (CN.out _ hb.out).mono ?_; rintro e w2 ⟨rfl, hb1⟩; have HB1 := Lib.hid (hb.out.trans (hb1.mono hb.out.size)); have K0 := Lib.hid (blk_in hH0.out hb1); have K2 := Lib.hid (blk_in hH2.out hb1); obtain ⟨k0, k1⟩ := cells2 K0.out; obtain ⟨c20, c21⟩ := cells2 K2.out; have gl0 := lt_of K0.out; have gl := lt_of K2.out; clear hb1))
        go_ret2
        obtain rfl := e1.out
        obtain rfl := e0.out
        exact ⟨rfl, HB4.out⟩

set_option maxRecDepth 100000 in
set_option maxHeartbeats 1600000 in
theorem ilinkFrom_any (v : Value) (n : Net) (p j : Int) (w : World) (h : NetV w v n) :
    Calls Try.prog 55 #[v, .int .i64 p, .int .i64 j] w fun e w' => e = .returned (.tuple #[.int .i64 (linkFromR0 n p j), .bool (linkFromR1 n p j)]) ∧ Below w.heap.size w w' := by
  have CA := Lib.hid (fun (W : World) (hw : Below w.heap.size w W) => (show Calls Try.prog 106 #[v, .func (.func 109) #[] #[], .agg #[.int .i64 p, .int .i64 j]] W fun e w' => e = .returned (.tuple #[.int .i64 (linkFromR0 n p j), .bool (linkFromR1 n p j)]) ∧ Below W.heap.size W w' from iatS_any v n p j W (h.below hw)))
  obtain ⟨r0, hr0⟩ : ∃ r, r = linkFromR0 n p j := ⟨_, rfl⟩
  obtain ⟨r1, hr1⟩ : ∃ r, r = linkFromR1 n p j := ⟨_, rfl⟩
  rw [← hr0, ← hr1] at CA ⊢
  clear hr0 hr1
  obtain ⟨c, d, rfl, hp, hl⟩ := h
  obtain ⟨la, lcap, rfl⟩ := hl.shape
  obtain ⟨pa, pcap, rfl⟩ := hp.shape
  obtain ⟨m, hm⟩ : ∃ m, m = n.progs.length := ⟨_, rfl⟩
  obtain ⟨ll, hll⟩ : ∃ m, m = n.links.length := ⟨_, rfl⟩
  rw [← hm, ← hll] at CA ⊢
  clear hp hl hm hll
  have hb := Lib.hid ((Below.refl w.heap.size w).al (.cells #[.slice pa m pcap, .slice la ll lcap] 34))
  go_enter Try.func55, Try.ntmps55
  go_wp2_with (go_at_call 106; with_reducible refine (CA.out _ hb.out).mono ?_; rintro e w2 ⟨rfl, hb1⟩; have HB1 := Lib.hid (hb.out.trans (hb1.mono hb.out.size)); clear hb1)
  go_ret2
  exact ⟨rfl, HB1.out⟩
end Go.Proofs.Ytjphamgkigekkaa
