/-
  What the model's l3Has, LinkTo, LinkFrom answer. No statement of the seat is proved here.
-/
import Derived.Test.YtjphamgkigekkaaSNet3
import Derived.Test.YtjphamgkigekkaaLinkM
namespace Go.Proofs.Ytjphamgkigekkaa
open Go.RowKit

def hasP (n : Net) (p : Int) : Bool := decide (0 ≤ p ∧ p < (n.progs.length : Int))
set_option maxHeartbeats 800000 in
theorem shas_any (v : Value) (n : Net) (p : Int) (w : World) (h : NetV w v n) :
    Calls Try.prog 97 #[v, .int .i64 p] w fun e w' => e = .returned (.bool (hasP n p)) ∧ Below w.heap.size w w' := by
  obtain ⟨c, d, rfl, hp, hl⟩ := h
  have hlen := hp.len
  obtain ⟨pa, pcap, rfl⟩ := hp.shape
  obtain ⟨m, hm⟩ : ∃ m, m = n.progs.length := ⟨_, rfl⟩
  have HR := Lib.hid (show hasP n p = decide (0 ≤ p ∧ p < (m : Int)) by rw [hm]; rfl)
  rw [← hm] at hlen ⊢
  clear hm hp hl
  obtain ⟨r, hr⟩ : ∃ r, r = hasP n p := ⟨_, rfl⟩
  rw [← hr] at HR ⊢
  clear hr
  have hb := Lib.hid ((Below.refl w.heap.size w).al (.cells #[.slice pa m pcap, d] 34))
  by_cases h0 : 0 ≤ p
  · by_cases h1 : p < (m : Int)
    · have hh := Lib.hid (show r = true by rw [HR.out]; exact decide_eq_true ⟨h0, h1⟩)
      have d0 : decide (p ≥ 0) = true := decide_eq_true h0
      go_enter Try.func97, Try.ntmps97
      go_wp2_with fail
      go_ret
      exact ⟨ret_bool (by first | (rw [hh.out]; done) | (rw [hh.out]; simp [h1]; done) | simp_all), hb.out⟩
    · have hh := Lib.hid (show r = false by rw [HR.out]; exact decide_eq_false (fun q => h1 q.2))
      have d0 : decide (p ≥ 0) = true := decide_eq_true h0
      go_enter Try.func97, Try.ntmps97
      go_wp2_with fail
      go_ret
      exact ⟨ret_bool (by first | (rw [hh.out]; done) | (rw [hh.out]; simp [h1]; done) | simp_all), hb.out⟩
  · have hh := Lib.hid (show r = false by rw [HR.out]; exact decide_eq_false (fun q => h0 q.1))
    have d0 : decide (p ≥ 0) = false := decide_eq_false h0
    go_enter Try.func97, Try.ntmps97
    go_wp2_with fail
    go_ret
    exact ⟨ret_bool (by first | (rw [hh.out]; done) | (rw [hh.out]; simp [h0]; done) | simp_all), hb.out⟩

set_option maxRecDepth 100000 in
set_option maxHeartbeats 4000000 in
theorem slinkTo_any (v : Value) (n : Net) (p j : Int) (w : World) (h : NetV w v n) :
    Calls Try.prog 52 #[v, .int .i64 p, .int .i64 j] w fun e w' => e = .returned (.tuple #[.int .i64 (linkToR0 n p j), .bool (linkToR1 n p j)]) ∧ Below w.heap.size w w' := by
  obtain ⟨r0, hr0⟩ : ∃ r, r = linkToR0 n p j := ⟨_, rfl⟩
  obtain ⟨r1, hr1⟩ : ∃ r, r = linkToR1 n p j := ⟨_, rfl⟩
  rw [← hr0, ← hr1]
  have HV := Lib.hid h
  have CN := Lib.hid (fun (W : World) (hw : Below w.heap.size w W) => sisnet_any v n W (h.below hw))
  have CH := Lib.hid (fun (W : World) (hw : Below w.heap.size w W) => shas_any v n p W (h.below hw))
  have CL := Lib.hid (fun (W : World) (hw : Below w.heap.size w W) => sto_any v n p j W (h.below hw))
  obtain ⟨c, d, rfl, hp, hl⟩ := h
  have HP := Lib.hid hp
  obtain ⟨pa, pcap, rfl⟩ := hp.shape
  obtain ⟨m, hm⟩ : ∃ m, m = n.progs.length := ⟨_, rfl⟩
  rw [← hm] at HV CN CH CL HP ⊢
  have HM := Lib.hid hm
  clear hm hp hl
  have hb := Lib.hid ((Below.refl w.heap.size w).al (.cells #[.slice pa m pcap, d] 34))
  have hH := Lib.hid (hp1 w (.cells #[.slice pa m pcap, d] 34))
  cases ho : okN n with
  | false =>
    rw [ho] at CN
    have e1 := Lib.hid (hr1.trans (linkOk_bad (g := Lnk.tgt) (e := (p, j)) ho))
    have e0 := Lib.hid (hr0.trans (linkIx_no (g := Lnk.tgt) (e := (p, j)) (linkOk_bad ho)))
    clear ho hr0 hr1
    go_enter Try.func52, Try.ntmps52
    go_wp2_with (go_at_call 70; with_reducible refine (CN.out _ hb.out).mono ?_; rintro e w2 ⟨rfl, hb1⟩; have HB1 := Lib.hid (hb.out.trans (hb1.mono hb.out.size)); clear hb1)
    go_ret2
    obtain rfl := e1.out
    obtain rfl := e0.out
    exact ⟨rfl, HB1.out⟩
  | true =>
    rw [ho] at CN
    cases hh : hasP n p with
    | false =>
      rw [hh] at CH
      have hno : (p, j) ∉ ports Prg.ins n.progs := fun he => by obtain ⟨i, x, h1, h2, _⟩ := mem_ports.1 he; have := (List.getElem?_eq_some_iff.1 h1).1; unfold hasP at hh; rw [decide_eq_false_iff_not] at hh; simp only [] at h2; omega
      have e1 := Lib.hid (hr1.trans (noport_to ho hno))
      have e0 := Lib.hid (hr0.trans (linkIx_no (noport_to ho hno)))
      clear ho hr0 hr1 hh hno
      go_enter Try.func52, Try.ntmps52
      go_wp2_with (first | (go_at_call 97; with_reducible refine (CH.out _ HB1.out).mono ?_; rintro e w3 ⟨rfl, hb2⟩; have HB2 := Lib.hid (HB1.out.trans (hb2.mono HB1.out.size)); clear hb2) | (go_at_call 70; with_reducible refine (CN.out _ hb.out).mono ?_; rintro e w2 ⟨rfl, hb1⟩; have HB1 := Lib.hid (hb.out.trans (hb1.mono hb.out.size)); have HG := Lib.hid (blk_in hH.out hb1); clear hb1; obtain ⟨c0, c1⟩ := cells2 HG.out; have cl := lt_of HG.out))
      go_ret2
      obtain rfl := e1.out
      obtain rfl := e0.out
      exact ⟨rfl, HB2.out⟩
    | true =>
      rw [hh] at CH
      have hh' : 0 ≤ p ∧ p < (m : Int) := by have := of_decide_eq_true hh; rw [HM.out]; exact this
      obtain ⟨k, rfl⟩ : ∃ k : Nat, p = k := ⟨p.toNat, by omega⟩
      obtain ⟨x, hx⟩ : ∃ x, n.progs[k]? = some x := ⟨_, List.getElem?_eq_getElem (by rw [← HM.out]; omega)⟩
      obtain ⟨b, off, cc, rfl, hbl, k0, k1, _, _⟩ := HP.out.atb hx
      have hq := okP_ins (all_get (okN_len ho).2.2 hx)
      have hmem := Lib.hid (show ((k : Int), j) ∈ ports Prg.ins n.progs ↔ 0 ≤ j ∧ j < x.ins from by
        rw [mem_ports]
        constructor
        · rintro ⟨i, y, h1, h2, h3, h4⟩
          simp only [] at h2 h3 h4
          obtain rfl : k = i := by omega
          rw [hx] at h1
          obtain rfl := Option.some.inj h1
          exact ⟨h3, h4⟩
        · rintro ⟨h3, h4⟩
          exact ⟨k, x, hx, rfl, h3, h4⟩)
      have lk : k < m := by omega
      have lk2 : (k : Int) < (m : Int) := by omega
      obtain ⟨xi, hxi⟩ : ∃ z, z = x.ins := ⟨_, rfl⟩
      obtain ⟨xo, hxo⟩ : ∃ z, z = x.outs := ⟨_, rfl⟩
      rw [← hxi] at k0
      rw [← hxo] at k1
      rw [← hxi] at hq hmem
      have wz : wrap64 (xi - 1) = xi - 1 := IntWalk.wrap64_in _ (by omega)
      have hbl1 : b < w.heap.size + 1 := by omega
      clear hxi hxo hh hx
      cases hi : inB 0 (xi - 1) j with
      | false =>
        have hno : ((k : Int), j) ∉ ports Prg.ins n.progs := fun q => by have := hmem.out.1 q; have := inB_f hi; omega
        have e1 := Lib.hid (hr1.trans (noport_to ho hno))
        have e0 := Lib.hid (hr0.trans (linkIx_no (noport_to ho hno)))
        have CI := Lib.hid (fun W => inb_is (sin_any j 0 (xi - 1) W) hi)
        clear ho hr0 hr1 hi hno
        go_enter Try.func52, Try.ntmps52
        go_wp2_with (first | (go_at_call 87; with_reducible refine (CI.out _).mono ?_; rintro e w' ⟨rfl, rfl⟩) | (go_at_call 78; with_reducible refine (CL.out _ HB2.out).mono ?_; rintro e w4 ⟨rfl, hb3⟩; have HB4 := Lib.hid (HB2.out.trans (hb3.mono HB2.out.size)); clear hb3) | (go_at_call 97; with_reducible refine (CH.out _ HB1.out).mono ?_; rintro e w3 ⟨rfl, hb2⟩; have HB2 := Lib.hid (HB1.out.trans (hb2.mono HB1.out.size)); have HG2 := Lib.hid (blk_in HG.out hb2); clear c0 c1 cl; obtain ⟨c0, c1⟩ := cells2 HG2.out; have cl := lt_of HG2.out; have cp := (HB2.out.cell (p := ⟨b, off + k * 3, none⟩) hbl).trans k0; have bl2 : b < w3.heap.size := Nat.lt_of_lt_of_le hbl HB2.out.size; clear hb2) | (go_at_call 70; with_reducible refine (CN.out _ hb.out).mono ?_; rintro e w2 ⟨rfl, hb1⟩; have HB1 := Lib.hid (hb.out.trans (hb1.mono hb.out.size)); have HG := Lib.hid (blk_in hH.out hb1); clear hb1; obtain ⟨c0, c1⟩ := cells2 HG.out; have cl := lt_of HG.out))
        go_ret2
        obtain rfl := e1.out
        obtain rfl := e0.out
        exact ⟨rfl, HB2.out⟩
      | true =>
        have hyes : ((k : Int), j) ∈ ports Prg.ins n.progs := hmem.out.2 (by have := inB_t hi; omega)
        have e1 := Lib.hid (hr1.trans (port_to ho hyes).1)
        have e0 := Lib.hid (hr0.trans ((linkIx_yes (port_to ho hyes).1).trans (port_to ho hyes).2.symm))
        have CI := Lib.hid (fun W => inb_is (sin_any j 0 (xi - 1) W) hi)
        clear ho hr0 hr1 hi hyes
        go_enter Try.func52, Try.ntmps52
        go_wp2_with (first | (go_at_call 87; with_reducible refine (CI.out _).mono ?_; rintro e w' ⟨rfl, rfl⟩) | (go_at_call 78; with_reducible refine (CL.out _ HB2.out).mono ?_; rintro e w4 ⟨rfl, hb3⟩; have HB4 := Lib.hid (HB2.out.trans (hb3.mono HB2.out.size)); clear hb3) | (go_at_call 97; with_reducible refine (CH.out _ HB1.out).mono ?_; rintro e w3 ⟨rfl, hb2⟩; have HB2 := Lib.hid (HB1.out.trans (hb2.mono HB1.out.size)); have HG2 := Lib.hid (blk_in HG.out hb2); clear c0 c1 cl; obtain ⟨c0, c1⟩ := cells2 HG2.out; have cl := lt_of HG2.out; have cp := (HB2.out.cell (p := ⟨b, off + k * 3, none⟩) hbl).trans k0; have bl2 : b < w3.heap.size := Nat.lt_of_lt_of_le hbl HB2.out.size; clear hb2) | (go_at_call 70; with_reducible refine (CN.out _ hb.out).mono ?_; rintro e w2 ⟨rfl, hb1⟩; have HB1 := Lib.hid (hb.out.trans (hb1.mono hb.out.size)); have HG := Lib.hid (blk_in hH.out hb1); clear hb1; obtain ⟨c0, c1⟩ := cells2 HG.out; have cl := lt_of HG.out))
        go_ret2
        obtain rfl := e1.out
        obtain rfl := e0.out
        exact ⟨rfl, HB4.out⟩

set_option maxRecDepth 100000 in
set_option maxHeartbeats 4000000 in
theorem slinkFrom_any (v : Value) (n : Net) (p j : Int) (w : World) (h : NetV w v n) :
    Calls Try.prog 54 #[v, .int .i64 p, .int .i64 j] w fun e w' => e = .returned (.tuple #[.int .i64 (linkFromR0 n p j), .bool (linkFromR1 n p j)]) ∧ Below w.heap.size w w' := by
  obtain ⟨r0, hr0⟩ : ∃ r, r = linkFromR0 n p j := ⟨_, rfl⟩
  obtain ⟨r1, hr1⟩ : ∃ r, r = linkFromR1 n p j := ⟨_, rfl⟩
  rw [← hr0, ← hr1]
  have HV := Lib.hid h
  have CN := Lib.hid (fun (W : World) (hw : Below w.heap.size w W) => sisnet_any v n W (h.below hw))
  have CH := Lib.hid (fun (W : World) (hw : Below w.heap.size w W) => shas_any v n p W (h.below hw))
  have CL := Lib.hid (fun (W : World) (hw : Below w.heap.size w W) => sfrom_any v n p j W (h.below hw))
  obtain ⟨c, d, rfl, hp, hl⟩ := h
  have HP := Lib.hid hp
  obtain ⟨pa, pcap, rfl⟩ := hp.shape
  obtain ⟨m, hm⟩ : ∃ m, m = n.progs.length := ⟨_, rfl⟩
  rw [← hm] at HV CN CH CL HP ⊢
  have HM := Lib.hid hm
  clear hm hp hl
  have hb := Lib.hid ((Below.refl w.heap.size w).al (.cells #[.slice pa m pcap, d] 34))
  have hH := Lib.hid (hp1 w (.cells #[.slice pa m pcap, d] 34))
  cases ho : okN n with
  | false =>
    rw [ho] at CN
    have e1 := Lib.hid (hr1.trans (linkOk_bad (g := Lnk.src) (e := (p, j)) ho))
    have e0 := Lib.hid (hr0.trans (linkIx_no (g := Lnk.src) (e := (p, j)) (linkOk_bad ho)))
    clear ho hr0 hr1
    go_enter Try.func54, Try.ntmps54
    go_wp2_with (go_at_call 70; with_reducible refine (CN.out _ hb.out).mono ?_; rintro e w2 ⟨rfl, hb1⟩; have HB1 := Lib.hid (hb.out.trans (hb1.mono hb.out.size)); clear hb1)
    go_ret2
    obtain rfl := e1.out
    obtain rfl := e0.out
    exact ⟨rfl, HB1.out⟩
  | true =>
    rw [ho] at CN
    cases hh : hasP n p with
    | false =>
      rw [hh] at CH
      have hno : (p, j) ∉ ports Prg.outs n.progs := fun he => by obtain ⟨i, x, h1, h2, _⟩ := mem_ports.1 he; have := (List.getElem?_eq_some_iff.1 h1).1; unfold hasP at hh; rw [decide_eq_false_iff_not] at hh; simp only [] at h2; omega
      have e1 := Lib.hid (hr1.trans (noport_from ho hno))
      have e0 := Lib.hid (hr0.trans (linkIx_no (noport_from ho hno)))
      clear ho hr0 hr1 hh hno
      go_enter Try.func54, Try.ntmps54
      go_wp2_with (first | (go_at_call 97; with_reducible refine (CH.out _ HB1.out).mono ?_; rintro e w3 ⟨rfl, hb2⟩; have HB2 := Lib.hid (HB1.out.trans (hb2.mono HB1.out.size)); clear hb2) | (go_at_call 70; with_reducible refine (CN.out _ hb.out).mono ?_; rintro e w2 ⟨rfl, hb1⟩; have HB1 := Lib.hid (hb.out.trans (hb1.mono hb.out.size)); have HG := Lib.hid (blk_in hH.out hb1); clear hb1; obtain ⟨c0, c1⟩ := cells2 HG.out; have cl := lt_of HG.out))
      go_ret2
      obtain rfl := e1.out
      obtain rfl := e0.out
      exact ⟨rfl, HB2.out⟩
    | true =>
      rw [hh] at CH
      have hh' : 0 ≤ p ∧ p < (m : Int) := by have := of_decide_eq_true hh; rw [HM.out]; exact this
      obtain ⟨k, rfl⟩ : ∃ k : Nat, p = k := ⟨p.toNat, by omega⟩
      obtain ⟨x, hx⟩ : ∃ x, n.progs[k]? = some x := ⟨_, List.getElem?_eq_getElem (by rw [← HM.out]; omega)⟩
      obtain ⟨b, off, cc, rfl, hbl, k0, k1, _, _⟩ := HP.out.atb hx
      have hq := okP_outs (all_get (okN_len ho).2.2 hx)
      have hmem := Lib.hid (show ((k : Int), j) ∈ ports Prg.outs n.progs ↔ 0 ≤ j ∧ j < x.outs from by
        rw [mem_ports]
        constructor
        · rintro ⟨i, y, h1, h2, h3, h4⟩
          simp only [] at h2 h3 h4
          obtain rfl : k = i := by omega
          rw [hx] at h1
          obtain rfl := Option.some.inj h1
          exact ⟨h3, h4⟩
        · rintro ⟨h3, h4⟩
          exact ⟨k, x, hx, rfl, h3, h4⟩)
      have lk : k < m := by omega
      have lk2 : (k : Int) < (m : Int) := by omega
      obtain ⟨xi, hxi⟩ : ∃ z, z = x.ins := ⟨_, rfl⟩
      obtain ⟨xo, hxo⟩ : ∃ z, z = x.outs := ⟨_, rfl⟩
      rw [← hxi] at k0
      rw [← hxo] at k1
      rw [← hxo] at hq hmem
      have wz : wrap64 (xo - 1) = xo - 1 := IntWalk.wrap64_in _ (by omega)
      have hbl1 : b < w.heap.size + 1 := by omega
      clear hxi hxo hh hx
      cases hi : inB 0 (xo - 1) j with
      | false =>
        have hno : ((k : Int), j) ∉ ports Prg.outs n.progs := fun q => by have := hmem.out.1 q; have := inB_f hi; omega
        have e1 := Lib.hid (hr1.trans (noport_from ho hno))
        have e0 := Lib.hid (hr0.trans (linkIx_no (noport_from ho hno)))
        have CI := Lib.hid (fun W => inb_is (sin_any j 0 (xo - 1) W) hi)
        clear ho hr0 hr1 hi hno
        go_enter Try.func54, Try.ntmps54
        go_wp2_with (first | (go_at_call 87; with_reducible refine (CI.out _).mono ?_; rintro e w' ⟨rfl, rfl⟩) | (go_at_call 108; with_reducible refine (CL.out _ HB2.out).mono ?_; rintro e w4 ⟨rfl, hb3⟩; have HB4 := Lib.hid (HB2.out.trans (hb3.mono HB2.out.size)); clear hb3) | (go_at_call 97; with_reducible refine (CH.out _ HB1.out).mono ?_; rintro e w3 ⟨rfl, hb2⟩; have HB2 := Lib.hid (HB1.out.trans (hb2.mono HB1.out.size)); have HG2 := Lib.hid (blk_in HG.out hb2); clear c0 c1 cl; obtain ⟨c0, c1⟩ := cells2 HG2.out; have cl := lt_of HG2.out; have cp := (HB2.out.cell (p := ⟨b, off + k * 3 + 1, none⟩) hbl).trans k1; have bl2 : b < w3.heap.size := Nat.lt_of_lt_of_le hbl HB2.out.size; clear hb2) | (go_at_call 70; with_reducible refine (CN.out _ hb.out).mono ?_; rintro e w2 ⟨rfl, hb1⟩; have HB1 := Lib.hid (hb.out.trans (hb1.mono hb.out.size)); have HG := Lib.hid (blk_in hH.out hb1); clear hb1; obtain ⟨c0, c1⟩ := cells2 HG.out; have cl := lt_of HG.out))
        go_ret2
        obtain rfl := e1.out
        obtain rfl := e0.out
        exact ⟨rfl, HB2.out⟩
      | true =>
        have hyes : ((k : Int), j) ∈ ports Prg.outs n.progs := hmem.out.2 (by have := inB_t hi; omega)
        have e1 := Lib.hid (hr1.trans (port_from ho hyes).1)
        have e0 := Lib.hid (hr0.trans ((linkIx_yes (port_from ho hyes).1).trans (port_from ho hyes).2.symm))
        have CI := Lib.hid (fun W => inb_is (sin_any j 0 (xo - 1) W) hi)
        clear ho hr0 hr1 hi hyes
        go_enter Try.func54, Try.ntmps54
        go_wp2_with (first | (go_at_call 87; with_reducible refine (CI.out _).mono ?_; rintro e w' ⟨rfl, rfl⟩) | (go_at_call 108; with_reducible refine (CL.out _ HB2.out).mono ?_; rintro e w4 ⟨rfl, hb3⟩; have HB4 := Lib.hid (HB2.out.trans (hb3.mono HB2.out.size)); clear hb3) | (go_at_call 97; with_reducible refine (CH.out _ HB1.out).mono ?_; rintro e w3 ⟨rfl, hb2⟩; have HB2 := Lib.hid (HB1.out.trans (hb2.mono HB1.out.size)); have HG2 := Lib.hid (blk_in HG.out hb2); clear c0 c1 cl; obtain ⟨c0, c1⟩ := cells2 HG2.out; have cl := lt_of HG2.out; have cp := (HB2.out.cell (p := ⟨b, off + k * 3 + 1, none⟩) hbl).trans k1; have bl2 : b < w3.heap.size := Nat.lt_of_lt_of_le hbl HB2.out.size; clear hb2) | (go_at_call 70; with_reducible refine (CN.out _ hb.out).mono ?_; rintro e w2 ⟨rfl, hb1⟩; have HB1 := Lib.hid (hb.out.trans (hb1.mono hb.out.size)); have HG := Lib.hid (blk_in hH.out hb1); clear hb1; obtain ⟨c0, c1⟩ := cells2 HG.out; have cl := lt_of HG.out))
        go_ret2
        obtain rfl := e1.out
        obtain rfl := e0.out
        exact ⟨rfl, HB4.out⟩
end Go.Proofs.Ytjphamgkigekkaa
