/-
  What NewActor, IsActor, WantOf answer, in the program and in its model. No statement of the seat is proved here.
-/
import Derived.Test.YtmfagmfclehdbaaIsP
import Derived.Test.YtmfagmfclehdbaaBoxes
import Derived.Test.YtmfagmfclehdbaaOwn
namespace Go.Proofs.Ytmfagmfclehdbaa
open Go.RowKit

def newActorR0 (p : Prg) : Act := if okP p then ⟨0, [0, 0, 0, 0]⟩ else ⟨0, []⟩
theorem newActor_len0 (p : Prg) : (newActorR0 p).regs.length ≤ 1048576 := by unfold newActorR0; split <;> simp

theorem own_lit4 (W : World) (g : Nat) (a b c d : Int) (hg : g = W.heap.size) : Own g (W.alloc (.cells #[.int .i64 a, .int .i64 b, .int .i64 c, .int .i64 d] 3)) (.slice (some ⟨g, 0, none⟩) 4 4) [a, b, c, d] := by
  subst hg
  exact ⟨rfl, .inr ⟨W.heap.size, 4, _, rfl, Nat.le_refl _, heap_alloc_new W _, Nat.le_refl _, by unfold maxLen; omega, rfl, rfl⟩⟩
theorem zeros4 : [Value.int .i64 0, .int .i64 0, .int .i64 0, .int .i64 0] = vals [0, 0, 0, 0] := rfl

set_option maxRecDepth 100000 in
set_option maxHeartbeats 4000000 in
theorem inew_any (v : Value) (p : Prg) (w : World) (h : PrgV w v p) :
    Calls Try.prog 47 #[v] w fun e w' => ∃ v', e = .returned v' ∧ ActO w.heap.size w' v' (newActorR0 p) ∧ Below w.heap.size w w' := by
  obtain ⟨c, rfl, hc⟩ := h
  have HC := Lib.hid hc
  clear hc
  have hb := Lib.hid (((Below.refl w.heap.size w).al (.cells #[.int .i64 p.ins, .int .i64 p.outs, c] 65)).al (.cells #[.int .i64 0, .slice none 0 0] 74))
  have hH := Lib.hid (hp2 w (.cells #[.int .i64 p.ins, .int .i64 p.outs, c] 65) (.cells #[.int .i64 0, .slice none 0 0] 74))
  obtain ⟨i0, hi, hz0, hz1, hz2⟩ := info_parts info
  obtain ⟨r, hr⟩ : ∃ r, r = okP p := ⟨_, rfl⟩
  have HR := Lib.hid hr
  have C := Lib.hid (iisp_any (.agg #[.int .i64 p.ins, .int .i64 p.outs, c]) p _ ⟨_, rfl, HC.out.below (hb.out.mono (Nat.le_refl _))⟩)
  rw [← hr] at C
  clear hr
  go_enter Try.func47, Try.ntmps47
  cases r with
  | false =>
    have e0 : newActorR0 p = ⟨0, []⟩ := by unfold newActorR0; rw [← HR.out]; rfl
    rw [e0]
    go_wp2_with (go_at_call 94; refine C.out.mono ?_; rintro e w2 ⟨rfl, hb1⟩; have B := blk_in hH.out hb1; obtain ⟨c0, c1⟩ := cells2 B; have z0 := fr_of B 0; have z1 := fr_of B 1; have HB1 := Lib.hid hb1; clear B hb1)
    refine bodyPost_ret (v := .agg #[.int .i64 0, .slice none 0 0]) (by simp [results, Try.results47, go_sem, c0, c1]) rfl ⟨_, rfl, ⟨_, rfl, own_nil _ _⟩, ?_⟩
    exact ((hb.out.trans (HB1.out.mono (by simp; omega))).setCell (by simp) _).setCell (by simp) _
  | true =>
    have e0 : newActorR0 p = ⟨0, [0, 0, 0, 0]⟩ := by unfold newActorR0; rw [← HR.out]; rfl
    rw [e0]
    go_wp2_with (first | (go_at_call 94; refine C.out.mono ?_; rintro e w2 ⟨rfl, hb1⟩; have HB1 := Lib.hid hb1; clear hb1) | (at_make; refine wpList_make_full _ rfl _ _ 42 rfl w2.heap.size 3 i0 (.int .i64 0) 1 Try.underlying42 hi hz0 hz1 _ _ _ _ 4 rfl rfl rfl rfl ?b2 ?b3 ?b4 ?_))
    case b2 => rw [hz2]; omega
    case b3 => unfold maxLen; omega
    case b4 => exact Nat.le_refl _
    intro w3 hown hgrow
    have hb3 := (Below.refl _ _).grown hgrow (Nat.le_refl _) (by simp)
    have B := blk_in (blk_in hH.out HB1.out) hb3
    obtain ⟨c0, c1⟩ := cells2 B
    have z0 := fr_of B 0
    have z1 := fr_of B 1
    have HB3 := Lib.hid hb3
    have HO := Lib.hid hown
    have HS := Lib.hid HB1.out.size
    clear hown hgrow hb3 B hi hz0 hz1 hz2
    go_wp2_with fail
    refine bodyPost_ret (v := .agg #[.int .i64 0, .slice (some ⟨w2.heap.size, 0, none⟩) 4 4]) (by simp [results, Try.results47, go_sem, c0, c1]) rfl ⟨_, rfl, ⟨_, rfl, ?_⟩, ?_⟩
    · have h1 : Own w2.heap.size w3 (.slice (some ⟨w2.heap.size, 0, none⟩) 4 4) [0, 0, 0, 0] := by
        have := HO.out
        rw [toList_madeCells_one] at this
        exact this
      have hs := HS.out
      simp at hs
      exact ((h1.setB (by show w.heap.size + 1 < _; omega) _).setB (by show w.heap.size + 1 < _; omega) _).mono (by omega)
    · have hs := HS.out
      simp at hs
      exact (((hb.out.trans (HB1.out.mono (by simp; omega))).trans (HB3.out.mono (by omega))).setCell (by simp) _).setCell (by simp) _

set_option maxRecDepth 100000 in
set_option maxHeartbeats 4000000 in
theorem iisact_any (v u : Value) (p : Prg) (a : Act) (w : World) (h : PrgV w v p) (k : ActV w u a) :
    Calls Try.prog 140 #[v, u] w fun e w' => e = .returned (.bool (okA p a)) ∧ Below w.heap.size w w' := by
  obtain ⟨c, rfl, hc⟩ := h
  obtain ⟨d, rfl, hd⟩ := k
  obtain ⟨i, o, code⟩ := p
  obtain ⟨pc, regs⟩ := a
  simp only [] at hc hd ⊢
  have HC := Lib.hid hc
  have HD := Lib.hid hd
  have hl0 : code.length ≤ 9223372036854775807 := by obtain ⟨_, _, _, h1, h2, _⟩ := hc; unfold maxLen at h2; omega
  have hl1 : regs.length ≤ 9223372036854775807 := by obtain ⟨_, _, _, h1, h2, _⟩ := hd; unfold maxLen at h2; omega
  obtain ⟨pa, cap, rfl, hrest⟩ := hc
  obtain ⟨ra, rcap, rfl, hrest2⟩ := hd
  clear hrest hrest2
  obtain ⟨n, hn⟩ : ∃ n, n = code.length := ⟨_, rfl⟩
  obtain ⟨m, hm⟩ : ∃ m, m = regs.length := ⟨_, rfl⟩
  obtain ⟨r, hr⟩ : ∃ r, r = okA ⟨i, o, code⟩ ⟨pc, regs⟩ := ⟨_, rfl⟩
  obtain ⟨q, hq⟩ : ∃ r, r = isS regs := ⟨_, rfl⟩
  rw [← hr]
  have HR := Lib.hid hr
  have HQ := Lib.hid hq
  rw [← hn] at hl0 HC ⊢
  rw [← hm] at hl1 HD ⊢
  have HN := Lib.hid hn
  have HM := Lib.hid hm
  clear hr hn hm hq
  have hb := Lib.hid (((Below.refl w.heap.size w).al (.cells #[.int .i64 i, .int .i64 o, .slice pa n cap] 65)).al (.cells #[.int .i64 pc, .slice ra m rcap] 74))
  have hH := Lib.hid (hp2 w (.cells #[.int .i64 i, .int .i64 o, .slice pa n cap] 65) (.cells #[.int .i64 pc, .slice ra m rcap] 74))
  cases q0 : inB 0 n pc with
  | false =>
    go_enter Try.func140, Try.ntmps140
    go_wp2_with (first | (go_at_call 152; refine (iplace_any _ _ _ _ _ _ _).mono ?_; rintro e w2 ⟨rfl, hb1⟩; have B := blk_in hH.out hb1; obtain ⟨c0, c1⟩ := cells2 B; have HB1 := Lib.hid hb1; clear B hb1) | (go_at_call 111; refine (istream_any _ regs _ (HD.out.below (hb.out.trans (HB1.out.mono (by simp; omega))))).mono ?_; rintro e w3 ⟨rfl, rfl⟩))
    go_ret
    refine ⟨ret_bool (HR.out.trans ?_), hb.out.trans (HB1.out.mono (by simp; omega))⟩
    have := inB_f q0; have := HN.out
    unfold okA; rw [decide_eq_false (by simp only []; omega)]; rfl
  | true =>
    by_cases q1 : m = 4
    · have HE := Lib.hid q1
      subst q1
      go_enter Try.func140, Try.ntmps140
      go_wp2_with (first | (go_at_call 152; refine (iplace_any _ _ _ _ _ _ _).mono ?_; rintro e w2 ⟨rfl, hb1⟩; have B := blk_in hH.out hb1; obtain ⟨c0, c1⟩ := cells2 B; have HB1 := Lib.hid hb1; clear B hb1) | (go_at_call 111; refine (istream_any _ regs _ (HD.out.below (hb.out.trans (HB1.out.mono (by simp; omega))))).mono ?_; rintro e w3 ⟨rfl, rfl⟩))
      go_ret
      refine ⟨ret_bool (HR.out.trans ?_), hb.out.trans (HB1.out.mono (by simp; omega))⟩
      have := inB_t q0; have := HN.out; have := HM.out
      unfold okA; rw [decide_eq_true (by simp only []; omega)]; simp
    · have d1 : ((m : Int) == 4) = false := by simp; omega
      have HE := Lib.hid q1
      clear q1
      go_enter Try.func140, Try.ntmps140
      go_wp2_with (first | (go_at_call 152; refine (iplace_any _ _ _ _ _ _ _).mono ?_; rintro e w2 ⟨rfl, hb1⟩; have B := blk_in hH.out hb1; obtain ⟨c0, c1⟩ := cells2 B; have HB1 := Lib.hid hb1; clear B hb1) | (go_at_call 111; refine (istream_any _ regs _ (HD.out.below (hb.out.trans (HB1.out.mono (by simp; omega))))).mono ?_; rintro e w3 ⟨rfl, rfl⟩))
      go_ret
      refine ⟨ret_bool (HR.out.trans ?_), hb.out.trans (HB1.out.mono (by simp; omega))⟩
      have := HE.out; have := HM.out
      unfold okA; rw [decide_eq_false (by simp only []; omega)]; rfl

set_option maxRecDepth 100000 in
set_option maxHeartbeats 4000000 in
theorem iisact_top (v u : Value) (p : Prg) (a : Act) (w : World) (h : PrgV w v p) (k : ActV w u a) :
    Calls Try.prog 98 #[v, u] w fun e w' => e = .returned (.bool (okP p && okA p a)) ∧ Below w.heap.size w w' := by
  obtain ⟨c, rfl, hc⟩ := h
  obtain ⟨d, rfl, hd⟩ := k
  have HC := Lib.hid hc
  have HD := Lib.hid hd
  clear hc hd
  have hb := Lib.hid (((Below.refl w.heap.size w).al (.cells #[.int .i64 p.ins, .int .i64 p.outs, c] 65)).al (.cells #[.int .i64 a.pc, d] 74))
  have hH := Lib.hid (hp2 w (.cells #[.int .i64 p.ins, .int .i64 p.outs, c] 65) (.cells #[.int .i64 a.pc, d] 74))
  have hH1 := Lib.hid (hp21 w (.cells #[.int .i64 p.ins, .int .i64 p.outs, c] 65) (.cells #[.int .i64 a.pc, d] 74))
  cases q0 : okP p with
  | false =>
    go_enter Try.func98, Try.ntmps98
    go_wp2_with (go_at_call 94; refine (iisp_any _ p _ ⟨_, rfl, HC.out.below hb.out⟩).mono ?_; rintro e w2 ⟨rfl, hb1⟩; rw [q0]; have HB1 := Lib.hid hb1; clear hb1)
    go_ret
    exact ⟨rfl, hb.out.trans (HB1.out.mono (by simp; omega))⟩
  | true =>
    go_enter Try.func98, Try.ntmps98
    go_wp2_with (first | (go_at_call 94; refine (iisp_any _ p _ ⟨_, rfl, HC.out.below hb.out⟩).mono ?_; rintro e w2 ⟨rfl, hb1⟩; rw [q0]; have B := blk_in hH.out hb1; obtain ⟨c0, c1⟩ := cells2 B; have B1 := blk_in hH1.out hb1; obtain ⟨p0, p1, p2⟩ := cells3 B1; have HB1 := Lib.hid hb1; clear B B1 hb1) | (go_at_call 140; refine (iisact_any _ _ p a _ ⟨_, rfl, HC.out.below (hb.out.trans (HB1.out.mono (by simp; omega)))⟩ ⟨_, rfl, HD.out.below (hb.out.trans (HB1.out.mono (by simp; omega)))⟩).mono ?_; rintro e w3 ⟨rfl, hb3⟩; have HB3 := Lib.hid hb3; clear hb3))
    go_ret
    exact ⟨by simp, (hb.out.trans (HB1.out.mono (by simp; omega))).trans (HB3.out.mono (by have := HB1.out.size; simp at this; omega))⟩

set_option maxRecDepth 100000 in
set_option maxHeartbeats 4000000 in
theorem iwantat_any (v : Value) (p : Prg) (pc : Int) (w : World) (h : PrgV w v p) (hk : 0 ≤ pc ∧ pc ≤ p.code.length) :
    Calls Try.prog 99 #[v, .int .i64 pc] w fun e w' => e = .returned (.tuple #[.int .i64 (wantC p.code pc.toNat), .int .i64 (portC p.code pc.toNat)]) ∧ Below w.heap.size w w' := by
  obtain ⟨c, rfl, hc⟩ := h
  obtain ⟨i, o, code⟩ := p
  simp only [] at hc hk ⊢
  have hl0 : code.length ≤ 9223372036854775807 := by obtain ⟨_, _, _, h1, h2, _⟩ := hc; unfold maxLen at h2; omega
  obtain ⟨pa, cap, rfl, _, _, _, hrest⟩ := hc
  obtain ⟨k, rfl⟩ : ∃ k : Nat, pc = k := ⟨pc.toNat, by omega⟩
  have hk2 : k ≤ code.length := by omega
  rw [Int.toNat_natCast]
  obtain ⟨n, hn⟩ : ∃ n, n = code.length := ⟨_, rfl⟩
  rw [← hn] at hl0 hk2 ⊢
  have HN := Lib.hid hn
  clear hn hk
  have hb := (Below.refl w.heap.size w).al (.cells #[.int .i64 i, .int .i64 o, .slice pa n cap] 65)
  skip
  obtain ⟨wt, hwt⟩ : ∃ z, z = wantC code k := ⟨_, rfl⟩
  obtain ⟨pt, hpt⟩ : ∃ z, z = portC code k := ⟨_, rfl⟩
  rw [← hwt, ← hpt]
  by_cases hkn : k = n
  · have e : code[k]? = none := List.getElem?_eq_none (by have := HN.out; omega)
    have e1 : wt = 0 := by rw [hwt]; unfold wantC; rw [e]
    have e2 : pt = 0 := by rw [hpt]; unfold portC; rw [e]
    clear hwt hpt hrest e
    subst e1
    subst e2
    subst hkn
    go_enter Try.func99, Try.ntmps99
    go_wp2_with fail
    go_ret2
    exact ⟨rfl, hb⟩
  · have hlt : k < n := by omega
    have dk : ((k : Int) == (n : Int)) = false := by simp; omega
    rcases hrest with rfl | ⟨b, off, rfl, hbl, hcell⟩
    · exact absurd hlt (by have := HN.out; simp at this; omega)
    · obtain ⟨x, hx⟩ : ∃ x, code[k]? = some x := ⟨_, List.getElem?_eq_getElem (by rw [← HN.out]; exact hlt)⟩
      obtain ⟨c0, c1, c2, c3⟩ := hcell k x hx
      have e1 : wt = wantI x := by rw [hwt]; unfold wantC; rw [hx]
      have e2 : pt = portI x := by rw [hpt]; unfold portC; rw [hx]
      clear hwt hpt hcell hx hkn
      obtain ⟨xo, xa, xb, xc⟩ := x
      simp only [] at c0 c1 c2 c3
      unfold wantI at e1
      unfold portI at e2
      simp only [] at e1 e2
      have hbl1 : b < w.heap.size + 1 := by omega
      have hbl2 : b < w.heap.size + 1 + 1 := by omega
      have HB := Lib.hid hb
      clear hb
      by_cases o11 : xo = 11
      · subst o11
        simp at e1 e2
        subst e1
        subst e2
        go_enter Try.func99, Try.ntmps99
        go_wp2_with fail
        go_ret2
        exact ⟨rfl, HB.out.al _⟩
      · have d11 : (xo == 11) = false := by simpa using o11
        rw [if_neg o11] at e1
        by_cases o1 : xo = 1
        · subst o1
          simp at e1 e2
          subst e1
          subst e2
          go_enter Try.func99, Try.ntmps99
          go_wp2_with fail
          go_quiet (fail)
          go_wp2_with fail
          go_ret2
          exact ⟨rfl, Below.toDraw (HB.out.al _) _⟩
        · have d1 : (xo == 1) = false := by simpa using o1
          rw [if_neg o1] at e1 e2
          by_cases o2 : xo = 2
          · subst o2
            simp at e1 e2
            subst e1
            subst e2
            go_enter Try.func99, Try.ntmps99
            go_wp2_with fail
            go_quiet (fail)
            go_wp2_with fail
            go_ret2
            exact ⟨rfl, Below.toDraw (HB.out.al _) _⟩
          · have d2 : (xo == 2) = false := by simpa using o2
            rw [if_neg o2] at e1 e2
            subst e1
            subst e2
            clear o1 o2 o11
            go_enter Try.func99, Try.ntmps99
            go_wp2_with fail
            go_ret2
            exact ⟨rfl, HB.out.al _⟩

def wantOfR0 (p : Prg) (a : Act) : Int := if (okP p && okA p a) = true then wantC p.code a.pc.toNat else 0
def wantOfR1 (p : Prg) (a : Act) : Int := if (okP p && okA p a) = true then portC p.code a.pc.toNat else 0

set_option maxRecDepth 100000 in
set_option maxHeartbeats 4000000 in
theorem iwantof_any (v u : Value) (p : Prg) (a : Act) (w : World) (h : PrgV w v p) (k : ActV w u a) :
    Calls Try.prog 48 #[v, u] w fun e w' => e = .returned (.tuple #[.int .i64 (wantOfR0 p a), .int .i64 (wantOfR1 p a)]) ∧ Below w.heap.size w w' := by
  obtain ⟨c, rfl, hc⟩ := h
  obtain ⟨d, rfl, hd⟩ := k
  have HC := Lib.hid hc
  have HD := Lib.hid hd
  clear hc hd
  have hb := Lib.hid (((Below.refl w.heap.size w).al (.cells #[.int .i64 p.ins, .int .i64 p.outs, c] 65)).al (.cells #[.int .i64 a.pc, d] 74))
  have hH := Lib.hid (hp2 w (.cells #[.int .i64 p.ins, .int .i64 p.outs, c] 65) (.cells #[.int .i64 a.pc, d] 74))
  have hH1 := Lib.hid (hp21 w (.cells #[.int .i64 p.ins, .int .i64 p.outs, c] 65) (.cells #[.int .i64 a.pc, d] 74))
  cases q0 : (okP p && okA p a) with
  | false =>
    have e0 : wantOfR0 p a = 0 := by unfold wantOfR0; rw [q0]; rfl
    have e1 : wantOfR1 p a = 0 := by unfold wantOfR1; rw [q0]; rfl
    rw [e0, e1]
    have C := Lib.hid (fun W hw => iisact_top (.agg #[.int .i64 p.ins, .int .i64 p.outs, c]) (.agg #[.int .i64 a.pc, d]) p a W ⟨_, rfl, HC.out.below hw⟩ ⟨_, rfl, HD.out.below hw⟩)
    rw [q0] at C
    clear q0
    go_enter Try.func48, Try.ntmps48
    go_wp2_with (go_at_call 98; refine (C.out _ hb.out).mono ?_; rintro e w2 ⟨rfl, hb1⟩; have HB1 := Lib.hid hb1; clear hb1)
    go_ret2
    exact ⟨rfl, hb.out.trans (HB1.out.mono (by simp; omega))⟩
  | true =>
    have e0 : wantOfR0 p a = wantC p.code a.pc.toNat := by unfold wantOfR0; rw [q0]; rfl
    have e1 : wantOfR1 p a = portC p.code a.pc.toNat := by unfold wantOfR1; rw [q0]; rfl
    rw [e0, e1]
    have HK := Lib.hid (show 0 ≤ a.pc ∧ a.pc ≤ p.code.length by rw [Bool.and_eq_true] at q0; exact (okA_parts q0.2).1.1)
    have C := Lib.hid (fun W hw => iisact_top (.agg #[.int .i64 p.ins, .int .i64 p.outs, c]) (.agg #[.int .i64 a.pc, d]) p a W ⟨_, rfl, HC.out.below hw⟩ ⟨_, rfl, HD.out.below hw⟩)
    rw [q0] at C
    clear q0
    obtain ⟨wt, hwt⟩ : ∃ z, z = wantC p.code a.pc.toNat := ⟨_, rfl⟩
    obtain ⟨pt, hpt⟩ : ∃ z, z = portC p.code a.pc.toNat := ⟨_, rfl⟩
    have S := Lib.hid (fun W hw => iwantat_any (.agg #[.int .i64 p.ins, .int .i64 p.outs, c]) p a.pc W ⟨_, rfl, HC.out.below hw⟩ HK.out)
    rw [← hwt, ← hpt] at S
    rw [← hwt, ← hpt]
    clear hwt hpt
    go_enter Try.func48, Try.ntmps48
    go_wp2_with (first | (go_at_call 98; refine (C.out _ hb.out).mono ?_; rintro e w2 ⟨rfl, hb1⟩; have B := blk_in hH.out hb1; obtain ⟨c0, c1⟩ := cells2 B; have B1 := blk_in hH1.out hb1; obtain ⟨p0, p1, p2⟩ := cells3 B1; have HB1 := Lib.hid hb1; clear B B1 hb1) | (go_at_call 99; refine (S.out _ (hb.out.trans (HB1.out.mono (by simp; omega)))).mono ?_; rintro e w3 ⟨rfl, hb3⟩; have HB3 := Lib.hid hb3; clear hb3))
    go_ret2
    exact ⟨rfl, (hb.out.trans (HB1.out.mono (by simp; omega))).trans (HB3.out.mono (by have := HB1.out.size; simp at this; omega))⟩

def isActorR0 (p : Prg) (a : Act) : Bool := okP p && okA p a
theorem iisactR_any (v u : Value) (p : Prg) (a : Act) (w : World) (h : PrgV w v p) (k : ActV w u a) :
    Calls Try.prog 98 #[v, u] w fun e w' => e = .returned (.bool (isActorR0 p a)) ∧ Below w.heap.size w w' := iisact_top v u p a w h k
end Go.Proofs.Ytmfagmfclehdbaa
