/-
  What the program's StepActor answers. No statement of the seat is proved here.
  What the model's l2Step leaves. No statement of the seat is proved here.
-/
import Derived.Test.YtjphamgkigekkaaFamX
import Derived.Test.YtjphamgkigekkaaRun
import Derived.Test.YtjphamgkigekkaaMake
import Derived.Test.YtjphamgkigekkaaNetA
import Derived.Test.YtjphamgkigekkaaExec3
import Derived.Deep.RegionHeld3
import Derived.Deep.Cut
namespace Go.Proofs.Ytjphamgkigekkaa
open Go.RowKit

def stepB (p : Prg) (a : Act) (t : Int) : Bool := (okP p && okA p a) && (decide (wantC p.code a.pc.toNat ≠ 0) && (decide (wantC p.code a.pc.toNat ≠ 2) || isTok t))
def stepActorR0 (p : Prg) (a : Act) (t : Int) : Act := if stepB p a t = true then ⟨pcI (insAt p.code a.pc.toNat) a.regs a.pc, regsI (insAt p.code a.pc.toNat) a.regs t⟩ else ⟨0, []⟩
def stepActorR1 (p : Prg) (a : Act) (t : Int) : Int := if stepB p a t = true then outI (insAt p.code a.pc.toNat) a.regs else 0
def stepActorR2 (p : Prg) (a : Act) (t : Int) : Bool := stepB p a t
theorem stepActor_no {p : Prg} {a : Act} {t : Int} (h : stepB p a t = false) : stepActorR0 p a t = ⟨0, []⟩ ∧ stepActorR1 p a t = 0 ∧ stepActorR2 p a t = false := by
  unfold stepActorR0 stepActorR1 stepActorR2; rw [h]; exact ⟨rfl, rfl, rfl⟩
theorem stepActor_yes {p : Prg} {a : Act} {t : Int} (h : stepB p a t = true) : stepActorR0 p a t = ⟨pcI (insAt p.code a.pc.toNat) a.regs a.pc, regsI (insAt p.code a.pc.toNat) a.regs t⟩ ∧ stepActorR1 p a t = outI (insAt p.code a.pc.toNat) a.regs ∧ stepActorR2 p a t = true := by
  unfold stepActorR0 stepActorR1 stepActorR2; rw [h]; exact ⟨rfl, rfl, rfl⟩
theorem step_x {p : Prg} {a : Act} {t : Int} (h : stepB p a t = true) : (okP p = true ∧ okA p a = true) ∧ ∃ k : Nat, a.pc = k ∧ p.code[k]? = some (insAt p.code k) ∧ (insAt p.code k).op ≠ 11 := by
  unfold stepB at h
  rw [Bool.and_eq_true, Bool.and_eq_true] at h
  obtain ⟨⟨h1, h2⟩, h3⟩ := h
  have hb := (okA_parts h2).1.1
  refine ⟨⟨h1, h2⟩, a.pc.toNat, by omega, ?_⟩
  rw [Bool.and_eq_true] at h3
  have hw := of_decide_eq_true h3.1
  unfold wantC at hw
  cases e : p.code[a.pc.toNat]? with
  | none => rw [e] at hw; exact absurd rfl hw
  | some x =>
    rw [e] at hw
    have : insAt p.code a.pc.toNat = x := by unfold insAt; rw [List.getD_eq_getElem?_getD, e]; rfl
    rw [this]
    refine ⟨rfl, fun q => hw ?_⟩
    simp only [wantI]
    rw [if_pos q]
theorem stepActor_len0 (p : Prg) (a : Act) (t : Int) : (stepActorR0 p a t).regs.length ≤ 1048576 := by
  by_cases h : stepB p a t = true
  · rw [(stepActor_yes h).1]
    have := (okA_parts (step_x h).1.2).1.2
    simp [regsI]; omega
  · rw [(stepActor_no (by simpa using h)).1]; simp

theorem own_four {lo : Nat} {w : World} {v : Value} {xs : List Int} (h : Own lo w v xs) (hl : xs.length = 4) : ∃ r rc, v = .slice (some ⟨r, 0, none⟩) 4 rc := by
  rcases h.2 with ⟨rfl, hn⟩ | ⟨g, cap, cur, rfl, _⟩
  · omega
  · exact ⟨g, cap, by rw [hl]⟩

def jumpV (op rv : Int) : Bool := decide (op = 8 ∨ (op = 9 ∧ rv = 0) ∨ (op = 10 ∧ rv < 0))
theorem jumpV_8 {rv : Int} : jumpV 8 rv = true := decide_eq_true (by omega)
theorem jumpV_9t {rv : Int} (h : rv = 0) : jumpV 9 rv = true := decide_eq_true (by omega)
theorem jumpV_9f {rv : Int} (h : ¬ rv = 0) : jumpV 9 rv = false := decide_eq_false (by omega)
theorem jumpV_10t {rv : Int} (h : rv < 0) : jumpV 10 rv = true := decide_eq_true (by omega)
theorem jumpV_10f {rv : Int} (h : ¬ rv < 0) : jumpV 10 rv = false := decide_eq_false (by omega)
theorem jumpV_no {op rv : Int} (h1 : ¬ op = 8) (h2 : ¬ op = 9) (h3 : ¬ op = 10) : jumpV op rv = false := decide_eq_false (by omega)
theorem pcI_jump (op : Int) (ka : Nat) (xb xc : Int) (regs : List Int) (rv : Int) (k : Nat) (h : rv = rg regs (ka : Int)) : pcI ⟨op, ka, xb, xc⟩ regs k = if jumpV op rv = true then xb else (k : Int) + 1 := by
  unfold pcI jumpV
  simp only [decide_eq_true_eq]
  rw [← h]
  by_cases h8 : op = 8
  · rw [if_pos h8, if_pos (.inl h8)]
  · rw [if_neg h8]
    by_cases h9 : op = 9
    · rw [if_pos h9]
      by_cases hz : rv = 0
      · rw [if_pos hz, if_pos (by omega)]
      · rw [if_neg hz, if_neg (by omega)]
    · rw [if_neg h9]
      by_cases h10 : op = 10
      · rw [if_pos h10]
        by_cases hz : rv < 0
        · rw [if_pos hz, if_pos (by omega)]
        · rw [if_neg hz, if_neg (by omega)]
      · rw [if_neg h10, if_neg (by omega)]
/-- What the cut behind the copy says: the new actor's box, its registers' row. -/
def StepCut (w W4 : World) (k : Nat) (regs : List Int) (s9 : Value) (wr : World) : Prop := ∃ bx r rc, s9 = .pointer (some ⟨bx, 0, none⟩) ∧ Hid (wr.heap[bx]? = some (.cells #[.int .i64 ((k : Int) + 1), .slice (some ⟨r, 0, none⟩) 4 rc] 98)) ∧ Hid (w.heap.size + 4 ≤ bx) ∧ Hid (Own (w.heap.size + 4) wr (.slice (some ⟨r, 0, none⟩) 4 rc) regs) ∧ Hid (r ≠ bx) ∧ Hid (Below W4.heap.size W4 wr)
theorem stepCut_new {w W4 w5 : World} {k : Nat} {n : Int} {regs : List Int} {r rc : Nat} (hn : n = (k : Int) + 1) (h4 : W4.heap.size = w.heap.size + 4) (hb : Below W4.heap.size W4 w5) (ho : Own (w.heap.size + 4) w5 (.slice (some ⟨r, 0, none⟩) 4 rc) regs) :
    StepCut w W4 k regs (.pointer (some ⟨w5.heap.size, 0, none⟩)) (w5.alloc (.cells #[.int .i64 n, .slice (some ⟨r, 0, none⟩) 4 rc] 98)) := by
  subst hn
  have := (ho.lt r rfl).2
  have := hb.size
  exact ⟨_, r, rc, rfl, Lib.hid (hp1 _ _), Lib.hid (by omega), Lib.hid (ho.below ((Below.refl _ _).al _)), Lib.hid (by omega), Lib.hid (hb.al _)⟩
theorem stepCut_old {w W4 w5 : World} {k g : Nat} {n : Int} {regs : List Int} {r rc : Nat} (hn : n = (k : Int) + 1) (h4 : W4.heap.size = w.heap.size + 4) (hb : Below W4.heap.size W4 w5) (h5 : w5.heap[g]? = some (.cells #[.int .i64 0, .slice none 0 0] 98)) (hg : g = w.heap.size + 4)
    (ho : Own (w.heap.size + 5) w5 (.slice (some ⟨r, 0, none⟩) 4 rc) regs) :
    StepCut w W4 k regs (.pointer (some ⟨g, 0, none⟩)) ((w5.setCell ⟨g, 0, none⟩ (.int .i64 n)).setCell ⟨g, 1, none⟩ (.slice (some ⟨r, 0, none⟩) 4 rc)) := by
  subst hn
  have := (ho.lt r rfl).1
  refine ⟨g, r, rc, rfl, Lib.hid ?_, Lib.hid (by omega), Lib.hid (((ho.setB (by show g < _; omega) _).setB (by show g < _; omega) _).mono (by omega)), Lib.hid (by omega), Lib.hid ((hb.setCell (by show _ ≤ g; omega) _).setCell (by show _ ≤ g; omega) _)⟩
  have h1 := set0_blk h5 (.int .i64 ((k : Int) + 1))
  rw [heap_setCell_same _ g 1 _ _ _ h1]; rfl

set_option maxRecDepth 100000 in
set_option maxHeartbeats 8000000 in
theorem sl2step_any (v u : Value) (p : Prg) (k : Nat) (regs : List Int) (x : Ins) (t : Int) (w : World) (h : PrgV w v p) (hk : ActV w u ⟨k, regs⟩) (hok : okP p = true) (hx : p.code[k]? = some x) (hop : x.op ≠ 11) (hlen : regs.length = 4) (hs : isS regs = true) :
    Calls Try.prog 132 #[v, u, .int .i64 t] w fun e w' => ∃ r rc, e = .returned (.tuple #[.agg #[.int .i64 (pcI x regs k), .slice (some ⟨r, 0, none⟩) 4 rc], .int .i64 (outI x regs)]) ∧ Own w.heap.size w' (.slice (some ⟨r, 0, none⟩) 4 rc) (regsI x regs t) ∧ Below w.heap.size w w' := by
  obtain ⟨c, rfl, hc⟩ := h
  obtain ⟨d, rfl, hd⟩ := hk
  simp only [] at hd ⊢
  have HC := Lib.hid hc
  have HD := Lib.hid hd
  have hkl : k < p.code.length := (List.getElem?_eq_some_iff.1 hx).1
  have hP := okP_parts hok
  have hxo := hP.2 x (List.mem_of_getElem? hx)
  have HXO := Lib.hid hxo
  have hk24 : k < 24 := by omega
  have hBd := okI_a hxo
  have hOps := okI_ops hxo
  obtain ⟨ca, cc, rfl, _, _, _, hrest⟩ := hc
  obtain ⟨da, dc, rfl, _, _, _, hrest2⟩ := hd
  obtain ⟨cl, hcl⟩ : ∃ z, z = p.code.length := ⟨_, rfl⟩
  rw [← hcl] at hkl HC HXO ⊢
  rw [hlen] at HD hrest2 ⊢
  rcases hrest with h | ⟨b, off, rfl, hbl, hcell⟩
  · rw [h] at hx; simp at hx
  rcases hrest2 with h | ⟨rb, roff, rfl, rbl, rcell⟩
  · rw [h] at hlen; simp at hlen
  obtain ⟨c0, c1, c2, c3⟩ := hcell k x hx
  have HL := Lib.hid hlen
  have HS := Lib.hid hs
  clear hx hP hok hcl hcell hxo hlen hs
  obtain ⟨op, xa, xb, xc⟩ := x
  simp only [] at c0 c1 c2 c3 hBd hOps hop
  obtain ⟨ka, hka⟩ : ∃ q : Nat, xa = q := ⟨xa.toNat, by omega⟩
  subst hka
  have ra := rcell ka (by omega)
  obtain ⟨rv, hrv⟩ : ∃ z, z = rg regs (ka : Int) := ⟨_, rfl⟩
  rw [show regs.getD ka 0 = rg regs (ka : Int) by unfold rg; rw [Int.toNat_natCast], ← hrv] at ra
  have HRV := Lib.hid hrv
  clear rcell hrv
  have hb := Lib.hid ((((Below.refl w.heap.size w).al (.cells #[.int .i64 p.ins, .int .i64 p.outs, .slice (some ⟨b, off, none⟩) cl cc] 86)).al (.cells #[.int .i64 k, .slice (some ⟨rb, roff, none⟩) 4 dc] 98)).al (.cells #[.int .i64 0, .slice none 0 0] 98))
  have hH3 := Lib.hid (hp3 w (.cells #[.int .i64 p.ins, .int .i64 p.outs, .slice (some ⟨b, off, none⟩) cl cc] 86) (.cells #[.int .i64 k, .slice (some ⟨rb, roff, none⟩) 4 dc] 98) (.cells #[.int .i64 0, .slice none 0 0] 98))
  have hH2 := Lib.hid (hp32 w (.cells #[.int .i64 p.ins, .int .i64 p.outs, .slice (some ⟨b, off, none⟩) cl cc] 86) (.cells #[.int .i64 k, .slice (some ⟨rb, roff, none⟩) 4 dc] 98) (.cells #[.int .i64 0, .slice none 0 0] 98))
  have hH1 := Lib.hid (hp31 w (.cells #[.int .i64 p.ins, .int .i64 p.outs, .slice (some ⟨b, off, none⟩) cl cc] 86) (.cells #[.int .i64 k, .slice (some ⟨rb, roff, none⟩) 4 dc] 98) (.cells #[.int .i64 0, .slice none 0 0] 98))
  have bl1 : b < w.heap.size + 1 := by omega
  have bl2 : b < w.heap.size + 1 + 1 := by omega
  have bl3 : b < w.heap.size + 1 + 1 + 1 := by omega
  have rl1 : rb < w.heap.size + 1 := by omega
  have rl2 : rb < w.heap.size + 1 + 1 := by omega
  have rl3 : rb < w.heap.size + 1 + 1 + 1 := by omega
  have HWK := Lib.hid (show IntKind.i64.wrap ((k : Int) + 1) = (k : Int) + 1 from IntWalk.i64_in _ (by omega))
  have wk : wrap64 ((k : Int) + 1) = (k : Int) + 1 := IntWalk.wrap64_in _ (by omega)
  go_enter Try.func132, Try.ntmps132
  go_upto_region 2 with fail
  have hb4 := Lib.hid (hb.out.al (.cells #[.int .i64 op, .int .i64 ka, .int .i64 xb, .int .i64 xc] 156))
  have hX4 := Lib.hid (show ((((w.alloc (.cells #[.int .i64 p.ins, .int .i64 p.outs, .slice (some ⟨b, off, none⟩) cl cc] 86)).alloc (.cells #[.int .i64 k, .slice (some ⟨rb, roff, none⟩) 4 dc] 98)).alloc (.cells #[.int .i64 0, .slice none 0 0] 98)).alloc (.cells #[.int .i64 op, .int .i64 ka, .int .i64 xb, .int .i64 xc] 156)).heap[w.heap.size + 1 + 1 + 1]? = some (.cells #[.int .i64 op, .int .i64 ka, .int .i64 xb, .int .i64 xc] 156) by have h := hp1 (((w.alloc (.cells #[.int .i64 p.ins, .int .i64 p.outs, .slice (some ⟨b, off, none⟩) cl cc] 86)).alloc (.cells #[.int .i64 k, .slice (some ⟨rb, roff, none⟩) 4 dc] 98)).alloc (.cells #[.int .i64 0, .slice none 0 0] 98)) (.cells #[.int .i64 op, .int .i64 ka, .int .i64 xb, .int .i64 xc] 156); rw [show (((w.alloc (.cells #[.int .i64 p.ins, .int .i64 p.outs, .slice (some ⟨b, off, none⟩) cl cc] 86)).alloc (.cells #[.int .i64 k, .slice (some ⟨rb, roff, none⟩) 4 dc] 98)).alloc (.cells #[.int .i64 0, .slice none 0 0] 98)).heap.size = w.heap.size + 1 + 1 + 1 by simp] at h; exact h)
  have hA4 := Lib.hid (show ((((w.alloc (.cells #[.int .i64 p.ins, .int .i64 p.outs, .slice (some ⟨b, off, none⟩) cl cc] 86)).alloc (.cells #[.int .i64 k, .slice (some ⟨rb, roff, none⟩) 4 dc] 98)).alloc (.cells #[.int .i64 0, .slice none 0 0] 98)).alloc (.cells #[.int .i64 op, .int .i64 ka, .int .i64 xb, .int .i64 xc] 156)).heap[w.heap.size + 1]? = some (.cells #[.int .i64 k, .slice (some ⟨rb, roff, none⟩) 4 dc] 98) from blk_in hH2.out ((Below.refl _ _).al _))
  have hR4 := Lib.hid (show ((((w.alloc (.cells #[.int .i64 p.ins, .int .i64 p.outs, .slice (some ⟨b, off, none⟩) cl cc] 86)).alloc (.cells #[.int .i64 k, .slice (some ⟨rb, roff, none⟩) 4 dc] 98)).alloc (.cells #[.int .i64 0, .slice none 0 0] 98)).alloc (.cells #[.int .i64 op, .int .i64 ka, .int .i64 xb, .int .i64 xc] 156)).heap[w.heap.size + 1 + 1]? = some (.cells #[.int .i64 0, .slice none 0 0] 98) from blk_in hH3.out ((Below.refl _ _).al _))
  have hS4 := Lib.hid (show ((((w.alloc (.cells #[.int .i64 p.ins, .int .i64 p.outs, .slice (some ⟨b, off, none⟩) cl cc] 86)).alloc (.cells #[.int .i64 k, .slice (some ⟨rb, roff, none⟩) 4 dc] 98)).alloc (.cells #[.int .i64 0, .slice none 0 0] 98)).alloc (.cells #[.int .i64 op, .int .i64 ka, .int .i64 xb, .int .i64 xc] 156)).heap.size = w.heap.size + 4 by simp)
  generalize ((((w.alloc (.cells #[.int .i64 p.ins, .int .i64 p.outs, .slice (some ⟨b, off, none⟩) cl cc] 86)).alloc (.cells #[.int .i64 k, .slice (some ⟨rb, roff, none⟩) 4 dc] 98)).alloc (.cells #[.int .i64 0, .slice none 0 0] 98)).alloc (.cells #[.int .i64 op, .int .i64 ka, .int .i64 xb, .int .i64 xc] 156)) = w4 at hb4 hX4 hA4 hR4 hS4 ⊢
  have ra4 := (hb4.out.cell (p := ⟨rb, roff + ka, none⟩) rbl).trans ra
  have rbl4 : rb < w4.heap.size := Nat.lt_of_lt_of_le rbl hb4.out.size
  obtain ⟨m0, m1⟩ := cells2 hA4.out
  have ml := lt_of hA4.out
  have hA5 := Lib.hid (show (w4.alloc (.cells #[.int .i64 0, .slice none 0 0] 98)).heap[w.heap.size + 1]? = some (.cells #[.int .i64 k, .slice (some ⟨rb, roff, none⟩) 4 dc] 98) from blk_in hA4.out ((Below.refl _ _).al _))
  clear hb hH1 hH2 hH3 bl1 bl2 bl3 rl1 rl2 rl3 c0 c1 c2 c3 hbl
  go_cut [9] from 11 (fun s9 wr => StepCut w w4 k regs s9 wr)
  case first =>
    go_region_with (go_at_call 112; refine (l1copy_any _ regs _ (HD.out.below (by first | exact hb4.out | exact hb4.out.drew | exact hb4.out.al _ | exact (hb4.out.al _).drew | exact (hb4.out.drew).al _)) (by have := HL.out; omega)).mono ?_; rintro e w5 ⟨v', rfl, ho, hb5⟩; obtain ⟨r, rc, rfl⟩ := own_four ho HL.out; have HO5 := Lib.hid ho; have HB5 := Lib.hid hb5; (try (have B5 := (blk_in (by exact hp1 w4 (.cells #[.int .i64 0, .slice none 0 0] 98)) hb5 : w5.heap[w4.heap.size]? = some (.cells #[.int .i64 0, .slice none 0 0] 98)); obtain ⟨n0, n1⟩ := cells2 B5; have nl := lt_of B5; have nz0 := fr_of B5 0; have nz1 := fr_of B5 1; have HN5 := Lib.hid B5; have HO5' := Lib.hid (show Own (w.heap.size + 5) w5 (.slice (some ⟨r, 0, none⟩) 4 rc) regs from ho.mono (by have := hS4.out; simp; omega)); clear B5)); have HBW := Lib.hid (show Below w4.heap.size w4 w5 by first | with_reducible exact hb5 | with_reducible exact cr_d hb5 | with_reducible exact cr_1 hb5 | with_reducible exact cr_1d hb5 | with_reducible exact cr_d1 hb5); have HO4 := Lib.hid (show Own (w.heap.size + 4) w5 (.slice (some ⟨r, 0, none⟩) 4 rc) regs from ho.mono (by have := hS4.out; simp; omega)); have B6 := (blk_in (by first | exact hA4.out | exact hA5.out) hb5 : w5.heap[w.heap.size + 1]? = some (.cells #[.int .i64 k, .slice (some ⟨rb, roff, none⟩) 4 dc] 98)); obtain ⟨m0, m1⟩ := cells2 B6; have ml := lt_of B6; clear B6; clear ho hb5)
    all_goals
      go_wp2_with fail
      go_meet
      case rel =>
        first
        | with_reducible exact stepCut_new HWK.out hS4.out HBW.out HO4.out
        | with_reducible exact stepCut_old HWK.out hS4.out HBW.out HN5.out hS4.out HO5'.out
  case rest =>
    obtain ⟨bx, r, rc, rfl, HBX, HBS, HO, HNE, HB⟩ := hcut
    have HX := Lib.hid (blk_in hX4.out HB.out)
    have HA := Lib.hid (blk_in hA4.out HB.out)
    have HR := Lib.hid (blk_in hR4.out HB.out)
    have HW := Lib.hid (hb4.out.trans (HB.out.mono hb4.out.size))
    have hne1 := HNE.out
    have hne2 : bx ≠ r := fun e => hne1 e.symm
    have hrlo := (HO.out.lt r rfl).1
    have hbs := HBS.out
    have HN := Lib.hid (show (w.heap.size + 1 ≠ bx ∧ w.heap.size + 1 ≠ r) ∧ (w.heap.size + 1 + 1 ≠ bx ∧ w.heap.size + 1 + 1 ≠ r) ∧ (w.heap.size + 1 + 1 + 1 ≠ bx ∧ w.heap.size + 1 + 1 + 1 ≠ r) by omega)
    have HLO := Lib.hid (show w.heap.size ≤ bx ∧ w.heap.size ≤ r by omega)
    have ra' := (HW.out.cell (p := ⟨rb, roff + ka, none⟩) rbl).trans ra
    have rbl' : rb < wc.heap.size := Nat.lt_of_lt_of_le rbl HW.out.size
    obtain ⟨x0, x1, x2, x3⟩ := cells4 HX.out
    obtain ⟨a0, a1⟩ := cells2 HA.out
    obtain ⟨b0, b1⟩ := cells2 HBX.out
    have bz0 := fr_of HBX.out 0
    have bl := lt_of HBX.out
    have HBN := Lib.hid (show bx ≠ w.heap.size + 1 by omega)
    clear hbs hrlo ra rbl hne1 hne2 m0 m1 ml ra4 rbl4
    have HNE2 := Lib.hid (show bx ≠ r from fun e => HNE.out e.symm)
    obtain ⟨ov, hov⟩ : ∃ z, z = outI ⟨op, ka, xb, xc⟩ regs := ⟨_, rfl⟩
    have HOV := Lib.hid hov
    clear hov
    go_upto_if 26 with fail
    go_cut [10] from 11 (fun s10 wr => s10 = .int .i64 ov ∧ wr = wc)
    case first =>
      by_cases o2 : op = 2
      · have E := Lib.hid (show ov = rv by rw [HOV.out, HRV.out]; simp [outI, o2])
        have d2 : (op == 2) = true := by simp [o2]
        go_wp2_with fail
        go_meet
        case rel => exact ⟨by rw [E.out], rfl⟩
      · have E := Lib.hid (show ov = 0 by rw [HOV.out]; simp [outI, o2])
        have d2 : (op == 2) = false := by simp [o2]
        go_wp2_with fail
        go_meet
        case rel => exact ⟨by rw [E.out], rfl⟩
    case rest =>
      obtain ⟨rfl, hw7⟩ := hcut
      rename World => w7
      subst hw7
      obtain ⟨jb, hjb⟩ : ∃ z, z = jumpV op rv := ⟨_, rfl⟩
      have HJ := Lib.hid hjb
      clear hjb
      go_upto_region 6 with fail
      go_cut [63] from 11 (fun s63 wr => s63 = .bool jb ∧ wr = w7)
      case first =>
        by_cases o8 : op = 8
        · subst o8
          go_wp2_with fail
          go_meet
          case rel => exact ⟨by rw [HJ.out, jumpV_8], rfl⟩
        · have d8 : (op == 8) = false := by simpa using o8
          by_cases o9 : op = 9
          · subst o9
            by_cases rz : rv = 0
            · have dz : (rv == 0) = true := by simpa using rz
              have RZ := Lib.hid rz
              clear rz
              go_wp2_with fail
              go_meet
              case rel => exact ⟨by rw [HJ.out, jumpV_9t RZ.out], rfl⟩
            · have dz : (rv == 0) = false := by simpa using rz
              have RZ := Lib.hid rz
              clear rz
              go_wp2_with fail
              go_meet
              case rel => exact ⟨by rw [HJ.out, jumpV_9f (by have := RZ.out; omega)], rfl⟩
          · have d9 : (op == 9) = false := by simpa using o9
            by_cases o10 : op = 10
            · subst o10
              by_cases rz : rv < 0
              · have dz : decide (rv < 0) = true := decide_eq_true rz
                have RZ := Lib.hid rz
                clear rz
                go_wp2_with fail
                go_meet
                case rel => exact ⟨by rw [HJ.out, jumpV_10t RZ.out], rfl⟩
              · have dz : decide (rv < 0) = false := decide_eq_false rz
                have RZ := Lib.hid rz
                clear rz
                go_wp2_with fail
                go_meet
                case rel => exact ⟨by rw [HJ.out, jumpV_10f (by have := RZ.out; omega)], rfl⟩
            · have d10 : (op == 10) = false := by simpa using o10
              have O8 := Lib.hid o8
              have O9 := Lib.hid o9
              have O10 := Lib.hid o10
              clear o8 o9 o10
              go_wp2_with fail
              go_meet
              case rel => exact ⟨by rw [HJ.out, jumpV_no O8.out O9.out O10.out], rfl⟩
      case rest =>
        obtain ⟨rfl, hw8⟩ := hcut
        rename World => w8
        subst hw8
        have HPV := Lib.hid (pcI_jump op ka xb xc regs rv k HRV.out)
        rw [← HJ.out] at HPV
        go_upto_if 63 with fail
        go_cut [10] from 11 (fun s10 wr => s10 = .int .i64 ov ∧ Hid (wr.heap[bx]? = some (.cells #[.int .i64 (pcI ⟨op, ka, xb, xc⟩ regs k), .slice (some ⟨r, 0, none⟩) 4 rc] 98)) ∧ Hid (Own (w.heap.size + 4) wr (.slice (some ⟨r, 0, none⟩) 4 rc) regs) ∧ Hid (Two bx r w8 wr))
        case first =>
          cases jb with
          | true =>
            go_wp2_with fail
            go_meet
            case rel => exact ⟨rfl, Lib.hid (by rw [show pcI ⟨op, ka, xb, xc⟩ regs k = xb from HPV.out]; exact set0_blk HBX.out _), Lib.hid (HO.out.setG HNE2.out _), Lib.hid ((Two.of_below (Below.refl _ _)).setG 0 _)⟩
          | false =>
            go_wp2_with fail
            go_meet
            case rel => exact ⟨rfl, Lib.hid (by rw [show pcI ⟨op, ka, xb, xc⟩ regs k = (k : Int) + 1 from HPV.out]; exact HBX.out), HO, Lib.hid (Two.of_below (Below.refl _ _))⟩
        case rest =>
          obtain ⟨rfl, HG2, HO2, HT2⟩ := hcut
          rename World => w9
          have HX2 := Lib.hid (HT2.out.blk HX.out HN.out.2.2.1 HN.out.2.2.2)
          have HA2 := Lib.hid (HT2.out.blk HA.out HN.out.1.1 HN.out.1.2)
          have HR2 := Lib.hid (HT2.out.blk HR.out HN.out.2.1.1 HN.out.2.1.2)
          have HB9 := Lib.hid (HT2.out.below HW.out HW.out.size HLO.out.1 HLO.out.2)
          have HRS := Lib.hid (HD.out.below HB9.out)
          clear x0 x1 x2 x3 a0 a1 b0 b1 bz0 bl ra' rbl'
          obtain ⟨g0, g1⟩ := cells2 HG2.out
          obtain ⟨x0, x1, x2, x3⟩ := cells4 HX2.out
          obtain ⟨a0, a1⟩ := cells2 HA2.out
          have qq := HO2.out.reg HL.out ka (by omega)
          obtain ⟨ra, fa⟩ := qq
          have n1 : bx ≠ r := HNE2.out
          have n2 : w.heap.size + 1 ≠ r := HN.out.1.2
          have n3 : w.heap.size + 1 + 1 + 1 ≠ r := HN.out.2.2.2
          have n4 : r ≠ bx := fun e => n1 e.symm
          have n5 : r ≠ w.heap.size + 1 := fun e => n2 e.symm
          have n6 : r ≠ w.heap.size + 1 + 1 + 1 := fun e => n3 e.symm
          have n7 : w.heap.size + 1 + 1 ≠ r := HN.out.2.1.2
          have n8 : r ≠ w.heap.size + 1 + 1 := fun e => n7 e.symm
          have ix0 : (0 : Int) ≤ (ka : Int) := by omega
          have ix1 : (ka : Int) < 4 := by omega
          have ix2 : ka < 4 := by omega
          go_upto_region 8 with fail
          go_region_held3 (fun w' => w'.cell? ⟨bx, 1, none⟩ = some (.slice (some ⟨r, 0, none⟩) 4 rc) ∧ w'.cell? ⟨w.heap.size + 1 + 1 + 1, 0, none⟩ = some (.int .i64 op) ∧ w'.cell? ⟨w.heap.size + 1 + 1 + 1, 1, none⟩ = some (.int .i64 ka) ∧ w'.cell? ⟨w.heap.size + 1 + 1 + 1, 2, none⟩ = some (.int .i64 xb) ∧ w'.cell? ⟨w.heap.size + 1 + 1 + 1, 3, none⟩ = some (.int .i64 xc) ∧ w'.cell? ⟨w.heap.size + 1, 1, none⟩ = some (.slice (some ⟨rb, roff, none⟩) 4 dc)) (go_keep)
            (first | (go_at_call 153; refine (sval_any ⟨op, ka, xb, xc⟩ _ regs t p.ins p.outs cl _ (HRS.out.below (by first | with_reducible exact Below.refl _ _ | with_reducible exact (Below.refl _ _).drew)) HL.out HS.out HXO.out).mono ?_; rintro e w3 ⟨rfl, hb3⟩; have hc3 : Below w9.heap.size w9 w3 := (by first | with_reducible exact hb3 | with_reducible exact cr_d hb3); have HB3 := Lib.hid hc3; have hg3 := blk_in HG2.out hc3; have hx3 := blk_in HX2.out hc3; have ha3 := blk_in HA2.out hc3; have hr3 := blk_in HR2.out hc3; have HO3 := Lib.hid (HO2.out.below hc3); obtain ⟨q0, q1⟩ := cells2 hg3; obtain ⟨y0, y1, y2, y3⟩ := cells4 hx3; obtain ⟨m0, m1⟩ := cells2 ha3; obtain ⟨r0, r1⟩ := cells2 hr3; have rz0 := fr_of hr3 0; have rz1 := fr_of hr3 1; have qq := HO3.out.reg HL.out ka (by omega); obtain ⟨ra3, fa3⟩ := qq; have HG3 := Lib.hid hg3; have HR3 := Lib.hid hr3; have gl3 := lt_of hg3; have rl3 := lt_of hr3; clear hb3 hc3 hx3 ha3 hg3 hr3))
          all_goals
            go_wp2_with fail
            refine bodyPost_ret (v := .tuple #[.agg #[.int .i64 (pcI ⟨op, ka, xb, xc⟩ regs k), .slice (some ⟨r, 0, none⟩) 4 rc], .int .i64 ov]) (by simp [results, Try.results132, go_sem, r0, r1]) rfl ⟨r, rc, by rw [HOV.out], ?_, ?_⟩
            · have e : regsI ⟨op, ka, xb, xc⟩ regs t = regs.set ka (valI ⟨op, ka, xb, xc⟩ regs t) := by simp [regsI]
              rw [e]
              exact (((HO3.out.setR HL.out _).setB (by show w.heap.size + 1 + 1 < w.heap.size + 4; omega) _).setB (by show w.heap.size + 1 + 1 < w.heap.size + 4; omega) _).mono (by omega)
            · exact (((HB9.out.trans (HB3.out.mono HB9.out.size)).setCell (by have := HLO.out.2; exact this) _).setCell (by show w.heap.size ≤ w.heap.size + 1 + 1; omega) _).setCell (by show w.heap.size ≤ w.heap.size + 1 + 1; omega) _
end Go.Proofs.Ytjphamgkigekkaa
