/-
  What the model's StepActor answers. No statement of the seat is proved here.
-/
import Derived.Test.YthniafpkkgcjnaaStepS
namespace Go.Proofs.Ythniafpkkgcjnaa
open Go.RowKit

theorem Own.alO {lo : Nat} {w : World} {v : Value} {xs : List Int} (h : Own lo w v xs) (o : Obj) : Own lo (w.alloc o) v xs := World.ownsRow.alloc h o

set_option maxRecDepth 100000 in
set_option maxHeartbeats 8000000 in
theorem sstep_any (v u : Value) (p : Prg) (a : Act) (t : Int) (w : World) (h : PrgV w v p) (hk : ActV w u a) :
    Calls Try.prog 38 #[v, u, .int .i64 t] w fun e w' => ∃ v', e = .returned (.tuple #[v', .int .i64 (stepActorR1 p a t), .bool (stepActorR2 p a t)]) ∧ ActO w.heap.size w' v' (stepActorR0 p a t) ∧ Below w.heap.size w w' := by
  obtain ⟨c, rfl, hc⟩ := h
  obtain ⟨d, rfl, hd⟩ := hk
  have HC := Lib.hid hc
  have HD := Lib.hid hd
  obtain ⟨ca, cc, rfl⟩ := hc.shape
  obtain ⟨da, dc, rfl⟩ := hd.shape
  clear hc hd
  have hb := Lib.hid ((((Below.refl w.heap.size w).al (.cells #[.int .i64 p.ins, .int .i64 p.outs, .slice ca p.code.length cc] 31)).al (.cells #[.int .i64 a.pc, .slice da a.regs.length dc] 43)).al (.cells #[.int .i64 0, .slice none 0 0] 43))
  have hH3 := Lib.hid (hp3 w (.cells #[.int .i64 p.ins, .int .i64 p.outs, .slice ca p.code.length cc] 31) (.cells #[.int .i64 a.pc, .slice da a.regs.length dc] 43) (.cells #[.int .i64 0, .slice none 0 0] 43))
  have hH2 := Lib.hid (hp32 w (.cells #[.int .i64 p.ins, .int .i64 p.outs, .slice ca p.code.length cc] 31) (.cells #[.int .i64 a.pc, .slice da a.regs.length dc] 43) (.cells #[.int .i64 0, .slice none 0 0] 43))
  have hH1 := Lib.hid (hp31 w (.cells #[.int .i64 p.ins, .int .i64 p.outs, .slice ca p.code.length cc] 31) (.cells #[.int .i64 a.pc, .slice da a.regs.length dc] 43) (.cells #[.int .i64 0, .slice none 0 0] 43))
  have C := Lib.hid (fun W hw => sisact_top (.agg #[.int .i64 p.ins, .int .i64 p.outs, .slice ca p.code.length cc]) (.agg #[.int .i64 a.pc, .slice da a.regs.length dc]) p a W ⟨_, rfl, HC.out.below hw⟩ ⟨_, rfl, HD.out.below hw⟩)
  obtain ⟨cl, hcl⟩ : ∃ z, z = p.code.length := ⟨_, rfl⟩
  obtain ⟨dl, hdl⟩ : ∃ z, z = a.regs.length := ⟨_, rfl⟩
  have HCL := Lib.hid hcl
  rw [← hcl] at HC C hb hH1 hH2 hH3 ⊢
  rw [← hdl] at HD C hb hH1 hH2 hH3 ⊢
  clear hcl hdl
  cases q0 : (okP p && okA p a) with
  | false =>
    have hs : stepB p a t = false := by unfold stepB; rw [q0]; rfl
    obtain ⟨e0, e1, e2⟩ := stepActor_no hs
    rw [e0, e1, e2]
    rw [q0] at C
    clear q0 hs e0 e1 e2
    go_enter Try.func38, Try.ntmps38
    go_wp2_with (first | (go_at_call 35; refine (C.out _ hb.out).mono ?_; rintro e w2 ⟨rfl, hb2⟩; have HB2 := Lib.hid hb2; have B1_2 := blk_in hH1.out hb2; have B2_2 := blk_in hH2.out hb2; have B3_2 := blk_in hH3.out hb2; obtain ⟨p0_2, p1_2, p2_2⟩ := cells3 B1_2; obtain ⟨a0_2, a1_2⟩ := cells2 B2_2; obtain ⟨r0_2, r1_2⟩ := cells2 B3_2; have z0_2 := fr_of B3_2 0; have z1_2 := fr_of B3_2 1; have l1_2 := lt_of B1_2; have l2_2 := lt_of B2_2; have l3_2 := lt_of B3_2; clear B1_2 B2_2 B3_2; clear hb2))
    refine bodyPost_ret (v := .tuple #[.agg #[.int .i64 0, .slice none 0 0], .int .i64 0, .bool false]) (by simp [results, Try.results38, go_sem, r0_2, r1_2]) rfl ⟨_, rfl, ⟨_, rfl, own_nil _ _⟩, ?_⟩
    exact ((hb.out.trans (HB2.out.mono (by simp; omega))).setCell (by show w.heap.size ≤ w.heap.size + 1 + 1; omega) _).setCell (by show w.heap.size ≤ w.heap.size + 1 + 1; omega) _
  | true =>
    rw [q0] at C
    have hpa : okP p = true ∧ okA p a = true := by rw [Bool.and_eq_true] at q0; exact q0
    have hpc := (okA_parts hpa.2).1
    have HL := Lib.hid hpc.2
    have HSS := Lib.hid (okA_parts hpa.2).2
    have HOK := Lib.hid hpa.1
    have S := Lib.hid (fun W hw => swantat_any (.agg #[.int .i64 p.ins, .int .i64 p.outs, .slice ca cl cc]) p a.pc (.slice da dl dc) W ⟨_, rfl, HC.out.below hw⟩ hpc.1)
    obtain ⟨wt, hwt⟩ : ∃ z, z = wantC p.code a.pc.toNat := ⟨_, rfl⟩
    obtain ⟨pt, hpt⟩ : ∃ z, z = portC p.code a.pc.toNat := ⟨_, rfl⟩
    rw [← hwt, ← hpt] at S
    have T := Lib.hid (fun W => stok_any t W)
    have hdef : stepB p a t = (decide (wt ≠ 0) && (decide (wt ≠ 2) || isTok t)) := by unfold stepB; rw [q0, ← hwt]; rfl
    clear hpt
    by_cases w0 : wt = 0
    · have hs : stepB p a t = false := by rw [hdef, w0]; rfl
      obtain ⟨e0, e1, e2⟩ := stepActor_no hs
      rw [e0, e1, e2]
      clear q0 hs e0 e1 e2 hwt hdef hpa hpc
      subst w0
      go_enter Try.func38, Try.ntmps38
      go_wp2_with (first | (go_at_call 35; refine (C.out _ hb.out).mono ?_; rintro e w2 ⟨rfl, hb2⟩; have HB2 := Lib.hid hb2; have B1_2 := blk_in hH1.out hb2; have B2_2 := blk_in hH2.out hb2; have B3_2 := blk_in hH3.out hb2; obtain ⟨p0_2, p1_2, p2_2⟩ := cells3 B1_2; obtain ⟨a0_2, a1_2⟩ := cells2 B2_2; obtain ⟨r0_2, r1_2⟩ := cells2 B3_2; have z0_2 := fr_of B3_2 0; have z1_2 := fr_of B3_2 1; have l1_2 := lt_of B1_2; have l2_2 := lt_of B2_2; have l3_2 := lt_of B3_2; clear B1_2 B2_2 B3_2; clear hb2) | (go_at_call 93; refine (S.out _ (hb.out.trans (HB2.out.mono (by simp; omega)))).mono ?_; rintro e w3 ⟨rfl, hb3⟩; have HB3 := Lib.hid (HB2.out.trans (hb3.mono HB2.out.size)); have hb3' := HB3.out; clear p0_2 p1_2 p2_2 a0_2 a1_2 r0_2 r1_2 z0_2 z1_2 l1_2 l2_2 l3_2; have B1_3 := blk_in hH1.out hb3'; have B2_3 := blk_in hH2.out hb3'; have B3_3 := blk_in hH3.out hb3'; obtain ⟨p0_3, p1_3, p2_3⟩ := cells3 B1_3; obtain ⟨a0_3, a1_3⟩ := cells2 B2_3; obtain ⟨r0_3, r1_3⟩ := cells2 B3_3; have z0_3 := fr_of B3_3 0; have z1_3 := fr_of B3_3 1; have l1_3 := lt_of B1_3; have l2_3 := lt_of B2_3; have l3_3 := lt_of B3_3; clear B1_3 B2_3 B3_3; clear hb3 hb3'))
      refine bodyPost_ret (v := .tuple #[.agg #[.int .i64 0, .slice none 0 0], .int .i64 0, .bool false]) (by simp [results, Try.results38, go_sem, r0_3, r1_3]) rfl ⟨_, rfl, ⟨_, rfl, own_nil _ _⟩, ?_⟩
      exact ((hb.out.trans (HB3.out.mono (by simp; omega))).setCell (by show w.heap.size ≤ w.heap.size + 1 + 1; omega) _).setCell (by show w.heap.size ≤ w.heap.size + 1 + 1; omega) _
    · have d0 : (wt == 0) = false := by simpa using w0
      by_cases w2 : wt = 2
      · cases ht : isTok t with
        | false =>
          have hs : stepB p a t = false := by rw [hdef, w2, ht]; rfl
          obtain ⟨e0, e1, e2⟩ := stepActor_no hs
          rw [e0, e1, e2]
          rw [ht] at T
          clear q0 hs e0 e1 e2 hwt hdef hpa hpc w0
          subst w2
          go_enter Try.func38, Try.ntmps38
          go_wp2_with (first | (go_at_call 35; refine (C.out _ hb.out).mono ?_; rintro e w2 ⟨rfl, hb2⟩; have HB2 := Lib.hid hb2; have B1_2 := blk_in hH1.out hb2; have B2_2 := blk_in hH2.out hb2; have B3_2 := blk_in hH3.out hb2; obtain ⟨p0_2, p1_2, p2_2⟩ := cells3 B1_2; obtain ⟨a0_2, a1_2⟩ := cells2 B2_2; obtain ⟨r0_2, r1_2⟩ := cells2 B3_2; have z0_2 := fr_of B3_2 0; have z1_2 := fr_of B3_2 1; have l1_2 := lt_of B1_2; have l2_2 := lt_of B2_2; have l3_2 := lt_of B3_2; clear B1_2 B2_2 B3_2; clear hb2) | (go_at_call 93; refine (S.out _ (hb.out.trans (HB2.out.mono (by simp; omega)))).mono ?_; rintro e w3 ⟨rfl, hb3⟩; have HB3 := Lib.hid (HB2.out.trans (hb3.mono HB2.out.size)); have hb3' := HB3.out; clear p0_2 p1_2 p2_2 a0_2 a1_2 r0_2 r1_2 z0_2 z1_2 l1_2 l2_2 l3_2; have B1_3 := blk_in hH1.out hb3'; have B2_3 := blk_in hH2.out hb3'; have B3_3 := blk_in hH3.out hb3'; obtain ⟨p0_3, p1_3, p2_3⟩ := cells3 B1_3; obtain ⟨a0_3, a1_3⟩ := cells2 B2_3; obtain ⟨r0_3, r1_3⟩ := cells2 B3_3; have z0_3 := fr_of B3_3 0; have z1_3 := fr_of B3_3 1; have l1_3 := lt_of B1_3; have l2_3 := lt_of B2_3; have l3_3 := lt_of B3_3; clear B1_3 B2_3 B3_3; clear hb3 hb3') | (go_at_call 94; refine (T.out _).mono ?_; rintro e w' ⟨rfl, rfl⟩))
          refine bodyPost_ret (v := .tuple #[.agg #[.int .i64 0, .slice none 0 0], .int .i64 0, .bool false]) (by simp [results, Try.results38, go_sem, r0_3, r1_3]) rfl ⟨_, rfl, ⟨_, rfl, own_nil _ _⟩, ?_⟩
          exact ((hb.out.trans (HB3.out.mono (by simp; omega))).setCell (by show w.heap.size ≤ w.heap.size + 1 + 1; omega) _).setCell (by show w.heap.size ≤ w.heap.size + 1 + 1; omega) _
        | true =>
          have hs : stepB p a t = true := by rw [hdef, w2, ht]; rfl
          obtain ⟨e0, e1, e2⟩ := stepActor_yes hs
          obtain ⟨_, k, k1, k2, k3⟩ := step_x hs
          rw [k1, Int.toNat_natCast] at e0 e1
          rw [e0, e1, e2]
          have HPC := Lib.hid k1
          have HX := Lib.hid k2
          have HOP := Lib.hid k3
          rw [ht] at T
          clear q0 hs e0 e1 e2 hwt hdef hpa hpc w0 k1 k2 k3
          subst w2
          go_enter Try.func38, Try.ntmps38
          go_wp2_with (first | (go_at_call 35; refine (C.out _ hb.out).mono ?_; rintro e w2 ⟨rfl, hb2⟩; have HB2 := Lib.hid hb2; have B1_2 := blk_in hH1.out hb2; have B2_2 := blk_in hH2.out hb2; have B3_2 := blk_in hH3.out hb2; obtain ⟨p0_2, p1_2, p2_2⟩ := cells3 B1_2; obtain ⟨a0_2, a1_2⟩ := cells2 B2_2; obtain ⟨r0_2, r1_2⟩ := cells2 B3_2; have z0_2 := fr_of B3_2 0; have z1_2 := fr_of B3_2 1; have l1_2 := lt_of B1_2; have l2_2 := lt_of B2_2; have l3_2 := lt_of B3_2; clear B1_2 B2_2 B3_2; clear hb2) | (go_at_call 93; refine (S.out _ (hb.out.trans (HB2.out.mono (by simp; omega)))).mono ?_; rintro e w3 ⟨rfl, hb3⟩; have HB3 := Lib.hid (HB2.out.trans (hb3.mono HB2.out.size)); have hb3' := HB3.out; clear p0_2 p1_2 p2_2 a0_2 a1_2 r0_2 r1_2 z0_2 z1_2 l1_2 l2_2 l3_2; have B1_3 := blk_in hH1.out hb3'; have B2_3 := blk_in hH2.out hb3'; have B3_3 := blk_in hH3.out hb3'; obtain ⟨p0_3, p1_3, p2_3⟩ := cells3 B1_3; obtain ⟨a0_3, a1_3⟩ := cells2 B2_3; obtain ⟨r0_3, r1_3⟩ := cells2 B3_3; have z0_3 := fr_of B3_3 0; have z1_3 := fr_of B3_3 1; have l1_3 := lt_of B1_3; have l2_3 := lt_of B2_3; have l3_3 := lt_of B3_3; clear B1_3 B2_3 B3_3; clear hb3 hb3') | (go_at_call 94; refine (T.out _).mono ?_; rintro e w' ⟨rfl, rfl⟩) | (go_at_call 95; refine (sl2step_any _ _ p k a.regs (insAt p.code k) t _ ⟨_, rfl, HC.out.below (hb.out.trans (HB3.out.mono (by simp; omega)))⟩ ⟨.slice da dl dc, by rw [HPC.out], HD.out.below (hb.out.trans (HB3.out.mono (by simp; omega)))⟩ HOK.out HX.out HOP.out HL.out HSS.out).mono ?_; rintro e w4 ⟨r, rc, rfl, ho4, hb4⟩; have HO4 := Lib.hid ho4; have HB4 := Lib.hid (HB3.out.trans (hb4.mono HB3.out.size)); have HS3 := Lib.hid HB3.out.size; have hb4' := HB4.out; clear p0_3 p1_3 p2_3 a0_3 a1_3 r0_3 r1_3 z0_3 z1_3 l1_3 l2_3 l3_3; have B1_4 := blk_in hH1.out hb4'; have B2_4 := blk_in hH2.out hb4'; have B3_4 := blk_in hH3.out hb4'; obtain ⟨p0_4, p1_4, p2_4⟩ := cells3 B1_4; obtain ⟨a0_4, a1_4⟩ := cells2 B2_4; obtain ⟨r0_4, r1_4⟩ := cells2 B3_4; have z0_4 := fr_of B3_4 0; have z1_4 := fr_of B3_4 1; have l1_4 := lt_of B1_4; have l2_4 := lt_of B2_4; have l3_4 := lt_of B3_4; clear B1_4 B2_4 B3_4; clear ho4 hb4 hb4'))
          refine bodyPost_ret (v := .tuple #[.agg #[.int .i64 (pcI (insAt p.code k) a.regs k), .slice (some ⟨r, 0, none⟩) 4 rc], .int .i64 (outI (insAt p.code k) a.regs), .bool true]) (by simp [results, Try.results38, go_sem, r0_4, r1_4, l3_4]) rfl ⟨_, rfl, ⟨_, rfl, ?_⟩, ?_⟩
          · exact Own.mono (Own.alO (((HO4.out.mono (lo' := w.heap.size + 3) (by have := HS3.out; simp at this; omega)).setB (a := ⟨w.heap.size + 1 + 1, 0, none⟩) (by show w.heap.size + 1 + 1 < w.heap.size + 3; omega) _).setB (a := ⟨w.heap.size + 1 + 1, 1, none⟩) (by show w.heap.size + 1 + 1 < w.heap.size + 3; omega) _) _) (by omega)
          · exact (((hb.out.trans (HB4.out.mono (by simp; omega))).setCell (p := ⟨w.heap.size + 1 + 1, 0, none⟩) (by show w.heap.size ≤ w.heap.size + 1 + 1; omega) _).setCell (p := ⟨w.heap.size + 1 + 1, 1, none⟩) (by show w.heap.size ≤ w.heap.size + 1 + 1; omega) _).al _
      · have d2 : (wt == 2) = false := by simpa using w2
        have hs : stepB p a t = true := by rw [hdef, decide_eq_true w0, decide_eq_true w2]; rfl
        obtain ⟨e0, e1, e2⟩ := stepActor_yes hs
        obtain ⟨_, k, k1, k2, k3⟩ := step_x hs
        rw [k1, Int.toNat_natCast] at e0 e1
        rw [e0, e1, e2]
        have HPC := Lib.hid k1
        have HX := Lib.hid k2
        have HOP := Lib.hid k3
        clear q0 hs e0 e1 e2 hwt hdef hpa hpc w0 w2 k1 k2 k3
        go_enter Try.func38, Try.ntmps38
        go_wp2_with (first | (go_at_call 35; refine (C.out _ hb.out).mono ?_; rintro e w2 ⟨rfl, hb2⟩; have HB2 := Lib.hid hb2; have B1_2 := blk_in hH1.out hb2; have B2_2 := blk_in hH2.out hb2; have B3_2 := blk_in hH3.out hb2; obtain ⟨p0_2, p1_2, p2_2⟩ := cells3 B1_2; obtain ⟨a0_2, a1_2⟩ := cells2 B2_2; obtain ⟨r0_2, r1_2⟩ := cells2 B3_2; have z0_2 := fr_of B3_2 0; have z1_2 := fr_of B3_2 1; have l1_2 := lt_of B1_2; have l2_2 := lt_of B2_2; have l3_2 := lt_of B3_2; clear B1_2 B2_2 B3_2; clear hb2) | (go_at_call 93; refine (S.out _ (hb.out.trans (HB2.out.mono (by simp; omega)))).mono ?_; rintro e w3 ⟨rfl, hb3⟩; have HB3 := Lib.hid (HB2.out.trans (hb3.mono HB2.out.size)); have hb3' := HB3.out; clear p0_2 p1_2 p2_2 a0_2 a1_2 r0_2 r1_2 z0_2 z1_2 l1_2 l2_2 l3_2; have B1_3 := blk_in hH1.out hb3'; have B2_3 := blk_in hH2.out hb3'; have B3_3 := blk_in hH3.out hb3'; obtain ⟨p0_3, p1_3, p2_3⟩ := cells3 B1_3; obtain ⟨a0_3, a1_3⟩ := cells2 B2_3; obtain ⟨r0_3, r1_3⟩ := cells2 B3_3; have z0_3 := fr_of B3_3 0; have z1_3 := fr_of B3_3 1; have l1_3 := lt_of B1_3; have l2_3 := lt_of B2_3; have l3_3 := lt_of B3_3; clear B1_3 B2_3 B3_3; clear hb3 hb3') | (go_at_call 95; refine (sl2step_any _ _ p k a.regs (insAt p.code k) t _ ⟨_, rfl, HC.out.below (hb.out.trans (HB3.out.mono (by simp; omega)))⟩ ⟨.slice da dl dc, by rw [HPC.out], HD.out.below (hb.out.trans (HB3.out.mono (by simp; omega)))⟩ HOK.out HX.out HOP.out HL.out HSS.out).mono ?_; rintro e w4 ⟨r, rc, rfl, ho4, hb4⟩; have HO4 := Lib.hid ho4; have HB4 := Lib.hid (HB3.out.trans (hb4.mono HB3.out.size)); have HS3 := Lib.hid HB3.out.size; have hb4' := HB4.out; clear p0_3 p1_3 p2_3 a0_3 a1_3 r0_3 r1_3 z0_3 z1_3 l1_3 l2_3 l3_3; have B1_4 := blk_in hH1.out hb4'; have B2_4 := blk_in hH2.out hb4'; have B3_4 := blk_in hH3.out hb4'; obtain ⟨p0_4, p1_4, p2_4⟩ := cells3 B1_4; obtain ⟨a0_4, a1_4⟩ := cells2 B2_4; obtain ⟨r0_4, r1_4⟩ := cells2 B3_4; have z0_4 := fr_of B3_4 0; have z1_4 := fr_of B3_4 1; have l1_4 := lt_of B1_4; have l2_4 := lt_of B2_4; have l3_4 := lt_of B3_4; clear B1_4 B2_4 B3_4; clear ho4 hb4 hb4'))
        refine bodyPost_ret (v := .tuple #[.agg #[.int .i64 (pcI (insAt p.code k) a.regs k), .slice (some ⟨r, 0, none⟩) 4 rc], .int .i64 (outI (insAt p.code k) a.regs), .bool true]) (by simp [results, Try.results38, go_sem, r0_4, r1_4, l3_4]) rfl ⟨_, rfl, ⟨_, rfl, ?_⟩, ?_⟩
        · exact Own.mono (Own.alO (((HO4.out.mono (lo' := w.heap.size + 3) (by have := HS3.out; simp at this; omega)).setB (a := ⟨w.heap.size + 1 + 1, 0, none⟩) (by show w.heap.size + 1 + 1 < w.heap.size + 3; omega) _).setB (a := ⟨w.heap.size + 1 + 1, 1, none⟩) (by show w.heap.size + 1 + 1 < w.heap.size + 3; omega) _) _) (by omega)
        · exact (((hb.out.trans (HB4.out.mono (by simp; omega))).setCell (p := ⟨w.heap.size + 1 + 1, 0, none⟩) (by show w.heap.size ≤ w.heap.size + 1 + 1; omega) _).setCell (p := ⟨w.heap.size + 1 + 1, 1, none⟩) (by show w.heap.size ≤ w.heap.size + 1 + 1; omega) _).al _
end Go.Proofs.Ythniafpkkgcjnaa
