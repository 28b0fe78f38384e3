/-
  The walk of the law FnTokens: it answers true and changes nothing that was there.
-/
import Derived.Test.YthniafpkkgcjnaaTokM
import Derived.Test.YthniafpkkgcjnaaBytes
import Derived.BigQuiet
import Derived.Deep.Cut
namespace Go.Proofs.Ythniafpkkgcjnaa
open Go.RowKit

def tkPc (x : Int) : Int := if x < 0 then 3 else 2
set_option maxRecDepth 100000 in
set_option maxHeartbeats 16000000 in
theorem fnTokens_core (pa : Option Addr) (pc : Nat) (bs : List Int) (w : World) (h : Sb w (.slice pa bs.length pc) bs) (hs : bs.length ≤ 1048576) :
    Calls Try.prog 7 #[.slice pa bs.length pc] w fun e w' => e = .returned (.bool true) ∧ Below w.heap.size w w' := by
  have HS := Lib.hid h
  have HL := Lib.hid hs
  obtain ⟨bl, hbl⟩ : ∃ z, z = bs.length := ⟨_, rfl⟩
  rw [← hbl] at HS hs ⊢
  clear h hbl
  have d0 : decide ((bl : Int) > 1048576) = false := decide_eq_false (by omega)
  have d1 : decide (1048576 < (bl : Int)) = false := decide_eq_false (by omega)
  have hb := Lib.hid ((Below.refl w.heap.size w).al (.cells #[.int .i64 4, .int .i64 5, .int .i64 6, .int .i64 7] 3))
  have hH := Lib.hid (hp1 w (.cells #[.int .i64 4, .int .i64 5, .int .i64 6, .int .i64 7] 3))
  go_enter Try.func7, Try.ntmps7
  go_wp2_with fail
  go_loopw [24] (fun i wr => ∃ k : Nat, k ≤ 4 ∧ i = .int .i64 k ∧ Hid (wr.heap[w.heap.size]? = some (.cells #[.int .i64 4, .int .i64 5, .int .i64 6, .int .i64 7] 3)) ∧ Hid (Below w.heap.size w wr)) (fun i _ => 4 - (intOf i).toNat)
  case atStart => exact ⟨0, Nat.zero_le _, rfl, hH, hb⟩
  case round =>
    obtain ⟨k, hk, rfl, HO, HB⟩ := hrel
    by_cases hlt : k < 4
    · have ck := tk_ops HO.out hlt
      have lo := lt_of HO.out
      have lk2 : (k : Int) < 4 := by omega
      obtain ⟨op, hop⟩ : ∃ z : Int, z = 4 + (k : Int) := ⟨_, rfl⟩
      rw [← hop] at ck
      have H47 := Lib.hid (show 4 ≤ op ∧ op ≤ 7 by omega)
      have HSk := Lib.hid (HS.out.below HB.out)
      have wk1 : wrap64 ((k : Int) + 1) = (k : Int) + 1 := IntWalk.wrap64_in _ (by omega)
      have wk2 : wrap64 ((k : Int) + 2) = (k : Int) + 2 := IntWalk.wrap64_in _ (by omega)
      have wk3 : wrap64 ((k : Int) + 3) = (k : Int) + 3 := IntWalk.wrap64_in _ (by omega)
      clear hop
      go_upto_region 9 with (first | (go_at_call 24; refine (at_any _ bs _ _ (HSk.out.below (by first | exact Below.refl _ _ | exact (Below.refl _ _).al _ | exact ((Below.refl _ _).al _).al _ | exact (((Below.refl _ _).al _).al _).al _)) HL.out (by omega) (by omega)).mono ?_; rintro e w' ⟨r, rfl, r0, r1, rfl⟩; have wr1 : wrap64 (r * 4001) = r * 4001 := IntWalk.wrap64_in _ (by omega); have wr2 : wrap64 (r * 4001 - 510000) = r * 4001 - 510000 := IntWalk.wrap64_in _ (by omega)) | (go_at_call 20; refine (iwrap_any _ _).mono ?_; rintro e w' ⟨rfl, rfl⟩; generalize hu : wrapT _ = u; have HU := Lib.hid (show isTok u = true by rw [← hu]; exact isTok_of (wrapT_bd _)); clear hu))
      obtain ⟨vv, hvv⟩ : ∃ z, z = r * 4001 - 510000 := ⟨_, rfl⟩
      have HVV := Lib.hid (show isTok vv = true by rw [hvv]; exact isTok_yes (by omega) (by omega))
      rw [← hvv]
      clear hvv wr1 wr2
      obtain ⟨x, hx⟩ : ∃ z, z = tkX op u vv := ⟨_, rfl⟩
      obtain ⟨pcv, hpcv⟩ : ∃ z, z = tkPc x := ⟨_, rfl⟩
      have HXT := Lib.hid (show isTok x = true by rw [hx]; exact tkX_tok H47.out HU.out HVV.out)
      have HX7 := Lib.hid (show op = 7 → 0 ≤ x ∧ (vv ≠ 0 → (u - x).tmod vv = 0) by intro e; rw [hx, e]; exact tk_rest)
      have hB : tkB op u vv = ⟨1, [u, vv, x, 0]⟩ := by unfold tkB; rw [← hx]
      have hC : tkC op u vv = ⟨pcv, [u, vv, x, 0]⟩ := by unfold tkC; rw [← hx, hpcv]; rfl
      obtain ⟨o1, ho1⟩ : ∃ z, z = stepActorR1 (tkP op) (tkA u vv) 0 := ⟨_, rfl⟩
      obtain ⟨o2, ho2⟩ : ∃ z, z = stepActorR1 (tkP op) (tkB op u vv) 0 := ⟨_, rfl⟩
      obtain ⟨o3, ho3⟩ : ∃ z, z = stepActorR1 (tkP op) (tkC op u vv) 0 := ⟨_, rfl⟩
      have C1 := Lib.hid (fun (W : World) (cp sa : Value) (hp : SlI W cp (tkP op).code) (ha : Sl W sa [u, vv, 0, 0]) => (show Calls Try.prog 28 #[.agg #[.int .i64 0, .int .i64 0, cp], .agg #[.int .i64 0, sa], .int .i64 0] W fun e w' => ∃ sb, e = .returned (.tuple #[.agg #[.int .i64 1, sb], .int .i64 o1, .bool true]) ∧ Own W.heap.size w' sb [u, vv, x, 0] ∧ Below W.heap.size W w' from by
        have q := istepR_any (.agg #[.int .i64 0, .int .i64 0, cp]) (.agg #[.int .i64 0, sa]) (tkP op) (tkA u vv) 0 W ⟨cp, rfl, hp⟩ ⟨sa, rfl, ha⟩ (by decide)
        rw [tk_b H47.out HU.out HVV.out, ← ho1, show stepActorR2 (tkP op) (tkA u vv) 0 = true from tk_step1 H47.out HU.out HVV.out, hB] at q
        exact q.mono fun e w' ⟨v', he, ⟨sb, hv, ho⟩, hb⟩ => ⟨sb, by rw [he, hv], ho, hb⟩))
      have C2 := Lib.hid (fun (W : World) (cp sa : Value) (hp : SlI W cp (tkP op).code) (ha : Sl W sa [u, vv, x, 0]) => (show Calls Try.prog 28 #[.agg #[.int .i64 0, .int .i64 0, cp], .agg #[.int .i64 1, sa], .int .i64 0] W fun e w' => ∃ sb, e = .returned (.tuple #[.agg #[.int .i64 pcv, sb], .int .i64 o2, .bool true]) ∧ Own W.heap.size w' sb [u, vv, x, 0] ∧ Below W.heap.size W w' from by
        have q := istepR_any (.agg #[.int .i64 0, .int .i64 0, cp]) (.agg #[.int .i64 1, sa]) (tkP op) (tkB op u vv) 0 W ⟨cp, rfl, hp⟩ ⟨sa, by rw [hB], by rw [hB]; exact ha⟩ (by decide)
        rw [tk_c H47.out HU.out HVV.out, ← ho2, show stepActorR2 (tkP op) (tkB op u vv) 0 = true from tk_step2 H47.out HU.out HVV.out, hC] at q
        exact q.mono fun e w' ⟨v', he, ⟨sb, hv, ho⟩, hb⟩ => ⟨sb, by rw [he, hv], ho, hb⟩))
      have C3 := Lib.hid (fun (W : World) (cp sa : Value) (hp : SlI W cp (tkP op).code) (ha : Sl W sa [u, vv, x, 0]) => (show Calls Try.prog 28 #[.agg #[.int .i64 0, .int .i64 0, cp], .agg #[.int .i64 pcv, sa], .int .i64 0] W fun e w' => ∃ sb, e = .returned (.tuple #[.agg #[.int .i64 0, sb], .int .i64 o3, .bool false]) ∧ Own W.heap.size w' sb [] ∧ Below W.heap.size W w' from by
        have q := istepR_any (.agg #[.int .i64 0, .int .i64 0, cp]) (.agg #[.int .i64 pcv, sa]) (tkP op) (tkC op u vv) 0 W ⟨cp, rfl, hp⟩ ⟨sa, by rw [hC], by rw [hC]; exact ha⟩ (by decide)
        rw [(stepActor_no (tk_step3 (op := op) (u := u) (v := vv))).1, ← ho3, (stepActor_no (tk_step3 (op := op) (u := u) (v := vv))).2.2] at q
        exact q.mono fun e w' ⟨v', he, ⟨sb, hv, ho⟩, hb⟩ => ⟨sb, by rw [he, hv], ho, hb⟩))
      have D1 := Lib.hid (fun (W : World) (cp sa : Value) (hp : SlI W cp (tkP op).code) (ha : Sl W sa [u, vv, x, 0]) => (show Calls Try.prog 35 #[.agg #[.int .i64 0, .int .i64 0, cp], .agg #[.int .i64 1, sa]] W fun e w' => e = .returned (.bool true) ∧ Below W.heap.size W w' from by
        have q := sisactR_any (.agg #[.int .i64 0, .int .i64 0, cp]) (.agg #[.int .i64 1, sa]) (tkP op) (tkB op u vv) W ⟨cp, rfl, hp⟩ ⟨sa, by rw [hB], by rw [hB]; exact ha⟩
        rw [show isActorR0 (tkP op) (tkB op u vv) = true by unfold isActorR0; rw [tkP_ok H47.out, tkB_ok H47.out HU.out HVV.out]; rfl] at q
        exact q))
      have D2 := Lib.hid (fun (W : World) (cp sa : Value) (hp : SlI W cp (tkP op).code) (ha : Sl W sa [u, vv, x, 0]) => (show Calls Try.prog 35 #[.agg #[.int .i64 0, .int .i64 0, cp], .agg #[.int .i64 pcv, sa]] W fun e w' => e = .returned (.bool true) ∧ Below W.heap.size W w' from by
        have q := sisactR_any (.agg #[.int .i64 0, .int .i64 0, cp]) (.agg #[.int .i64 pcv, sa]) (tkP op) (tkC op u vv) W ⟨cp, rfl, hp⟩ ⟨sa, by rw [hC], by rw [hC]; exact ha⟩
        rw [show isActorR0 (tkP op) (tkC op u vv) = true by unfold isActorR0; rw [tkP_ok H47.out, tkC_ok H47.out HU.out HVV.out]; rfl] at q
        exact q))
      have HPC := Lib.hid hpcv
      clear hB hC ho1 ho2 ho3 hx hpcv
      obtain ⟨F0, F1, F2, F3, FB⟩ := four_al wr (.cells #[.int .i64 op, .int .i64 2, .int .i64 0, .int .i64 1, .int .i64 10, .int .i64 2, .int .i64 3, .int .i64 0, .int .i64 11, .int .i64 0, .int .i64 0, .int .i64 0] 61) (.cells #[.int .i64 0, .int .i64 0, .slice (some ⟨wr.heap.size, 0, none⟩) 3 3] 31) (.cells #[.int .i64 u, .int .i64 vv, .int .i64 0, .int .i64 0] 3) (.cells #[.int .i64 0, .slice (some ⟨wr.heap.size + 1 + 1, 0, none⟩) 4 4] 43)
      obtain ⟨W4, hW⟩ : ∃ W, W = ((((wr.alloc (.cells #[.int .i64 op, .int .i64 2, .int .i64 0, .int .i64 1, .int .i64 10, .int .i64 2, .int .i64 3, .int .i64 0, .int .i64 11, .int .i64 0, .int .i64 0, .int .i64 0] 61)).alloc (.cells #[.int .i64 0, .int .i64 0, .slice (some ⟨wr.heap.size, 0, none⟩) 3 3] 31)).alloc (.cells #[.int .i64 u, .int .i64 vv, .int .i64 0, .int .i64 0] 3)).alloc (.cells #[.int .i64 0, .slice (some ⟨wr.heap.size + 1 + 1, 0, none⟩) 4 4] 43)) := ⟨_, rfl⟩
      rw [← hW] at F0 F1 F2 F3 FB ⊢
      have GP := Lib.hid F1
      have GA := Lib.hid (show W4.heap[wr.heap.size + 1 + 1 + 1]? = some (.cells #[.int .i64 0, .slice (some ⟨wr.heap.size + 1 + 1, 0, none⟩) 4 4] 43) from F3)
      have GR := Lib.hid (show W4.heap[wr.heap.size + 1 + 1]? = some (.cells #[.int .i64 u, .int .i64 vv, .int .i64 0, .int .i64 0] 3) from F2)
      have KC := Lib.hid (tk_code F0)
      have KR := Lib.hid (show Sl W4 (.slice (some ⟨wr.heap.size + 1 + 1, 0, none⟩) 4 4) [u, vv, 0, 0] from tk_regs F2)
      have HO4 := Lib.hid (blk_in HO.out FB)
      have HB4 := Lib.hid (HB.out.trans (FB.mono HB.out.size))
      clear hW F0 F1 F2 F3 FB HSk ck lo
      obtain ⟨p0, p1, p2⟩ := cells3 GP.out
      have lp := lt_of GP.out
      obtain ⟨a0, a1⟩ := cells2 GA.out
      have la := lt_of GA.out
      go_upto_region 14 with (first
        | (go_at_call 28; with_reducible refine (C1.out _ _ _ KC.out KR.out).mono ?_; rintro e w5 ⟨sb, rfl, ho5, hb5⟩; obtain ⟨gb, kb, rfl, hgb, hgbl, cb2⟩ := four_shape ho5; have OB5 := Lib.hid ho5.sl; have HB5 := Lib.hid (HB4.out.trans (hb5.mono HB4.out.size)); have KC5 := Lib.hid (KC.out.below hb5); have HO5 := Lib.hid (blk_in HO4.out hb5); have CB5 := Lib.hid cb2; have GBL := Lib.hid hgbl; clear p0 p1 p2 lp a0 a1 la cb2 hgbl; replace GP := Lib.hid (blk_in GP.out hb5); replace GA := Lib.hid (blk_in GA.out hb5); replace GR := Lib.hid (blk_in GR.out hb5); obtain ⟨p0, p1, p2⟩ := cells3 GP.out; have lp := lt_of GP.out; clear ho5 hb5)
        | (go_at_call 28; with_reducible refine (C2.out _ _ _ (KC5.out.below ((Below.refl _ _).al _)) (OB5.out.below ((Below.refl _ _).al _))).mono ?_; rintro e w6 ⟨sc, rfl, ho6, hb6⟩; obtain ⟨gc, kc, rfl, hgc, hgcl, cc2⟩ := four_shape ho6; have hc6 := cr_1 hb6; have B8 := Lib.hid (blk_in (hp1 w5 _) hb6); have OB6 := Lib.hid (OB5.out.below hc6); have OC6 := Lib.hid ho6.sl; have HB6 := Lib.hid (HB5.out.trans (hc6.mono HB5.out.size)); have KC6 := Lib.hid (KC5.out.below hc6); have HO6 := Lib.hid (blk_in HO5.out hc6); have CB6 := Lib.hid ((hc6.cell (p := ⟨gb, 2, none⟩) GBL.out).trans CB5.out); have GBL6 := Lib.hid (Nat.lt_of_lt_of_le GBL.out hc6.size); clear p0 p1 p2 lp cc2 hgcl; replace GP := Lib.hid (blk_in GP.out hc6); replace GA := Lib.hid (blk_in GA.out hc6); replace GR := Lib.hid (blk_in GR.out hc6); obtain ⟨p0, p1, p2⟩ := cells3 GP.out; have lp := lt_of GP.out; clear ho6 hb6 hc6)
        | (go_at_call 28; with_reducible refine (C3.out _ _ _ (KC6.out.below ((Below.refl _ _).al _)) (OC6.out.below ((Below.refl _ _).al _))).mono ?_; rintro e w7 ⟨sd, rfl, ho7, hb7⟩; obtain ⟨da, dc, rfl⟩ := ho7.shape; have hc7 := cr_1 hb7; have B11 := Lib.hid (blk_in (hp1 w6 _) hb7); have B87 := Lib.hid (blk_in B8.out hc7); have OB7 := Lib.hid (OB6.out.below hc7); have OC7 := Lib.hid (OC6.out.below hc7); have HB7 := Lib.hid (HB6.out.trans (hc7.mono HB6.out.size)); have KC7 := Lib.hid (KC6.out.below hc7); have HO7 := Lib.hid (blk_in HO6.out hc7); have CB7 := Lib.hid ((hc7.cell (p := ⟨gb, 2, none⟩) GBL6.out).trans CB6.out); have GBL7 := Lib.hid (Nat.lt_of_lt_of_le GBL6.out hc7.size); clear p0 p1 p2 lp; replace GP := Lib.hid (blk_in GP.out hc7); replace GA := Lib.hid (blk_in GA.out hc7); replace GR := Lib.hid (blk_in GR.out hc7); obtain ⟨p0, p1, p2⟩ := cells3 GP.out; have lp := lt_of GP.out; obtain ⟨y0, y1⟩ := cells2 B87.out; have ly := lt_of B87.out; obtain ⟨z0, z1⟩ := cells2 B11.out; have lz := lt_of B11.out; clear ho7 hb7 hc7)
        | (go_at_call 35; with_reducible refine (D1.out _ _ _ (KC7.out.below ((Below.refl _ _).al _)) (OB7.out.below ((Below.refl _ _).al _))).mono ?_; rintro e w8 ⟨rfl, hb8⟩; have hc8 := cr_1 hb8; have B118 := Lib.hid (blk_in B11.out hc8); have B88 := Lib.hid (blk_in B87.out hc8); have OB8 := Lib.hid (OB7.out.below hc8); have OC8 := Lib.hid (OC7.out.below hc8); have HB8 := Lib.hid (HB7.out.trans (hc8.mono HB7.out.size)); have KC8 := Lib.hid (KC7.out.below hc8); have HO8 := Lib.hid (blk_in HO7.out hc8); have CB8 := Lib.hid ((hc8.cell (p := ⟨gb, 2, none⟩) GBL7.out).trans CB7.out); have GBL8 := Lib.hid (Nat.lt_of_lt_of_le GBL7.out hc8.size); clear p0 p1 p2 lp y0 y1 ly z0 z1 lz; replace GP := Lib.hid (blk_in GP.out hc8); replace GA := Lib.hid (blk_in GA.out hc8); replace GR := Lib.hid (blk_in GR.out hc8); obtain ⟨p0, p1, p2⟩ := cells3 GP.out; have lp := lt_of GP.out; obtain ⟨z0, z1⟩ := cells2 B118.out; have lz := lt_of B118.out; clear hb8 hc8)
        | (go_at_call 35; with_reducible refine (D2.out _ _ _ KC8.out OC8.out).mono ?_; rintro e w9 ⟨rfl, hb9⟩; have B119 := Lib.hid (blk_in B118.out hb9); have B89 := Lib.hid (blk_in B88.out hb9); have HB9 := Lib.hid (HB8.out.trans (hb9.mono HB8.out.size)); have HO9 := Lib.hid (blk_in HO8.out hb9); have CB9 := (hb9.cell (p := ⟨gb, 2, none⟩) GBL8.out).trans CB8.out; have GBL9 : gb < w9.heap.size := Nat.lt_of_lt_of_le GBL8.out hb9.size; clear p0 p1 p2 lp z0 z1 lz; replace GP := Lib.hid (blk_in GP.out hb9); replace GA := Lib.hid (blk_in GA.out hb9); replace GR := Lib.hid (blk_in GR.out hb9); obtain ⟨a0, a1⟩ := cells2 GA.out; have la := lt_of GA.out; obtain ⟨y0, y1⟩ := cells2 B89.out; have ly := lt_of B89.out; obtain ⟨z0, z1⟩ := cells2 B119.out; have lz := lt_of B119.out; have lu := lt_of GR.out; clear hb9))
      have u0 : w9.cell? ⟨wr.heap.size + 1 + 1, 0, none⟩ = some (.int .i64 u) := by rw [cell_of GR.out 0]; rfl
      have u1 : w9.cell? ⟨wr.heap.size + 1 + 1, 1, none⟩ = some (.int .i64 vv) := by rw [cell_of GR.out 1]; rfl
      have hxt := isTok_bd HXT.out
      have hut := isTok_bd HU.out
      have wux : wrap64 (u - x) = u - x := IntWalk.wrap64_in _ (by omega)
      clear hxt hut
      by_cases h7 : op = 7
      · obtain ⟨hx0, hrem⟩ := HX7.out h7
        subst h7
        have hp2 : pcv = 2 := HPC.out.trans (if_neg (by omega))
        subst hp2
        have dx : decide (x < 0) = false := decide_eq_false (by omega)
        by_cases hv : vv = 0
        · subst hv
          go_wp2_with fail
          go_quiet (fail)
          go_wp2_with fail
          go_roundw
          case rel => exact ⟨k + 1, by omega, by go_num, Lib.hid (blk_in HO9.out (below_drewN _ _)), Lib.hid (Below.toDraw HB9.out _)⟩
          case measure => simp [intOf]; omega
        · have hv2 : (vv == 0) = false := by simpa using hv
          have hv3 : (vv != 0) = true := by simpa using hv
          have hr := hrem hv
          have wt : wrap64 ((u - x).tmod vv) = 0 := by rw [hr]; exact IntWalk.wrap64_in _ (by omega)
          have w0 : wrap64 0 = 0 := IntWalk.wrap64_in _ (by omega)
          clear hrem
          go_wp2_with fail
          go_quiet (fail)
          go_wp2_with fail
          go_roundw
          case rel => exact ⟨k + 1, by omega, by go_num, Lib.hid (blk_in HO9.out (below_drewN _ _)), Lib.hid (Below.toDraw HB9.out _)⟩
          case measure => simp [intOf]; omega
      · have d7 : (op == 7) = false := by simpa using h7
        by_cases hx : x < 0
        · have hp2 : pcv = 3 := HPC.out.trans (if_pos hx)
          subst hp2
          have dx : decide (x < 0) = true := decide_eq_true hx
          go_wp2_with fail
          go_quiet (fail)
          go_wp2_with fail
          go_roundw
          case rel => exact ⟨k + 1, by omega, by go_num, Lib.hid (blk_in HO9.out (below_drewN _ _)), Lib.hid (Below.toDraw HB9.out _)⟩
          case measure => simp [intOf]; omega
        · have hp2 : pcv = 2 := HPC.out.trans (if_neg hx)
          subst hp2
          have dx : decide (x < 0) = false := decide_eq_false hx
          go_wp2_with fail
          go_quiet (fail)
          go_wp2_with fail
          go_roundw
          case rel => exact ⟨k + 1, by omega, by go_num, Lib.hid (blk_in HO9.out (below_drewN _ _)), Lib.hid (Below.toDraw HB9.out _)⟩
          case measure => simp [intOf]; omega
    · have e : k = 4 := by omega
      subst e
      go_wp2_with fail
      go_ret
      exact ⟨rfl, HB.out⟩
theorem fnTokens_walk {v : Value} {bs : List Int} (w : World) (h : Sb w v bs) :
    Calls Try.prog 7 #[v] w fun e w' => e = .returned (.bool true) ∧ Below w.heap.size w w' := by
  obtain ⟨a, cap, rfl, r⟩ := h
  by_cases hs : bs.length ≤ 1048576
  · exact fnTokens_core a cap bs w ⟨a, cap, rfl, r⟩ hs
  · have b0 : bs.length ≤ 9223372036854775807 := by have := r.1; have := r.2.1; unfold maxLen at this; omega
    clear r
    go_enter Try.func7, Try.ntmps7
    go_wp2_with fail
    go_ret
    exact ⟨rfl, Below.refl _ _⟩
end Go.Proofs.Ythniafpkkgcjnaa
