/-
  IsTemplate of the program. No statement of the seat is proved here.
-/
import Derived.Test.YtkeoefbkeommhaaTmH
import Derived.Test.YtkeoefbkeommhaaTmS
namespace Go.Proofs.Ytkeoefbkeommhaa
open Go.RowKit

theorem typed_at {w : World} {g T : Nat} {cs : Array Value} (h : w.heap[g]? = some (.cells cs T)) : Typed w g T := ⟨_, _, h⟩
theorem typed_al {w : World} {g T : Nat} {o : Obj} (h : Typed w g T) : Typed (w.alloc o) g T := by
  obtain ⟨cs, fr, h⟩ := h
  exact ⟨cs, fr, al_keep h⟩
theorem RowL.alU {lo : Nat} {w0 w : World} {v : Value} {xs : List Lnk} (h : RowL lo w0 w v xs) (o : Obj) : RowL lo w0 (w.alloc o) v xs := h.below ((Below.refl _ _).al _)
theorem RowL.setT {lo B j T2 : Nat} {w0 w : World} {v : Value} {xs : List Lnk} (ht : Typed w B T2) (hT : T2 ≠ 68) (h : RowL lo w0 w v xs) (u : Value) : RowL lo w0 (w.setCell ⟨B, j, none⟩ u) v xs := by
  obtain ⟨us, a, b, c⟩ := h
  exact ⟨us, a, row_setTL b ht hT u, c⟩
set_option maxRecDepth 100000 in
set_option maxHeartbeats 16000000 in
theorem itempl_any (v : Value) (n : Net) (k : Int) (u : Value) (m : Net) (w : World) (h : NetV w v n) (hwk : (Lit.int .i64 k).wf = true) (h2 : NetV w u m) :
    Calls Try.prog 25 #[v, .int .i64 k, u] w fun e w' => e = .returned (.bool (templB n k m)) ∧ Below w.heap.size w w' := by
  have CN := Lib.hid (fun (W : World) (hw : Below w.heap.size w W) => iisnet_any v n W (h.below hw))
  have CM := Lib.hid (fun (W : World) (hw : Below w.heap.size w W) => iisnet_any u m W (h2.below hw))
  have CH0 := Lib.hid (fun (W : World) (hw : Below w.heap.size w W) => ispro_any v n k W (h.below hw))
  have CP := Lib.hid (fun (W : World) (hw : Below w.heap.size w W) (hok : okN m = true) => ipart_any u m 0 w W h2 hw hok (by omega))
  obtain ⟨pv, lv, rfl, hp, hl⟩ := h
  obtain ⟨qv, mv, rfl, hq, hm2⟩ := h2
  have LP := hp.len
  have HP := Lib.hid hp
  obtain ⟨la, lcap, rfl⟩ := hl.shape
  obtain ⟨pa, pcap, rfl⟩ := hp.shape
  obtain ⟨ma, mcap, rfl⟩ := hm2.shape
  obtain ⟨qa, qcap, rfl⟩ := hq.shape
  obtain ⟨pm, hpm⟩ : ∃ z, z = n.progs.length := ⟨_, rfl⟩
  obtain ⟨ll, hll⟩ : ∃ z, z = n.links.length := ⟨_, rfl⟩
  obtain ⟨qm, hqm⟩ : ∃ z, z = m.progs.length := ⟨_, rfl⟩
  obtain ⟨ml, hml⟩ : ∃ z, z = m.links.length := ⟨_, rfl⟩
  rw [← hpm, ← hll] at CN CH0 ⊢
  rw [← hqm, ← hml] at CM CP ⊢
  rw [← hpm] at HP LP
  have NP := Lib.hid hpm
  clear hp hl hq hm2 hpm hll hqm hml
  obtain ⟨R, hR⟩ : ∃ R, R = templB n k m := ⟨_, rfl⟩
  rw [← hR]
  have HRR := Lib.hid hR
  clear hR
  have HB2 := Lib.hid (((Below.refl w.heap.size w).al (.cells #[.slice pa pm pcap, .slice la ll lcap] 31)).al (.cells #[.slice qa qm qcap, .slice ma ml mcap] 31))
  have G2 := Lib.hid (hp21 w (.cells #[.slice pa pm pcap, .slice la ll lcap] 31) (.cells #[.slice qa qm qcap, .slice ma ml mcap] 31))
  have M2 := Lib.hid (hp2 w (.cells #[.slice pa pm pcap, .slice la ll lcap] 31) (.cells #[.slice qa qm qcap, .slice ma ml mcap] 31))
  have k0 : ((w.alloc (.cells #[.slice pa pm pcap, .slice la ll lcap] 31)).alloc (.cells #[.slice qa qm qcap, .slice ma ml mcap] 31)).cell? ⟨w.heap.size, 0, none⟩ = some (.slice pa pm pcap) := (cells2 G2.out).1
  have k1 := (cells2 G2.out).2
  have gl := lt_of G2.out
  have m0 := (cells2 M2.out).1
  have m1 := (cells2 M2.out).2
  have ml' := lt_of M2.out
  cases ho : okN n with
  | false =>
    have HE := Lib.hid (HRR.out.trans (templ_no1 ho))
    rw [ho] at CN
    clear ho HRR
    obtain rfl := HE.out
    go_enter Try.func25, Try.ntmps25
    go_wp2_with (go_at_call 50; (with_reducible refine (CN.out _ HB2.out).mono ?_); rintro e w3 ⟨rfl, hb3⟩; have HB3 := Lib.hid (HB2.out.trans (hb3.mono HB2.out.size)); have G3 := Lib.hid (blk_in G2.out hb3); have M3 := Lib.hid (blk_in M2.out hb3); clear k0 k1 gl m0 m1 ml'; obtain ⟨k0, k1⟩ := cells2 G3.out; have gl := lt_of G3.out; obtain ⟨m0, m1⟩ := cells2 M3.out; have ml' := lt_of M3.out; clear hb3)
    go_ret
    exact ⟨rfl, HB3.out⟩
  | true =>
    rw [ho] at CN
    by_cases hk : 0 ≤ k ∧ k < (pm : Int)
    case neg =>
      have HE := Lib.hid (HRR.out.trans (templ_no3 (by rw [← NP.out]; exact hk)))
      have CH := Lib.hid (fun (W : World) (hw : Below w.heap.size w W) => (show Calls Try.prog 69 #[.agg #[.slice pa pm pcap, .slice la ll lcap], .int .i64 k] W fun e w' => e = .returned (.bool false) ∧ Below W.heap.size W w' by have q := CH0.out W hw; rw [decide_eq_false hk] at q; exact q))
      clear hk CH0 HRR ho
      obtain rfl := HE.out
      go_enter Try.func25, Try.ntmps25
      go_wp2_with (first | (go_at_call 69; (with_reducible refine (CH.out _ HB3.out).mono ?_); rintro e w4 ⟨rfl, hb4⟩; have HB4 := Lib.hid (HB3.out.trans (hb4.mono HB3.out.size)); have G4 := Lib.hid (blk_in G3.out hb4); have M4 := Lib.hid (blk_in M3.out hb4); clear k0 k1 gl m0 m1 ml'; obtain ⟨k0, k1⟩ := cells2 G4.out; have gl := lt_of G4.out; obtain ⟨m0, m1⟩ := cells2 M4.out; have ml' := lt_of M4.out; clear hb4) | (go_at_call 50; (with_reducible refine (CN.out _ HB2.out).mono ?_); rintro e w3 ⟨rfl, hb3⟩; have HB3 := Lib.hid (HB2.out.trans (hb3.mono HB2.out.size)); have G3 := Lib.hid (blk_in G2.out hb3); have M3 := Lib.hid (blk_in M2.out hb3); clear k0 k1 gl m0 m1 ml'; obtain ⟨k0, k1⟩ := cells2 G3.out; have gl := lt_of G3.out; obtain ⟨m0, m1⟩ := cells2 M3.out; have ml' := lt_of M3.out; clear hb3))
      go_ret
      exact ⟨rfl, HB4.out⟩
    have CH := Lib.hid (fun (W : World) (hw : Below w.heap.size w W) => (show Calls Try.prog 69 #[.agg #[.slice pa pm pcap, .slice la ll lcap], .int .i64 k] W fun e w' => e = .returned (.bool true) ∧ Below W.heap.size W w' by have q := CH0.out W hw; rw [decide_eq_true hk] at q; exact q))
    obtain ⟨kk, rfl⟩ : ∃ kk : Nat, k = kk := ⟨k.toNat, by omega⟩
    have hkm : kk < pm := by omega
    clear hk CH0
    cases ho2 : okN m with
    | false =>
      have HE := Lib.hid (HRR.out.trans (templ_no2 ho2))
      rw [ho2] at CM
      clear ho ho2 HRR
      obtain rfl := HE.out
      go_enter Try.func25, Try.ntmps25
      go_wp2_with (first | (go_at_call 50; (with_reducible refine (CM.out _ HB4.out).mono ?_); rintro e w5 ⟨rfl, hb5⟩; have HB5 := Lib.hid (HB4.out.trans (hb5.mono HB4.out.size)); have G5 := Lib.hid (blk_in G4.out hb5); have M5 := Lib.hid (blk_in M4.out hb5); clear k0 k1 gl m0 m1 ml'; obtain ⟨k0, k1⟩ := cells2 G5.out; have gl := lt_of G5.out; obtain ⟨m0, m1⟩ := cells2 M5.out; have ml' := lt_of M5.out; clear hb5) | (go_at_call 69; (with_reducible refine (CH.out _ HB3.out).mono ?_); rintro e w4 ⟨rfl, hb4⟩; have HB4 := Lib.hid (HB3.out.trans (hb4.mono HB3.out.size)); have G4 := Lib.hid (blk_in G3.out hb4); have M4 := Lib.hid (blk_in M3.out hb4); clear k0 k1 gl m0 m1 ml'; obtain ⟨k0, k1⟩ := cells2 G4.out; have gl := lt_of G4.out; obtain ⟨m0, m1⟩ := cells2 M4.out; have ml' := lt_of M4.out; clear hb4) | (go_at_call 50; (with_reducible refine (CN.out _ HB2.out).mono ?_); rintro e w3 ⟨rfl, hb3⟩; have HB3 := Lib.hid (HB2.out.trans (hb3.mono HB2.out.size)); have G3 := Lib.hid (blk_in G2.out hb3); have M3 := Lib.hid (blk_in M2.out hb3); clear k0 k1 gl m0 m1 ml'; obtain ⟨k0, k1⟩ := cells2 G3.out; have gl := lt_of G3.out; obtain ⟨m0, m1⟩ := cells2 M3.out; have ml' := lt_of M3.out; clear hb3))
      go_ret
      exact ⟨rfl, HB5.out⟩
    | true =>
      rw [ho2] at CM
      have HOK := Lib.hid ho
      have HOM := Lib.hid ho2
      have hm12 : pm ≤ 12 := by rw [NP.out]; exact (okN_len ho).1
      obtain ⟨x, hx⟩ : ∃ x, n.progs[kk]? = some x := ⟨_, List.getElem?_eq_getElem (by rw [← NP.out]; exact hkm)⟩
      have HE := Lib.hid (HRR.out.trans (templ_at HOK.out HOM.out hx))
      obtain ⟨gb, go, pcv, rfl, hgb, d0, d1, d2, es⟩ := HP.out.atb hx
      obtain ⟨ca, cc, rfl⟩ := es.shape
      obtain ⟨cl9, hcl9⟩ : ∃ z, z = x.code.length := ⟨_, rfl⟩
      rw [← hcl9] at d2
      have HD := Lib.hid (fun (W : World) (hw : Below w.heap.size w W) => (show W.cell? ⟨gb, go + kk * 3, none⟩ = some (.int .i64 x.ins) ∧ W.cell? ⟨gb, go + kk * 3 + 1, none⟩ = some (.int .i64 x.outs) ∧ W.cell? ⟨gb, go + kk * 3 + 2, none⟩ = some (.slice ca cl9 cc) ∧ gb < W.heap.size from ⟨(hw.cell (p := ⟨gb, go + kk * 3, none⟩) hgb).trans d0, (hw.cell (p := ⟨gb, go + kk * 3 + 1, none⟩) hgb).trans d1, (hw.cell (p := ⟨gb, go + kk * 3 + 2, none⟩) hgb).trans d2, Nat.lt_of_lt_of_le hgb hw.size⟩))
      have HGB := Lib.hid hgb
      clear ho ho2 HRR hx d0 d1 d2 es hcl9
      obtain ⟨XI, hXI⟩ : ∃ z, z = x.ins := ⟨_, rfl⟩
      obtain ⟨XO, hXO⟩ : ∃ z, z = x.outs := ⟨_, rfl⟩
      rw [← hXI, ← hXO] at HD HE
      clear hXI hXO
      have i1 : (0 : Int) ≤ (kk : Int) := by omega
      have i2 : (kk : Int) < (pm : Int) := by omega
      go_enter Try.func25, Try.ntmps25
      go_upto_region 3 with (first | (go_at_call 50; (with_reducible refine (CM.out _ HB4.out).mono ?_); rintro e w5 ⟨rfl, hb5⟩; have HB5 := Lib.hid (HB4.out.trans (hb5.mono HB4.out.size)); have G5 := Lib.hid (blk_in G4.out hb5); have M5 := Lib.hid (blk_in M4.out hb5); clear k0 k1 gl m0 m1 ml'; obtain ⟨k0, k1⟩ := cells2 G5.out; have gl := lt_of G5.out; obtain ⟨m0, m1⟩ := cells2 M5.out; have ml' := lt_of M5.out; clear hb5) | (go_at_call 69; (with_reducible refine (CH.out _ HB3.out).mono ?_); rintro e w4 ⟨rfl, hb4⟩; have HB4 := Lib.hid (HB3.out.trans (hb4.mono HB3.out.size)); have G4 := Lib.hid (blk_in G3.out hb4); have M4 := Lib.hid (blk_in M3.out hb4); clear k0 k1 gl m0 m1 ml'; obtain ⟨k0, k1⟩ := cells2 G4.out; have gl := lt_of G4.out; obtain ⟨m0, m1⟩ := cells2 M4.out; have ml' := lt_of M4.out; clear hb4) | (go_at_call 50; (with_reducible refine (CN.out _ HB2.out).mono ?_); rintro e w3 ⟨rfl, hb3⟩; have HB3 := Lib.hid (HB2.out.trans (hb3.mono HB2.out.size)); have G3 := Lib.hid (blk_in G2.out hb3); have M3 := Lib.hid (blk_in M2.out hb3); clear k0 k1 gl m0 m1 ml'; obtain ⟨k0, k1⟩ := cells2 G3.out; have gl := lt_of G3.out; obtain ⟨m0, m1⟩ := cells2 M3.out; have ml' := lt_of M3.out; clear hb3))
      obtain ⟨d0, d1, d2, dl⟩ := HD.out _ HB5.out
      have hz5 := HB5.out.size
      have hg5 := HGB.out
      have hzz := lt_of M2.out
      simp only [World.size_alloc] at hzz
      have ne1 : ¬ w5.heap.size = w.heap.size := by have := lt_of M5.out; omega
      have ne2 : ¬ w.heap.size = w5.heap.size := by have := lt_of M5.out; omega
      have ne3 : ¬ w5.heap.size = w.heap.size + 1 := by have := lt_of M5.out; omega
      have ne4 : ¬ w.heap.size + 1 = w5.heap.size := by have := lt_of M5.out; omega
      have ne5 : ¬ w5.heap.size + 1 = w.heap.size := by have := lt_of M5.out; omega
      have ne6 : ¬ w.heap.size = w5.heap.size + 1 := by have := lt_of M5.out; omega
      have ne7 : ¬ w5.heap.size + 1 = w.heap.size + 1 := by have := lt_of M5.out; omega
      have ne8 : ¬ w.heap.size + 1 = w5.heap.size + 1 := by have := lt_of M5.out; omega
      have ne9 : ¬ w5.heap.size = gb := by omega
      have ne10 : ¬ gb = w5.heap.size := by omega
      have ne11 : ¬ w5.heap.size + 1 = gb := by omega
      have ne12 : ¬ gb = w5.heap.size + 1 := by omega
      go_cut [7, 8] from 23 (fun s7 s8 wz => ∃ (G1 G2 ci co : Nat) (ia oa na : Option Addr) (ic oc cn nc : Nat), s7 = .pointer (some ⟨G1, 0, none⟩) ∧ s8 = .pointer (some ⟨G2, 0, none⟩) ∧ Hid (ci = (ptI 0 m).length ∧ co = (ptO 0 m).length) ∧ Hid (wz.heap[G1]? = some (.cells #[.int .i64 XI, .int .i64 XO, .slice ca cl9 cc] 79)) ∧ Hid (wz.heap[G2]? = some (.cells #[.slice ia ci ic, .slice oa co oc, .slice na cn nc] 89)) ∧ Hid (RowL w5.heap.size w wz (.slice ia ci ic) (ptI 0 m)) ∧ Hid (RowL w5.heap.size w wz (.slice oa co oc) (ptO 0 m)) ∧ Hid (Below w5.heap.size w5 wz))
      case first =>
        go_region_held3 (fun w' => w'.cell? ⟨w.heap.size, 0, none⟩ = some (.slice (some ⟨gb, go, none⟩) pm pcap) ∧ w'.cell? ⟨w.heap.size + 1, 0, none⟩ = some (.slice qa qm qcap) ∧ w'.cell? ⟨w.heap.size + 1, 1, none⟩ = some (.slice ma ml mcap) ∧ w'.cell? ⟨gb, go + kk * 3, none⟩ = some (.int .i64 XI) ∧ w'.cell? ⟨gb, go + kk * 3 + 1, none⟩ = some (.int .i64 XO) ∧ w'.cell? ⟨gb, go + kk * 3 + 2, none⟩ = some (.slice ca cl9 cc)) (go_keep) (first | (go_at_call 70; (with_reducible refine (CP.out _ (HB5.out.trans ((show Below w5.heap.size w5 _ by exact (by first | with_reducible exact Below.refl _ _ | with_reducible exact (Below.refl _ _).drew | with_reducible exact ((Below.refl _ _).al _).drew | with_reducible exact (((Below.refl _ _).al _).al _).drew | with_reducible exact (Below.refl _ _).al _ | with_reducible exact ((Below.refl _ _).al _).al _)).mono HB5.out.size)) HOM.out).mono ?_); rintro e V ⟨ra, rb, rc, rfl, hra, hrb, hrc, hx⟩; have HPV := Lib.hid ((show Below w5.heap.size w5 _ by exact (by first | with_reducible exact Below.refl _ _ | with_reducible exact (Below.refl _ _).drew | with_reducible exact ((Below.refl _ _).al _).drew | with_reducible exact (((Below.refl _ _).al _).al _).drew | with_reducible exact (Below.refl _ _).al _ | with_reducible exact ((Below.refl _ _).al _).al _)).trans (hx.mono (by simp <;> omega))); have HRI := Lib.hid (RowL.mono (lo' := w5.heap.size) hra (by simp <;> omega)); have HRO := Lib.hid (RowL.mono (lo' := w5.heap.size) hrb (by simp <;> omega)); obtain ⟨ia, ic, rfl⟩ := hra.shape; obtain ⟨oa, oc, rfl⟩ := hrb.shape; obtain ⟨na, nc, rfl⟩ := hrc.shape; (try (have zP0 := Lib.hid (show V.heap[w5.heap.size]? = some (.cells #[.int .i64 0, .int .i64 0, .slice none 0 0] 79) by first | exact blk_in (W := (w5.alloc (.cells #[.int .i64 0, .int .i64 0, .slice none 0 0] 79)).drew) (hp1 w5 _) hx | exact blk_in (W := w5.alloc (.cells #[.int .i64 0, .int .i64 0, .slice none 0 0] 79)) (hp1 w5 _) hx | exact blk_in (W := ((w5.alloc (.cells #[.int .i64 0, .int .i64 0, .slice none 0 0] 79)).alloc (.cells #[.int .i64 0, .int .i64 0, .slice none 0 0] 79)).drew) (hp21 w5 _ _) hx | exact blk_in (W := (w5.alloc (.cells #[.int .i64 0, .int .i64 0, .slice none 0 0] 79)).alloc (.cells #[.int .i64 0, .int .i64 0, .slice none 0 0] 79)) (hp21 w5 _ _) hx | exact blk_in (W := ((w5.alloc (.cells #[.int .i64 0, .int .i64 0, .slice none 0 0] 79)).alloc (.cells #[.slice none 0 0, .slice none 0 0, .slice none 0 0] 89)).drew) (hp21 w5 _ _) hx | exact blk_in (W := (w5.alloc (.cells #[.int .i64 0, .int .i64 0, .slice none 0 0] 79)).alloc (.cells #[.slice none 0 0, .slice none 0 0, .slice none 0 0] 89)) (hp21 w5 _ _) hx); obtain ⟨yP00, yP01, yP02⟩ := cells3 zP0.out; have ylP0 := lt_of zP0.out; have yaP0 := fr_of zP0.out 0; have ybP0 := fr_of zP0.out 1; have ycP0 := fr_of zP0.out 2)); (try (have zP1 := Lib.hid (show V.heap[w5.heap.size + 1]? = some (.cells #[.int .i64 0, .int .i64 0, .slice none 0 0] 79) by first | exact blk_in (W := ((w5.alloc (.cells #[.int .i64 0, .int .i64 0, .slice none 0 0] 79)).alloc (.cells #[.int .i64 0, .int .i64 0, .slice none 0 0] 79)).drew) (hp2 w5 _ _) hx | exact blk_in (W := (w5.alloc (.cells #[.int .i64 0, .int .i64 0, .slice none 0 0] 79)).alloc (.cells #[.int .i64 0, .int .i64 0, .slice none 0 0] 79)) (hp2 w5 _ _) hx | exact blk_in (W := ((w5.alloc (.cells #[.slice none 0 0, .slice none 0 0, .slice none 0 0] 89)).alloc (.cells #[.int .i64 0, .int .i64 0, .slice none 0 0] 79)).drew) (hp2 w5 _ _) hx | exact blk_in (W := (w5.alloc (.cells #[.slice none 0 0, .slice none 0 0, .slice none 0 0] 89)).alloc (.cells #[.int .i64 0, .int .i64 0, .slice none 0 0] 79)) (hp2 w5 _ _) hx); obtain ⟨yP10, yP11, yP12⟩ := cells3 zP1.out; have ylP1 := lt_of zP1.out; have yaP1 := fr_of zP1.out 0; have ybP1 := fr_of zP1.out 1; have ycP1 := fr_of zP1.out 2)); (try (have zG0 := Lib.hid (show V.heap[w5.heap.size]? = some (.cells #[.slice none 0 0, .slice none 0 0, .slice none 0 0] 89) by first | exact blk_in (W := (w5.alloc (.cells #[.slice none 0 0, .slice none 0 0, .slice none 0 0] 89)).drew) (hp1 w5 _) hx | exact blk_in (W := w5.alloc (.cells #[.slice none 0 0, .slice none 0 0, .slice none 0 0] 89)) (hp1 w5 _) hx | exact blk_in (W := ((w5.alloc (.cells #[.slice none 0 0, .slice none 0 0, .slice none 0 0] 89)).alloc (.cells #[.int .i64 0, .int .i64 0, .slice none 0 0] 79)).drew) (hp21 w5 _ _) hx | exact blk_in (W := (w5.alloc (.cells #[.slice none 0 0, .slice none 0 0, .slice none 0 0] 89)).alloc (.cells #[.int .i64 0, .int .i64 0, .slice none 0 0] 79)) (hp21 w5 _ _) hx | exact blk_in (W := ((w5.alloc (.cells #[.slice none 0 0, .slice none 0 0, .slice none 0 0] 89)).alloc (.cells #[.slice none 0 0, .slice none 0 0, .slice none 0 0] 89)).drew) (hp21 w5 _ _) hx | exact blk_in (W := (w5.alloc (.cells #[.slice none 0 0, .slice none 0 0, .slice none 0 0] 89)).alloc (.cells #[.slice none 0 0, .slice none 0 0, .slice none 0 0] 89)) (hp21 w5 _ _) hx); obtain ⟨yG00, yG01, yG02⟩ := cells3 zG0.out; have ylG0 := lt_of zG0.out; have yaG0 := fr_of zG0.out 0; have ybG0 := fr_of zG0.out 1; have ycG0 := fr_of zG0.out 2)); (try (have zG1 := Lib.hid (show V.heap[w5.heap.size + 1]? = some (.cells #[.slice none 0 0, .slice none 0 0, .slice none 0 0] 89) by first | exact blk_in (W := ((w5.alloc (.cells #[.int .i64 0, .int .i64 0, .slice none 0 0] 79)).alloc (.cells #[.slice none 0 0, .slice none 0 0, .slice none 0 0] 89)).drew) (hp2 w5 _ _) hx | exact blk_in (W := (w5.alloc (.cells #[.int .i64 0, .int .i64 0, .slice none 0 0] 79)).alloc (.cells #[.slice none 0 0, .slice none 0 0, .slice none 0 0] 89)) (hp2 w5 _ _) hx | exact blk_in (W := ((w5.alloc (.cells #[.slice none 0 0, .slice none 0 0, .slice none 0 0] 89)).alloc (.cells #[.slice none 0 0, .slice none 0 0, .slice none 0 0] 89)).drew) (hp2 w5 _ _) hx | exact blk_in (W := (w5.alloc (.cells #[.slice none 0 0, .slice none 0 0, .slice none 0 0] 89)).alloc (.cells #[.slice none 0 0, .slice none 0 0, .slice none 0 0] 89)) (hp2 w5 _ _) hx); obtain ⟨yG10, yG11, yG12⟩ := cells3 zG1.out; have ylG1 := lt_of zG1.out; have yaG1 := fr_of zG1.out 0; have ybG1 := fr_of zG1.out 1; have ycG1 := fr_of zG1.out 2)); have GV := Lib.hid (blk_in G5.out HPV.out); have MV := Lib.hid (blk_in M5.out HPV.out); obtain ⟨f0, f1⟩ := cells2 GV.out; have fl := lt_of GV.out; obtain ⟨t0, t1⟩ := cells2 MV.out; have tl := lt_of MV.out; obtain ⟨c0, c1, c2, cl⟩ := HD.out _ (HB5.out.trans (HPV.out.mono HB5.out.size)); have nv1 : ¬ V.heap.size = w.heap.size := (by omega); have nv2 : ¬ w.heap.size = V.heap.size := (by omega); have nv3 : ¬ V.heap.size = w.heap.size + 1 := (by omega); have nv4 : ¬ w.heap.size + 1 = V.heap.size := (by omega); have nv5 : ¬ V.heap.size = gb := (by omega); have nv6 : ¬ gb = V.heap.size := (by omega); have sv : w5.heap.size ≤ V.heap.size := HPV.out.size; clear hra hrb hrc hx))
        all_goals (
          go_wp2_with fail
          go_meet
          case rel =>
            refine ⟨_, _, (ptI 0 m).length, (ptO 0 m).length, ia, oa, na, ic, oc, (ptN 0 m).length, nc, rfl, rfl, Lib.hid ⟨rfl, rfl⟩, Lib.hid ?_, Lib.hid ?_, Lib.hid ?_, Lib.hid ?_, Lib.hid ?_⟩
            · (repeat (first | with_reducible exact zP0.out | with_reducible exact zP1.out | with_reducible exact zG0.out | with_reducible exact zG1.out | with_reducible refine set3_2 (u2 := .slice none 0 0) ?_ _ | with_reducible refine set3_1 (u1 := .int .i64 0) ?_ _ | with_reducible refine set3_0 (u0 := .int .i64 0) ?_ _ | with_reducible refine setR_blkN ?_ (by first | assumption | omega) _ | exact al_at (by simp) | with_reducible refine al_keep ?_ | with_reducible refine dr_at ?_))
            · (repeat (first | with_reducible exact zP0.out | with_reducible exact zP1.out | with_reducible exact zG0.out | with_reducible exact zG1.out | with_reducible refine set3_2 (u2 := .slice none 0 0) ?_ _ | with_reducible refine set3_1 (u1 := .slice none 0 0) ?_ _ | with_reducible refine set3_0 (u0 := .slice none 0 0) ?_ _ | with_reducible refine setR_blkN ?_ (by first | assumption | omega) _ | exact al_at (by simp) | with_reducible refine al_keep ?_ | with_reducible refine dr_at ?_))
            · (repeat (first | with_reducible exact HRI.out | with_reducible refine RowL.alU ?_ _ | (refine RowL.setT (T2 := 79) ?_ (by decide) ?_ _; focus ((repeat (first | with_reducible exact typed_at zP0.out | with_reducible exact typed_at zP1.out | with_reducible exact typed_at zG0.out | with_reducible exact typed_at zG1.out | with_reducible refine Typed.setCell ?_ _ _ | exact typed_at (al_at (by simp)) | with_reducible refine typed_al ?_)); done)) | (refine RowL.setT (T2 := 89) ?_ (by decide) ?_ _; focus ((repeat (first | with_reducible exact typed_at zP0.out | with_reducible exact typed_at zP1.out | with_reducible exact typed_at zG0.out | with_reducible exact typed_at zG1.out | with_reducible refine Typed.setCell ?_ _ _ | exact typed_at (al_at (by simp)) | with_reducible refine typed_al ?_)); done))))
            · (repeat (first | with_reducible exact HRO.out | with_reducible refine RowL.alU ?_ _ | (refine RowL.setT (T2 := 79) ?_ (by decide) ?_ _; focus ((repeat (first | with_reducible exact typed_at zP0.out | with_reducible exact typed_at zP1.out | with_reducible exact typed_at zG0.out | with_reducible exact typed_at zG1.out | with_reducible refine Typed.setCell ?_ _ _ | exact typed_at (al_at (by simp)) | with_reducible refine typed_al ?_)); done)) | (refine RowL.setT (T2 := 89) ?_ (by decide) ?_ _; focus ((repeat (first | with_reducible exact typed_at zP0.out | with_reducible exact typed_at zP1.out | with_reducible exact typed_at zG0.out | with_reducible exact typed_at zG1.out | with_reducible refine Typed.setCell ?_ _ _ | exact typed_at (al_at (by simp)) | with_reducible refine typed_al ?_)); done))))
            · (repeat (first | with_reducible exact HPV.out | with_reducible refine Below.al ?_ _ | with_reducible refine Below.setCell ?_ (by first | omega | (simp; done) | (simp; omega)) _ | with_reducible refine Below.drew ?_)))
      case rest =>
        rename World => w6
        obtain ⟨G1, G2, ci, co, ia, oa, na, ic, oc, cn, nc, rfl, rfl, hcc, P6, Q6, HRI, HRO, HC56⟩ := hcut
        have HW6 := Lib.hid (HB5.out.trans (HC56.out.mono HB5.out.size))
        have HC6 := Lib.hid (Below.refl w6.heap.size w6)
        have hci : ci = (insL m).length := by rw [hcc.out.1, ptI_eq (by omega) HOM.out, List.length_map]
        have hco : co = (outsL m).length := by rw [hcc.out.2, ptO_eq (by omega) HOM.out, List.length_map]
        have S1 := Lib.hid (show SlL w6 (.slice ia ci ic) (ptI 0 m) from RowL.slL HRI.out HW6.out (fun l hl => wf_sh (by omega) HOM.out l (List.mem_filter.1 hl).1))
        have S2 := Lib.hid (show SlL w6 (.slice oa co oc) (ptO 0 m) from RowL.slL HRO.out HW6.out (fun l hl => wf_sh (by omega) HOM.out l (List.mem_filter.1 hl).1))
        obtain ⟨a1, ha1⟩ : ∃ b, b = (insL m).any hasT := ⟨_, rfl⟩
        obtain ⟨a2, ha2⟩ : ∃ b, b = (outsL m).any hasT := ⟨_, rfl⟩
        have CTI := Lib.hid (fun (W : World) (hw : Below w6.heap.size w6 W) => (show Calls Try.prog 71 #[.slice ia ci ic, .func (.func 72) #[] #[]] W fun e w' => e = .returned (.bool a1) ∧ Below W.heap.size W w' by have q := icontT_any (.slice ia ci ic) (ptI 0 m) W (S1.out.below hw); rw [ptI_eq (by omega) HOM.out, any_ren, ← ha1] at q; exact q))
        have CTO := Lib.hid (fun (W : World) (hw : Below w6.heap.size w6 W) => (show Calls Try.prog 71 #[.slice oa co oc, .func (.func 72) #[] #[]] W fun e w' => e = .returned (.bool a2) ∧ Below W.heap.size W w' by have q := icontT_any (.slice oa co oc) (ptO 0 m) W (S2.out.below hw); rw [ptO_eq (by omega) HOM.out, any_ren, ← ha2] at q; exact q))
        have HE2 := Lib.hid (show R = (decide ((ci : Int) = XI) && decide ((co : Int) = XO) && !a1 && !a2) by rw [HE.out, hci, hco, ha1, ha2])
        clear hci hco ha1 ha2 hcc k0 k1 gl m0 m1 ml' d0 d1 d2 dl ne1 ne2 ne3 ne4 ne5 ne6 ne7 ne8 ne9 ne10 ne11 ne12
        obtain ⟨p0, p1, p2⟩ := cells3 P6.out
        have pl := lt_of P6.out
        obtain ⟨q0, q1, q2⟩ := cells3 Q6.out
        have ql := lt_of Q6.out
        by_cases h1 : (ci : Int) = XI
        · have z1 : ((ci : Int) == XI) = true := by simp [h1]
          by_cases h2 : (co : Int) = XO
          · have z2 : ((co : Int) == XO) = true := by simp [h2]
            cases a1 with
            | true =>
              have HR3 := Lib.hid (show R = false by rw [HE2.out]; simp)
              clear h1 h2
              obtain rfl := HR3.out
              go_wp2_with (go_at_call 71; (with_reducible refine (CTI.out _ HC6.out).mono ?_); rintro e w7 ⟨rfl, hb7⟩; have HC7 := Lib.hid (HC6.out.trans (hb7.mono HC6.out.size)); have P7 := Lib.hid (blk_in P6.out hb7); have Q7 := Lib.hid (blk_in Q6.out hb7); clear p0 p1 p2 pl q0 q1 q2 ql; obtain ⟨p0, p1, p2⟩ := cells3 P7.out; have pl := lt_of P7.out; obtain ⟨q0, q1, q2⟩ := cells3 Q7.out; have ql := lt_of Q7.out; clear hb7)
              go_ret
              exact ⟨rfl, HW6.out.trans (HC7.out.mono HW6.out.size)⟩
            | false =>
              have HR3 := Lib.hid (show R = !a2 by rw [HE2.out, decide_eq_true h1, decide_eq_true h2]; rfl)
              clear h1 h2
              cases a2 with
              | true =>
                obtain rfl := HR3.out
                go_wp2_with (first | (go_at_call 71; (with_reducible refine (CTO.out _ HC7.out).mono ?_); rintro e w8 ⟨rfl, hb8⟩; have HC8 := Lib.hid (HC7.out.trans (hb8.mono HC7.out.size)); clear hb8) | (go_at_call 71; (with_reducible refine (CTI.out _ HC6.out).mono ?_); rintro e w7 ⟨rfl, hb7⟩; have HC7 := Lib.hid (HC6.out.trans (hb7.mono HC6.out.size)); have P7 := Lib.hid (blk_in P6.out hb7); have Q7 := Lib.hid (blk_in Q6.out hb7); clear p0 p1 p2 pl q0 q1 q2 ql; obtain ⟨p0, p1, p2⟩ := cells3 P7.out; have pl := lt_of P7.out; obtain ⟨q0, q1, q2⟩ := cells3 Q7.out; have ql := lt_of Q7.out; clear hb7))
                go_ret
                exact ⟨rfl, HW6.out.trans (HC8.out.mono HW6.out.size)⟩
              | false =>
                obtain rfl := HR3.out
                go_wp2_with (first | (go_at_call 71; (with_reducible refine (CTO.out _ HC7.out).mono ?_); rintro e w8 ⟨rfl, hb8⟩; have HC8 := Lib.hid (HC7.out.trans (hb8.mono HC7.out.size)); clear hb8) | (go_at_call 71; (with_reducible refine (CTI.out _ HC6.out).mono ?_); rintro e w7 ⟨rfl, hb7⟩; have HC7 := Lib.hid (HC6.out.trans (hb7.mono HC6.out.size)); have P7 := Lib.hid (blk_in P6.out hb7); have Q7 := Lib.hid (blk_in Q6.out hb7); clear p0 p1 p2 pl q0 q1 q2 ql; obtain ⟨p0, p1, p2⟩ := cells3 P7.out; have pl := lt_of P7.out; obtain ⟨q0, q1, q2⟩ := cells3 Q7.out; have ql := lt_of Q7.out; clear hb7))
                go_ret
                exact ⟨rfl, HW6.out.trans (HC8.out.mono HW6.out.size)⟩
          · have z2 : ((co : Int) == XO) = false := by simp [h2]
            have HR3 := Lib.hid (show R = false by rw [HE2.out, decide_eq_false h2]; simp)
            clear h1 h2
            obtain rfl := HR3.out
            go_wp2_with fail
            go_ret
            exact ⟨ret_bool (by simp_all), HW6.out⟩
        · have z1 : ((ci : Int) == XI) = false := by simp [h1]
          have HR3 := Lib.hid (show R = false by rw [HE2.out, decide_eq_false h1]; simp)
          clear h1
          obtain rfl := HR3.out
          go_wp2_with fail
          go_ret
          exact ⟨ret_bool (by simp_all), HW6.out⟩
end Go.Proofs.Ytkeoefbkeommhaa
