/-
  DropProcess of the program. No statement of the seat is proved here.
-/
import Derived.Test.YtkeoefbkeommhaaGwI
import Derived.Test.YtkeoefbkeommhaaGwS
import Derived.Test.YtkeoefbkeommhaaSlp
namespace Go.Proofs.Ytkeoefbkeommhaa
open Go.RowKit

set_option maxRecDepth 100000 in
set_option maxHeartbeats 16000000 in
theorem idrop_any (v : Value) (n : Net) (k : Int) (w : World) (h : NetV w v n) (hwk : (Lit.int .i64 k).wf = true) :
    Calls Try.prog 31 #[v, .int .i64 k] w fun e w' => ∃ r, e = .returned (.tuple #[r, .bool (dropB n k)]) ∧ NetR w.heap.size w'.heap.size w' r (dropProcessR0 n k) ∧ Below w.heap.size w w' := by
  have CN := Lib.hid (fun (W : World) (hw : Below w.heap.size w W) => iisnet_any v n W (h.below hw))
  have CH0 := Lib.hid (fun (W : World) (hw : Below w.heap.size w W) => ispro_any v n k W (h.below hw))
  have HNV0 := Lib.hid (fun (W : World) (hw : Below w.heap.size w W) => h.below hw)
  obtain ⟨pv, lv, rfl, hp, hl⟩ := h
  have LP := hp.len
  have LL := hl.len
  have HL := Lib.hid hl
  have HP := Lib.hid hp
  obtain ⟨la, lcap, rfl⟩ := hl.shape
  obtain ⟨pa, pcap, rfl⟩ := hp.shape
  obtain ⟨m, hm⟩ : ∃ m, m = n.progs.length := ⟨_, rfl⟩
  obtain ⟨ll, hll⟩ : ∃ m, m = n.links.length := ⟨_, rfl⟩
  rw [← hm, ← hll] at CN CH0 HNV0 ⊢
  rw [← hm] at HP LP
  rw [← hll] at HL LL
  have NP := Lib.hid hm
  have NL := Lib.hid hll
  clear hp hl hm hll
  obtain ⟨R0, hR0⟩ : ∃ R, R = dropProcessR0 n k := ⟨_, rfl⟩
  obtain ⟨R1, hR1⟩ : ∃ R, R = dropB n k := ⟨_, rfl⟩
  rw [← hR0, ← hR1]
  have HNO := Lib.hid (show dropB n k = false → R1 = false ∧ R0 = ⟨[], []⟩ from fun e => ⟨hR1.trans e, hR0.trans (drop_no e)⟩)
  have HYES := Lib.hid (show dropB n k = true → R1 = true ∧ R0 = repN n k.toNat dropF dropF from fun e => ⟨hR1.trans e, hR0.trans (drop_yes e)⟩)
  clear hR0 hR1
  have hb := Lib.hid (((Below.refl w.heap.size w).al (.cells #[.slice pa m pcap, .slice la ll lcap] 31)).al (.cells #[.slice none 0 0, .slice none 0 0] 31))
  have hH := Lib.hid (hp21 w (.cells #[.slice pa m pcap, .slice la ll lcap] 31) (.cells #[.slice none 0 0, .slice none 0 0] 31))
  have hH1 := Lib.hid (hp2 w (.cells #[.slice pa m pcap, .slice la ll lcap] 31) (.cells #[.slice none 0 0, .slice none 0 0] 31))
  cases ho : okN n with
  | false =>
    obtain ⟨rfl, rfl⟩ := HNO.out (dropB_no1 ho)
    rw [ho] at CN
    clear ho HNO HYES
    go_enter Try.func31, Try.ntmps31
    go_wp2_with (go_at_call 50; with_reducible refine (CN.out _ hb.out).mono ?_; rintro e w2 ⟨rfl, hb1⟩; have HB2 := Lib.hid (hb.out.trans (hb1.mono hb.out.size)); have G2 := Lib.hid (blk_in hH.out hb1); have J2 := Lib.hid (blk_in hH1.out hb1); obtain ⟨k0, k1⟩ := cells2 G2.out; have gl := lt_of G2.out; obtain ⟨r0, r1⟩ := cells2 J2.out; have rl := lt_of J2.out; have rz0 := fr_of J2.out 0; have rz1 := fr_of J2.out 1; clear hb1)
    refine bodyPost_ret (v := .tuple #[.agg #[.slice none 0 0, .slice none 0 0], .bool false]) (by simp [results, Try.results31, go_sem, r0, r1]) rfl ⟨_, rfl, netR_nil _ _ _, ?_⟩
    first | exact HB2.out | exact (HB2.out.setCell (by simp) _).setCell (by simp) _
  | true =>
    rw [ho] at CN
    have HOK := Lib.hid ho
    have hll30 : ll ≤ 30 := by rw [NL.out]; exact (okN_len ho).2.1
    have hm12 : m ≤ 12 := by rw [NP.out]; exact (okN_len ho).1
    clear ho
    by_cases hk : 0 ≤ k ∧ k < (m : Int)
    case neg =>
      obtain ⟨rfl, rfl⟩ := HNO.out (dropB_no2 (by rw [← NP.out]; exact hk))
      have CH := Lib.hid (fun (W : World) (hw : Below w.heap.size w W) => (show Calls Try.prog 69 #[.agg #[.slice pa m pcap, .slice la ll lcap], .int .i64 k] W fun e w' => e = .returned (.bool false) ∧ Below W.heap.size W w' by have q := CH0.out W hw; rw [decide_eq_false hk] at q; exact q))
      clear hk HNO HYES CH0
      go_enter Try.func31, Try.ntmps31
      go_wp2_with (first | (go_at_call 69; with_reducible refine (CH.out _ HB2.out).mono ?_; rintro e w3 ⟨rfl, hb3⟩; have HB3 := Lib.hid (HB2.out.trans (hb3.mono HB2.out.size)); have G3 := Lib.hid (blk_in G2.out hb3); have J3 := Lib.hid (blk_in J2.out hb3); clear k0 k1 gl r0 r1 rl rz0 rz1; obtain ⟨k0, k1⟩ := cells2 G3.out; have gl := lt_of G3.out; obtain ⟨r0, r1⟩ := cells2 J3.out; have rl := lt_of J3.out; have rz0 := fr_of J3.out 0; have rz1 := fr_of J3.out 1; clear hb3) | (go_at_call 50; with_reducible refine (CN.out _ hb.out).mono ?_; rintro e w2 ⟨rfl, hb1⟩; have HB2 := Lib.hid (hb.out.trans (hb1.mono hb.out.size)); have G2 := Lib.hid (blk_in hH.out hb1); have J2 := Lib.hid (blk_in hH1.out hb1); obtain ⟨k0, k1⟩ := cells2 G2.out; have gl := lt_of G2.out; obtain ⟨r0, r1⟩ := cells2 J2.out; have rl := lt_of J2.out; have rz0 := fr_of J2.out 0; have rz1 := fr_of J2.out 1; clear hb1))
      refine bodyPost_ret (v := .tuple #[.agg #[.slice none 0 0, .slice none 0 0], .bool false]) (by simp [results, Try.results31, go_sem, r0, r1]) rfl ⟨_, rfl, netR_nil _ _ _, ?_⟩
      first | exact HB3.out | exact (HB3.out.setCell (by simp) _).setCell (by simp) _
    have CH := Lib.hid (fun (W : World) (hw : Below w.heap.size w W) => (show Calls Try.prog 69 #[.agg #[.slice pa m pcap, .slice la ll lcap], .int .i64 k] W fun e w' => e = .returned (.bool true) ∧ Below W.heap.size W w' by have q := CH0.out W hw; rw [decide_eq_true hk] at q; exact q))
    obtain ⟨kk, rfl⟩ : ∃ kk : Nat, k = kk := ⟨k.toNat, by omega⟩
    have hkm : kk < m := by omega
    obtain ⟨rfl, rfl⟩ := HYES.out (dropB_at HOK.out (by rw [← NP.out]; exact hkm))
    rw [Int.toNat_natCast]
    clear hk HNO HYES CH0
    have CR := Lib.hid (fun (W : World) (hw : Below w.heap.size w W) => ireplD_any (.agg #[]) dropF dropF (.agg #[.slice pa m pcap, .slice la ll lcap]) n kk W (HNV0.out W hw) (ok_small HOK.out) (by rw [← NP.out]; exact hkm) (fun l hl => by have q := ok_ends HOK.out hl; have q1 := q.1.2; have q2 := q.2.2; unfold Lnk.src at q1; unfold Lnk.tgt at q2; simp only [] at q1 q2; omega) nob_methS nob_methT (fun W' l _ _ _ => inobS_any l.out W') (fun W' l _ _ _ => inobT_any l.inn W'))
    go_enter Try.func31, Try.ntmps31
    go_upto_region 3 with (first | (go_at_call 69; with_reducible refine (CH.out _ HB2.out).mono ?_; rintro e w3 ⟨rfl, hb3⟩; have HB3 := Lib.hid (HB2.out.trans (hb3.mono HB2.out.size)); have G3 := Lib.hid (blk_in G2.out hb3); have J3 := Lib.hid (blk_in J2.out hb3); clear k0 k1 gl r0 r1 rl rz0 rz1; obtain ⟨k0, k1⟩ := cells2 G3.out; have gl := lt_of G3.out; obtain ⟨r0, r1⟩ := cells2 J3.out; have rl := lt_of J3.out; have rz0 := fr_of J3.out 0; have rz1 := fr_of J3.out 1; clear hb3) | (go_at_call 50; with_reducible refine (CN.out _ hb.out).mono ?_; rintro e w2 ⟨rfl, hb1⟩; have HB2 := Lib.hid (hb.out.trans (hb1.mono hb.out.size)); have G2 := Lib.hid (blk_in hH.out hb1); have J2 := Lib.hid (blk_in hH1.out hb1); obtain ⟨k0, k1⟩ := cells2 G2.out; have gl := lt_of G2.out; obtain ⟨r0, r1⟩ := cells2 J2.out; have rl := lt_of J2.out; have rz0 := fr_of J2.out 0; have rz1 := fr_of J2.out 1; clear hb1))
    clear r0 r1 rl rz0 rz1
    go_wp2_with (first | (go_at_call 53; (with_reducible refine (CC.out _ (Below.refl _ _)).mono ?_); rintro e w9 ⟨r, rfl, hN, hb9⟩; have HB9 := Lib.hid (HB4.out.trans (hb9.mono HB4.out.size)); have J9 := Lib.hid (blk_in J4.out hb9); have HN9 := Lib.hid hN; obtain ⟨ca9, cb9, cc9, cd9, rfl⟩ := hN.shape; clear hb9 hN; obtain ⟨r0, r1⟩ := cells2 J9.out; have rl := lt_of J9.out; have rz0 := fr_of J9.out 0; have rz1 := fr_of J9.out 1) | (go_at_call 74; (with_reducible refine (CR.out _ HB3.out).mono ?_); rintro e w4 ⟨pv, lv, rfl, hrp, hrl, hb4⟩; have HB4 := Lib.hid (HB3.out.trans (hb4.mono HB3.out.size)); have J4 := Lib.hid (blk_in J3.out hb4); have HZ4 := Lib.hid hb4.size; obtain ⟨ca, cb, rfl⟩ := hrp.shape; obtain ⟨cc, cd, rfl⟩ := hrl.shape; have CC := Lib.hid (fun (W : World) (hw : Below w4.heap.size w4 W) => icopynet_any _ (repN n kk dropF dropF) W (NetV.below ⟨_, _, rfl, hrp.slP hb4, hrl.slL hb4 (wf_okN (okN_drop HOK.out))⟩ hw) (ok_small (okN_drop HOK.out))); clear hrp hrl hb4))
    have q := set2_all J9.out (.slice ca9 (repN n kk dropF dropF).progs.length cb9) (.slice cc9 (repN n kk dropF dropF).links.length cd9)
    refine bodyPost_ret (v := .tuple #[.agg #[.slice ca9 (repN n kk dropF dropF).progs.length cb9, .slice cc9 (repN n kk dropF dropF).links.length cd9], .bool true]) (by simp [results, Try.results31, go_sem, r0, r1]) rfl ⟨_, rfl, ?_, ?_⟩
    · exact (HN9.out.out q.2 (.inr (by have := lt_of J4.out; omega))).mono HB4.out.size q.2.size
    · exact q.2.below HB9.out HB9.out.size (by omega)
end Go.Proofs.Ytkeoefbkeommhaa
