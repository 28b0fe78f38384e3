/-
  Whether lists of streams are histories of a network. No statement of the seat is proved here.
-/
import Derived.Test.YtjphamgkigekkaaSNet
import Derived.Test.YtjphamgkigekkaaGrid
namespace Go.Proofs.Ytjphamgkigekkaa
open Go.RowKit

def areHistoriesR0 (n : Net) (h : List (List Int)) : Bool := okN n && areS h n.links.length
theorem areS_one {m : Nat} {hs : List (List Int)} (h : hs.length = m) (ha : hs.all isS = true) : areS hs m = true := by unfold areS; rw [ha, decide_eq_true (by omega)]; rfl

set_option maxRecDepth 100000 in
set_option maxHeartbeats 4000000 in
theorem ihist_any (v u : Value) (n : Net) (hs : List (List Int)) (w : World) (h : NetV w v n) (hu : SlR w u hs) :
    Calls Try.prog 64 #[v, u] w fun e w' => e = .returned (.bool (areHistoriesR0 n hs)) ∧ Below w.heap.size w w' := by
  have CN := Lib.hid (fun (W : World) (hw : Below w.heap.size w W) => iisnet_any v n W (h.below hw))
  have CA := Lib.hid (fun (W : World) (hw : Below w.heap.size w W) => iares_any u hs n.links.length W (hu.below hw))
  obtain ⟨R, hR⟩ : ∃ R, R = areHistoriesR0 n hs := ⟨_, rfl⟩
  rw [← hR]
  obtain ⟨c, d, rfl, hp, hl⟩ := h
  obtain ⟨la, lcap, rfl⟩ := hl.shape
  obtain ⟨pa, pcap, rfl⟩ := hp.shape
  obtain ⟨m, hm⟩ : ∃ m, m = n.progs.length := ⟨_, rfl⟩
  obtain ⟨ll, hll⟩ : ∃ m, m = n.links.length := ⟨_, rfl⟩
  unfold areHistoriesR0 at hR
  rw [← hm, ← hll] at CN ⊢
  rw [← hll] at CA hR
  have HU := Lib.hid hu
  clear hp hl hm hll hu
  have hb := Lib.hid ((Below.refl w.heap.size w).al (.cells #[.slice pa m pcap, .slice la ll lcap] 34))
  have hH := Lib.hid (hp1 w (.cells #[.slice pa m pcap, .slice la ll lcap] 34))
  cases ho : okN n with
  | false =>
    rw [ho] at CN hR
    obtain rfl : R = false := hR
    clear ho
    go_enter Try.func64, Try.ntmps64
    go_wp2_with (go_at_call 73; with_reducible refine (CN.out _ hb.out).mono ?_; rintro e w2 ⟨rfl, hb1⟩; have HB1 := Lib.hid (hb.out.trans (hb1.mono hb.out.size)); clear hb1)
    go_ret
    exact ⟨rfl, HB1.out⟩
  | true =>
    rw [ho] at CN hR
    rw [Bool.true_and] at hR
    have HR := Lib.hid hR
    rw [← hR] at CA
    clear ho hR
    go_enter Try.func64, Try.ntmps64
    go_wp2_with (first | (go_at_call 95; with_reducible refine (CA.out _ HB1.out).mono ?_; rintro e w3 ⟨rfl, rfl⟩) | (go_at_call 73; with_reducible refine (CN.out _ hb.out).mono ?_; rintro e w2 ⟨rfl, hb1⟩; have HB1 := Lib.hid (hb.out.trans (hb1.mono hb.out.size)); have G1 := Lib.hid (blk_in hH.out hb1); obtain ⟨k0, k1⟩ := cells2 G1.out; have gl := lt_of G1.out; clear hb1))
    go_ret
    exact ⟨rfl, HB1.out⟩

set_option maxRecDepth 100000 in
set_option maxHeartbeats 4000000 in
theorem shist_any (v u : Value) (n : Net) (hs : List (List Int)) (w : World) (h : NetV w v n) (hu : SlR w u hs) :
    Calls Try.prog 59 #[v, u] w fun e w' => e = .returned (.bool (areHistoriesR0 n hs)) ∧ Below w.heap.size w w' := by
  have CN := Lib.hid (fun (W : World) (hw : Below w.heap.size w W) => sisnet_any v n W (h.below hw))
  obtain ⟨R, hR⟩ : ∃ R, R = areHistoriesR0 n hs := ⟨_, rfl⟩
  rw [← hR]
  have HR := Lib.hid hR
  obtain ⟨c, d, rfl, hp, hl⟩ := h
  obtain ⟨la, lcap, rfl⟩ := hl.shape
  obtain ⟨pa, pcap, rfl⟩ := hp.shape
  obtain ⟨m, hm⟩ : ∃ m, m = n.progs.length := ⟨_, rfl⟩
  obtain ⟨ll, hll⟩ : ∃ m, m = n.links.length := ⟨_, rfl⟩
  rw [← hm, ← hll] at CN ⊢
  have HLL := Lib.hid hll
  clear hp hl hm hll hR
  obtain ⟨a, cap, rfl, hl, hmx, hn, hc⟩ := hu
  have hk' : hs.length ≤ 9223372036854775807 := by unfold maxLen at hmx; omega
  clear hmx hn
  obtain ⟨k, hkk⟩ : ∃ m, m = hs.length := ⟨_, rfl⟩
  rw [← hkk] at hk' hl ⊢
  have HK := Lib.hid hkk
  clear hkk
  have hb := Lib.hid ((Below.refl w.heap.size w).al (.cells #[.slice pa m pcap, .slice la ll lcap] 34))
  have hH := Lib.hid (hp1 w (.cells #[.slice pa m pcap, .slice la ll lcap] 34))
  go_enter Try.func59, Try.ntmps59
  go_wp2_with fail
  go_loop [9] (fun i => ∃ j : Nat, j ≤ k ∧ i = .int .i64 j ∧ Hid ((hs.take j).all isS = true)) (fun i => k - (intOf i).toNat)
  case atStart => exact ⟨0, Nat.zero_le _, rfl, by simp [Hid]⟩
  case round =>
    obtain ⟨j, hj, rfl, hA⟩ := hrel
    by_cases hlt : j < k
    · rcases hc with rfl | ⟨b, off, rfl, hbl, hcell⟩
      · exact absurd hlt (by have := HK.out; simp at this; omega)
      · obtain ⟨x, hx⟩ : ∃ x, hs[j]? = some x := ⟨_, List.getElem?_eq_getElem (by rw [← HK.out]; exact hlt)⟩
        obtain ⟨u, hu, hs'⟩ := hcell j x hx
        have HX := Lib.hid hx
        have hu2 := (hb.out.cell (p := ⟨b, off + j, none⟩) hbl).trans hu
        have hbl2 : b < (w.alloc (.cells #[.slice pa m pcap, .slice la ll lcap] 34)).heap.size := by simp; omega
        have C := Lib.hid (sstream_any u x _ (hs'.below hb.out))
        clear hx hcell hs' hu
        cases ht : isS x with
        | true =>
          rw [ht] at C
          go_wp2_with (go_at_call 89; refine C.out.mono ?_; rintro e w' ⟨rfl, rfl⟩)
          go_round
          case rel => exact ⟨j + 1, by omega, by go_num, allS_step HX.out hA.out ht⟩
          case measure => simp [intOf]; omega
        | false =>
          rw [ht] at C
          go_wp2_with (go_at_call 89; refine C.out.mono ?_; rintro e w' ⟨rfl, rfl⟩)
          go_ret
          exact ⟨ret_bool (HR.out.trans (by unfold areHistoriesR0 areS; rw [allS_no HX.out ht]; simp)), hb.out⟩
    · have hA1 := hA.out
      rw [List.take_of_length_le (by rw [← HK.out]; omega)] at hA1
      have HE := Lib.hid (show R = (okN n && decide ((k : Int) = (ll : Int))) by rw [HR.out]; unfold areHistoriesR0 areS; rw [hA1, ← HK.out, ← HLL.out]; simp)
      clear hA hA1 hc
      cases ho : okN n with
      | false =>
        rw [ho] at CN HE
        clear ho
        go_wp2_with (go_at_call 70; with_reducible refine (CN.out _ hb.out).mono ?_; rintro e w2 ⟨rfl, hb1⟩; have HB1 := Lib.hid (hb.out.trans (hb1.mono hb.out.size)); clear hb1)
        go_ret
        exact ⟨ret_bool HE.out, HB1.out⟩
      | true =>
        rw [ho] at CN HE
        clear ho
        go_wp2_with (go_at_call 70; with_reducible refine (CN.out _ hb.out).mono ?_; rintro e w2 ⟨rfl, hb1⟩; have HB1 := Lib.hid (hb.out.trans (hb1.mono hb.out.size)); have G1 := Lib.hid (blk_in hH.out hb1); obtain ⟨k0, k1⟩ := cells2 G1.out; have gl := lt_of G1.out; clear hb1)
        go_ret
        exact ⟨ret_bool (HE.out.trans (by by_cases q : (k : Int) = (ll : Int) <;> simp [q])), HB1.out⟩
end Go.Proofs.Ytjphamgkigekkaa
