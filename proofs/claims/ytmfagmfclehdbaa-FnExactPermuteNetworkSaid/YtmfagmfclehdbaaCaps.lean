/-
  Capacities of a network: which are some, and the uniform ones, both sides. No statement of the seat is proved here.
-/
import Derived.Test.YtmfagmfclehdbaaStM
import Derived.Test.YtmfagmfclehdbaaLawKit
namespace Go.Proofs.Ytmfagmfclehdbaa
open Go.RowKit

def capB (l : Lnk) (c : Int) : Bool := decide ((l.tok.length : Int) ≤ c) && decide (c ≤ 400)
def capP (ls : List Lnk) (cs : List Int) (i : Nat) : Bool := capB (ls.getD i lnk0) (cs.getD i 0)
def areCapacitiesR0 (n : Net) (cs : List Int) : Bool := okN n && (decide (n.links.length = cs.length) && upTo (capP n.links cs) n.links.length)
theorem Sl.atb {w : World} {a : Option Addr} {m cap : Nat} {xs : List Int} (h : Sl w (.slice a m cap) xs) {k : Nat} {x : Int} (hx : xs[k]? = some x) :
    ∃ b off, a = some ⟨b, off, none⟩ ∧ b < w.heap.size ∧ w.cell? ⟨b, off + k, none⟩ = some (.int .i64 x) := by
  obtain ⟨a', cap', hv, _, _, _, hr⟩ := h
  simp only [Value.slice.injEq] at hv
  obtain ⟨rfl, rfl, rfl⟩ := hv
  have hk := (List.getElem?_eq_some_iff.1 hx).1
  rcases hr with rfl | ⟨b, off, rfl, hb, hc⟩
  · simp at hx
  · refine ⟨b, off, rfl, hb, ?_⟩
    rw [hc k hk]
    simp [List.getD, hx]
theorem Sl.len {w : World} {v : Value} {xs : List Int} (h : Sl w v xs) : xs.length ≤ 9223372036854775807 := by
  obtain ⟨_, _, _, h1, h2, _⟩ := h; unfold maxLen at h2; omega

set_option maxHeartbeats 1600000 in
theorem icap_any (f o t i c : Int) (tok : List Int) (u : Value) (w : World) (hu : Sl w u tok) :
    Calls Try.prog 69 #[.agg #[.int .i64 f, .int .i64 o, .int .i64 t, .int .i64 i, u], .int .i64 c] w fun e w' => e = .returned (.bool (capB ⟨f, o, t, i, tok⟩ c)) ∧ Below w.heap.size w w' := by
  have hm := hu.len
  obtain ⟨a, cap, rfl⟩ := hu.shape
  obtain ⟨R, hR⟩ : ∃ R, R = capB ⟨f, o, t, i, tok⟩ c := ⟨_, rfl⟩
  rw [← hR]
  replace hR : R = (decide ((tok.length : Int) ≤ c) && decide (c ≤ 400)) := hR
  obtain ⟨n, hn⟩ : ∃ n, n = tok.length := ⟨_, rfl⟩
  rw [← hn] at hm hR ⊢
  clear hn hu
  have hb := Lib.hid ((Below.refl w.heap.size w).al (.cells #[.int .i64 f, .int .i64 o, .int .i64 t, .int .i64 i, .slice a n cap] 86))
  by_cases h1 : (n : Int) ≤ c
  · have d1 : decide ((n : Int) ≤ c) = true := decide_eq_true h1
    by_cases h2 : c ≤ 400
    · have d2 : decide (c ≤ 400) = true := decide_eq_true h2
      rw [d1, d2] at hR
      obtain rfl : R = true := hR
      go_enter Try.func69, Try.ntmps69
      go_wp2_with fail
      go_ret
      exact ⟨rfl, hb.out⟩
    · have d2 : decide (c ≤ 400) = false := decide_eq_false h2
      rw [d1, d2] at hR
      obtain rfl : R = false := hR
      go_enter Try.func69, Try.ntmps69
      go_wp2_with fail
      go_ret
      exact ⟨rfl, hb.out⟩
  · have d1 : decide ((n : Int) ≤ c) = false := decide_eq_false h1
    rw [d1, Bool.false_and] at hR
    obtain rfl : R = false := hR
    go_enter Try.func69, Try.ntmps69
    go_wp2_with fail
    go_ret
    exact ⟨rfl, hb.out⟩

set_option maxRecDepth 100000 in
set_option maxHeartbeats 4000000 in
theorem ieqC_any (v u : Value) (ps : List Lnk) (acs : List Int) (w : World) (hg : SlL w v ps) (hh : Sl w u acs) :
    Calls Try.prog 68 #[v, u, .func (.func 69) #[] #[]] w fun e w' => e = .returned (.bool (decide (ps.length = acs.length) && upTo (capP ps acs) ps.length)) ∧ Below w.heap.size w w' := by
  obtain ⟨R, hR⟩ : ∃ R, R = (decide (ps.length = acs.length) && upTo (capP ps acs) ps.length) := ⟨_, rfl⟩
  rw [← hR]
  have HR := Lib.hid hR
  clear hR
  have hm' := hg.len
  have hm2' := hh.len
  have HG := Lib.hid hg
  have HH := Lib.hid hh
  obtain ⟨a, cap, rfl⟩ := hg.shape
  obtain ⟨b, cap2, rfl⟩ := hh.shape
  obtain ⟨m, hmm⟩ : ∃ m, m = ps.length := ⟨_, rfl⟩
  obtain ⟨m2, hmm2⟩ : ∃ m, m = acs.length := ⟨_, rfl⟩
  rw [← hmm] at hm' HG ⊢
  rw [← hmm2] at hm2' HH ⊢
  have HM := Lib.hid hmm
  have HM2 := Lib.hid hmm2
  clear hmm hmm2 hg hh
  by_cases he : m = m2
  · have HE := Lib.hid he
    subst he
    go_enter Try.func68, Try.ntmps68
    go_wp2_with fail
    go_loopw [17] (fun i wr => ∃ k : Nat, k ≤ m ∧ i = .int .i64 k ∧ Hid (upTo (capP ps acs) k = true) ∧ Hid (Below w.heap.size w wr)) (fun i _ => m - (intOf i).toNat)
    case atStart => exact ⟨0, Nat.zero_le _, rfl, Lib.hid (by simp [upTo]), Lib.hid (Below.refl _ _)⟩
    case round =>
      obtain ⟨k, hk, rfl, HA, HB⟩ := hrel
      by_cases hlt : k < m
      · obtain ⟨x, hx⟩ : ∃ x, ps[k]? = some x := ⟨_, List.getElem?_eq_getElem (by rw [← HM.out]; exact hlt)⟩
        obtain ⟨y, hy⟩ : ∃ y, acs[k]? = some y := ⟨_, List.getElem?_eq_getElem (by rw [← HM2.out]; exact hlt)⟩
        obtain ⟨gb, off, c, rfl, hbk, c0, c1, c2, c3, c4, hcs⟩ := (HG.out.below HB.out).atb hx
        obtain ⟨ha, off2, rfl, hbk2, d0⟩ := (HH.out.below HB.out).atb hy
        have HP := Lib.hid (show capP ps acs k = capB x y by unfold capP; rw [getD_at hx, getD_at hy])
        clear hx hy
        obtain ⟨xf, xo, xt, xi, pc⟩ := x
        simp only [] at c0 c1 c2 c3 c4 hcs
        have C := Lib.hid (fun (W : World) (hw : Below wr.heap.size wr W) => icap_any xf xo xt xi y pc c W (hcs.below hw))
        obtain ⟨ua, uc, rfl⟩ := hcs.shape
        obtain ⟨ul, hul⟩ : ∃ z, z = pc.length := ⟨_, rfl⟩
        rw [← hul] at c4 C
        clear hcs hul
        have hb2 := Lib.hid ((Below.refl wr.heap.size wr).al (.cells #[.int .i64 xf, .int .i64 xo, .int .i64 xt, .int .i64 xi, .slice ua ul uc] 86))
        cases ht : capB ⟨xf, xo, xt, xi, pc⟩ y with
        | true =>
          rw [ht] at C HP
          go_wp2_with (go_at_call 69; with_reducible refine (C.out _ hb2.out).mono ?_; rintro e w2 ⟨rfl, hb1⟩; have HB1 := Lib.hid (HB.out.trans ((hb2.out.trans (hb1.mono hb2.out.size)).mono HB.out.size)); clear hb1)
          go_roundw
          case rel => exact ⟨k + 1, by omega, by go_num, Lib.hid (upTo_step HA.out HP.out), HB1⟩
          case measure => simp [intOf]; omega
        | false =>
          rw [ht] at C HP
          go_wp2_with (go_at_call 69; with_reducible refine (C.out _ hb2.out).mono ?_; rintro e w2 ⟨rfl, hb1⟩; have HB1 := Lib.hid (HB.out.trans ((hb2.out.trans (hb1.mono hb2.out.size)).mono HB.out.size)); clear hb1)
          go_ret
          exact ⟨ret_bool (HR.out.trans (by rw [upTo_no (by rw [← HM.out]; exact hlt) HP.out]; simp)), HB1.out⟩
      · have HA1 := Lib.hid (show upTo (capP ps acs) m = true by have := HA.out; rwa [show k = m by omega] at this)
        go_wp2_with fail
        go_ret
        exact ⟨ret_bool (HR.out.trans (by rw [← HM.out, HA1.out, ← HM2.out]; simp)), HB.out⟩
  · have d : ((m : Int) == (m2 : Int)) = false := by simpa using fun e : (m : Int) = m2 => he (by omega)
    have HE := Lib.hid he
    go_enter Try.func68, Try.ntmps68
    go_wp2_with fail
    go_ret
    exact ⟨ret_bool (HR.out.trans (by rw [decide_eq_false (by rw [← HM.out, ← HM2.out]; exact HE.out)]; rfl)), Below.refl _ _⟩

set_option maxRecDepth 100000 in
set_option maxHeartbeats 4000000 in
theorem iarecaps_any (v u : Value) (n : Net) (cs : List Int) (w : World) (h : NetV w v n) (hu : Sl w u cs) :
    Calls Try.prog 22 #[v, u] w fun e w' => e = .returned (.bool (areCapacitiesR0 n cs)) ∧ Below w.heap.size w w' := by
  have CN := Lib.hid (fun (W : World) (hw : Below w.heap.size w W) => iisnet_any v n W (h.below hw))
  obtain ⟨R, hR⟩ : ∃ R, R = areCapacitiesR0 n cs := ⟨_, rfl⟩
  rw [← hR]
  obtain ⟨c, d, rfl, hp, hl⟩ := h
  have CA := Lib.hid (fun (W : World) (hw : Below w.heap.size w W) => ieqC_any d u n.links cs W (hl.below hw) (hu.below hw))
  obtain ⟨la, lcap, rfl⟩ := hl.shape
  obtain ⟨pa, pcap, rfl⟩ := hp.shape
  obtain ⟨ua, ucap, rfl⟩ := hu.shape
  obtain ⟨m, hm⟩ : ∃ m, m = n.progs.length := ⟨_, rfl⟩
  unfold areCapacitiesR0 at hR
  obtain ⟨R2, hR2⟩ : ∃ R2, R2 = (decide (n.links.length = cs.length) && upTo (capP n.links cs) n.links.length) := ⟨_, rfl⟩
  rw [← hR2] at CA hR
  obtain ⟨ll, hll⟩ : ∃ m, m = n.links.length := ⟨_, rfl⟩
  obtain ⟨cl, hcl⟩ : ∃ m, m = cs.length := ⟨_, rfl⟩
  rw [← hm, ← hll] at CN ⊢
  rw [← hcl] at CA ⊢
  rw [← hll] at CA
  clear hp hl hm hll hu hR2 hcl
  have hb := Lib.hid ((Below.refl w.heap.size w).al (.cells #[.slice pa m pcap, .slice la ll lcap] 35))
  have hH := Lib.hid (hp1 w (.cells #[.slice pa m pcap, .slice la ll lcap] 35))
  cases ho : okN n with
  | false =>
    rw [ho] at CN hR
    obtain rfl : R = false := hR
    clear ho
    go_enter Try.func22, Try.ntmps22
    go_wp2_with (go_at_call 57; with_reducible refine (CN.out _ hb.out).mono ?_; rintro e w2 ⟨rfl, hb1⟩; have HB1 := Lib.hid (hb.out.trans (hb1.mono hb.out.size)); clear hb1)
    go_ret
    exact ⟨rfl, HB1.out⟩
  | true =>
    rw [ho] at CN hR
    rw [Bool.true_and] at hR
    subst hR
    clear ho
    go_enter Try.func22, Try.ntmps22
    go_wp2_with (first | (go_at_call 68; with_reducible refine (CA.out _ HB1.out).mono ?_; rintro e w3 ⟨rfl, hb3⟩; have HB3 := Lib.hid (HB1.out.trans (hb3.mono HB1.out.size)); clear hb3) | (go_at_call 57; with_reducible refine (CN.out _ hb.out).mono ?_; rintro e w2 ⟨rfl, hb1⟩; have HB1 := Lib.hid (hb.out.trans (hb1.mono hb.out.size)); have G1 := Lib.hid (blk_in hH.out hb1); obtain ⟨k0, k1⟩ := cells2 G1.out; have gl := lt_of G1.out; clear hb1))
    go_ret
    exact ⟨rfl, HB3.out⟩

set_option maxRecDepth 100000 in
set_option maxHeartbeats 4000000 in
theorem sarecaps_any (v u : Value) (n : Net) (cs : List Int) (w : World) (h : NetV w v n) (hu : Sl w u cs) :
    Calls Try.prog 20 #[v, u] w fun e w' => e = .returned (.bool (areCapacitiesR0 n cs)) ∧ Below w.heap.size w w' := by
  have CN := Lib.hid (fun (W : World) (hw : Below w.heap.size w W) => sisnet_any v n W (h.below hw))
  obtain ⟨R, hR⟩ : ∃ R, R = areCapacitiesR0 n cs := ⟨_, rfl⟩
  rw [← hR]
  obtain ⟨c, d, rfl, hp, hl⟩ := h
  have LL := hl.len
  have LC := hu.len
  have HL := Lib.hid hl
  have HU := Lib.hid hu
  obtain ⟨la, lcap, rfl⟩ := hl.shape
  obtain ⟨pa, pcap, rfl⟩ := hp.shape
  obtain ⟨ua, ucap, rfl⟩ := hu.shape
  obtain ⟨m, hm⟩ : ∃ m, m = n.progs.length := ⟨_, rfl⟩
  unfold areCapacitiesR0 at hR
  obtain ⟨ll, hll⟩ : ∃ m, m = n.links.length := ⟨_, rfl⟩
  obtain ⟨cl, hcl⟩ : ∃ m, m = cs.length := ⟨_, rfl⟩
  rw [← hm, ← hll] at CN ⊢
  rw [← hll] at HL LL hR
  rw [← hcl] at HU LC hR ⊢
  have NL := Lib.hid hll
  have NC := Lib.hid hcl
  clear hp hl hm hll hu hcl
  have hb := Lib.hid ((Below.refl w.heap.size w).al (.cells #[.slice pa m pcap, .slice la ll lcap] 35))
  have hH := Lib.hid (hp1 w (.cells #[.slice pa m pcap, .slice la ll lcap] 35))
  cases ho : okN n with
  | false =>
    rw [ho] at CN hR
    obtain rfl : R = false := hR
    clear ho
    go_enter Try.func20, Try.ntmps20
    go_wp2_with (go_at_call 53; with_reducible refine (CN.out _ hb.out).mono ?_; rintro e w2 ⟨rfl, hb1⟩; have HB1 := Lib.hid (hb.out.trans (hb1.mono hb.out.size)); have G1 := Lib.hid (blk_in hH.out hb1); obtain ⟨k0, k1⟩ := cells2 G1.out; have gl := lt_of G1.out; clear hb1)
    go_ret
    exact ⟨rfl, HB1.out⟩
  | true =>
    rw [ho] at CN hR
    rw [Bool.true_and] at hR
    clear ho
    by_cases h1 : cl = ll
    case neg =>
      have d1 : ((cl : Int) != (ll : Int)) = true := by rw [bne_iff_ne]; omega
      rw [decide_eq_false (show ¬ ll = cl by omega)] at hR
      obtain rfl : R = false := hR
      clear h1
      go_enter Try.func20, Try.ntmps20
      go_wp2_with (go_at_call 53; with_reducible refine (CN.out _ hb.out).mono ?_; rintro e w2 ⟨rfl, hb1⟩; have HB1 := Lib.hid (hb.out.trans (hb1.mono hb.out.size)); have G1 := Lib.hid (blk_in hH.out hb1); obtain ⟨k0, k1⟩ := cells2 G1.out; have gl := lt_of G1.out; clear hb1)
      go_ret
      exact ⟨rfl, HB1.out⟩
    subst h1
    rw [decide_eq_true (rfl : cl = cl), Bool.true_and] at hR
    have HR := Lib.hid hR
    clear hR
    go_enter Try.func20, Try.ntmps20
    go_wp2_with (go_at_call 53; with_reducible refine (CN.out _ hb.out).mono ?_; rintro e w2 ⟨rfl, hb1⟩; have HB1 := Lib.hid (hb.out.trans (hb1.mono hb.out.size)); have G1 := Lib.hid (blk_in hH.out hb1); obtain ⟨k0, k1⟩ := cells2 G1.out; have gl := lt_of G1.out; clear hb1)
    go_loop [20] (fun i => ∃ k : Nat, k ≤ cl ∧ i = .int .i64 k ∧ Hid (upTo (capP n.links cs) k = true)) (fun i => cl - (intOf i).toNat)
    case atStart => exact ⟨0, Nat.zero_le _, rfl, Lib.hid (by simp [upTo])⟩
    case round =>
      obtain ⟨k, hk, rfl, HA⟩ := hrel
      by_cases hlt : k < cl
      · obtain ⟨x, hx⟩ : ∃ x, n.links[k]? = some x := ⟨_, List.getElem?_eq_getElem (by rw [← NL.out]; exact hlt)⟩
        obtain ⟨y, hy⟩ : ∃ y, cs[k]? = some y := ⟨_, List.getElem?_eq_getElem (by rw [← NC.out]; exact hlt)⟩
        obtain ⟨gb, off, c, rfl, hbk, c0, c1, c2, c3, c4, hcs⟩ := (HL.out.below HB1.out).atb hx
        obtain ⟨ha, off2, rfl, hbk2, d0⟩ := (HU.out.below HB1.out).atb hy
        have HP := Lib.hid (show capP n.links cs k = capB x y by unfold capP; rw [getD_at hx, getD_at hy])
        clear hx hy
        obtain ⟨xf, xo, xt, xi, pc⟩ := x
        simp only [] at c0 c1 c2 c3 c4 hcs
        have hpl := hcs.len
        obtain ⟨ta, tc, rfl⟩ := hcs.shape
        have C := Lib.hid (fun (W : World) => sin_any y (pc.length : Int) 400 W)
        have HI := Lib.hid (show capB ⟨xf, xo, xt, xi, pc⟩ y = inB (pc.length : Int) 400 y by unfold capB inB; simp)
        obtain ⟨ul, hul⟩ : ∃ z, z = pc.length := ⟨_, rfl⟩
        rw [← hul] at c4 C HI hpl
        clear hcs hul
        cases ht : inB (ul : Int) 400 y with
        | true =>
          rw [ht] at C HI
          go_wp2_with (go_at_call 67; with_reducible refine (C.out _).mono ?_; rintro e w3 ⟨rfl, rfl⟩)
          go_round
          case rel => exact ⟨k + 1, by omega, by go_num, Lib.hid (upTo_step HA.out (HP.out.trans HI.out))⟩
          case measure => simp [intOf]; omega
        | false =>
          rw [ht] at C HI
          go_wp2_with (go_at_call 67; with_reducible refine (C.out _).mono ?_; rintro e w3 ⟨rfl, rfl⟩)
          go_ret
          exact ⟨ret_bool (HR.out.trans (upTo_no hlt (HP.out.trans HI.out))), HB1.out⟩
      · go_wp2_with fail
        go_ret
        exact ⟨ret_bool (HR.out.trans (by have := HA.out; rwa [show k = cl by omega] at this)), HB1.out⟩

theorem iarecaps_w (v : Value) (n : Net) (u : Value) (cs : List Int) (w : World) (h : NetV w v n) (hu : Sl w u cs) :
    Calls Try.prog 22 #[v, u] w fun e w' => e = .returned (.bool (areCapacitiesR0 n cs)) ∧ Below w.heap.size w w' := iarecaps_any v u n cs w h hu
theorem sarecaps_w (v : Value) (n : Net) (u : Value) (cs : List Int) (w : World) (h : NetV w v n) (hu : Sl w u cs) :
    Calls Try.prog 20 #[v, u] w fun e w' => e = .returned (.bool (areCapacitiesR0 n cs)) ∧ Below w.heap.size w w' := sarecaps_any v u n cs w h hu
end Go.Proofs.Ytmfagmfclehdbaa
