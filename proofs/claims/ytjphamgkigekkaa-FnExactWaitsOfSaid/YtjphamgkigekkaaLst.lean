/-
  Whether a round gives the histories again: IsFixed of the model and of the program. No statement of the seat is proved here.
  The least streams: LeastStreams of the model and of the program. No statement of the seat is proved here.
  For which link each process waits at the least streams: WaitsOf of the program and of the model. No statement of the seat is proved here.
-/
import Derived.Test.YtjphamgkigekkaaRndQ
import Derived.Test.YtjphamgkigekkaaSame
namespace Go.Proofs.Ytjphamgkigekkaa
open Go.RowKit

def isFixedR0 (n : Net) (h : List (List Int)) : Bool := roundOfR1 n h && decide (roundOfR0 n h = h)

set_option maxRecDepth 100000 in
set_option maxHeartbeats 4000000 in
theorem ifix_w (v : Value) (n : Net) (u : Value) (h : List (List Int)) (w : World) (hv : NetV w v n) (hu : SlR w u h) :
    Calls Try.prog 29 #[v, u] w fun e w' => e = .returned (.bool (isFixedR0 n h)) ∧ Below w.heap.size w w' := by
  obtain ⟨pv, lv, rfl, hps, hls⟩ := hv
  have HV := Lib.hid (show NetV w (.agg #[pv, lv]) n from ⟨pv, lv, rfl, hps, hls⟩)
  have HU := Lib.hid hu
  obtain ⟨pa, pcap, rfl⟩ := hps.shape
  obtain ⟨la, lcap, rfl⟩ := hls.shape
  obtain ⟨m, hm⟩ : ∃ z, z = n.progs.length := ⟨_, rfl⟩
  obtain ⟨ll, hll⟩ : ∃ z, z = n.links.length := ⟨_, rfl⟩
  rw [← hm, ← hll] at HV ⊢
  clear hps hls hu hm hll
  have h0 := Lib.hid (hp1 w (.cells #[.slice pa m pcap, .slice la ll lcap] 34))
  have hb0 := Lib.hid ((Below.refl w.heap.size w).al (.cells #[.slice pa m pcap, .slice la ll lcap] 34))
  have CR := Lib.hid (fun (W : World) (hw : Below w.heap.size w W) => irnd_any (.agg #[.slice pa m pcap, .slice la ll lcap]) u n h W (HV.out.below hw) (HU.out.below hw))
  obtain ⟨xs, hxs⟩ : ∃ z, z = roundOfR0 n h := ⟨_, rfl⟩
  have HF := Lib.hid (show isFixedR0 n h = (roundOfR1 n h && decide (roundOfR0 n h = h)) from rfl)
  obtain ⟨r1, hr1⟩ : ∃ z, z = roundOfR1 n h := ⟨_, rfl⟩
  obtain ⟨rr, hrr⟩ : ∃ z, z = isFixedR0 n h := ⟨_, rfl⟩
  rw [← hxs, ← hr1, ← hrr] at HF
  rw [← hxs, ← hr1] at CR
  rw [← hrr]
  clear hxs hr1 hrr
  cases r1 with
  | false =>
    obtain rfl : rr = false := HF.out
    go_enter Try.func29, Try.ntmps29
    go_wp2_with (go_at_call 20; with_reducible refine (CR.out _ hb0.out).mono ?_; rintro e w1 ⟨x, rfl, hx, hb1⟩; have HB1 := Lib.hid (hb0.out.trans (hb1.mono hb0.out.size)); clear hb1 hx)
    go_ret
    exact ⟨rfl, HB1.out⟩
  | true =>
    have HF2 := Lib.hid (show rr = decide (xs = h) by rw [HF.out]; rfl)
    have CE := Lib.hid (fun (W : World) (x : Value) (hx : SlR W x xs) (hw : Below w.heap.size w W) => iareq_any x u xs h W hx (HU.out.below hw))
    rw [← HF2.out] at CE
    go_enter Try.func29, Try.ntmps29
    go_wp2_with (first | (go_at_call 20; with_reducible refine (CR.out _ hb0.out).mono ?_; rintro e w1 ⟨x, rfl, hx, hb1⟩; have HX := Lib.hid hx.v; have HB1 := Lib.hid (hb0.out.trans (hb1.mono hb0.out.size)); clear hb1 hx) | (go_at_call 74; with_reducible refine (CE.out _ _ HX.out HB1.out).mono ?_; rintro e w2 ⟨rfl, hb2⟩; have HB2 := Lib.hid (HB1.out.trans (hb2.mono HB1.out.size)); clear hb2))
    go_ret
    exact ⟨rfl, HB2.out⟩

set_option maxRecDepth 100000 in
set_option maxHeartbeats 4000000 in
theorem sfix_w (v : Value) (n : Net) (u : Value) (h : List (List Int)) (w : World) (hv : NetV w v n) (hu : SlR w u h) :
    Calls Try.prog 28 #[v, u] w fun e w' => e = .returned (.bool (isFixedR0 n h)) ∧ Below w.heap.size w w' := by
  obtain ⟨pv, lv, rfl, hps, hls⟩ := hv
  have HV := Lib.hid (show NetV w (.agg #[pv, lv]) n from ⟨pv, lv, rfl, hps, hls⟩)
  have HU := Lib.hid hu
  obtain ⟨pa, pcap, rfl⟩ := hps.shape
  obtain ⟨la, lcap, rfl⟩ := hls.shape
  obtain ⟨m, hm⟩ : ∃ z, z = n.progs.length := ⟨_, rfl⟩
  obtain ⟨ll, hll⟩ : ∃ z, z = n.links.length := ⟨_, rfl⟩
  rw [← hm, ← hll] at HV ⊢
  clear hps hls hu hm hll
  have h0 := Lib.hid (hp1 w (.cells #[.slice pa m pcap, .slice la ll lcap] 34))
  have hb0 := Lib.hid ((Below.refl w.heap.size w).al (.cells #[.slice pa m pcap, .slice la ll lcap] 34))
  have CR := Lib.hid (fun (W : World) (hw : Below w.heap.size w W) => srnd_any (.agg #[.slice pa m pcap, .slice la ll lcap]) u n h W (HV.out.below hw) (HU.out.below hw))
  obtain ⟨xs, hxs⟩ : ∃ z, z = roundOfR0 n h := ⟨_, rfl⟩
  have HF := Lib.hid (show isFixedR0 n h = (roundOfR1 n h && decide (roundOfR0 n h = h)) from rfl)
  obtain ⟨r1, hr1⟩ : ∃ z, z = roundOfR1 n h := ⟨_, rfl⟩
  obtain ⟨rr, hrr⟩ : ∃ z, z = isFixedR0 n h := ⟨_, rfl⟩
  rw [← hxs, ← hr1, ← hrr] at HF
  rw [← hxs, ← hr1] at CR
  rw [← hrr]
  clear hxs hr1 hrr
  cases r1 with
  | false =>
    obtain rfl : rr = false := HF.out
    go_enter Try.func28, Try.ntmps28
    go_wp2_with (go_at_call 17; with_reducible refine (CR.out _ hb0.out).mono ?_; rintro e w1 ⟨x, rfl, hx, hb1⟩; have HB1 := Lib.hid (hb0.out.trans (hb1.mono hb0.out.size)); clear hb1 hx)
    go_ret
    exact ⟨rfl, HB1.out⟩
  | true =>
    have HF2 := Lib.hid (show rr = decide (xs = h) by rw [HF.out]; rfl)
    have CE := Lib.hid (fun (W : World) (x : Value) (hx : SlR W x xs) (hw : Below w.heap.size w W) => same_any x u xs h W hx (HU.out.below hw))
    rw [← HF2.out] at CE
    go_enter Try.func28, Try.ntmps28
    go_wp2_with (first | (go_at_call 17; with_reducible refine (CR.out _ hb0.out).mono ?_; rintro e w1 ⟨x, rfl, hx, hb1⟩; have HX := Lib.hid hx.v; have HB1 := Lib.hid (hb0.out.trans (hb1.mono hb0.out.size)); clear hb1 hx) | (go_at_call 72; with_reducible refine (CE.out _ _ HX.out HB1.out).mono ?_; rintro e w2 ⟨rfl, rfl⟩; have HB2 := HB1))
    go_ret
    exact ⟨rfl, HB2.out⟩

theorem rowsH_mono {lo hi lo' hi' : Nat} {w : World} {v : Value} {xs : List (List Int)} (h : RowsH lo hi w v xs) (h1 : lo' ≤ lo) (h2 : hi ≤ hi') : RowsH lo' hi' w v xs := OutH.mono h h1 h2
def leastG (n : Net) : Nat → List (List Int) → Int → List (List Int) × Int × Bool
  | 0, _, _ => ([], 0, false)
  | f + 1, h, r => if okR n h then (if roundL n h = h then (h, r, true) else leastG n f (roundL n h) (r + 1)) else ([], 0, false)
def toksL (n : Net) : List (List Int) := n.links.map Lnk.tok
def leastR (n : Net) : List (List Int) × Int × Bool := if okN n then leastG n 300 (toksL n) 1 else ([], 0, false)
def leastStreamsR0 (n : Net) : List (List Int) := (leastR n).1
def leastStreamsR1 (n : Net) : Int := (leastR n).2.1
def leastStreamsR2 (n : Net) : Bool := (leastR n).2.2
theorem toks_good {n : Net} (ho : okN n = true) : GoodH n (toksL n) := by
  refine ⟨ho, by unfold toksL; simp, fun xs hx => ?_⟩
  unfold toksL at hx
  obtain ⟨l, hl, rfl⟩ := List.mem_map.1 hx
  have := (((okN_iff n).1 ho).2.1 l hl).1
  unfold linkL at this
  rw [Bool.and_eq_true] at this
  exact this.1
theorem leastG_good {n : Net} : ∀ (f : Nat) (h : List (List Int)) (r : Int), GoodH n h → (leastG n f h r).1 = [] ∨ GoodH n (leastG n f h r).1
  | 0, _, _, _ => .inl rfl
  | f + 1, h, r, g => by
    unfold leastG
    cases e : okR n h with
    | false => exact .inl rfl
    | true =>
      rw [if_pos rfl]
      by_cases q : roundL n h = h
      · rw [if_pos q]; exact .inr g
      · rw [if_neg q]; exact leastG_good f _ _ (roundL_good g e)
theorem least_bd (n : Net) : (leastStreamsR0 n).length ≤ 30 ∧ sumT (leastStreamsR0 n) ≤ 12000 ∧ sumR (leastStreamsR0 n) ≤ 12030 := by
  unfold leastStreamsR0 leastR
  cases e : okN n with
  | false => simp [sumT, sumR]
  | true =>
    rw [if_pos rfl]
    rcases leastG_good 300 (toksL n) 1 (toks_good e) with q | q
    · rw [q]; simp [sumT, sumR]
    · exact good_bd q
theorem leastG_no {n : Net} {f : Nat} {h : List (List Int)} {r : Int} (e : okR n h = false) : leastG n (f + 1) h r = ([], 0, false) := by
  unfold leastG; rw [e]; rfl
theorem leastG_yes {n : Net} {f : Nat} {h : List (List Int)} {r : Int} (e : okR n h = true) (q : roundL n h = h) : leastG n (f + 1) h r = (h, r, true) := by
  unfold leastG; rw [e, if_pos rfl, if_pos q]
theorem leastG_on {n : Net} {f : Nat} {h : List (List Int)} {r : Int} (e : okR n h = true) (q : ¬ roundL n h = h) : leastG n (f + 1) h r = leastG n f (roundL n h) (r + 1) := by
  conv => lhs; unfold leastG
  rw [e, if_pos rfl, if_neg q]
/-- The slice that is filled with the tokens' own headers. -/
def ToksR (w0 : World) (B ll k : Nat) (w : World) (ls : List Lnk) : Prop :=
  ∃ us : List Value, us.length = k ∧ w.heap[B]? = some (.cells (us ++ List.replicate (ll - k) (Value.slice none 0 0)).toArray 46) ∧ ∀ (q : Nat) (y : Value) (x : Lnk), us[q]? = some y → ls[q]? = some x → Sl w0 y x.tok
theorem ToksR.step {w0 : World} {B ll k : Nat} {w w1 : World} {ls : List Lnk} {y : Value} {x : Lnk} (h : ToksR w0 B ll k w ls) (hb : Below w.heap.size w w1) (hk : k < ll) (hx : ls[k]? = some x) (hy : Sl w0 y x.tok) : ToksR w0 B ll (k + 1) (w1.setCell ⟨B, k, none⟩ y) ls := by
  obtain ⟨us, h1, h2, h3⟩ := h
  refine ⟨us ++ [y], by simp [h1], by rw [set_row (blk_in h2 hb), fill_set h1 hk], fun q z x' hz hx' => ?_⟩
  rcases Nat.lt_trichotomy q k with e | e | e
  · rw [List.getElem?_append_left (by omega)] at hz
    exact h3 q z x' hz hx'
  · rw [List.getElem?_append_right (by omega), show q - us.length = 0 by omega] at hz
    obtain rfl := Option.some.inj hz
    subst e
    rw [hx] at hx'
    obtain rfl := Option.some.inj hx'
    exact hy
  · rw [List.getElem?_eq_none (by simp; omega)] at hz
    cases hz
theorem ToksR.cell {w0 : World} {B ll k : Nat} {w w1 : World} {ls : List Lnk} (h : ToksR w0 B ll k w ls) (hk : k < ll) (hb : Below w.heap.size w w1) : w1.cell? ⟨B, k, none⟩ = some (.slice none 0 0) ∧ w1.frozen? ⟨B, k, none⟩ = false ∧ B < w1.heap.size := by
  obtain ⟨us, h1, h2, _⟩ := h
  have b1 := blk_in h2 hb
  refine ⟨row_cell b1 ?_, fr_of b1 k, lt_of b1⟩
  rw [List.getElem?_append_right (by omega), List.getElem?_replicate, if_pos (by omega)]
theorem ToksR.slR {w0 : World} {B ll : Nat} {w : World} {ls : List Lnk} (h : ToksR w0 B ll ll w ls) (hl : ls.length = ll) (hb : Below w0.heap.size w0 w) (hm : ll ≤ 1000) : SlR w (.slice (some ⟨B, 0, none⟩) ll ll) (ls.map Lnk.tok) := by
  obtain ⟨us, h1, h2, h3⟩ := h
  rw [Nat.sub_self, List.replicate_zero, List.append_nil] at h2
  refine ⟨some ⟨B, 0, none⟩, ll, by rw [List.length_map, hl], by rw [List.length_map]; omega, by unfold maxLen; omega, (fun e => by cases e), .inr ⟨B, 0, rfl, lt_of h2, fun q xs hx => ?_⟩⟩
  rw [List.getElem?_map] at hx
  obtain ⟨x, hx1, rfl⟩ := Option.map_eq_some_iff.1 hx
  have hq := (List.getElem?_eq_some_iff.1 hx1).1
  obtain ⟨y, hy⟩ : ∃ y, us[q]? = some y := ⟨_, List.getElem?_eq_getElem (by omega)⟩
  exact ⟨y, by rw [Nat.zero_add]; exact row_cell h2 hy, (h3 q y x hy hx1).below hb⟩

set_option maxRecDepth 100000 in
set_option maxHeartbeats 8000000 in
theorem ilst_w (v : Value) (n : Net) (w : World) (hv : NetV w v n) :
    Calls Try.prog 27 #[v] w fun e w' => ∃ r, e = .returned (.tuple #[r, .int .i64 (leastStreamsR1 n), .bool (leastStreamsR2 n)]) ∧ RowsH w.heap.size w'.heap.size w' r (leastStreamsR0 n) ∧ Below w.heap.size w w' := by
  obtain ⟨pv, lv, rfl, hps, hls⟩ := hv
  have HV := Lib.hid (show NetV w (.agg #[pv, lv]) n from ⟨pv, lv, rfl, hps, hls⟩)
  have HL := Lib.hid hls
  have LL := hls.len
  obtain ⟨pa, pcap, rfl⟩ := hps.shape
  obtain ⟨la, lcap, rfl⟩ := hls.shape
  obtain ⟨m, hm⟩ : ∃ z, z = n.progs.length := ⟨_, rfl⟩
  obtain ⟨ll, hll⟩ : ∃ z, z = n.links.length := ⟨_, rfl⟩
  have NL := Lib.hid hll
  rw [← hm, ← hll] at HV ⊢
  rw [← hll] at HL LL
  obtain ⟨x0, x1, x2, hx⟩ : ∃ x0 x1 x2, leastR n = (x0, x1, x2) := ⟨_, _, _, rfl⟩
  have HR := Lib.hid hx
  rw [show leastStreamsR0 n = x0 by unfold leastStreamsR0; rw [hx], show leastStreamsR1 n = x1 by unfold leastStreamsR1; rw [hx], show leastStreamsR2 n = x2 by unfold leastStreamsR2; rw [hx]]
  clear hps hls hm hx
  have h0 := Lib.hid (hp1 w (.cells #[.slice pa m pcap, .slice la ll lcap] 34))
  have hb0 := Lib.hid ((Below.refl w.heap.size w).al (.cells #[.slice pa m pcap, .slice la ll lcap] 34))
  have CN := Lib.hid (fun (W : World) (hw : Below w.heap.size w W) => iisnet_any (.agg #[.slice pa m pcap, .slice la ll lcap]) n W (HV.out.below hw))
  cases ho : okN n with
  | false =>
    rw [ho] at CN
    obtain ⟨rfl, rfl, rfl⟩ : x0 = [] ∧ x1 = 0 ∧ x2 = false := by
      have q := HR.out
      unfold leastR at q
      rw [ho] at q
      simp at q
      exact ⟨q.1, q.2.1.symm, q.2.2⟩
    clear hll
    go_enter Try.func27, Try.ntmps27
    go_wp2_with (go_at_call 73; with_reducible refine (CN.out _ hb0.out).mono ?_; rintro e w1 ⟨rfl, hb1⟩; have HB1 := Lib.hid (hb0.out.trans (hb1.mono hb0.out.size)); clear hb1)
    go_ret3
    exact ⟨_, rfl, rowsH_nil _ _, HB1.out⟩
  | true =>
    rw [ho] at CN
    have hl30 : ll ≤ 30 := by rw [hll]; have := okN_len ho; omega
    have HG0 := Lib.hid (toks_good ho)
    have HR1 := Lib.hid (show leastG n 300 (toksL n) 1 = (x0, x1, x2) by have q := HR.out; unfold leastR at q; rw [ho, if_pos rfl] at q; exact q)
    have MK := fun (W : World) => mkSB ll (by omega) W
    clear hll HR ho
    go_enter Try.func27, Try.ntmps27
    go_wp2_with (go_at_call 73; with_reducible refine (CN.out _ hb0.out).mono ?_; rintro e w1 ⟨rfl, hb1⟩; have HB1 := Lib.hid (hb0.out.trans (hb1.mono hb0.out.size)); have H1 := Lib.hid (blk_in h0.out hb1); obtain ⟨n0, n1⟩ := cells2 H1.out; have n2 := lt_of H1.out; clear hb1)
    have HQ1 := Lib.hid (show Below w1.heap.size w1 (w1.alloc (.cells (Array.replicate ll (Value.slice none 0 0)) 46)) from (Below.refl _ _).al _)
    have HQ2 := Lib.hid (show ToksR w w1.heap.size ll 0 (w1.alloc (.cells (Array.replicate ll (Value.slice none 0 0)) 46)) n.links from ⟨[], rfl, by rw [hp1, List.nil_append, List.toArray_replicate]; rfl, fun q y x hy => by simp at hy⟩)
    generalize (w1.alloc (.cells (Array.replicate ll (Value.slice none 0 0)) 46)) = w2 at HQ1 HQ2 ⊢
    clear MK
    go_loopw [21] (fun i wr => ∃ k : Nat, k ≤ ll ∧ i = .int .i64 k ∧ Hid (ToksR w w1.heap.size ll k wr n.links) ∧ Hid (Below w1.heap.size w1 wr)) (fun i _ => ll - (intOf i).toNat)
    case atStart => exact ⟨0, Nat.zero_le _, rfl, HQ2, HQ1⟩
    case round =>
      clear HQ1 HQ2
      obtain ⟨k, hk, rfl, HM, HB⟩ := hrel
      have HW := Lib.hid (HB1.out.trans (HB.out.mono HB1.out.size))
      by_cases hlt : k < ll
      case pos =>
        obtain ⟨x, hx⟩ : ∃ x, n.links[k]? = some x := ⟨_, List.getElem?_eq_getElem (by rw [← NL.out]; exact hlt)⟩
        obtain ⟨lb, lo, d, hla, hlb, e0, e1, e2, e3, e4, es⟩ := HL.out.atb hx
        subst hla
        have HX := Lib.hid hx
        have TS := Lib.hid es
        obtain ⟨va, vc, rfl⟩ := es.shape
        obtain ⟨kl, hkl⟩ : ∃ z, z = x.tok.length := ⟨_, rfl⟩
        rw [← hkl] at TS e4
        have c0 := (HW.out.cell (p := ⟨lb, lo + k * 5, none⟩) hlb).trans e0
        have c1 := (HW.out.cell (p := ⟨lb, lo + k * 5 + 1, none⟩) hlb).trans e1
        have c2 := (HW.out.cell (p := ⟨lb, lo + k * 5 + 2, none⟩) hlb).trans e2
        have c3 := (HW.out.cell (p := ⟨lb, lo + k * 5 + 3, none⟩) hlb).trans e3
        have c4 := (HW.out.cell (p := ⟨lb, lo + k * 5 + 4, none⟩) hlb).trans e4
        have c5 := Nat.lt_of_lt_of_le hlb HW.out.size
        clear es hx hkl e0 e1 e2 e3 e4
        obtain ⟨xf, xo, xt, xi, xk⟩ := x
        simp only [] at c0 c1 c2 c3 TS
        have HBW := Lib.hid ((Below.refl wr.heap.size wr).al (.cells #[.int .i64 xf, .int .i64 xo, .int .i64 xt, .int .i64 xi, .slice va kl vc] 82))
        obtain ⟨q0, q1, q2⟩ := HM.out.cell hlt HBW.out
        go_wp2_with fail
        go_roundw
        case rel => exact ⟨k + 1, by omega, by go_num, Lib.hid (HM.out.step HBW.out hlt HX.out TS.out), Lib.hid ((HB.out.trans (HBW.out.mono HB.out.size)).setCell (Nat.le_refl _) _)⟩
        case measure => simp [intOf]; omega
      case neg =>
        obtain rfl : k = ll := by omega
        have HS := Lib.hid (HM.out.slR NL.out.symm HW.out (by omega))
        have HTL := Lib.hid (show n.links.map Lnk.tok = toksL n from rfl)
        rw [HTL.out] at HS
        have H2 := Lib.hid (blk_in H1.out HB.out)
        obtain ⟨W1, hW1⟩ : ∃ z, z = wr := ⟨_, rfl⟩
        subst hW1
        clear HM HB HTL n0 n1 n2
        go_wp2_with fail
        go_loopw [5, 8] (fun o i wr => ∃ (hs : List (List Int)) (r : Nat), 1 ≤ r ∧ r ≤ 301 ∧ i = .int .i64 r ∧ Hid (SlR wr o hs) ∧ Hid (GoodH n hs) ∧ Hid (leastG n (301 - r) hs r = (x0, x1, x2)) ∧ Hid (wr.heap[w.heap.size]? = some (.cells #[.slice pa m pcap, .slice la k lcap] 34)) ∧ Hid (Below w.heap.size w wr)) (fun _ i _ => 301 - (intOf i).toNat)
        case atStart => exact ⟨toksL n, 1, by omega, by omega, rfl, HS, HG0, HR1, H2, HW⟩
        case round =>
          clear HS HG0 HR1 H2 HW
          obtain ⟨hs, r, hr1, hr2, rfl, HS, HG, HR, H2, HW⟩ := hrel
          obtain ⟨n0, n1⟩ := cells2 H2.out
          have n2 := lt_of H2.out
          obtain ⟨sa, sc, hse⟩ := slR_shape HS.out
          subst hse
          by_cases hr : r ≤ 300
          case pos =>
            have CM := Lib.hid (imade_any (.agg #[.slice pa m pcap, .slice la k lcap]) (.slice sa hs.length sc) n hs wr (HV.out.below HW.out) HS.out HG.out)
            cases hok : okR n hs with
            | false =>
              obtain ⟨rfl, rfl, rfl⟩ : x0 = [] ∧ x1 = 0 ∧ x2 = false := by
                have q := HR.out
                rw [show 301 - r = (300 - r) + 1 by omega, leastG_no hok] at q
                simp at q
                exact ⟨q.1, q.2.1.symm, q.2.2⟩
              rw [hok] at CM
              go_wp2_with (go_at_call 65; with_reducible refine CM.out.mono ?_; rintro e w4 ⟨rv, rfl, _, hb4⟩; have HB4 := Lib.hid (HW.out.trans (hb4.mono HW.out.size)); clear hb4)
              go_ret3
              exact ⟨_, rfl, rowsH_nil _ _, HB4.out⟩
            | true =>
              have hmr : madeR n hs = roundL n hs := by unfold madeR; rw [hok]; rfl
              rw [hok, hmr] at CM
              have CE := Lib.hid (fun (W : World) (y : Value) (hy : SlR W y (roundL n hs)) (hw : Below wr.heap.size wr W) => iareq_any y (.slice sa hs.length sc) (roundL n hs) hs W hy (HS.out.below hw))
              by_cases heq : roundL n hs = hs
              case pos =>
                obtain ⟨rfl, rfl, rfl⟩ : x0 = hs ∧ x1 = (r : Int) ∧ x2 = true := by
                  have q := HR.out
                  rw [show 301 - r = (300 - r) + 1 by omega, leastG_yes hok heq] at q
                  simp at q
                  exact ⟨q.1.symm, q.2.1.symm, q.2.2⟩
                rw [decide_eq_true heq] at CE
                have HEQ := Lib.hid heq
                obtain ⟨sl, hsl⟩ : ∃ z, z = x0.length := ⟨_, rfl⟩
                rw [← hsl] at CM CE ⊢
                clear heq hmr hok hsl
                go_wp2_with (first | (go_at_call 65; with_reducible refine CM.out.mono ?_; rintro e w4 ⟨rv, rfl, hrv, hb4⟩; have HRV := Lib.hid hrv; have HC4 := Lib.hid hb4; have HB4 := Lib.hid (HW.out.trans (hb4.mono HW.out.size)); clear hb4 hrv) | (go_at_call 74; with_reducible refine (CE.out _ _ HRV.out.v HC4.out).mono ?_; rintro e w5 ⟨rfl, hb5⟩; have HB5 := Lib.hid (HB4.out.trans (hb5.mono HB4.out.size)); have HR5 := Lib.hid (HRV.out.below hb5); have HS5 := Lib.hid hb5.size; clear hb5))
                go_ret3
                rw [HEQ.out] at HR5
                exact ⟨_, rfl, OutH.mono HR5.out HW.out.size HS5.out, HB5.out⟩
              case neg =>
                have HRN := Lib.hid (show leastG n (301 - (r + 1)) (roundL n hs) ((r + 1 : Nat) : Int) = (x0, x1, x2) by
                  have q := HR.out
                  rw [show 301 - r = (301 - (r + 1)) + 1 by omega, leastG_on hok heq] at q
                  rw [← q]; congr 1)
                have HGN := Lib.hid (roundL_good HG.out hok)
                rw [decide_eq_false heq] at CE
                obtain ⟨sl, hsl⟩ : ∃ z, z = hs.length := ⟨_, rfl⟩
                rw [← hsl] at CM CE ⊢
                clear heq hmr hok hsl
                go_wp2_with (first | (go_at_call 65; with_reducible refine CM.out.mono ?_; rintro e w4 ⟨rv, rfl, hrv, hb4⟩; have HRV := Lib.hid hrv; have HC4 := Lib.hid hb4; have HB4 := Lib.hid (HW.out.trans (hb4.mono HW.out.size)); clear hb4 hrv) | (go_at_call 74; with_reducible refine (CE.out _ _ HRV.out.v HC4.out).mono ?_; rintro e w5 ⟨rfl, hb5⟩; have HB5 := Lib.hid (HB4.out.trans (hb5.mono HB4.out.size)); have HR5 := Lib.hid (HRV.out.v.below hb5); have HH5 := Lib.hid (blk_in (blk_in H2.out HC4.out) hb5); clear hb5))
                go_roundw
                case rel => exact ⟨roundL n hs, r + 1, by omega, by omega, by go_num, HR5, HGN, HRN, HH5, HB5⟩
                case measure => simp [intOf]; omega
          case neg =>
            obtain ⟨rfl, rfl, rfl⟩ : x0 = [] ∧ x1 = 0 ∧ x2 = false := by
              have q := HR.out
              rw [show 301 - r = 0 by omega] at q
              unfold leastG at q
              simp at q
              exact ⟨q.1, q.2.1.symm, q.2.2⟩
            go_wp2_with fail
            go_ret3
            exact ⟨_, rfl, rowsH_nil _ _, HW.out⟩

set_option maxRecDepth 100000 in
set_option maxHeartbeats 8000000 in
theorem stoks_any (v : Value) (n : Net) (w : World) (hv : NetV w v n) (ho : okN n = true) :
    Calls Try.prog 71 #[v] w fun e w' => ∃ r, e = .returned r ∧ RowsH w.heap.size w'.heap.size w' r (toksL n) ∧ Below w.heap.size w w' := by
  have G := Lib.hid (toks_good ho)
  have hl30 := (okN_len ho).2.1
  obtain ⟨pv, lv, rfl, hps, hls⟩ := hv
  have HL := Lib.hid hls
  have LL := hls.len
  obtain ⟨pa, pcap, rfl⟩ := hps.shape
  obtain ⟨la, lcap, rfl⟩ := hls.shape
  obtain ⟨is, hs, sz0, sz1, sz2⟩ := infoS_parts
  obtain ⟨m, hm⟩ : ∃ z, z = n.progs.length := ⟨_, rfl⟩
  obtain ⟨ll, hll⟩ : ∃ z, z = n.links.length := ⟨_, rfl⟩
  have NL := Lib.hid hll
  rw [← hm]
  rw [← hll] at HL LL hl30 ⊢
  clear hps hls hm hll ho
  have h0 := Lib.hid (al_keep (o := (.cells #[] 46)) (hp1 w (.cells #[.slice pa m pcap, .slice la ll lcap] 34)))
  have HQ1 := Lib.hid (((Below.refl w.heap.size w).al (.cells #[.slice pa m pcap, .slice la ll lcap] 34)).al (.cells #[] 46))
  have HQ2 := Lib.hid (show GrowR (w.heap.size + 1) 0 ((w.alloc (.cells #[.slice pa m pcap, .slice la ll lcap] 34)).alloc (.cells #[] 46)) (.slice (some ⟨w.heap.size + 1, 0, none⟩) 0 0) (toksL n) from ⟨[], ⟨rfl, .inr ⟨w.heap.size + 1, 0, #[], rfl, Nat.le_refl _, hp2 w _ _, Nat.le_refl _, Nat.zero_le _, rfl, rfl⟩⟩, ⟨rfl, fun i u xs q1 q2 => by simp at q1, fun i j u u' q1 q2 q3 => by simp at q1⟩⟩)
  have HQ3 : w.heap.size + 1 ≤ ((w.alloc (.cells #[.slice pa m pcap, .slice la ll lcap] 34)).alloc (.cells #[] 46)).heap.size := by simp
  obtain ⟨n0, n1⟩ := cells2 h0.out
  have n2 := lt_of h0.out
  go_enter Try.func71, Try.ntmps71
  go_wp2_with fail
  generalize ((w.alloc (.cells #[.slice pa m pcap, .slice la ll lcap] 34)).alloc (.cells #[] 46)) = w1 at HQ1 HQ2 HQ3 h0 n0 n1 n2 ⊢
  go_loopw [3, 10] (fun o i wr => ∃ j : Nat, j ≤ ll ∧ i = .int .i64 j ∧ Hid (GrowR (w.heap.size + 1) j wr o (toksL n)) ∧ Hid (Below w.heap.size w wr) ∧ Hid (w.heap.size + 1 ≤ wr.heap.size)) (fun _ i _ => ll - (intOf i).toNat)
  case atStart => exact ⟨0, Nat.zero_le _, rfl, HQ2, HQ1, Lib.hid HQ3⟩
  case round =>
    clear HQ1 HQ2 HQ3 h0 n0 n1 n2
    obtain ⟨j, hj, rfl, HM, HW, HWS⟩ := hrel
    by_cases hjl : j < ll
    case pos =>
      obtain ⟨x, hx⟩ : ∃ x, n.links[j]? = some x := ⟨_, List.getElem?_eq_getElem (by rw [← NL.out]; exact hjl)⟩
      obtain ⟨lb, lo, d, hla, hlb, e0, e1, e2, e3, e4, es⟩ := (HL.out.below HW.out).atb hx
      subst hla
      have TS := Lib.hid es
      obtain ⟨va, vc, rfl⟩ := es.shape
      have HRW := Lib.hid (show (toksL n)[j]? = some x.tok by unfold toksL; rw [List.getElem?_map, hx]; rfl)
      have HT4 := Lib.hid (isS_len (G.out.tok (List.mem_of_getElem? hx)))
      obtain ⟨xf, xo, xt, xi, xk⟩ := x
      obtain ⟨kl, hkl⟩ : ∃ z, z = xk.length := ⟨_, rfl⟩
      simp only [] at e0 e1 e2 e3 e4 TS HRW HT4
      rw [← hkl] at TS e4
      have HBW := Lib.hid ((Below.refl wr.heap.size wr).al (.cells #[.int .i64 xf, .int .i64 xo, .int .i64 xt, .int .i64 xi, .slice va kl vc] 82))
      have CC := Lib.hid (fun (W : World) (hw : Below wr.heap.size wr W) => l1copy_any (.slice va kl vc) xk W (TS.out.below hw) (by have := HT4.out; omega))
      obtain ⟨us, hU1, hU2⟩ := HM.out
      have HU1 := Lib.hid hU1
      have HU2 := Lib.hid hU2
      have HUB := Lib.hid (show ∀ u q, u ∈ us → u.ownBlock = some q → q < wr.heap.size from fun u q hu he => fam_hi hU2 u hu q he)
      clear es hx hkl hU1 hU2
      go_wp2_with (first | (go_at_call 112; with_reducible refine (CC.out _ HBW.out).mono ?_; rintro e w3 ⟨r, rfl, ho, hb3⟩; have HB3 := Lib.hid (HBW.out.trans (hb3.mono HBW.out.size)); have HR3 := Lib.hid (ho.mono HBW.out.size); obtain ⟨ra, rc, hre⟩ := HR3.out.sl.shape; subst hre; clear ho hb3) | (at_builtin; refine wpList_append_own_at _ rfl _ _ 26 rfl (w.heap.size + 1) 46 is (.slice none 0 0) 1 24 Try.underlying26 hs sz0 sz1 sz2 rfl (by decide) _ _ _ rfl (World.ownsRow.alloc (rowT_below HU1.out HB3.out) _) ⟨_, 0, none⟩ 1 1 [.slice ra xk.length rc] rfl rfl (lit_s _ _) ?c1 ?c3 ?c4 ?c5 ?_))
      case c1 => first | rfl | (intro u hu; simp at hu; subst hu; rfl)
      case c3 => unfold maxLen; omega
      case c4 => omega
      case c5 => have q1 := HWS.out; have q2 := HB3.out.size; first | omega | (simp; omega)
      intro o' w5 hown hgrow _ _
      have HO5 := Lib.hid (GrowR.step (rowT_below HU1.out HB3.out) (HU2.out.below HB3.out) HR3.out HUB.out HWS.out HRW.out hown hgrow)
      have HB5 := Lib.hid (((HW.out.trans (HB3.out.mono HW.out.size)).al (.cells #[.slice ra xk.length rc] 46)).grown hgrow (by have q1 := HWS.out; have q2 := HB3.out.size; simp; omega) (fun q e => by have := (HU1.out.lt q e).1; omega))
      have S5 := Lib.hid (show w.heap.size + 1 ≤ w5.heap.size by have q1 := HWS.out; have q2 := HB3.out.size; have := hgrow.size; simp at *; omega)
      clear hown hgrow
      go_wp2_with fail
      go_roundw
      case rel => exact ⟨j + 1, by omega, by go_num, HO5, HB5, S5⟩
      case measure => simp [intOf]; omega
    case neg =>
      obtain rfl : j = ll := by omega
      obtain ⟨oa, ocp, rfl⟩ := HM.out.shape
      go_wp2_with fail
      go_ret
      exact ⟨_, rfl, OutH.mono (HM.out.rows (by unfold toksL; rw [List.length_map]; exact NL.out.symm)) (by omega) (Nat.le_refl _), HW.out⟩

set_option maxRecDepth 100000 in
set_option maxHeartbeats 8000000 in
theorem slst_w (v : Value) (n : Net) (w : World) (hv : NetV w v n) :
    Calls Try.prog 26 #[v] w fun e w' => ∃ r, e = .returned (.tuple #[r, .int .i64 (leastStreamsR1 n), .bool (leastStreamsR2 n)]) ∧ RowsH w.heap.size w'.heap.size w' r (leastStreamsR0 n) ∧ Below w.heap.size w w' := by
  obtain ⟨pv, lv, rfl, hps, hls⟩ := hv
  have HV := Lib.hid (show NetV w (.agg #[pv, lv]) n from ⟨pv, lv, rfl, hps, hls⟩)
  obtain ⟨pa, pcap, rfl⟩ := hps.shape
  obtain ⟨la, lcap, rfl⟩ := hls.shape
  obtain ⟨m, hm⟩ : ∃ z, z = n.progs.length := ⟨_, rfl⟩
  obtain ⟨ll, hll⟩ : ∃ z, z = n.links.length := ⟨_, rfl⟩
  rw [← hm, ← hll] at HV ⊢
  obtain ⟨x0, x1, x2, hx⟩ : ∃ x0 x1 x2, leastR n = (x0, x1, x2) := ⟨_, _, _, rfl⟩
  have HR := Lib.hid hx
  rw [show leastStreamsR0 n = x0 by unfold leastStreamsR0; rw [hx], show leastStreamsR1 n = x1 by unfold leastStreamsR1; rw [hx], show leastStreamsR2 n = x2 by unfold leastStreamsR2; rw [hx]]
  clear hps hls hm hll hx
  have h0 := Lib.hid (hp1 w (.cells #[.slice pa m pcap, .slice la ll lcap] 34))
  have hb0 := Lib.hid ((Below.refl w.heap.size w).al (.cells #[.slice pa m pcap, .slice la ll lcap] 34))
  have CN := Lib.hid (fun (W : World) (hw : Below w.heap.size w W) => sisnet_any (.agg #[.slice pa m pcap, .slice la ll lcap]) n W (HV.out.below hw))
  cases ho : okN n with
  | false =>
    rw [ho] at CN
    obtain ⟨rfl, rfl, rfl⟩ : x0 = [] ∧ x1 = 0 ∧ x2 = false := by
      have q := HR.out
      unfold leastR at q
      rw [ho] at q
      simp at q
      exact ⟨q.1, q.2.1.symm, q.2.2⟩
    go_enter Try.func26, Try.ntmps26
    go_wp2_with (go_at_call 70; with_reducible refine (CN.out _ hb0.out).mono ?_; rintro e w1 ⟨rfl, hb1⟩; have HB1 := Lib.hid (hb0.out.trans (hb1.mono hb0.out.size)); clear hb1)
    go_ret3
    exact ⟨_, rfl, rowsH_nil _ _, HB1.out⟩
  | true =>
    rw [ho] at CN
    have HG0 := Lib.hid (toks_good ho)
    have HR1 := Lib.hid (show leastG n 300 (toksL n) 1 = (x0, x1, x2) by have q := HR.out; unfold leastR at q; rw [ho, if_pos rfl] at q; exact q)
    have CT := Lib.hid (fun (W : World) (hw : Below w.heap.size w W) => stoks_any (.agg #[.slice pa m pcap, .slice la ll lcap]) n W (HV.out.below hw) ho)
    clear HR ho
    go_enter Try.func26, Try.ntmps26
    go_wp2_with (first | (go_at_call 70; with_reducible refine (CN.out _ hb0.out).mono ?_; rintro e w1 ⟨rfl, hb1⟩; have HB1 := Lib.hid (hb0.out.trans (hb1.mono hb0.out.size)); have H1 := Lib.hid (blk_in h0.out hb1); obtain ⟨n0, n1⟩ := cells2 H1.out; have n2 := lt_of H1.out; clear hb1) | (go_at_call 71; with_reducible refine (CT.out _ HB1.out).mono ?_; rintro e w2 ⟨tv, rfl, htv, hb2⟩; have HTV := Lib.hid (rowsH_mono htv HB1.out.size (Nat.le_refl _)); have HW2 := Lib.hid (HB1.out.trans (hb2.mono HB1.out.size)); have H2 := Lib.hid (blk_in H1.out hb2); clear htv hb2))
    go_loopw [5, 6] (fun o i wr => ∃ (hs : List (List Int)) (r : Nat), 1 ≤ r ∧ r ≤ 301 ∧ i = .int .i64 r ∧ Hid (RowsH w.heap.size wr.heap.size wr o hs) ∧ Hid (GoodH n hs) ∧ Hid (leastG n (301 - r) hs r = (x0, x1, x2)) ∧ Hid (wr.heap[w.heap.size]? = some (.cells #[.slice pa m pcap, .slice la ll lcap] 34)) ∧ Hid (Below w.heap.size w wr)) (fun _ i _ => 301 - (intOf i).toNat)
    case atStart => exact ⟨toksL n, 1, by omega, by omega, rfl, HTV, HG0, HR1, H2, HW2⟩
    case round =>
      clear HTV HG0 HR1 H2 HW2 H1 n0 n1 n2
      obtain ⟨hs, r, hr1, hr2, rfl, HS, HG, HR, H2, HW⟩ := hrel
      obtain ⟨n0, n1⟩ := cells2 H2.out
      have n2 := lt_of H2.out
      obtain ⟨sa, sc, hse⟩ := HS.out.shape
      subst hse
      by_cases hr : r ≤ 300
      case pos =>
        have CM := Lib.hid (sround_any (.agg #[.slice pa m pcap, .slice la ll lcap]) (.slice sa hs.length sc) n hs wr (HV.out.below HW.out) HS.out.v HG.out)
        cases hok : okR n hs with
        | false =>
          obtain ⟨rfl, rfl, rfl⟩ : x0 = [] ∧ x1 = 0 ∧ x2 = false := by
            have q := HR.out
            rw [show 301 - r = (300 - r) + 1 by omega, leastG_no hok] at q
            simp at q
            exact ⟨q.1, q.2.1.symm, q.2.2⟩
          rw [hok] at CM
          go_wp2_with (go_at_call 60; with_reducible refine CM.out.mono ?_; rintro e w4 ⟨rv, rfl, _, hb4⟩; have HB4 := Lib.hid (HW.out.trans (hb4.mono HW.out.size)); clear hb4)
          go_ret3
          exact ⟨_, rfl, rowsH_nil _ _, HB4.out⟩
        | true =>
          have hmr : madeR n hs = roundL n hs := by unfold madeR; rw [hok]; rfl
          rw [hok, hmr] at CM
          have CE := Lib.hid (fun (W : World) (y : Value) (hy : SlR W y (roundL n hs)) (hw : Below wr.heap.size wr W) => same_any y (.slice sa hs.length sc) (roundL n hs) hs W hy (HS.out.v.below hw))
          by_cases heq : roundL n hs = hs
          case pos =>
            obtain ⟨rfl, rfl, rfl⟩ : x0 = hs ∧ x1 = (r : Int) ∧ x2 = true := by
              have q := HR.out
              rw [show 301 - r = (300 - r) + 1 by omega, leastG_yes hok heq] at q
              simp at q
              exact ⟨q.1.symm, q.2.1.symm, q.2.2⟩
            rw [decide_eq_true heq] at CE
            obtain ⟨sl, hsl⟩ : ∃ z, z = x0.length := ⟨_, rfl⟩
            rw [← hsl] at CM CE HS ⊢
            clear heq hmr hok hsl
            go_wp2_with (first | (go_at_call 60; with_reducible refine CM.out.mono ?_; rintro e w4 ⟨rv, rfl, hrv, hb4⟩; have HRV := Lib.hid hrv; have HC4 := Lib.hid hb4; have HB4 := Lib.hid (HW.out.trans (hb4.mono HW.out.size)); have HS4 := Lib.hid (rowsH_mono (HS.out.below hb4) (Nat.le_refl _) hb4.size); clear hb4 hrv) | (go_at_call 72; with_reducible refine (CE.out _ _ HRV.out.v HC4.out).mono ?_; rintro e w5 ⟨rfl, rfl⟩))
            go_ret3
            exact ⟨_, rfl, HS4.out, HB4.out⟩
          case neg =>
            have HRN := Lib.hid (show leastG n (301 - (r + 1)) (roundL n hs) ((r + 1 : Nat) : Int) = (x0, x1, x2) by
              have q := HR.out
              rw [show 301 - r = (301 - (r + 1)) + 1 by omega, leastG_on hok heq] at q
              rw [← q]; congr 1)
            have HGN := Lib.hid (roundL_good HG.out hok)
            rw [decide_eq_false heq] at CE
            obtain ⟨sl, hsl⟩ : ∃ z, z = hs.length := ⟨_, rfl⟩
            rw [← hsl] at CM CE ⊢
            clear heq hmr hok hsl
            go_wp2_with (first | (go_at_call 60; with_reducible refine CM.out.mono ?_; rintro e w4 ⟨rv, rfl, hrv, hb4⟩; have HRV := Lib.hid hrv; have HC4 := Lib.hid hb4; have HB4 := Lib.hid (HW.out.trans (hb4.mono HW.out.size)); have HH4 := Lib.hid (blk_in H2.out hb4); have HRW := Lib.hid (rowsH_mono hrv HW.out.size (Nat.le_refl _)); clear hb4 hrv) | (go_at_call 72; with_reducible refine (CE.out _ _ HRV.out.v HC4.out).mono ?_; rintro e w5 ⟨rfl, rfl⟩))
            go_roundw
            case rel => exact ⟨roundL n hs, r + 1, by omega, by omega, by go_num, HRW, HGN, HRN, HH4, HB4⟩
            case measure => simp [intOf]; omega
      case neg =>
        obtain ⟨rfl, rfl, rfl⟩ : x0 = [] ∧ x1 = 0 ∧ x2 = false := by
          have q := HR.out
          rw [show 301 - r = 0 by omega] at q
          unfold leastG at q
          simp at q
          exact ⟨q.1, q.2.1.symm, q.2.2⟩
        go_wp2_with fail
        go_ret3
        exact ⟨_, rfl, rowsH_nil _ _, HW.out⟩

def waitsL (n : Net) (h : List (List Int)) : List Int := (List.range n.progs.length).map (waitL n h)
def waitsOfR1 (n : Net) : Bool := leastStreamsR2 n
def waitsOfR0 (n : Net) : List Int := if leastStreamsR2 n then waitsL n (leastStreamsR0 n) else []
theorem leastG_fix {n : Net} : ∀ (f : Nat) (h : List (List Int)) (r : Int), GoodH n h → (leastG n f h r).2.2 = true → GoodH n (leastG n f h r).1 ∧ okR n (leastG n f h r).1 = true
  | 0, _, _, _, e => by cases e
  | f + 1, h, r, g, e => by
    cases ho : okR n h with
    | false => rw [leastG_no ho] at e; cases e
    | true =>
      by_cases q : roundL n h = h
      · rw [leastG_yes ho q]; exact ⟨g, ho⟩
      · rw [leastG_on ho q] at e ⊢; exact leastG_fix f _ _ (roundL_good g ho) e
theorem least_fix {n : Net} (h : leastStreamsR2 n = true) : GoodH n (leastStreamsR0 n) ∧ okR n (leastStreamsR0 n) = true := by
  unfold leastStreamsR2 leastR at h
  unfold leastStreamsR0 leastR
  cases e : okN n with
  | false => rw [e] at h; cases h
  | true => rw [e] at h; rw [if_pos rfl] at h ⊢; exact leastG_fix 300 _ 1 (toks_good e) h
theorem waitsOf_len (n : Net) : (waitsOfR0 n).length ≤ 30 := by
  unfold waitsOfR0
  cases e : leastStreamsR2 n with
  | false => simp
  | true =>
    rw [if_pos rfl]
    unfold waitsL
    have := okN_len (least_fix e).1.ok
    simp
    omega
theorem mkIB (n : Nat) (h : n ≤ 1000) (W : World) : (Instr.makeSlice 46 (.int .i64 (n : Int)) (.int .i64 (n : Int))).run Try.prog W = .ok (.slice (some ⟨W.heap.size, 0, none⟩) n n) (W.alloc (.cells (Array.replicate n (Value.int .i64 0)) 3)) := by
  obtain ⟨ii, hi0, hz0, hz1, hz2⟩ := info_parts info
  have q := run_make (P := Try.prog) W 46 3 ii (.int .i64 0) Try.underlying46 hi0 hz0 .i64 .i64 n n (by omega) (Int.le_refl _) (by rw [hz2]; omega) (by omega)
  rw [q, hz1]
  simp only [Int.toNat_natCast]
  rw [Nat.mul_one, show madeCells (Value.int .i64 0).cells n = Array.replicate n (Value.int .i64 0) from by rw [← List.toArray_replicate, ← toList_madeCells_one (Value.int .i64 0) n]; simp [Value.cells]]
theorem whalt_any (a : Option Addr) (l c : Nat) (w : World) : Calls Try.prog 183 #[.agg #[.slice a l c]] w fun e w' => e = .returned (.int .i64 (-1)) ∧ Below w.heap.size w w' := by
  have hb := Lib.hid ((Below.refl w.heap.size w).al (.cells #[.slice a l c] 171))
  go_enter Try.func183, Try.ntmps183
  go_wp2_with fail
  go_ret
  exact ⟨rfl, hb.out⟩
theorem wwait_any (a : Option Addr) (l c : Nat) (x : Int) (w : World) : Calls Try.prog 184 #[.agg #[.slice a l c, .int .i64 x]] w fun e w' => e = .returned (.int .i64 x) ∧ Below w.heap.size w w' := by
  have hb := Lib.hid ((Below.refl w.heap.size w).al (.cells #[.slice a l c, .int .i64 x] 173))
  go_enter Try.func184, Try.ntmps184
  go_wp2_with fail
  go_ret
  exact ⟨rfl, hb.out⟩
/-- What a settled process answers when it is asked what it waits for. -/
theorem proc_waits {lo : Nat} {w : World} {y : Value} {n : Net} {h : List (List Int)} {k : Nat} (hp : PV lo w y n h k) (hs : settL n h k = true) :
    ∃ T a f b, y = .iface T a ∧ (∀ W, (method (200 + 101) T a "loop.example/g03224/impl.waitsFor").run Try.prog W = .ok (f, b) W) ∧ ((f = 183 ∧ ∃ p l c, b = .agg #[.slice p l c] ∧ waitL n h k = -1) ∨ (f = 184 ∧ ∃ p l c, b = .agg #[.slice p l c, .int .i64 (waitL n h k)])) := by
  obtain ⟨ov, uv, ⟨us, B, rfl, _⟩, hy⟩ := hp
  unfold settL at hs
  unfold procV at hy
  rcases of_decide_eq_true hs with e | e
  · rw [if_pos e] at hy
    exact ⟨_, _, 183, .agg #[.slice (some ⟨B, 0, none⟩) us.length us.length], hy, fun W => by kernel_rfl, .inl ⟨rfl, some ⟨B, 0, none⟩, us.length, us.length, rfl, by unfold waitL; rw [if_neg (by omega)]⟩⟩
  · rw [if_neg (by omega), if_pos e] at hy
    exact ⟨_, _, 184, .agg #[.slice (some ⟨B, 0, none⟩) us.length us.length, .int .i64 (waitL n h k)], hy, fun W => by kernel_rfl, .inr ⟨rfl, some ⟨B, 0, none⟩, us.length, us.length, rfl⟩⟩

set_option maxRecDepth 100000 in
set_option maxHeartbeats 8000000 in
theorem iwts_w (v : Value) (n : Net) (w : World) (hv : NetV w v n) :
    Calls Try.prog 33 #[v] w fun e w' => ∃ r, e = .returned (.tuple #[r, .bool (waitsOfR1 n)]) ∧ OwnH w.heap.size w'.heap.size w' r (waitsOfR0 n) ∧ Below w.heap.size w w' := by
  obtain ⟨pv, lv, rfl, hps, hls⟩ := hv
  have HV := Lib.hid (show NetV w (.agg #[pv, lv]) n from ⟨pv, lv, rfl, hps, hls⟩)
  obtain ⟨pa, pcap, rfl⟩ := hps.shape
  obtain ⟨la, lcap, rfl⟩ := hls.shape
  obtain ⟨m, hm⟩ : ∃ z, z = n.progs.length := ⟨_, rfl⟩
  obtain ⟨ll, hll⟩ : ∃ z, z = n.links.length := ⟨_, rfl⟩
  have NP := Lib.hid hm
  rw [← hm, ← hll] at HV ⊢
  clear hps hls hm hll
  have h0 := Lib.hid (hp1 w (.cells #[.slice pa m pcap, .slice la ll lcap] 34))
  have hb0 := Lib.hid ((Below.refl w.heap.size w).al (.cells #[.slice pa m pcap, .slice la ll lcap] 34))
  have CL := Lib.hid (fun (W : World) (hw : Below w.heap.size w W) => ilst_w (.agg #[.slice pa m pcap, .slice la ll lcap]) n W (HV.out.below hw))
  cases hok : leastStreamsR2 n with
  | false =>
    rw [hok] at CL
    have e0 : waitsOfR0 n = [] := by unfold waitsOfR0; rw [hok]; rfl
    have e1 : waitsOfR1 n = false := hok
    rw [e0, e1]
    go_enter Try.func33, Try.ntmps33
    go_wp2_with (go_at_call 27; with_reducible refine (CL.out _ hb0.out).mono ?_; rintro e w1 ⟨hx, rfl, _, hb1⟩; have HB1 := Lib.hid (hb0.out.trans (hb1.mono hb0.out.size)); clear hb1)
    go_ret2
    exact ⟨_, rfl, OwnH.of (own_nil _ _), HB1.out⟩
  | true =>
    rw [hok] at CL
    obtain ⟨g, hokr⟩ := least_fix hok
    have e1 : waitsOfR1 n = true := hok
    obtain ⟨h, hh⟩ : ∃ z, z = leastStreamsR0 n := ⟨_, rfl⟩
    have e0 : waitsOfR0 n = waitsL n h := by unfold waitsOfR0; rw [hok, if_pos rfl, hh]
    rw [← hh] at g hokr CL
    rw [e0, e1]
    have HUP := Lib.hid (show upN (settL n h) n.progs.length = true by unfold okR at hokr; rw [Bool.and_eq_true] at hokr; exact hokr.1)
    have G := Lib.hid g
    have hm30 : m ≤ 30 := by have := okN_len g.ok; rw [NP.out]; omega
    have HWL := Lib.hid (show waitsL n h = (List.range m).map (waitL n h) by unfold waitsL; rw [NP.out])
    have CS := Lib.hid (fun (W : World) (hv : Value) (hw : Below w.heap.size w W) (hs : SlR W hv h) => iset_any (.agg #[.slice pa m pcap, .slice la ll lcap]) hv n h W (HV.out.below hw) hs G.out)
    rw [← NP.out] at HUP CS
    rw [HUP.out] at CS
    have MK := fun (W : World) => mkIB m (by omega) W
    clear hok g hokr e0 e1 hh
    go_enter Try.func33, Try.ntmps33
    go_wp2_with (first | (go_at_call 27; with_reducible refine (CL.out _ hb0.out).mono ?_; rintro e w1 ⟨hx, rfl, hr, hb1⟩; have HX := Lib.hid hr.v; have HB1 := Lib.hid (hb0.out.trans (hb1.mono hb0.out.size)); have H1 := blk_in h0.out hb1; obtain ⟨f0, f1⟩ := cells2 H1; have f2 := lt_of H1; clear hr hb1 H1) | (go_at_call 79; with_reducible refine (CS.out _ _ HB1.out HX.out).mono ?_; rintro e w2 ⟨px, rfl, hso, hb2⟩; have HSO := Lib.hid (hso (by simp)); obtain ⟨qa, qc, hqe⟩ := HSO.out.shape; subst hqe; have HB2 := Lib.hid (HB1.out.trans (hb2.mono HB1.out.size)); clear hso hb2))
    have HQ1 := Lib.hid (show Below w2.heap.size w2 (w2.alloc (.cells (Array.replicate m (Value.int .i64 0)) 3)) from (Below.refl _ _).al _)
    have HQ2 := Lib.hid (show (w2.alloc (.cells (Array.replicate m (Value.int .i64 0)) 3)).heap[w2.heap.size]? = some (.cells (fillA (fun q => .int .i64 (waitL n h q)) (.int .i64 0) id m 0).toArray 3) by rw [fillA_zero, List.toArray_replicate]; exact hp1 _ _)
    generalize (w2.alloc (.cells (Array.replicate m (Value.int .i64 0)) 3)) = w3 at HQ1 HQ2 ⊢
    clear MK
    go_loopw [32] (fun i wr => ∃ k : Nat, k ≤ m ∧ i = .int .i64 k ∧ Hid (wr.heap[w2.heap.size]? = some (.cells (fillA (fun q => .int .i64 (waitL n h q)) (.int .i64 0) id m k).toArray 3)) ∧ Hid (Below w2.heap.size w2 wr)) (fun i _ => m - (intOf i).toNat)
    case atStart => exact ⟨0, Nat.zero_le _, rfl, HQ2, HQ1⟩
    case round =>
      clear HQ1 HQ2
      obtain ⟨k, hk, rfl, HM, HB⟩ := hrel
      by_cases hlt : k < m
      case pos =>
        obtain ⟨pb, pc, y, hxe, hpb, hcy, hpv⟩ := HSO.out.at hlt
        simp only [Value.slice.injEq] at hxe
        obtain ⟨rfl, _, rfl⟩ := hxe
        obtain ⟨T, ia, f, b, rfl, hm, hcase⟩ := proc_waits hpv (upN_at HUP.out hlt)
        simp only [Nat.reduceAdd] at hm
        have c0 := (HB.out.cell (p := ⟨pb, k, none⟩) hpb).trans hcy
        have c1 := Nat.lt_of_lt_of_le hpb HB.out.size
        obtain ⟨wl, hwl⟩ : ∃ z, z = waitL n h k := ⟨_, rfl⟩
        rw [← hwl] at hcase
        have HWE := Lib.hid hwl
        have HMC := Lib.hid (fun (W : World) (hw : Below wr.heap.size wr W) => blk_in HM.out hw)
        have HFH := Lib.hid (show (fillA (fun q => .int .i64 (waitL n h q)) (.int .i64 0) id m k).set k (.int .i64 wl) = fillA (fun q => .int .i64 (waitL n h q)) (.int .i64 0) id m (k + 1) by rw [hwl]; exact fillA_hit (f := fun q => .int .i64 (waitL n h q)) hlt rfl (fun j' _ hne => hne))
        have HFA := Lib.hid (fillA_at (f := fun q => .int .i64 (waitL n h q)) (z := .int .i64 0) (ix := id) (i := k) hlt)
        clear hpv hcy hwl
        rcases hcase with ⟨rfl, p, l, c, rfl, rfl⟩ | ⟨rfl, p, l, c, rfl⟩
        · have C := Lib.hid (fun (W : World) => whalt_any p l c W)
          go_wp2_with (go_at_call 183; with_reducible refine (C.out _).mono ?_; rintro e w4 ⟨rfl, hb4⟩; have HB4 := Lib.hid hb4; have M4 := HMC.out _ hb4; have d0 := row_cell M4 HFA.out; have d1 := fr_of M4 k; have d2 := lt_of M4; have HM4 := Lib.hid M4; clear hb4 M4)
          go_roundw
          case rel => exact ⟨k + 1, by omega, by go_num, Lib.hid (by rw [← HFH.out]; exact set_row HM4.out _), Lib.hid ((HB.out.trans (HB4.out.mono HB.out.size)).setCell (Nat.le_refl _) _)⟩
          case measure => simp [intOf]; omega
        · have C := Lib.hid (fun (W : World) => wwait_any p l c wl W)
          go_wp2_with (go_at_call 184; with_reducible refine (C.out _).mono ?_; rintro e w4 ⟨rfl, hb4⟩; have HB4 := Lib.hid hb4; have M4 := HMC.out _ hb4; have d0 := row_cell M4 HFA.out; have d1 := fr_of M4 k; have d2 := lt_of M4; have HM4 := Lib.hid M4; clear hb4 M4)
          go_roundw
          case rel => exact ⟨k + 1, by omega, by go_num, Lib.hid (by rw [← HFH.out]; exact set_row HM4.out _), Lib.hid ((HB.out.trans (HB4.out.mono HB.out.size)).setCell (Nat.le_refl _) _)⟩
          case measure => simp [intOf]; omega
      case neg =>
        obtain rfl : k = m := by omega
        have HO := Lib.hid (show Own w2.heap.size wr (.slice (some ⟨w2.heap.size, 0, none⟩) k k) (waitsL n h) by
          rw [HWL.out]
          refine ⟨by rw [vals_len, Nat.mul_one], .inr ⟨w2.heap.size, k, _, by simp, Nat.le_refl _, HM.out, by simp, by unfold maxLen; omega, by simp [fillA_len], ?_⟩⟩
          rw [List.length_map, List.length_range, Nat.mul_one, List.take_of_length_le (by simp [fillA_len])]
          unfold fillA vals
          rw [List.map_map]
          refine List.map_congr_left (fun q hq => ?_)
          rw [if_pos (show id q < k from List.mem_range.1 hq)]
          rfl)
        go_wp2_with fail
        go_ret2
        exact ⟨_, rfl, OwnH.of (HO.out.mono HB2.out.size), HB2.out.trans (HB.out.mono HB2.out.size)⟩

theorem waits_step (n : Net) (h : List (List Int)) (k : Nat) : (List.range (k + 1)).map (waitL n h) = (List.range k).map (waitL n h) ++ [waitL n h k] := by rw [List.range_succ, List.map_append]; rfl

set_option maxRecDepth 100000 in
set_option maxHeartbeats 8000000 in
theorem swts_w (v : Value) (n : Net) (w : World) (hv : NetV w v n) :
    Calls Try.prog 32 #[v] w fun e w' => ∃ r, e = .returned (.tuple #[r, .bool (waitsOfR1 n)]) ∧ OwnH w.heap.size w'.heap.size w' r (waitsOfR0 n) ∧ Below w.heap.size w w' := by
  obtain ⟨pv, lv, rfl, hps, hls⟩ := hv
  have HV := Lib.hid (show NetV w (.agg #[pv, lv]) n from ⟨pv, lv, rfl, hps, hls⟩)
  have HP := Lib.hid hps
  have LP := hps.len
  obtain ⟨pa, pcap, rfl⟩ := hps.shape
  obtain ⟨la, lcap, rfl⟩ := hls.shape
  obtain ⟨m, hm⟩ : ∃ z, z = n.progs.length := ⟨_, rfl⟩
  obtain ⟨ll, hll⟩ : ∃ z, z = n.links.length := ⟨_, rfl⟩
  have NP := Lib.hid hm
  rw [← hm] at HP LP
  rw [← hm, ← hll] at HV ⊢
  clear hps hls hm hll
  have h0 := Lib.hid (hp1 w (.cells #[.slice pa m pcap, .slice la ll lcap] 34))
  have hb0 := Lib.hid ((Below.refl w.heap.size w).al (.cells #[.slice pa m pcap, .slice la ll lcap] 34))
  have CL := Lib.hid (fun (W : World) (hw : Below w.heap.size w W) => slst_w (.agg #[.slice pa m pcap, .slice la ll lcap]) n W (HV.out.below hw))
  have CT := Lib.hid (fun (W : World) (p q : Int) (hw : Below w.heap.size w W) => sto_any (.agg #[.slice pa m pcap, .slice la ll lcap]) n p q W (HV.out.below hw))
  obtain ⟨ii, hi, hz0, hz1, hz2⟩ := info_parts info
  cases hok : leastStreamsR2 n with
  | false =>
    rw [hok] at CL
    have e0 : waitsOfR0 n = [] := by unfold waitsOfR0; rw [hok]; rfl
    have e1 : waitsOfR1 n = false := hok
    rw [e0, e1]
    go_enter Try.func32, Try.ntmps32
    go_wp2_with (go_at_call 26; with_reducible refine (CL.out _ hb0.out).mono ?_; rintro e w1 ⟨hx, rfl, _, hb1⟩; have HB1 := Lib.hid (hb0.out.trans (hb1.mono hb0.out.size)); clear hb1)
    go_ret2
    exact ⟨_, rfl, OwnH.of (own_nil _ _), HB1.out⟩
  | true =>
    rw [hok] at CL
    obtain ⟨g, hokr⟩ := least_fix hok
    have e1 : waitsOfR1 n = true := hok
    obtain ⟨h, hh⟩ : ∃ z, z = leastStreamsR0 n := ⟨_, rfl⟩
    have e0 : waitsOfR0 n = waitsL n h := by unfold waitsOfR0; rw [hok, if_pos rfl, hh]
    rw [← hh] at g hokr CL
    rw [e0, e1]
    have HUP := Lib.hid (show upN (settL n h) n.progs.length = true by unfold okR at hokr; rw [Bool.and_eq_true] at hokr; exact hokr.1)
    have G := Lib.hid g
    have hm30 : m ≤ 30 := by have := okN_len g.ok; rw [NP.out]; omega
    have HWL := Lib.hid (show waitsL n h = (List.range m).map (waitL n h) by unfold waitsL; rw [NP.out])
    rw [← NP.out] at HUP
    clear hok g hokr e0 e1 hh
    go_enter Try.func32, Try.ntmps32
    go_wp2_with (go_at_call 26; with_reducible refine (CL.out _ hb0.out).mono ?_; rintro e w1 ⟨hx, rfl, hr, hb1⟩; have HX := Lib.hid hr.v; have HB1 := Lib.hid (hb0.out.trans (hb1.mono hb0.out.size)); have H1 := Lib.hid (blk_in h0.out hb1); obtain ⟨f0, f1⟩ := cells2 H1.out; have f2 := lt_of H1.out; clear hr hb1)
    have HQ1 := Lib.hid (show Below w1.heap.size w1 (w1.alloc (.cells #[] 3)) from (Below.refl _ _).al _)
    have HQ2 := Lib.hid (show Own w1.heap.size (w1.alloc (.cells #[] 3)) (.slice (some ⟨w1.heap.size, 0, none⟩) 0 0) ((List.range 0).map (waitL n h)) from ⟨rfl, .inr ⟨w1.heap.size, 0, #[], rfl, Nat.le_refl _, hp1 w1 _, Nat.le_refl _, Nat.zero_le _, rfl, rfl⟩⟩)
    generalize (w1.alloc (.cells #[] 3)) = w2 at HQ1 HQ2 ⊢
    go_loopw [7, 26] (fun o i wr => ∃ k : Nat, k ≤ m ∧ i = .int .i64 k ∧ Hid (Own w1.heap.size wr o ((List.range k).map (waitL n h))) ∧ Hid (Below w1.heap.size w1 wr)) (fun _ i _ => m - (intOf i).toNat)
    case atStart => exact ⟨0, Nat.zero_le _, rfl, HQ2, HQ1⟩
    case round =>
      clear HQ1 HQ2 f0 f1 f2
      obtain ⟨k, hk, rfl, HO, HB⟩ := hrel
      have HW := Lib.hid (HB1.out.trans (HB.out.mono HB1.out.size))
      have H0 := Lib.hid (blk_in H1.out HB.out)
      by_cases hlt : k < m
      case pos =>
        obtain ⟨hp, hoP⟩ := G.out.prg (show k < n.progs.length by rw [← NP.out]; exact hlt)
        have heta := prg_eta hoP
        have hP := (okP_parts hoP).1
        obtain ⟨gb, go, c, hpa, hgb, k0, k1, k2, ks⟩ := (HP.out.below HW.out).atb hp
        subst hpa
        obtain ⟨ni, hni⟩ : ∃ z : Nat, z = (prgK n k).ins.toNat := ⟨_, rfl⟩
        obtain ⟨no, hno⟩ : ∃ z : Nat, z = (prgK n k).outs.toNat := ⟨_, rfl⟩
        obtain ⟨code, hcode⟩ : ∃ z, z = (prgK n k).code := ⟨_, rfl⟩
        rw [show (prgK n k).ins = (ni : Int) by rw [hni]; omega] at k0
        rw [show (prgK n k).outs = (no : Int) by rw [hno]; omega] at k1
        have HEQ := Lib.hid (show prgK n k = ⟨(ni : Int), (no : Int), code⟩ by rw [hni, hno, hcode]; exact heta)
        have HOP := Lib.hid (show okP ⟨(ni : Int), (no : Int), code⟩ = true by rw [← HEQ.out]; exact hoP)
        have HAS := Lib.hid (show areS (inpL n h k) (ni : Int) = true by rw [hni]; exact G.out.areS k)
        have HRL := Lib.hid (show runL n h k = runS code (inpL n h k) 3000 (startS ni no) by unfold runL; rw [← hcode, ← hni, ← hno])
        rw [← hcode] at ks
        obtain ⟨ua, uc, rfl⟩ := ks.shape
        have KS := Lib.hid ks
        have CI := Lib.hid (fun (W : World) (hw : Below wr.heap.size wr W) => sinp_any (.agg #[.slice (some ⟨gb, go, none⟩) m pcap, .slice la ll lcap]) hx n h k W (HV.out.below (HW.out.trans (hw.mono HW.out.size))) (HX.out.below (HB.out.trans (hw.mono HB.out.size))) G.out (show k < n.progs.length by rw [← NP.out]; exact hlt))
        have CK := Lib.hid (fun (W : World) (iv : Value) (hw : Below wr.heap.size wr W) (hiv : SlR W iv (inpL n h k)) => srunl_good (.agg #[.int .i64 (ni : Int), .int .i64 (no : Int), .slice ua code.length uc]) iv ni no code (inpL n h k) 3000 W ⟨_, rfl, KS.out.below hw⟩ hiv HOP.out HAS.out (Nat.le_refl _))
        rw [← HRL.out, show ((3000 : Nat) : Int) = 3000 from rfl] at CK
        obtain ⟨pt, hpt⟩ : ∃ z, z = portR code (runL n h k) := ⟨_, rfl⟩
        have HPT := Lib.hid (show portL n h k = pt by unfold portL; rw [← hcode, hpt])
        rw [← hpt] at CK
        have HWT := Lib.hid (show (runL n h k).2 = 2 → atE Lnk.tgt n.links ((k : Int), pt) = waitL n h k from fun e => by
          obtain ⟨j, a, b, c⟩ := G.out.wait (show k < n.progs.length by rw [← NP.out]; exact hlt) e
          rw [← HPT.out, a, c]
          exact (ix_at G.out.ok hp b).2.2.2)
        have HWN := Lib.hid (show ¬ (runL n h k).2 = 2 → waitL n h k = -1 from fun e => by unfold waitL; rw [if_neg e])
        have hset := upN_at HUP.out hlt
        unfold settL at hset
        have hwy := of_decide_eq_true hset
        obtain ⟨wy, hwye⟩ : ∃ z, z = (runL n h k).2 := ⟨_, rfl⟩
        rw [← hwye] at hwy CK HWT HWN
        have HST := Lib.hid (waits_step n h k)
        obtain ⟨wl, hwl⟩ : ∃ z, z = waitL n h k := ⟨_, rfl⟩
        rw [← hwl] at HWT HWN HST
        obtain ⟨ul, hul⟩ : ∃ z, z = code.length := ⟨_, rfl⟩
        rw [← hul] at k2 CK
        have HCK : Hid (∀ (W : World) (iv : Value), Below wr.heap.size wr W → SlR W iv (inpL n h k) → Calls Try.prog 76 #[.agg #[.int .i64 (ni : Int), .int .i64 (no : Int), .slice ua ul uc], iv, .int .i64 3000] W fun e w' => ∃ ov uv, e = .returned (.tuple #[ov, uv, .int .i64 wy, .int .i64 pt]) ∧ OutM W.heap.size w' ov uv (outsL n h k) (runL n h k).1.used ∧ Below W.heap.size W w') := CK
        clear CK hp hoP heta hP hni hno hcode hpt hwye hul ks hset hwl
        have HBW := Lib.hid ((Below.refl wr.heap.size wr).al (.cells #[.int .i64 (ni : Int), .int .i64 (no : Int), .slice ua ul uc] 86))
        have HNW := Lib.hid (hp1 wr (.cells #[.int .i64 (ni : Int), .int .i64 (no : Int), .slice ua ul uc] 86))
        obtain ⟨n0, n1⟩ := cells2 (blk_in H0.out HBW.out)
        obtain ⟨f0, f1, f2⟩ := cells3 HNW.out
        go_upto_region 8 with fail
        generalize (wr.alloc (.cells #[.int .i64 (ni : Int), .int .i64 (no : Int), .slice ua ul uc] 86)) = wb at HBW HNW n0 n1 f0 f1 f2 ⊢
        have CI1 := Lib.hid (show Calls Try.prog 77 #[.agg #[.slice (some ⟨gb, go, none⟩) m pcap, .slice la ll lcap], hx, .int .i64 (k : Int)] wb.drew fun e w' => ∃ iv, e = .returned iv ∧ SlR w' iv (inpL n h k) ∧ Below wr.heap.size wr w' ∧ w'.heap[wr.heap.size]? = some (.cells #[.int .i64 (ni : Int), .int .i64 (no : Int), .slice ua ul uc] 86) from by
          refine (CI.out wb.drew HBW.out.drew).mono ?_
          rintro e w3 ⟨iv, rfl, hiv, hb3⟩
          exact ⟨iv, rfl, hiv, HBW.out.trans ((show Below wb.heap.size wb w3 from (below_drewN wb 1).trans hb3).mono HBW.out.size), blk_in (show wb.drew.heap[wr.heap.size]? = _ from HNW.out) hb3⟩)
        have CK1 := Lib.hid (show ∀ (W : World) (iv : Value), Below wr.heap.size wr W → W.heap[wr.heap.size]? = some (.cells #[.int .i64 (ni : Int), .int .i64 (no : Int), .slice ua ul uc] 86) → SlR W iv (inpL n h k) → Calls Try.prog 76 #[.agg #[.int .i64 (ni : Int), .int .i64 (no : Int), .slice ua ul uc], iv, .int .i64 3000] W fun e w' => ∃ ov uv, e = .returned (.tuple #[ov, uv, .int .i64 wy, .int .i64 pt]) ∧ Below wr.heap.size wr w' ∧ w'.heap[wr.heap.size]? = some (.cells #[.int .i64 (ni : Int), .int .i64 (no : Int), .slice ua ul uc] 86) from by
          intro W iv h1 h2 h3
          refine (HCK.out W iv h1 h3).mono ?_
          rintro e w4 ⟨ov, uv, rfl, _, hb4⟩
          exact ⟨ov, uv, rfl, h1.trans (hb4.mono h1.size), blk_in h2 hb4⟩)
        clear CI HCK
        go_region_held3 (fun w' => w'.cell? ⟨wr.heap.size, 0, none⟩ = some (.int .i64 (ni : Int)) ∧ w'.cell? ⟨wr.heap.size, 1, none⟩ = some (.int .i64 (no : Int)) ∧ w'.cell? ⟨wr.heap.size, 2, none⟩ = some (.slice ua ul uc) ∧ w'.cell? ⟨w.heap.size, 0, none⟩ = some (.slice (some ⟨gb, go, none⟩) m pcap) ∧ w'.cell? ⟨w.heap.size, 1, none⟩ = some (.slice la ll lcap)) (go_keep) (first | (go_at_call 77; refine CI1.out.mono ?_; rintro e w3 ⟨iv, rfl, hiv, hb3, hn3⟩; have HIV := Lib.hid hiv; have HB3 := Lib.hid hb3; have HN3 := Lib.hid hn3; obtain ⟨p0, p1⟩ := cells2 (blk_in H0.out hb3); obtain ⟨q0, q1, q2⟩ := cells3 hn3; clear hb3 hiv hn3) | (go_at_call 76; refine (CK1.out _ _ HB3.out HN3.out HIV.out).mono ?_; rintro e w4 ⟨ov, uv, rfl, hb4, hn4⟩; have HB4 := Lib.hid hb4; have H4 := Lib.hid (blk_in H0.out hb4); obtain ⟨r0, r1⟩ := cells2 H4.out; obtain ⟨s0, s1, s2⟩ := cells3 hn4; have r2 := lt_of H4.out; clear hb4 hn4))
        have HO4 := Lib.hid (HO.out.below HB4.out)
        have HW4 := Lib.hid (HW.out.trans (HB4.out.mono HW.out.size))
        have HC4 := Lib.hid (HB.out.trans (HB4.out.mono HB.out.size))
        rcases hwy with rfl | rfl
        · have e1 := HWN.out (by decide)
          subst e1
          go_wp2_with (at_builtin; refine wpList_append_own_at _ rfl _ _ 46 rfl w1.heap.size 3 ii (.int .i64 0) 1 8 Try.underlying46 hi hz0 hz1 hz2 rfl (by decide) _ _ _ rfl (World.ownsRow.alloc HO4.out _) ⟨w4.heap.size, 0, none⟩ 1 1 [.int .i64 (-1)] rfl rfl (one_src _ _) (one_one _) ?c3 ?c4 ?c5 ?_)
          case c3 => unfold maxLen; first | omega | (simp; omega)
          case c4 => first | omega | (simp; omega)
          case c5 => have := HC4.out.size; first | omega | (simp; omega)
          intro o' w5 hown hgrow _ _
          have HO5 := Lib.hid (show Own w1.heap.size w5 o' ((List.range (k + 1)).map (waitL n h)) by rw [HST.out]; unfold Own; rw [List.length_append, List.length_map, List.length_range, show vals ((List.range k).map (waitL n h) ++ [-1]) = vals ((List.range k).map (waitL n h)) ++ [.int .i64 (-1)] by simp [vals]]; exact hown)
          have HB5 := Lib.hid ((HC4.out.al (.cells #[.int .i64 (-1)] 3)).grown hgrow (by have := HC4.out.size; simp; omega) (fun q e => (HO4.out.lt q e).1))
          clear hown hgrow
          go_wp2_with fail
          go_roundw
          case rel => exact ⟨k + 1, by omega, by go_num, HO5, HB5⟩
          case measure => simp [intOf]; omega
        · have e1 := HWT.out rfl
          have CT4 := Lib.hid (CT.out w4 (k : Int) pt HW4.out)
          rw [e1] at CT4
          go_wp2_with (first | (go_at_call 78; with_reducible refine CT4.out.mono ?_; rintro e w5 ⟨rfl, hb5⟩; have HB5 := Lib.hid hb5; have HC5 := Lib.hid (HC4.out.trans (hb5.mono HC4.out.size)); clear hb5) | (at_builtin; refine wpList_append_own_at _ rfl _ _ 46 rfl w1.heap.size 3 ii (.int .i64 0) 1 8 Try.underlying46 hi hz0 hz1 hz2 rfl (by decide) _ _ _ rfl (World.ownsRow.alloc (HO4.out.below HB5.out) _) ⟨_, 0, none⟩ 1 1 [.int .i64 wl] rfl rfl (one_src _ _) (one_one _) ?c3 ?c4 ?c5 ?_))
          case c3 => unfold maxLen; first | omega | (simp; omega)
          case c4 => first | omega | (simp; omega)
          case c5 => have := HC5.out.size; first | omega | (simp; omega)
          intro o' w6 hown hgrow _ _
          have HO6 := Lib.hid (show Own w1.heap.size w6 o' ((List.range (k + 1)).map (waitL n h)) by rw [HST.out]; unfold Own; rw [List.length_append, List.length_map, List.length_range, show vals ((List.range k).map (waitL n h) ++ [wl]) = vals ((List.range k).map (waitL n h)) ++ [.int .i64 wl] by simp [vals]]; exact hown)
          have HB6 := Lib.hid ((HC5.out.al (.cells #[.int .i64 wl] 3)).grown hgrow (by have := HC5.out.size; simp; omega) (fun q e => (HO4.out.lt q e).1))
          clear hown hgrow
          go_wp2_with fail
          go_roundw
          case rel => exact ⟨k + 1, by omega, by go_num, HO6, HB6⟩
          case measure => simp [intOf]; omega
      case neg =>
        obtain rfl : k = m := by omega
        have HO9 := Lib.hid (show Own w1.heap.size wr _ (waitsL n h) by rw [HWL.out]; exact HO.out)
        go_wp2_with fail
        go_ret2
        exact ⟨_, rfl, OwnH.of (HO9.out.mono HB1.out.size), HW.out⟩
end Go.Proofs.Ytjphamgkigekkaa
