/-
  Whether a round gives the histories again: IsFixed of the model and of the program. No statement of the seat is proved here.
-/
import Derived.Test.YtjphamgkigekkaaRndQ
import Derived.Test.YtjphamgkigekkaaSame
namespace Go.Proofs.Ytjphamgkigekkaa
open Go.RowKit

def isFixedR0 (n : Net) (h : List (List Int)) : Bool := roundOfR1 n h && decide (roundOfR0 n h = h)

set_option maxRecDepth 100000 in
set_option maxHeartbeats 4000000 in
theorem ifix_w (v : Value) (n : Net) (u : Value) (h : List (List Int)) (w : World) (hv : NetV w v n) (hu : SlR w u h) :
    Calls Try.prog 29 #[v, u] w fun e w' => e = .returned (.bool (isFixedR0 n h)) ∧ Below w.heap.size w w' := by
  obtain ⟨pv, lv, rfl, hps, hls⟩ := hv
  have HV := Lib.hid (show NetV w (.agg #[pv, lv]) n from ⟨pv, lv, rfl, hps, hls⟩)
  have HU := Lib.hid hu
  obtain ⟨pa, pcap, rfl⟩ := hps.shape
  obtain ⟨la, lcap, rfl⟩ := hls.shape
  obtain ⟨m, hm⟩ : ∃ z, z = n.progs.length := ⟨_, rfl⟩
  obtain ⟨ll, hll⟩ : ∃ z, z = n.links.length := ⟨_, rfl⟩
  rw [← hm, ← hll] at HV ⊢
  clear hps hls hu hm hll
  have h0 := Lib.hid (hp1 w (.cells #[.slice pa m pcap, .slice la ll lcap] 34))
  have hb0 := Lib.hid ((Below.refl w.heap.size w).al (.cells #[.slice pa m pcap, .slice la ll lcap] 34))
  have CR := Lib.hid (fun (W : World) (hw : Below w.heap.size w W) => irnd_any (.agg #[.slice pa m pcap, .slice la ll lcap]) u n h W (HV.out.below hw) (HU.out.below hw))
  obtain ⟨xs, hxs⟩ : ∃ z, z = roundOfR0 n h := ⟨_, rfl⟩
  have HF := Lib.hid (show isFixedR0 n h = (roundOfR1 n h && decide (roundOfR0 n h = h)) from rfl)
  obtain ⟨r1, hr1⟩ : ∃ z, z = roundOfR1 n h := ⟨_, rfl⟩
  obtain ⟨rr, hrr⟩ : ∃ z, z = isFixedR0 n h := ⟨_, rfl⟩
  rw [← hxs, ← hr1, ← hrr] at HF
  rw [← hxs, ← hr1] at CR
  rw [← hrr]
  clear hxs hr1 hrr
  cases r1 with
  | false =>
    obtain rfl : rr = false := HF.out
    go_enter Try.func29, Try.ntmps29
    go_wp2_with (go_at_call 20; with_reducible refine (CR.out _ hb0.out).mono ?_; rintro e w1 ⟨x, rfl, hx, hb1⟩; have HB1 := Lib.hid (hb0.out.trans (hb1.mono hb0.out.size)); clear hb1 hx)
    go_ret
    exact ⟨rfl, HB1.out⟩
  | true =>
    have HF2 := Lib.hid (show rr = decide (xs = h) by rw [HF.out]; rfl)
    have CE := Lib.hid (fun (W : World) (x : Value) (hx : SlR W x xs) (hw : Below w.heap.size w W) => iareq_any x u xs h W hx (HU.out.below hw))
    rw [← HF2.out] at CE
    go_enter Try.func29, Try.ntmps29
    go_wp2_with (first | (go_at_call 20; with_reducible refine (CR.out _ hb0.out).mono ?_; rintro e w1 ⟨x, rfl, hx, hb1⟩; have HX := Lib.hid hx.v; have HB1 := Lib.hid (hb0.out.trans (hb1.mono hb0.out.size)); clear hb1 hx) | (go_at_call 74; with_reducible refine (CE.out _ _ HX.out HB1.out).mono ?_; rintro e w2 ⟨rfl, hb2⟩; have HB2 := Lib.hid (HB1.out.trans (hb2.mono HB1.out.size)); clear hb2))
    go_ret
    exact ⟨rfl, HB2.out⟩

set_option maxRecDepth 100000 in
set_option maxHeartbeats 4000000 in
theorem sfix_w (v : Value) (n : Net) (u : Value) (h : List (List Int)) (w : World) (hv : NetV w v n) (hu : SlR w u h) :
    Calls Try.prog 28 #[v, u] w fun e w' => e = .returned (.bool (isFixedR0 n h)) ∧ Below w.heap.size w w' := by
  obtain ⟨pv, lv, rfl, hps, hls⟩ := hv
  have HV := Lib.hid (show NetV w (.agg #[pv, lv]) n from ⟨pv, lv, rfl, hps, hls⟩)
  have HU := Lib.hid hu
  obtain ⟨pa, pcap, rfl⟩ := hps.shape
  obtain ⟨la, lcap, rfl⟩ := hls.shape
  obtain ⟨m, hm⟩ : ∃ z, z = n.progs.length := ⟨_, rfl⟩
  obtain ⟨ll, hll⟩ : ∃ z, z = n.links.length := ⟨_, rfl⟩
  rw [← hm, ← hll] at HV ⊢
  clear hps hls hu hm hll
  have h0 := Lib.hid (hp1 w (.cells #[.slice pa m pcap, .slice la ll lcap] 34))
  have hb0 := Lib.hid ((Below.refl w.heap.size w).al (.cells #[.slice pa m pcap, .slice la ll lcap] 34))
  have CR := Lib.hid (fun (W : World) (hw : Below w.heap.size w W) => srnd_any (.agg #[.slice pa m pcap, .slice la ll lcap]) u n h W (HV.out.below hw) (HU.out.below hw))
  obtain ⟨xs, hxs⟩ : ∃ z, z = roundOfR0 n h := ⟨_, rfl⟩
  have HF := Lib.hid (show isFixedR0 n h = (roundOfR1 n h && decide (roundOfR0 n h = h)) from rfl)
  obtain ⟨r1, hr1⟩ : ∃ z, z = roundOfR1 n h := ⟨_, rfl⟩
  obtain ⟨rr, hrr⟩ : ∃ z, z = isFixedR0 n h := ⟨_, rfl⟩
  rw [← hxs, ← hr1, ← hrr] at HF
  rw [← hxs, ← hr1] at CR
  rw [← hrr]
  clear hxs hr1 hrr
  cases r1 with
  | false =>
    obtain rfl : rr = false := HF.out
    go_enter Try.func28, Try.ntmps28
    go_wp2_with (go_at_call 17; with_reducible refine (CR.out _ hb0.out).mono ?_; rintro e w1 ⟨x, rfl, hx, hb1⟩; have HB1 := Lib.hid (hb0.out.trans (hb1.mono hb0.out.size)); clear hb1 hx)
    go_ret
    exact ⟨rfl, HB1.out⟩
  | true =>
    have HF2 := Lib.hid (show rr = decide (xs = h) by rw [HF.out]; rfl)
    have CE := Lib.hid (fun (W : World) (x : Value) (hx : SlR W x xs) (hw : Below w.heap.size w W) => same_any x u xs h W hx (HU.out.below hw))
    rw [← HF2.out] at CE
    go_enter Try.func28, Try.ntmps28
    go_wp2_with (first | (go_at_call 17; with_reducible refine (CR.out _ hb0.out).mono ?_; rintro e w1 ⟨x, rfl, hx, hb1⟩; have HX := Lib.hid hx.v; have HB1 := Lib.hid (hb0.out.trans (hb1.mono hb0.out.size)); clear hb1 hx) | (go_at_call 72; with_reducible refine (CE.out _ _ HX.out HB1.out).mono ?_; rintro e w2 ⟨rfl, rfl⟩; have HB2 := HB1))
    go_ret
    exact ⟨rfl, HB2.out⟩
end Go.Proofs.Ytjphamgkigekkaa
