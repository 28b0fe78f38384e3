/-
  States as data, and what the law's own functions do with them. No statement of the seat is proved here.
-/
import Derived.Test.YtmfagmfclehdbaaStB
import Derived.Test.YtmfagmfclehdbaaNetLw
import Derived.Deep.RegionHeld3
namespace Go.Proofs.Ytmfagmfclehdbaa
open Go.RowKit

structure Stt where
  acts : List Act
  queues : List (List Int)
  sent : List (List Int)
  steps : Int
/-- 'v' reads as the state 's'. -/
def StV (w : World) (v : Value) (s : Stt) : Prop := ∃ a q r, v = .agg #[a, q, r, .int .i64 s.steps] ∧ SlA w a s.acts ∧ SlR w q s.queues ∧ SlR w r s.sent
theorem StV.below {w w' : World} {v : Value} {s : Stt} (h : StV w v s) (hb : Below w.heap.size w w') : StV w' v s := by
  obtain ⟨a, q, r, e, h1, h2, h3⟩ := h; exact ⟨a, q, r, e, h1.below hb, h2.below hb, h3.below hb⟩
theorem SlR.shape {w : World} {v : Value} {xss : List (List Int)} (h : SlR w v xss) : ∃ a c, v = .slice a xss.length c := by
  obtain ⟨a, c, h, _⟩ := h; exact ⟨a, c, h⟩
theorem SlR.len {w : World} {v : Value} {xs : List (List Int)} (h : SlR w v xs) : xs.length ≤ 9223372036854775807 := by
  obtain ⟨_, _, _, h1, h2, _⟩ := h; unfold maxLen at h2; omega
theorem SlR.atb {w : World} {a : Option Addr} {m cap : Nat} {ps : List (List Int)} (h : SlR w (.slice a m cap) ps) {k : Nat} {x : List Int} (hx : ps[k]? = some x) :
    ∃ b off c, a = some ⟨b, off, none⟩ ∧ b < w.heap.size ∧ w.cell? ⟨b, off + k, none⟩ = some c ∧ Sl w c x := by
  obtain ⟨a', cap', hv, _, _, _, hr⟩ := h
  simp only [Value.slice.injEq] at hv
  obtain ⟨rfl, rfl, rfl⟩ := hv
  rcases hr with rfl | ⟨b, off, rfl, hb, hc⟩
  · simp at hx
  · obtain ⟨c, h0, h1⟩ := hc k x hx
    exact ⟨b, off, c, rfl, hb, h0, h1⟩
/-- A state of the call's own: actors, queues and what was sent, each in blocks of its own. -/
def StH (lo hi : Nat) (w : World) (v : Value) (s : Stt) : Prop :=
  ∃ m1 m2 a q r, v = .agg #[a, q, r, .int .i64 s.steps] ∧ lo ≤ m1 ∧ m1 ≤ m2 ∧ m2 ≤ hi ∧ AcH lo m1 w a s.acts ∧ RowsH m1 m2 w q s.queues ∧ RowsH m2 hi w r s.sent ∧ hi ≤ w.heap.size
theorem StH.below {lo hi : Nat} {w w' : World} {v : Value} {s : Stt} (h : StH lo hi w v s) (hb : Below w.heap.size w w') : StH lo hi w' v s := by
  obtain ⟨m1, m2, a, q, r, e, l1, l2, l3, h1, h2, h3, h4⟩ := h; exact ⟨m1, m2, a, q, r, e, l1, l2, l3, h1.below hb, h2.below hb, h3.below hb, Nat.le_trans h4 hb.size⟩
theorem StH.out {lo hi l2 h2 : Nat} {w w' : World} {v : Value} {s : Stt} (h : StH lo hi w v s) (ho : Out l2 h2 w w') (hd : hi ≤ l2 ∨ h2 ≤ lo) : StH lo hi w' v s := by
  obtain ⟨m1, m2, a, q, r, e, k1, k2, k3, h1, h2, h3, h4⟩ := h; exact ⟨m1, m2, a, q, r, e, k1, k2, k3, h1.out ho (by omega), h2.out ho (by omega), h3.out ho (by omega), Nat.le_trans h4 ho.size⟩
theorem StH.v {lo hi : Nat} {w : World} {v : Value} {s : Stt} (h : StH lo hi w v s) : StV w v s := by
  obtain ⟨m1, m2, a, q, r, e, k1, k2, k3, h1, h2, h3, _⟩ := h; exact ⟨a, q, r, e, h1.v, h2.v, h3.v⟩
theorem StV.shape {w : World} {v : Value} {s : Stt} (h : StV w v s) : ∃ a b c d e f, v = .agg #[.slice a s.acts.length b, .slice c s.queues.length d, .slice e s.sent.length f, .int .i64 s.steps] := by
  obtain ⟨x, q, r, rfl, h1, h2, h3⟩ := h
  obtain ⟨a, b, rfl⟩ := h1.shape
  obtain ⟨c, d, rfl⟩ := h2.shape
  obtain ⟨e, f, rfl⟩ := h3.shape
  exact ⟨a, b, c, d, e, f, rfl⟩
theorem StH.shape {lo hi : Nat} {w : World} {v : Value} {s : Stt} (h : StH lo hi w v s) : ∃ a b c d e f, v = .agg #[.slice a s.acts.length b, .slice c s.queues.length d, .slice e s.sent.length f, .int .i64 s.steps] := h.v.shape
def szS (s : Stt) : Nat := sumA s.acts + (sumR s.queues + sumR s.sent)
theorem set4_0 {w : World} {g T : Nat} {u0 u1 u2 u3 : Value} (h : w.heap[g]? = some (.cells #[u0, u1, u2, u3] T)) (v : Value) : (w.setCell ⟨g, 0, none⟩ v).heap[g]? = some (.cells #[v, u1, u2, u3] T) := by
  rw [heap_setCell_same w g 0 #[u0, u1, u2, u3] T v h]; rfl
theorem set4_1 {w : World} {g T : Nat} {u0 u1 u2 u3 : Value} (h : w.heap[g]? = some (.cells #[u0, u1, u2, u3] T)) (v : Value) : (w.setCell ⟨g, 1, none⟩ v).heap[g]? = some (.cells #[u0, v, u2, u3] T) := by
  rw [heap_setCell_same w g 1 #[u0, u1, u2, u3] T v h]; rfl
theorem set4_2 {w : World} {g T : Nat} {u0 u1 u2 u3 : Value} (h : w.heap[g]? = some (.cells #[u0, u1, u2, u3] T)) (v : Value) : (w.setCell ⟨g, 2, none⟩ v).heap[g]? = some (.cells #[u0, u1, v, u3] T) := by
  rw [heap_setCell_same w g 2 #[u0, u1, u2, u3] T v h]; rfl

set_option maxRecDepth 100000 in
set_option maxHeartbeats 1600000 in
theorem eqSt_ok (v u : Value) (s : Stt) (w : World) (h : StV w v s) (k : StV w u s) :
    Calls Try.prog 15 #[v, u] w fun e w' => e = .returned (.bool true) ∧ Below w.heap.size w w' := by
  obtain ⟨c, d, f, rfl, hp, hl, hr⟩ := h
  obtain ⟨c2, d2, f2, rfl, hq2, hl2, hr2⟩ := k
  obtain ⟨acs, qs, rs, st⟩ := s
  simp only [] at hp hl hr hq2 hl2 hr2
  have HP := Lib.hid hp
  have HL := Lib.hid hl
  have HR := Lib.hid hr
  have HP2 := Lib.hid hq2
  have HL2 := Lib.hid hl2
  have HR2 := Lib.hid hr2
  clear hp hl hr hq2 hl2 hr2
  have hb := Lib.hid (((Below.refl w.heap.size w).al (.cells #[c, d, f, .int .i64 st] 30)).al (.cells #[c2, d2, f2, .int .i64 st] 30))
  have hH := Lib.hid (hp2 w (.cells #[c, d, f, .int .i64 st] 30) (.cells #[c2, d2, f2, .int .i64 st] 30))
  have hH1 := Lib.hid (hp21 w (.cells #[c, d, f, .int .i64 st] 30) (.cells #[c2, d2, f2, .int .i64 st] 30))
  go_enter Try.func15, Try.ntmps15
  go_wp2_with fail
  go_at_call 59
  refine (eqActorS_ok _ _ acs _ (HP.out.below hb.out) (HP2.out.below hb.out)).mono ?_
  rintro e w2 ⟨rfl, hb1⟩
  have G1 := Lib.hid (blk_in hH.out hb1)
  have G2 := Lib.hid (blk_in hH1.out hb1)
  have HB2 := Lib.hid (hb.out.trans (hb1.mono (by simp; omega)))
  clear hb1
  obtain ⟨c0, c1, c2', c3⟩ := cells4s G1.out
  obtain ⟨a0, a1, a2, a3⟩ := cells4s G2.out
  have l1 := lt_of G1.out
  have l2 := lt_of G2.out
  go_wp2_with fail
  go_at_call 60
  refine (eqSS_ok _ _ qs _ (HL.out.below HB2.out) (HL2.out.below HB2.out)).mono ?_
  rintro e w3 ⟨rfl, hb1⟩
  clear c0 c1 c2' c3 a0 a1 a2 a3 l1 l2
  have G3 := Lib.hid (blk_in G1.out hb1)
  have G4 := Lib.hid (blk_in G2.out hb1)
  have HB3 := Lib.hid (HB2.out.trans (hb1.mono HB2.out.size))
  clear hb1
  obtain ⟨c0, c1, c2', c3⟩ := cells4s G3.out
  obtain ⟨a0, a1, a2, a3⟩ := cells4s G4.out
  have l1 := lt_of G3.out
  have l2 := lt_of G4.out
  go_wp2_with fail
  go_at_call 60
  refine (eqSS_ok _ _ rs _ (HR.out.below HB3.out) (HR2.out.below HB3.out)).mono ?_
  rintro e w4 ⟨rfl, hb1⟩
  clear c0 c1 c2' c3 a0 a1 a2 a3 l1 l2
  have G5 := Lib.hid (blk_in G3.out hb1)
  have G6 := Lib.hid (blk_in G4.out hb1)
  have HB4 := Lib.hid (HB3.out.trans (hb1.mono HB3.out.size))
  clear hb1
  obtain ⟨c0, c1, c2', c3⟩ := cells4s G5.out
  obtain ⟨a0, a1, a2, a3⟩ := cells4s G6.out
  have l1 := lt_of G5.out
  have l2 := lt_of G6.out
  go_wp2_with fail
  go_ret
  exact ⟨rfl, HB4.out⟩

def stS (s : Stt) : Nat := sumA s.acts + sumT s.queues + sumT s.sent
theorem sumT_le_R (xss : List (List Int)) : sumT xss ≤ sumR xss := by have := sumT_R xss; omega
set_option maxRecDepth 100000 in
set_option maxHeartbeats 1600000 in
theorem markSt_h (lo hi : Nat) (v : Value) (s : Stt) (k : Int) (w : World) (h : StH lo hi w v s) (hk0 : 0 ≤ k) (hk : k + 4 * (szS s : Nat) ≤ 1000000000) :
    Calls Try.prog 18 #[v, .int .i64 k] w fun e w' => e = .returned (.int .i64 (k + (stS s : Nat))) ∧ Out lo hi w w' := by
  obtain ⟨m1, m2, c, d, f, rfl, l1, l2, l3, hp, hq, hr, hw⟩ := h
  obtain ⟨acs, qs, rs, st⟩ := s
  simp only [] at hp hq hr
  have hs : stS ⟨acs, qs, rs, st⟩ = sumA acs + sumT qs + sumT rs := rfl
  have hz : szS ⟨acs, qs, rs, st⟩ = sumA acs + (sumR qs + sumR rs) := rfl
  rw [hz] at hk
  rw [hs]
  have HP := Lib.hid hp
  have HQ := Lib.hid hq
  have HR := Lib.hid hr
  have HL := Lib.hid (And.intro l1 (And.intro l2 l3))
  have HW := Lib.hid hw
  have HK := Lib.hid hk
  have HK0 := Lib.hid hk0
  have T1 := Lib.hid (sumT_le_R qs)
  have T2 := Lib.hid (sumT_le_R rs)
  obtain ⟨n1, h1⟩ : ∃ z, z = sumA acs := ⟨_, rfl⟩
  obtain ⟨n2, h2⟩ : ∃ z, z = sumT qs := ⟨_, rfl⟩
  obtain ⟨n3, h3⟩ : ∃ z, z = sumT rs := ⟨_, rfl⟩
  rw [← h1, ← h2, ← h3]
  have N1 := Lib.hid h1
  have N2 := Lib.hid h2
  have N3 := Lib.hid h3
  clear hp hq hr hs hz l1 l2 l3 hw h1 h2 h3 hk hk0
  have hb := Lib.hid ((Below.refl w.heap.size w).al (.cells #[c, d, f, .int .i64 st] 30))
  have hH := Lib.hid (hp1 w (.cells #[c, d, f, .int .i64 st] 30))
  go_enter Try.func18, Try.ntmps18
  go_wp2_with fail
  go_at_call 63
  refine (markAc_any lo m1 c acs k _ (HP.out.below hb.out) HK0.out (by have := HK.out; omega)).mono ?_
  rintro e w2 ⟨rfl, _, hO⟩
  rw [← N1.out]
  have HQ2 := Lib.hid ((HQ.out.below hb.out).out hO (.inr (Nat.le_refl _)))
  have HR2 := Lib.hid ((HR.out.below hb.out).out hO (.inr HL.out.2.1))
  have G2 := Lib.hid (hO.blk hH.out (.inr (by have := HL.out; have := HW.out; omega)))
  have HO2 := Lib.hid (((Out.refl lo hi w).al (.cells #[c, d, f, .int .i64 st] 30)).trans (hO.mono (Nat.le_refl _) (by have := HL.out; omega)))
  have HSZ2 := Lib.hid (show w.heap.size + 1 ≤ w2.heap.size by have := hO.size; simp at this; omega)
  clear hO
  obtain ⟨c0, c1, c2, c3⟩ := cells4s G2.out
  have lg := lt_of G2.out
  go_wp2_with fail
  go_at_call 64
  refine (markSS_h m1 m2 d qs (k + (n1 : Int)) _ HQ2.out (by have := HK0.out; omega) (by have := HK.out; have := N1.out; omega)).mono ?_
  rintro e w3 ⟨rfl, _, hO⟩
  rw [← N2.out]
  have HR3 := Lib.hid (HR2.out.out hO (.inr (Nat.le_refl _)))
  have G3 := Lib.hid (hO.blk G2.out (.inr (by have := HL.out; have := HW.out; omega)))
  have HO3 := Lib.hid (HO2.out.trans (hO.mono HL.out.1 (by have := HL.out; omega)))
  clear hO c0 c1 c2 c3 lg
  obtain ⟨c0, c1, c2, c3⟩ := cells4s G3.out
  have lg := lt_of G3.out
  go_wp2_with fail
  go_at_call 64
  refine (markSS_h m2 hi f rs (k + (n1 : Int) + (n2 : Int)) _ HR3.out (by have := HK0.out; omega) (by have := HK.out; have := N1.out; have := N2.out; have := T1.out; omega)).mono ?_
  rintro e w4 ⟨rfl, _, hO⟩
  rw [← N3.out]
  have HO4 := Lib.hid (HO3.out.trans (hO.mono (by have := HL.out; omega) (Nat.le_refl _)))
  clear hO
  go_wp2_with fail
  go_ret
  refine ⟨?_, HO4.out⟩
  rw [show k + (n1 : Int) + (n2 : Int) + (n3 : Int) = k + ((n1 + n2 + n3 : Nat) : Int) by omega]
  rfl
end Go.Proofs.Ytmfagmfclehdbaa
