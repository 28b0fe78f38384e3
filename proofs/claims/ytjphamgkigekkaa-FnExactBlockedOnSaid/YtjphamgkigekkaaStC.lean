/-
  States as data, and what the law's own functions do with them. No statement of the seat is proved here.
-/
import Derived.Test.YtjphamgkigekkaaStB
import Derived.Test.YtjphamgkigekkaaNetEq
import Derived.Deep.RegionHeld3
namespace Go.Proofs.Ytjphamgkigekkaa
open Go.RowKit

structure Stt where
  acts : List Act
  queues : List (List Int)
  sent : List (List Int)
  steps : Int
/-- 'v' reads as the state 's'. -/
def StV (w : World) (v : Value) (s : Stt) : Prop := ∃ a q r, v = .agg #[a, q, r, .int .i64 s.steps] ∧ SlA w a s.acts ∧ SlR w q s.queues ∧ SlR w r s.sent
theorem StV.below {w w' : World} {v : Value} {s : Stt} (h : StV w v s) (hb : Below w.heap.size w w') : StV w' v s := by
  obtain ⟨a, q, r, e, h1, h2, h3⟩ := h; exact ⟨a, q, r, e, h1.below hb, h2.below hb, h3.below hb⟩
theorem SlR.shape {w : World} {v : Value} {xss : List (List Int)} (h : SlR w v xss) : ∃ a c, v = .slice a xss.length c := by
  obtain ⟨a, c, h, _⟩ := h; exact ⟨a, c, h⟩
theorem SlR.len {w : World} {v : Value} {xs : List (List Int)} (h : SlR w v xs) : xs.length ≤ 9223372036854775807 := by
  obtain ⟨_, _, _, h1, h2, _⟩ := h; unfold maxLen at h2; omega
theorem SlR.atb {w : World} {a : Option Addr} {m cap : Nat} {ps : List (List Int)} (h : SlR w (.slice a m cap) ps) {k : Nat} {x : List Int} (hx : ps[k]? = some x) :
    ∃ b off c, a = some ⟨b, off, none⟩ ∧ b < w.heap.size ∧ w.cell? ⟨b, off + k, none⟩ = some c ∧ Sl w c x := by
  obtain ⟨a', cap', hv, _, _, _, hr⟩ := h
  simp only [Value.slice.injEq] at hv
  obtain ⟨rfl, rfl, rfl⟩ := hv
  rcases hr with rfl | ⟨b, off, rfl, hb, hc⟩
  · simp at hx
  · obtain ⟨c, h0, h1⟩ := hc k x hx
    exact ⟨b, off, c, rfl, hb, h0, h1⟩
/-- A state of the call's own: actors, queues and what was sent, each in blocks of its own. -/
def StH (lo hi : Nat) (w : World) (v : Value) (s : Stt) : Prop :=
  ∃ m1 m2 a q r, v = .agg #[a, q, r, .int .i64 s.steps] ∧ lo ≤ m1 ∧ m1 ≤ m2 ∧ m2 ≤ hi ∧ AcH lo m1 w a s.acts ∧ RowsH m1 m2 w q s.queues ∧ RowsH m2 hi w r s.sent ∧ hi ≤ w.heap.size
theorem StH.below {lo hi : Nat} {w w' : World} {v : Value} {s : Stt} (h : StH lo hi w v s) (hb : Below w.heap.size w w') : StH lo hi w' v s := by
  obtain ⟨m1, m2, a, q, r, e, l1, l2, l3, h1, h2, h3, h4⟩ := h; exact ⟨m1, m2, a, q, r, e, l1, l2, l3, h1.below hb, h2.below hb, h3.below hb, Nat.le_trans h4 hb.size⟩
theorem StH.out {lo hi l2 h2 : Nat} {w w' : World} {v : Value} {s : Stt} (h : StH lo hi w v s) (ho : Out l2 h2 w w') (hd : hi ≤ l2 ∨ h2 ≤ lo) : StH lo hi w' v s := by
  obtain ⟨m1, m2, a, q, r, e, k1, k2, k3, h1, h2, h3, h4⟩ := h; exact ⟨m1, m2, a, q, r, e, k1, k2, k3, h1.out ho (by omega), h2.out ho (by omega), h3.out ho (by omega), Nat.le_trans h4 ho.size⟩
theorem StH.v {lo hi : Nat} {w : World} {v : Value} {s : Stt} (h : StH lo hi w v s) : StV w v s := by
  obtain ⟨m1, m2, a, q, r, e, k1, k2, k3, h1, h2, h3, _⟩ := h; exact ⟨a, q, r, e, h1.v, h2.v, h3.v⟩
theorem StV.shape {w : World} {v : Value} {s : Stt} (h : StV w v s) : ∃ a b c d e f, v = .agg #[.slice a s.acts.length b, .slice c s.queues.length d, .slice e s.sent.length f, .int .i64 s.steps] := by
  obtain ⟨x, q, r, rfl, h1, h2, h3⟩ := h
  obtain ⟨a, b, rfl⟩ := h1.shape
  obtain ⟨c, d, rfl⟩ := h2.shape
  obtain ⟨e, f, rfl⟩ := h3.shape
  exact ⟨a, b, c, d, e, f, rfl⟩
theorem StH.shape {lo hi : Nat} {w : World} {v : Value} {s : Stt} (h : StH lo hi w v s) : ∃ a b c d e f, v = .agg #[.slice a s.acts.length b, .slice c s.queues.length d, .slice e s.sent.length f, .int .i64 s.steps] := h.v.shape
def szS (s : Stt) : Nat := sumA s.acts + (sumR s.queues + sumR s.sent)
theorem set4_0 {w : World} {g T : Nat} {u0 u1 u2 u3 : Value} (h : w.heap[g]? = some (.cells #[u0, u1, u2, u3] T)) (v : Value) : (w.setCell ⟨g, 0, none⟩ v).heap[g]? = some (.cells #[v, u1, u2, u3] T) := by
  rw [heap_setCell_same w g 0 #[u0, u1, u2, u3] T v h]; rfl
theorem set4_1 {w : World} {g T : Nat} {u0 u1 u2 u3 : Value} (h : w.heap[g]? = some (.cells #[u0, u1, u2, u3] T)) (v : Value) : (w.setCell ⟨g, 1, none⟩ v).heap[g]? = some (.cells #[u0, v, u2, u3] T) := by
  rw [heap_setCell_same w g 1 #[u0, u1, u2, u3] T v h]; rfl
theorem set4_2 {w : World} {g T : Nat} {u0 u1 u2 u3 : Value} (h : w.heap[g]? = some (.cells #[u0, u1, u2, u3] T)) (v : Value) : (w.setCell ⟨g, 2, none⟩ v).heap[g]? = some (.cells #[u0, u1, v, u3] T) := by
  rw [heap_setCell_same w g 2 #[u0, u1, u2, u3] T v h]; rfl

set_option maxRecDepth 100000 in
set_option maxHeartbeats 1600000 in
theorem toSt_h (v : Value) (s : Stt) (w : World) (h : StV w v s) (hs : szS s ≤ 1048576) :
    Calls Try.prog 44 #[v] w fun e w' => ∃ v', e = .returned v' ∧ StH w.heap.size w'.heap.size w' v' s ∧ Below w.heap.size w w' := by
  obtain ⟨a, q, r, rfl, ha, hq, hr⟩ := h
  obtain ⟨acs, qs, rs, st⟩ := s
  unfold szS at hs
  simp only [] at ha hq hr hs ⊢
  have S1 := Lib.hid (show sumA acs ≤ 1048576 by omega)
  have S2 := Lib.hid (show sumR qs ≤ 1048576 by omega)
  have S3 := Lib.hid (show sumR rs ≤ 1048576 by omega)
  have HA := Lib.hid ha
  have HQ := Lib.hid hq
  have HR := Lib.hid hr
  obtain ⟨aa, ac, rfl⟩ := ha.shape
  obtain ⟨qa, qc, rfl⟩ := hq.shape
  obtain ⟨ra, rc, rfl⟩ := hr.shape
  have CA := Lib.hid (fun W (hw : Below w.heap.size w W) => toActs_h _ acs W (HA.out.below hw) S1.out)
  have CQ := Lib.hid (fun W (hw : Below w.heap.size w W) => toSS_h _ qs W (HQ.out.below hw) S2.out)
  have CR := Lib.hid (fun W (hw : Below w.heap.size w W) => toSS_h _ rs W (HR.out.below hw) S3.out)
  clear ha hq hr hs HA HQ HR
  have hb := Lib.hid ((((Below.refl w.heap.size w).al (.cells #[.slice aa acs.length ac, .slice qa qs.length qc, .slice ra rs.length rc, .int .i64 st] 59)).al (.cells #[.slice none 0 0, .slice none 0 0, .slice none 0 0, .int .i64 0] 53)).al (.cells #[.slice none 0 0, .slice none 0 0, .slice none 0 0, .int .i64 0] 53))
  have hH3 := Lib.hid (hp3 w (.cells #[.slice aa acs.length ac, .slice qa qs.length qc, .slice ra rs.length rc, .int .i64 st] 59) (.cells #[.slice none 0 0, .slice none 0 0, .slice none 0 0, .int .i64 0] 53) (.cells #[.slice none 0 0, .slice none 0 0, .slice none 0 0, .int .i64 0] 53))
  have hH2 := Lib.hid (hp32 w (.cells #[.slice aa acs.length ac, .slice qa qs.length qc, .slice ra rs.length rc, .int .i64 st] 59) (.cells #[.slice none 0 0, .slice none 0 0, .slice none 0 0, .int .i64 0] 53) (.cells #[.slice none 0 0, .slice none 0 0, .slice none 0 0, .int .i64 0] 53))
  have hH1 := Lib.hid (hp31 w (.cells #[.slice aa acs.length ac, .slice qa qs.length qc, .slice ra rs.length rc, .int .i64 st] 59) (.cells #[.slice none 0 0, .slice none 0 0, .slice none 0 0, .int .i64 0] 53) (.cells #[.slice none 0 0, .slice none 0 0, .slice none 0 0, .int .i64 0] 53))
  go_enter Try.func44, Try.ntmps44
  go_wp2_with fail
  go_at_call 92
  refine (CA.out _ hb.out).mono ?_
  rintro e w2 ⟨v1, rfl, ho, hb1⟩
  rw [show ((((w.alloc (.cells #[.slice aa acs.length ac, .slice qa qs.length qc, .slice ra rs.length rc, .int .i64 st] 59)).alloc (.cells #[.slice none 0 0, .slice none 0 0, .slice none 0 0, .int .i64 0] 53)).alloc (.cells #[.slice none 0 0, .slice none 0 0, .slice none 0 0, .int .i64 0] 53))).heap.size = w.heap.size + 3 by simp] at ho
  have HSZ2 := Lib.hid (show w.heap.size + 3 ≤ w2.heap.size by have := hb1.size; simp at this; omega)
  have HO2 := Lib.hid ho
  have HB2 := Lib.hid (hb.out.trans (hb1.mono (by simp; omega)))
  have G1 := Lib.hid (blk_in hH1.out hb1)
  have G2 := Lib.hid (blk_in hH2.out hb1)
  have G3 := Lib.hid (blk_in hH3.out hb1)
  obtain ⟨x1, y1, rfl⟩ := ho.shape
  clear ho hb1
  obtain ⟨a0, a1, a2, a3⟩ := cells4s G1.out
  have al := lt_of G1.out
  obtain ⟨o0, o1, o2, o3⟩ := cells4s G3.out
  have ol := lt_of G3.out
  have oz0 := fr_of G3.out 0
  have oz1 := fr_of G3.out 1
  have oz2 := fr_of G3.out 2
  have oz3 := fr_of G3.out 3
  go_wp2_with fail
  go_at_call 19
  obtain ⟨w3, hw3⟩ : ∃ W, W = w2.setCell ⟨w.heap.size + 1 + 1, 0, none⟩ (.slice x1 acs.length y1) := ⟨_, rfl⟩
  rw [← hw3]
  have HO3 := Lib.hid (show AcH (w.heap.size + 3) w2.heap.size w3 (.slice x1 acs.length y1) acs by rw [hw3]; exact HO2.out.out ((Out.refl (w.heap.size) (w.heap.size + 3) w2).setC (p := ⟨w.heap.size + 1 + 1, 0, none⟩) (by show w.heap.size ≤ w.heap.size + 1 + 1; omega) (by show w.heap.size + 1 + 1 < w.heap.size + 3; omega) _) (.inr (Nat.le_refl _)))
  have HB3 := Lib.hid (show Below w.heap.size w w3 by rw [hw3]; exact HB2.out.setCell (p := ⟨w.heap.size + 1 + 1, 0, none⟩) (by show w.heap.size ≤ w.heap.size + 1 + 1; omega) _)
  have HSZ3 := Lib.hid (show w3.heap.size = w2.heap.size by rw [hw3]; exact World.size_setCell _ _ _)
  have K1 := Lib.hid (show w3.heap[w.heap.size]? = some (.cells #[.slice aa acs.length ac, .slice qa qs.length qc, .slice ra rs.length rc, .int .i64 st] 59) by rw [hw3]; exact setR_blkN G1.out (by omega) _)
  have K2 := Lib.hid (show w3.heap[w.heap.size + 1]? = some (.cells #[.slice none 0 0, .slice none 0 0, .slice none 0 0, .int .i64 0] 53) by rw [hw3]; exact setR_blkN G2.out (by omega) _)
  have K3 := Lib.hid (show w3.heap[w.heap.size + 1 + 1]? = some (.cells #[.slice x1 acs.length y1, .slice none 0 0, .slice none 0 0, .int .i64 0] 53) by rw [hw3]; exact set4_0 G3.out _)
  clear hw3 a0 a1 a2 a3 al o0 o1 o2 o3 ol oz0 oz1 oz2 oz3
  refine (CQ.out _ HB3.out).mono ?_
  rintro e w4 ⟨v2, rfl, ho, hb1⟩
  have HSZ4 := Lib.hid (show w2.heap.size ≤ w4.heap.size by have := hb1.size; have := HSZ3.out; omega)
  rw [HSZ3.out] at ho
  have HP4 := Lib.hid ho
  have HO4 := Lib.hid (HO3.out.below hb1)
  have HB4 := Lib.hid (HB3.out.trans (hb1.mono HB3.out.size))
  have G1 := Lib.hid (blk_in K1.out hb1)
  have G2 := Lib.hid (blk_in K2.out hb1)
  have G3 := Lib.hid (blk_in K3.out hb1)
  obtain ⟨x2, y2, rfl⟩ := ho.shape
  clear ho hb1
  obtain ⟨a0, a1, a2, a3⟩ := cells4s G1.out
  have al := lt_of G1.out
  obtain ⟨o0, o1, o2, o3⟩ := cells4s G3.out
  have ol := lt_of G3.out
  have oz0 := fr_of G3.out 0
  have oz1 := fr_of G3.out 1
  have oz2 := fr_of G3.out 2
  have oz3 := fr_of G3.out 3
  go_wp2_with fail
  go_at_call 19
  obtain ⟨w5, hw5⟩ : ∃ W, W = w4.setCell ⟨w.heap.size + 1 + 1, 1, none⟩ (.slice x2 qs.length y2) := ⟨_, rfl⟩
  rw [← hw5]
  have OUT5 := Lib.hid (show Out (w.heap.size) (w.heap.size + 3) w4 w5 by rw [hw5]; exact (Out.refl (w.heap.size) (w.heap.size + 3) w4).setC (p := ⟨w.heap.size + 1 + 1, 1, none⟩) (by show w.heap.size ≤ w.heap.size + 1 + 1; omega) (by show w.heap.size + 1 + 1 < w.heap.size + 3; omega) _)
  have HO5 := Lib.hid (HO4.out.out OUT5.out (.inr (Nat.le_refl _)))
  have HP5 := Lib.hid (HP4.out.out OUT5.out (.inr HSZ2.out))
  have HB5 := Lib.hid (show Below w.heap.size w w5 by rw [hw5]; exact HB4.out.setCell (p := ⟨w.heap.size + 1 + 1, 1, none⟩) (by show w.heap.size ≤ w.heap.size + 1 + 1; omega) _)
  have HSZ5 := Lib.hid (show w5.heap.size = w4.heap.size by rw [hw5]; exact World.size_setCell _ _ _)
  have K1 := Lib.hid (show w5.heap[w.heap.size]? = some (.cells #[.slice aa acs.length ac, .slice qa qs.length qc, .slice ra rs.length rc, .int .i64 st] 59) by rw [hw5]; exact setR_blkN G1.out (by omega) _)
  have K2 := Lib.hid (show w5.heap[w.heap.size + 1]? = some (.cells #[.slice none 0 0, .slice none 0 0, .slice none 0 0, .int .i64 0] 53) by rw [hw5]; exact setR_blkN G2.out (by omega) _)
  have K3 := Lib.hid (show w5.heap[w.heap.size + 1 + 1]? = some (.cells #[.slice x1 acs.length y1, .slice x2 qs.length y2, .slice none 0 0, .int .i64 0] 53) by rw [hw5]; exact set4_1 G3.out _)
  clear hw5 a0 a1 a2 a3 al o0 o1 o2 o3 ol oz0 oz1 oz2 oz3
  refine (CR.out _ HB5.out).mono ?_
  rintro e w6 ⟨v3, rfl, ho, hb1⟩
  have HSZ6 := Lib.hid (show w4.heap.size ≤ w6.heap.size by have := hb1.size; have := HSZ5.out; omega)
  rw [HSZ5.out] at ho
  have HR6 := Lib.hid ho
  have HP6 := Lib.hid (HP5.out.below hb1)
  have HO6 := Lib.hid (HO5.out.below hb1)
  have HB6 := Lib.hid (HB5.out.trans (hb1.mono HB5.out.size))
  have G1 := Lib.hid (blk_in K1.out hb1)
  have G2 := Lib.hid (blk_in K2.out hb1)
  have G3 := Lib.hid (blk_in K3.out hb1)
  obtain ⟨x3, y3, rfl⟩ := ho.shape
  clear ho hb1
  obtain ⟨a0, a1, a2, a3⟩ := cells4s G1.out
  have al := lt_of G1.out
  obtain ⟨r0, r1, r2, r3⟩ := cells4s G2.out
  have rl := lt_of G2.out
  have rz0 := fr_of G2.out 0
  have rz1 := fr_of G2.out 1
  have rz2 := fr_of G2.out 2
  have rz3 := fr_of G2.out 3
  obtain ⟨o0, o1, o2, o3⟩ := cells4s G3.out
  have ol := lt_of G3.out
  have oz0 := fr_of G3.out 0
  have oz1 := fr_of G3.out 1
  have oz2 := fr_of G3.out 2
  have oz3 := fr_of G3.out 3
  go_wp2_with fail
  refine bodyPost_ret (v := .agg #[.slice x1 acs.length y1, .slice x2 qs.length y2, .slice x3 rs.length y3, .int .i64 st]) (by simp [results, Try.results44, go_sem, r0, r1, r2, r3]) rfl ⟨_, rfl, ⟨w2.heap.size, w4.heap.size, _, _, _, rfl, ?_, HSZ4.out, ?_, ?_, ?_, ?_, Nat.le_refl _⟩, ?_⟩
  · have := HSZ2.out; omega
  · have := HSZ6.out; simp; omega
  · exact (HO6.out.out ((((((((Out.refl (w.heap.size) (w.heap.size + 3) w6).setC (p := ⟨w.heap.size + 1 + 1, 2, none⟩) (by show w.heap.size ≤ w.heap.size + 1 + 1; omega) (by show w.heap.size + 1 + 1 < w.heap.size + 3; omega) _).setC (p := ⟨w.heap.size + 1 + 1, 3, none⟩) (by show w.heap.size ≤ w.heap.size + 1 + 1; omega) (by show w.heap.size + 1 + 1 < w.heap.size + 3; omega) _).setC (p := ⟨w.heap.size + 1, 0, none⟩) (by show w.heap.size ≤ w.heap.size + 1; omega) (by show w.heap.size + 1 < w.heap.size + 3; omega) _).setC (p := ⟨w.heap.size + 1, 1, none⟩) (by show w.heap.size ≤ w.heap.size + 1; omega) (by show w.heap.size + 1 < w.heap.size + 3; omega) _).setC (p := ⟨w.heap.size + 1, 2, none⟩) (by show w.heap.size ≤ w.heap.size + 1; omega) (by show w.heap.size + 1 < w.heap.size + 3; omega) _).setC (p := ⟨w.heap.size + 1, 3, none⟩) (by show w.heap.size ≤ w.heap.size + 1; omega) (by show w.heap.size + 1 < w.heap.size + 3; omega) _)) (.inr (Nat.le_refl _))).mono (by omega) (Nat.le_refl _)
  · exact HP6.out.out ((((((((Out.refl (w.heap.size) (w.heap.size + 3) w6).setC (p := ⟨w.heap.size + 1 + 1, 2, none⟩) (by show w.heap.size ≤ w.heap.size + 1 + 1; omega) (by show w.heap.size + 1 + 1 < w.heap.size + 3; omega) _).setC (p := ⟨w.heap.size + 1 + 1, 3, none⟩) (by show w.heap.size ≤ w.heap.size + 1 + 1; omega) (by show w.heap.size + 1 + 1 < w.heap.size + 3; omega) _).setC (p := ⟨w.heap.size + 1, 0, none⟩) (by show w.heap.size ≤ w.heap.size + 1; omega) (by show w.heap.size + 1 < w.heap.size + 3; omega) _).setC (p := ⟨w.heap.size + 1, 1, none⟩) (by show w.heap.size ≤ w.heap.size + 1; omega) (by show w.heap.size + 1 < w.heap.size + 3; omega) _).setC (p := ⟨w.heap.size + 1, 2, none⟩) (by show w.heap.size ≤ w.heap.size + 1; omega) (by show w.heap.size + 1 < w.heap.size + 3; omega) _).setC (p := ⟨w.heap.size + 1, 3, none⟩) (by show w.heap.size ≤ w.heap.size + 1; omega) (by show w.heap.size + 1 < w.heap.size + 3; omega) _)) (.inr HSZ2.out)
  · simp only [World.size_setCell]
    exact HR6.out.out ((((((((Out.refl (w.heap.size) (w.heap.size + 3) w6).setC (p := ⟨w.heap.size + 1 + 1, 2, none⟩) (by show w.heap.size ≤ w.heap.size + 1 + 1; omega) (by show w.heap.size + 1 + 1 < w.heap.size + 3; omega) _).setC (p := ⟨w.heap.size + 1 + 1, 3, none⟩) (by show w.heap.size ≤ w.heap.size + 1 + 1; omega) (by show w.heap.size + 1 + 1 < w.heap.size + 3; omega) _).setC (p := ⟨w.heap.size + 1, 0, none⟩) (by show w.heap.size ≤ w.heap.size + 1; omega) (by show w.heap.size + 1 < w.heap.size + 3; omega) _).setC (p := ⟨w.heap.size + 1, 1, none⟩) (by show w.heap.size ≤ w.heap.size + 1; omega) (by show w.heap.size + 1 < w.heap.size + 3; omega) _).setC (p := ⟨w.heap.size + 1, 2, none⟩) (by show w.heap.size ≤ w.heap.size + 1; omega) (by show w.heap.size + 1 < w.heap.size + 3; omega) _).setC (p := ⟨w.heap.size + 1, 3, none⟩) (by show w.heap.size ≤ w.heap.size + 1; omega) (by show w.heap.size + 1 < w.heap.size + 3; omega) _)) (.inr (by have := HSZ2.out; have := HSZ4.out; omega))
  · exact ((((((HB6.out.setCell (p := ⟨w.heap.size + 1 + 1, 2, none⟩) (by show w.heap.size ≤ w.heap.size + 1 + 1; omega) _).setCell (p := ⟨w.heap.size + 1 + 1, 3, none⟩) (by show w.heap.size ≤ w.heap.size + 1 + 1; omega) _).setCell (p := ⟨w.heap.size + 1, 0, none⟩) (by show w.heap.size ≤ w.heap.size + 1; omega) _).setCell (p := ⟨w.heap.size + 1, 1, none⟩) (by show w.heap.size ≤ w.heap.size + 1; omega) _).setCell (p := ⟨w.heap.size + 1, 2, none⟩) (by show w.heap.size ≤ w.heap.size + 1; omega) _).setCell (p := ⟨w.heap.size + 1, 3, none⟩) (by show w.heap.size ≤ w.heap.size + 1; omega) _)

set_option maxRecDepth 100000 in
set_option maxHeartbeats 1600000 in
theorem eqSt_ok (v u : Value) (s : Stt) (w : World) (h : StV w v s) (k : StV w u s) :
    Calls Try.prog 39 #[v, u] w fun e w' => e = .returned (.bool true) ∧ Below w.heap.size w w' := by
  obtain ⟨c, d, f, rfl, hp, hl, hr⟩ := h
  obtain ⟨c2, d2, f2, rfl, hq2, hl2, hr2⟩ := k
  obtain ⟨acs, qs, rs, st⟩ := s
  simp only [] at hp hl hr hq2 hl2 hr2
  have HP := Lib.hid hp
  have HL := Lib.hid hl
  have HR := Lib.hid hr
  have HP2 := Lib.hid hq2
  have HL2 := Lib.hid hl2
  have HR2 := Lib.hid hr2
  clear hp hl hr hq2 hl2 hr2
  have hb := Lib.hid (((Below.refl w.heap.size w).al (.cells #[c, d, f, .int .i64 st] 53)).al (.cells #[c2, d2, f2, .int .i64 st] 53))
  have hH := Lib.hid (hp2 w (.cells #[c, d, f, .int .i64 st] 53) (.cells #[c2, d2, f2, .int .i64 st] 53))
  have hH1 := Lib.hid (hp21 w (.cells #[c, d, f, .int .i64 st] 53) (.cells #[c2, d2, f2, .int .i64 st] 53))
  go_enter Try.func39, Try.ntmps39
  go_wp2_with fail
  go_at_call 83
  refine (eqActorS_ok _ _ acs _ (HP.out.below hb.out) (HP2.out.below hb.out)).mono ?_
  rintro e w2 ⟨rfl, hb1⟩
  have G1 := Lib.hid (blk_in hH.out hb1)
  have G2 := Lib.hid (blk_in hH1.out hb1)
  have HB2 := Lib.hid (hb.out.trans (hb1.mono (by simp; omega)))
  clear hb1
  obtain ⟨c0, c1, c2', c3⟩ := cells4s G1.out
  obtain ⟨a0, a1, a2, a3⟩ := cells4s G2.out
  have l1 := lt_of G1.out
  have l2 := lt_of G2.out
  go_wp2_with fail
  go_at_call 21
  refine (eqSS_ok _ _ qs _ (HL.out.below HB2.out) (HL2.out.below HB2.out)).mono ?_
  rintro e w3 ⟨rfl, hb1⟩
  clear c0 c1 c2' c3 a0 a1 a2 a3 l1 l2
  have G3 := Lib.hid (blk_in G1.out hb1)
  have G4 := Lib.hid (blk_in G2.out hb1)
  have HB3 := Lib.hid (HB2.out.trans (hb1.mono HB2.out.size))
  clear hb1
  obtain ⟨c0, c1, c2', c3⟩ := cells4s G3.out
  obtain ⟨a0, a1, a2, a3⟩ := cells4s G4.out
  have l1 := lt_of G3.out
  have l2 := lt_of G4.out
  go_wp2_with fail
  go_at_call 21
  refine (eqSS_ok _ _ rs _ (HR.out.below HB3.out) (HR2.out.below HB3.out)).mono ?_
  rintro e w4 ⟨rfl, hb1⟩
  clear c0 c1 c2' c3 a0 a1 a2 a3 l1 l2
  have G5 := Lib.hid (blk_in G3.out hb1)
  have G6 := Lib.hid (blk_in G4.out hb1)
  have HB4 := Lib.hid (HB3.out.trans (hb1.mono HB3.out.size))
  clear hb1
  obtain ⟨c0, c1, c2', c3⟩ := cells4s G5.out
  obtain ⟨a0, a1, a2, a3⟩ := cells4s G6.out
  have l1 := lt_of G5.out
  have l2 := lt_of G6.out
  go_wp2_with fail
  go_ret
  exact ⟨rfl, HB4.out⟩

set_option maxRecDepth 100000 in
set_option maxHeartbeats 1600000 in
theorem szSt_any (v : Value) (s : Stt) (left : Int) (w : World) (h : StV w v s) (hl : 0 ≤ left ∧ left ≤ 1048576) :
    Calls Try.prog 42 #[v, .int .i64 left] w fun e w' => e = .returned (.int .i64 (if ((szS s : Nat) : Int) ≤ left then left - ((szS s : Nat) : Int) else -1)) ∧ Below w.heap.size w w' := by
  obtain ⟨c, d, f, rfl, hp, hq, hr⟩ := h
  obtain ⟨acs, qs, rs, st⟩ := s
  simp only [] at hp hq hr
  have HP := Lib.hid hp
  have HQ := Lib.hid hq
  have HR := Lib.hid hr
  have HLL := Lib.hid hl
  clear hp hq hr
  have hs : szS ⟨acs, qs, rs, st⟩ = sumA acs + (sumR qs + sumR rs) := rfl
  obtain ⟨n1, h1⟩ : ∃ z, z = sumA acs := ⟨_, rfl⟩
  obtain ⟨n2, h2⟩ : ∃ z, z = sumR qs := ⟨_, rfl⟩
  obtain ⟨n3, h3⟩ : ∃ z, z = sumR rs := ⟨_, rfl⟩
  rw [hs, ← h1, ← h2, ← h3]
  have hb := Lib.hid ((Below.refl w.heap.size w).al (.cells #[c, d, f, .int .i64 st] 59))
  have hH := Lib.hid (hp1 w (.cells #[c, d, f, .int .i64 st] 59))
  have C1 := Lib.hid (szActorS_any c acs left _ (HP.out.below hb.out) HLL.out)
  rw [← h1] at C1
  clear hs h1
  by_cases k1 : (n1 : Int) ≤ left
  case neg =>
    rw [if_neg k1] at C1
    have hE : (if ((n1 + (n2 + n3) : Nat) : Int) ≤ left then left - ((n1 + (n2 + n3) : Nat) : Int) else -1) = -1 := by rw [if_neg (by omega)]
    rw [hE]
    clear hE k1 hl h2 h3
    go_enter Try.func42, Try.ntmps42
    go_wp2_with (go_at_call 86; with_reducible refine C1.out.mono ?_; rintro e w2 ⟨rfl, hb1⟩; have HB1 := Lib.hid (hb.out.trans (hb1.mono hb.out.size)); clear hb1)
    go_ret
    exact ⟨rfl, HB1.out⟩
  rw [if_pos k1] at C1
  obtain ⟨l1, hl1⟩ : ∃ l : Int, l = left - (n1 : Int) := ⟨_, rfl⟩
  rw [← hl1] at C1
  have HL1 := Lib.hid (show 0 ≤ l1 ∧ l1 ≤ 1048576 by have := HLL.out; omega)
  have C2 := Lib.hid (fun W (hw : Below w.heap.size w W) => szSS_any d qs l1 W (HQ.out.below hw) HL1.out)
  simp only [← h2] at C2
  have d1 : decide (l1 < 0) = false := decide_eq_false (by have := HL1.out; omega)
  have Q1 := Lib.hid hl1
  clear h2 hl1
  by_cases k2 : (n2 : Int) ≤ l1
  case neg =>
    simp only [if_neg k2] at C2
    have hE : (if ((n1 + (n2 + n3) : Nat) : Int) ≤ left then left - ((n1 + (n2 + n3) : Nat) : Int) else -1) = -1 := by rw [if_neg (by have := Q1.out; omega)]
    rw [hE]
    clear hE k1 k2 hl h3
    go_enter Try.func42, Try.ntmps42
    go_wp2_with (first | (go_at_call 86; with_reducible refine C1.out.mono ?_; rintro e w2 ⟨rfl, hb1⟩; have HB1 := Lib.hid (hb.out.trans (hb1.mono hb.out.size)); have G1 := Lib.hid (blk_in hH.out hb1); obtain ⟨c0, c1, c2, c3⟩ := cells4s G1.out; have lg := lt_of G1.out; clear hb1) | (go_at_call 16; with_reducible refine (C2.out _ HB1.out).mono ?_; rintro e w3 ⟨rfl, hb3⟩; have HB3 := Lib.hid (HB1.out.trans (hb3.mono HB1.out.size)); clear hb3))
    go_ret
    exact ⟨rfl, HB3.out⟩
  simp only [if_pos k2] at C2
  obtain ⟨l2, hl2⟩ : ∃ l : Int, l = l1 - (n2 : Int) := ⟨_, rfl⟩
  simp only [← hl2] at C2
  have HL2 := Lib.hid (show 0 ≤ l2 ∧ l2 ≤ 1048576 by have := HL1.out; omega)
  have C3 := Lib.hid (fun W (hw : Below w.heap.size w W) => szSS_any f rs l2 W (HR.out.below hw) HL2.out)
  simp only [← h3] at C3
  have d2 : decide (l2 < 0) = false := decide_eq_false (by have := HL2.out; omega)
  have Q2 := Lib.hid hl2
  clear h3 hl2
  by_cases k3 : (n3 : Int) ≤ l2
  case neg =>
    simp only [if_neg k3] at C3
    have hE : (if ((n1 + (n2 + n3) : Nat) : Int) ≤ left then left - ((n1 + (n2 + n3) : Nat) : Int) else -1) = -1 := by rw [if_neg (by have := Q1.out; have := Q2.out; omega)]
    rw [hE]
    clear hE k1 k2 k3 hl
    go_enter Try.func42, Try.ntmps42
    go_wp2_with fail
    go_at_call 86
    refine C1.out.mono ?_
    rintro e w2 ⟨rfl, hb1⟩
    have HB2 := Lib.hid (hb.out.trans (hb1.mono hb.out.size))
    have G2 := Lib.hid (blk_in hH.out hb1)
    clear hb1
    obtain ⟨c0, c1, c2, c3⟩ := cells4s G2.out
    have lg := lt_of G2.out
    go_wp2_with fail
    go_at_call 16
    refine (C2.out _ HB2.out).mono ?_
    rintro e w3 ⟨rfl, hb1⟩
    have HB3 := Lib.hid (HB2.out.trans (hb1.mono HB2.out.size))
    have G3 := Lib.hid (blk_in G2.out hb1)
    clear hb1 c0 c1 c2 c3 lg
    obtain ⟨c0, c1, c2, c3⟩ := cells4s G3.out
    have lg := lt_of G3.out
    go_wp2_with fail
    go_at_call 16
    refine (C3.out _ HB3.out).mono ?_
    rintro e w4 ⟨rfl, hb1⟩
    have HB4 := Lib.hid (HB3.out.trans (hb1.mono HB3.out.size))
    clear hb1
    go_wp2_with fail
    go_ret
    exact ⟨rfl, HB4.out⟩
  simp only [if_pos k3] at C3
  obtain ⟨l3, hl3⟩ : ∃ l : Int, l = l2 - (n3 : Int) := ⟨_, rfl⟩
  simp only [← hl3] at C3
  have d3 : decide (l3 < 0) = false := decide_eq_false (by omega)
  have hE : (if ((n1 + (n2 + n3) : Nat) : Int) ≤ left then left - ((n1 + (n2 + n3) : Nat) : Int) else -1) = l3 := by
    have := Q1.out; have := Q2.out
    rw [if_pos (by omega)]; omega
  rw [hE]
  clear hE k1 k2 k3 hl hl3
  go_enter Try.func42, Try.ntmps42
  go_wp2_with fail
  go_at_call 86
  refine C1.out.mono ?_
  rintro e w2 ⟨rfl, hb1⟩
  have HB2 := Lib.hid (hb.out.trans (hb1.mono hb.out.size))
  have G2 := Lib.hid (blk_in hH.out hb1)
  clear hb1
  obtain ⟨c0, c1, c2, c3⟩ := cells4s G2.out
  have lg := lt_of G2.out
  go_wp2_with fail
  go_at_call 16
  refine (C2.out _ HB2.out).mono ?_
  rintro e w3 ⟨rfl, hb1⟩
  have HB3 := Lib.hid (HB2.out.trans (hb1.mono HB2.out.size))
  have G3 := Lib.hid (blk_in G2.out hb1)
  clear hb1 c0 c1 c2 c3 lg
  obtain ⟨c0, c1, c2, c3⟩ := cells4s G3.out
  have lg := lt_of G3.out
  go_wp2_with fail
  go_at_call 16
  refine (C3.out _ HB3.out).mono ?_
  rintro e w4 ⟨rfl, hb1⟩
  have HB4 := Lib.hid (HB3.out.trans (hb1.mono HB3.out.size))
  clear hb1
  go_wp2_with fail
  go_ret
  exact ⟨rfl, HB4.out⟩

def stS (s : Stt) : Nat := sumA s.acts + sumT s.queues + sumT s.sent
theorem sumT_le_R (xss : List (List Int)) : sumT xss ≤ sumR xss := by have := sumT_R xss; omega
set_option maxRecDepth 100000 in
set_option maxHeartbeats 1600000 in
theorem markSt_h (lo hi : Nat) (v : Value) (s : Stt) (k : Int) (w : World) (h : StH lo hi w v s) (hk0 : 0 ≤ k) (hk : k + 4 * (szS s : Nat) ≤ 1000000000) :
    Calls Try.prog 40 #[v, .int .i64 k] w fun e w' => e = .returned (.int .i64 (k + (stS s : Nat))) ∧ Out lo hi w w' := by
  obtain ⟨m1, m2, c, d, f, rfl, l1, l2, l3, hp, hq, hr, hw⟩ := h
  obtain ⟨acs, qs, rs, st⟩ := s
  simp only [] at hp hq hr
  have hs : stS ⟨acs, qs, rs, st⟩ = sumA acs + sumT qs + sumT rs := rfl
  have hz : szS ⟨acs, qs, rs, st⟩ = sumA acs + (sumR qs + sumR rs) := rfl
  rw [hz] at hk
  rw [hs]
  have HP := Lib.hid hp
  have HQ := Lib.hid hq
  have HR := Lib.hid hr
  have HL := Lib.hid (And.intro l1 (And.intro l2 l3))
  have HW := Lib.hid hw
  have HK := Lib.hid hk
  have HK0 := Lib.hid hk0
  have T1 := Lib.hid (sumT_le_R qs)
  have T2 := Lib.hid (sumT_le_R rs)
  obtain ⟨n1, h1⟩ : ∃ z, z = sumA acs := ⟨_, rfl⟩
  obtain ⟨n2, h2⟩ : ∃ z, z = sumT qs := ⟨_, rfl⟩
  obtain ⟨n3, h3⟩ : ∃ z, z = sumT rs := ⟨_, rfl⟩
  rw [← h1, ← h2, ← h3]
  have N1 := Lib.hid h1
  have N2 := Lib.hid h2
  have N3 := Lib.hid h3
  clear hp hq hr hs hz l1 l2 l3 hw h1 h2 h3 hk hk0
  have hb := Lib.hid ((Below.refl w.heap.size w).al (.cells #[c, d, f, .int .i64 st] 53))
  have hH := Lib.hid (hp1 w (.cells #[c, d, f, .int .i64 st] 53))
  go_enter Try.func40, Try.ntmps40
  go_wp2_with fail
  go_at_call 84
  refine (markAc_any lo m1 c acs k _ (HP.out.below hb.out) HK0.out (by have := HK.out; omega)).mono ?_
  rintro e w2 ⟨rfl, _, hO⟩
  rw [← N1.out]
  have HQ2 := Lib.hid ((HQ.out.below hb.out).out hO (.inr (Nat.le_refl _)))
  have HR2 := Lib.hid ((HR.out.below hb.out).out hO (.inr HL.out.2.1))
  have G2 := Lib.hid (hO.blk hH.out (.inr (by have := HL.out; have := HW.out; omega)))
  have HO2 := Lib.hid (((Out.refl lo hi w).al (.cells #[c, d, f, .int .i64 st] 53)).trans (hO.mono (Nat.le_refl _) (by have := HL.out; omega)))
  have HSZ2 := Lib.hid (show w.heap.size + 1 ≤ w2.heap.size by have := hO.size; simp at this; omega)
  clear hO
  obtain ⟨c0, c1, c2, c3⟩ := cells4s G2.out
  have lg := lt_of G2.out
  go_wp2_with fail
  go_at_call 24
  refine (markSS_h m1 m2 d qs (k + (n1 : Int)) _ HQ2.out (by have := HK0.out; omega) (by have := HK.out; have := N1.out; omega)).mono ?_
  rintro e w3 ⟨rfl, _, hO⟩
  rw [← N2.out]
  have HR3 := Lib.hid (HR2.out.out hO (.inr (Nat.le_refl _)))
  have G3 := Lib.hid (hO.blk G2.out (.inr (by have := HL.out; have := HW.out; omega)))
  have HO3 := Lib.hid (HO2.out.trans (hO.mono HL.out.1 (by have := HL.out; omega)))
  clear hO c0 c1 c2 c3 lg
  obtain ⟨c0, c1, c2, c3⟩ := cells4s G3.out
  have lg := lt_of G3.out
  go_wp2_with fail
  go_at_call 24
  refine (markSS_h m2 hi f rs (k + (n1 : Int) + (n2 : Int)) _ HR3.out (by have := HK0.out; omega) (by have := HK.out; have := N1.out; have := N2.out; have := T1.out; omega)).mono ?_
  rintro e w4 ⟨rfl, _, hO⟩
  rw [← N3.out]
  have HO4 := Lib.hid (HO3.out.trans (hO.mono (by have := HL.out; omega) (Nat.le_refl _)))
  clear hO
  go_wp2_with fail
  go_ret
  refine ⟨?_, HO4.out⟩
  rw [show k + (n1 : Int) + (n2 : Int) + (n3 : Int) = k + ((n1 + n2 + n3 : Nat) : Int) by omega]
  rfl
end Go.Proofs.Ytjphamgkigekkaa
