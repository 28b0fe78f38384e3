/-
  PermuteNetwork of the model. No statement of the seat is proved here.
-/
import Derived.Test.YtmfagmfclehdbaaNetPI
import Derived.Deep.CutRange
namespace Go.Proofs.Ytmfagmfclehdbaa
open Go.RowKit

def pK (ps pp : List Prg) (k : Nat) : List Prg := pp.take k ++ ps.drop k
theorem pK_at {ps pp : List Prg} {k : Nat} (hl : k ≤ pp.length) : (pK ps pp k)[k]? = ps[k]? := by
  unfold pK
  rw [List.getElem?_append_right (by rw [List.length_take]; omega), List.length_take, Nat.min_eq_left hl, Nat.sub_self, List.getElem?_drop, Nat.add_zero]
theorem pK_set {ps pp : List Prg} {k : Nat} {a : Prg} (ha : pp[k]? = some a) (hk : k < ps.length) : (pK ps pp k).set k a = pK ps pp (k + 1) := by
  have hp := (List.getElem?_eq_some_iff.1 ha).1
  unfold pK
  rw [List.set_append_right _ _ (by rw [List.length_take]; omega), List.take_succ_eq_append_getElem hp, (List.getElem?_eq_some_iff.1 ha).2, List.append_assoc]
  congr 1
  rw [List.length_take, Nat.min_eq_left (Nat.le_of_lt hp), Nat.sub_self, List.drop_eq_getElem_cons hk]
  rfl
def PermK (lo hi k : Nat) (w : World) (v : Value) (ps pp : List Prg) : Prop := ∃ us rest, us.length = k ∧ VP lo hi w v (us ++ rest) (pK ps pp k) ∧ FamI lo w us ((pp.take k).map Prg.code)
theorem PermK.step {lo hi k b m PB c : Nat} {w : World} {x a : Prg} {ps pp : List Prg} {us rest : List Value} {u : Value} (hk : us.length = k) (hv : VP lo hi w (.slice (some ⟨PB, 0, none⟩) m c) (us ++ rest) (pK ps pp k)) (hF : FamI lo w us ((pp.take k).map Prg.code)) (hx : (pK ps pp k)[k]? = some x) (hxl : k < ps.length) (ha : pp[k]? = some a)
    (ho : OwnI b w u a.code) (hlo : lo ≤ b) (hb : ∀ y ∈ us, ∀ q, y.ownBlock = some q → q < b) (ht : Typed w PB 65) : PermK lo hi (k + 1) (((w.setCell ⟨PB, k * 3, none⟩ (.int .i64 a.ins)).setCell ⟨PB, k * 3 + 1, none⟩ (.int .i64 a.outs)).setCell ⟨PB, k * 3 + 2, none⟩ u) (.slice (some ⟨PB, 0, none⟩) m c) ps pp := by
  have hkl := (List.getElem?_eq_some_iff.1 hx).1
  have hal := (List.getElem?_eq_some_iff.1 ha).1
  have hl := hv.len
  have e : pp.take (k + 1) = pp.take k ++ [a] := by rw [List.take_succ_eq_append_getElem hal, (List.getElem?_eq_some_iff.1 ha).2]
  have v1 := hv.set0 hx a.ins
  have v2 := v1.set1 (List.getElem?_set_self hkl) a.outs
  rw [List.set_set] at v2
  have v3 := v2.set2 (List.getElem?_set_self hkl) u
  have v4 := VP.row (y := a) v3 (List.getElem?_set_self hkl) ⟨rfl, rfl⟩
  rw [app_set hk (by omega), pK_set ha hxl] at v4
  refine ⟨us ++ [u], rest.drop 1, by simp [hk], v4, ?_⟩
  rw [e, List.map_append]
  refine hF.snoc (fun y ys q => row_setTP (row_setTP (row_setTP q ht (by decide) _) (ht.setCell _ _) (by decide) _) ((ht.setCell _ _).setCell _ _) (by decide) _) (row_setTP (row_setTP (row_setTP (row_mono ho hlo) ht (by decide) _) (ht.setCell _ _) (by decide) _) ((ht.setCell _ _).setCell _ _) (by decide) _) (fun y ys q hy => ?_)
  cases q1 : y.ownBlock with
  | none => exact .inl q1
  | some d =>
    right
    rw [q1]
    intro q2
    have := hb y hy d q1
    have := (World.ownsRow.lt ho d q2.symm).1
    omega
theorem PermK.done {lo hi k : Nat} {w : World} {v : Value} {ps pp : List Prg} (h : PermK lo hi k w v ps pp) (hk : ps.length = k) (hp : pp.length = k) (hh : hi ≤ w.heap.size) : PrgsR lo w.heap.size w v pp := by
  obtain ⟨us, rest, hu, hv, hF⟩ := h
  have hl := hv.len
  have e : pK ps pp k = pp := by unfold pK; rw [List.take_of_length_le (by omega), List.drop_of_length_le (by omega), List.append_nil]
  rw [e] at hv hl
  rw [List.length_append] at hl
  obtain rfl : rest = [] := List.eq_nil_of_length_eq_zero (by omega)
  rw [List.append_nil] at hv
  rw [List.take_of_length_le (by omega)] at hF
  exact ⟨us, hv.mono (Nat.le_refl _) hh, hF, fam_hiI hF⟩
theorem frm_of {n : Net} (h : okN n = true) {l : Lnk} (hl : l ∈ n.links) : (l.src = outE ∧ l.frm = -1 ∨ l.src ≠ outE ∧ 0 ≤ l.frm ∧ l.frm < (n.progs.length : Int)) ∧ (l.tgt = outE ∧ l.to = -1 ∨ l.tgt ≠ outE ∧ 0 ≤ l.to ∧ l.to < (n.progs.length : Int)) := by
  obtain ⟨_, h2, _, _⟩ := (okN_iff n).1 h
  have hs := (h2 l hl).2.1
  have ht := (h2 l hl).2.2
  have e1 : l.tgt.1 = l.to := rfl
  have e2 : l.src.1 = l.frm := rfl
  constructor
  · by_cases e : l.src = outE
    · exact .inl ⟨e, by rw [← e2, e]; rfl⟩
    · rcases hs with q | q
      · exact absurd q e
      · obtain ⟨i, x, h1, h3, _⟩ := mem_ports.1 q
        have := (List.getElem?_eq_some_iff.1 h1).1
        exact .inr ⟨e, by omega, by omega⟩
  · by_cases e : l.tgt = outE
    · exact .inl ⟨e, by rw [← e1, e]; rfl⟩
    · rcases ht with q | q
      · exact absurd q e
      · obtain ⟨i, x, h1, h3, _⟩ := mem_ports.1 q
        have := (List.getElem?_eq_some_iff.1 h1).1
        exact .inr ⟨e, by omega, by omega⟩
theorem sperm_szN {n : Net} (h : szN n ≤ 1048576) : n.progs.length ≤ 1048576 := by unfold szN at h; omega
theorem pos_of {n : Net} (h : okN n = true) {l : Lnk} (hl : l ∈ n.links) : 0 < n.progs.length := by
  obtain ⟨hs, ht⟩ := frm_of h hl
  rcases hs with ⟨a, _⟩ | ⟨_, _, _⟩
  · rcases ht with ⟨b, _⟩ | ⟨_, _, _⟩
    · exfalso
      have q := ((okN_iff n).1 h).2.1 l hl |>.1
      unfold linkL at q
      rw [Bool.and_eq_true] at q
      exact absurd q.2 (by simp [a, b])
    · omega
  · omega
theorem Own.at2 {lo n c : Nat} {w : World} {a : Option Addr} {xs : List Int} (h : Own lo w (.slice a n c) xs) (hx : 0 < xs.length) : ∃ b, a = some ⟨b, 0, none⟩ ∧ b < w.heap.size := by
  rcases h.2 with ⟨_, e⟩ | ⟨g, cap, cur, e, _, hg, _⟩
  · omega
  · simp only [Value.slice.injEq] at e
    exact ⟨g, e.1, lt_of hg⟩
theorem Own.cell3 {lo b n c j : Nat} {w : World} {xs : List Int} {y : Int} (h : Own lo w (.slice (some ⟨b, 0, none⟩) n c) xs) (hy : xs[j]? = some y) : w.cell? ⟨b, j, none⟩ = some (.int .i64 y) := by
  have hj := (List.getElem?_eq_some_iff.1 hy).1
  have e : n = xs.length := by
    rcases h.2 with ⟨e, _⟩ | ⟨g, cap, cur, e, _⟩
    · cases e
    · simp only [Value.slice.injEq] at e
      exact e.2.1
  subst e
  have q := World.ownsRow.cellAt h j (by omega)
  rw [q]
  unfold vals
  rw [List.getElem?_map, hy]
  rfl

set_option maxRecDepth 100000 in
set_option maxHeartbeats 16000000 in
theorem sperm_any (v : Value) (n : Net) (u : Value) (xs : List Int) (w : World) (h : NetV w v n) (hu : Sl w u xs) (hm : n.progs.length ≤ 1048576) :
    Calls Try.prog 37 #[v, u] w fun e w' => ∃ r, e = .returned (.tuple #[r, .bool (permB n xs)]) ∧ NetR w.heap.size w'.heap.size w' r (permuteNetworkR0 n xs) ∧ Below w.heap.size w w' := by
  have CN := Lib.hid (fun (W : World) (hw : Below w.heap.size w W) => sisnet_any v n W (h.below hw))
  have CC := Lib.hid (fun (W : World) (hw : Below w.heap.size w W) (hok : okN n = true) => sl3copy_any v n W (h.below hw) (ok_small hok))
  have HWF := Lib.hid h.wf
  obtain ⟨pv, lv, rfl, hp, hl⟩ := h
  have HP := Lib.hid hp
  have HL := Lib.hid hl
  have HU := Lib.hid hu
  obtain ⟨la, lcap, rfl⟩ := hl.shape
  obtain ⟨pa, pcap, rfl⟩ := hp.shape
  obtain ⟨oa, oc, rfl⟩ := hu.shape
  obtain ⟨m, hmm⟩ : ∃ m, m = n.progs.length := ⟨_, rfl⟩
  obtain ⟨ll, hll⟩ : ∃ m, m = n.links.length := ⟨_, rfl⟩
  obtain ⟨ol, hol⟩ : ∃ m, m = xs.length := ⟨_, rfl⟩
  rw [← hmm, ← hll] at CN CC ⊢
  rw [← hol] at HU ⊢
  rw [← hmm] at HP hm
  rw [← hll] at HL
  have NP := Lib.hid hmm
  have NL := Lib.hid hll
  have NO := Lib.hid hol
  clear hp hl hu hmm hll hol
  obtain ⟨R0, hR0⟩ : ∃ R, R = permuteNetworkR0 n xs := ⟨_, rfl⟩
  obtain ⟨R1, hR1⟩ : ∃ R, R = permB n xs := ⟨_, rfl⟩
  rw [← hR0, ← hR1]
  have HNO := Lib.hid (show permB n xs = false → R1 = false ∧ R0 = ⟨[], []⟩ from fun e => ⟨hR1.trans e, hR0.trans (perm_no e)⟩)
  have HYES := Lib.hid (show permB n xs = true → R1 = true ∧ R0 = permN n xs from fun e => ⟨hR1.trans e, hR0.trans (perm_yes e)⟩)
  clear hR0 hR1
  go_enter Try.func37, Try.ntmps37
  go_upto_region 1 with fail
  generalize hW : (w.alloc (.cells #[.slice pa m pcap, .slice la ll lcap] 35)).alloc (.cells #[.slice none 0 0, .slice none 0 0] 35) = w1
  have HW1 := Lib.hid (show w.heap.size + 2 = w1.heap.size by rw [← hW]; simp)
  have N1 := Lib.hid (show w1.heap[w.heap.size]? = some (.cells #[.slice pa m pcap, .slice la ll lcap] 35) by rw [← hW]; exact hp21 w _ _)
  have J1 := Lib.hid (show w1.heap[w.heap.size + 1]? = some (.cells #[.slice none 0 0, .slice none 0 0] 35) by rw [← hW]; exact hp2 w _ _)
  have hb := Lib.hid (show Below w.heap.size w w1 by rw [← hW]; exact (((Below.refl _ _).al _).al _))
  clear hW
  obtain ⟨k0, k1⟩ := cells2 N1.out
  have gl := lt_of N1.out
  have CI := fun (W : World) (hw : Below w1.heap.size w1 W) => sinv_any m (.slice oa ol oc) xs W (HU.out.below (hb.out.trans (hw.mono hb.out.size))) hm
  cases hs : isOrdB m xs with
  | false =>
    obtain ⟨rfl, rfl⟩ := HNO.out (by unfold permB; rw [← NP.out, hs, Bool.and_false])
    have CIf := Lib.hid (fun (W : World) (hw : Below w1.heap.size w1 W) => (show Calls Try.prog 82 #[.slice oa ol oc, .int .i64 m] W fun e w' => ∃ r, e = .returned (.tuple #[r, .bool false]) ∧ Below W.heap.size W w' from (CI W hw).mono fun e w' ⟨r, h1, _, _, h4⟩ => ⟨r, by rw [h1, hs], h4⟩))
    clear CI hs
    go_wp2_with (go_at_call 82; with_reducible refine (CIf.out _ (Below.refl _ _)).mono ?_; rintro e w2 ⟨r, rfl, hb2⟩; have HB2 := Lib.hid (hb.out.trans (hb2.mono hb.out.size)); have N2 := Lib.hid (blk_in N1.out hb2); have J2 := Lib.hid (blk_in J1.out hb2); clear hb2; clear k0 k1 gl; obtain ⟨k0, k1⟩ := cells2 N2.out; have gl := lt_of N2.out; obtain ⟨r0, r1⟩ := cells2 J2.out; have rl := lt_of J2.out; have rz0 := fr_of J2.out 0; have rz1 := fr_of J2.out 1)
    refine bodyPost_ret (v := .tuple #[.agg #[.slice none 0 0, .slice none 0 0], .bool false]) (by simp [results, Try.results37, go_sem, r0, r1]) rfl ⟨_, rfl, netR_nil _ _ _, ?_⟩
    first | exact HB2.out | exact (HB2.out.setCell (by simp) _).setCell (by simp) _
  | true =>
    have CIt := Lib.hid (fun (W : World) (hw : Below w1.heap.size w1 W) => (show Calls Try.prog 82 #[.slice oa ol oc, .int .i64 m] W fun e w' => ∃ ia ic, e = .returned (.tuple #[.slice ia m ic, .bool true]) ∧ Own W.heap.size w' (.slice ia m ic) (oL m xs m) ∧ Below W.heap.size W w' from (CI W hw).mono fun e w' ⟨r, h1, h2, h3, h4⟩ => by
      obtain ⟨a, c, hr⟩ := h3
      rw [hs] at h1 hr
      simp only [if_true] at hr
      subst hr
      exact ⟨a, c, h1, h2 hs, h4⟩))
    have HS0 := Lib.hid hs
    clear CI hs
    cases ho : okN n with
    | false =>
      obtain ⟨rfl, rfl⟩ := HNO.out (by unfold permB; rw [ho]; rfl)
      rw [ho] at CN
      clear ho HYES HNO
      go_wp2_with (first | (go_at_call 53; with_reducible refine (CN.out _ HB2.out).mono ?_; rintro e w3 ⟨rfl, hb3⟩; have HAT3 := Lib.hid (HAT2.out.below hb3); have HB3 := Lib.hid (HB2.out.trans (hb3.mono HB2.out.size)); have HZ3 := Lib.hid (show w1.heap.size ≤ w3.heap.size from Nat.le_trans HZ2.out hb3.size); have N3 := Lib.hid (blk_in N2.out hb3); have J3 := Lib.hid (blk_in J2.out hb3); clear hb3 r0 r1 rl rz0 rz1; clear k0 k1 gl; obtain ⟨k0, k1⟩ := cells2 N3.out; have gl := lt_of N3.out; obtain ⟨r0, r1⟩ := cells2 J3.out; have rl := lt_of J3.out; have rz0 := fr_of J3.out 0; have rz1 := fr_of J3.out 1) | (go_at_call 82; with_reducible refine (CIt.out _ (Below.refl _ _)).mono ?_; rintro e w2 ⟨ia, ic, rfl, hat, hb2⟩; have HAT2 := Lib.hid hat; have HB2 := Lib.hid (hb.out.trans (hb2.mono hb.out.size)); have HZ2 := Lib.hid (show w1.heap.size ≤ w2.heap.size from hb2.size); have N2 := Lib.hid (blk_in N1.out hb2); have J2 := Lib.hid (blk_in J1.out hb2); clear hb2 hat; clear k0 k1 gl; obtain ⟨k0, k1⟩ := cells2 N2.out; have gl := lt_of N2.out; obtain ⟨r0, r1⟩ := cells2 J2.out; have rl := lt_of J2.out; have rz0 := fr_of J2.out 0; have rz1 := fr_of J2.out 1))
      refine bodyPost_ret (v := .tuple #[.agg #[.slice none 0 0, .slice none 0 0], .bool false]) (by simp [results, Try.results37, go_sem, r0, r1]) rfl ⟨_, rfl, netR_nil _ _ _, ?_⟩
      first | exact HB3.out | exact (HB3.out.setCell (by simp) _).setCell (by simp) _
    | true =>
      obtain ⟨rfl, rfl⟩ := HYES.out (by unfold permB; rw [ho, ← NP.out, HS0.out]; rfl)
      rw [ho] at CN
      have HOK := Lib.hid ho
      have hlm : m = ol := by rw [NO.out]; exact (isOrd_len HS0.out).symm
      subst hlm
      have HRG := Lib.hid (isOrd_rng HS0.out)
      have hm12 : m ≤ 12 := by rw [NP.out]; exact (okN_len ho).1
      have hll30 : ll ≤ 30 := by rw [NL.out]; exact (okN_len ho).2.1
      have HPL := Lib.hid (show (permP n.progs xs).length = m by unfold permP; rw [List.length_map]; exact NO.out.symm)
      clear ho HYES HNO
      go_upto_region 5 with (first | (go_at_call 70; (with_reducible refine (CC.out _ HB3.out HOK.out).mono ?_); rintro e w4 ⟨r, rfl, hN, hb4⟩; have HAT4 := Lib.hid (HAT3.out.below hb4); have HB4 := Lib.hid (HB3.out.trans (hb4.mono HB3.out.size)); have HZ4 := Lib.hid (show w3.heap.size ≤ w4.heap.size from hb4.size); have N4 := Lib.hid (blk_in N3.out hb4); have J4 := Lib.hid (blk_in J3.out hb4); obtain ⟨pv', lv', rfl, hP, hL, hwf⟩ := hN; have HPR := Lib.hid hP; have HLR := Lib.hid hL; obtain ⟨ca, cb, rfl⟩ := hP.shape; obtain ⟨cc, cd, rfl⟩ := hL.shape; rw [← NP.out] at HPR; rw [← NL.out] at HLR; rw [← NP.out, ← NL.out]; clear hb4 hP hL hwf r0 r1 rl rz0 rz1; clear k0 k1 gl; obtain ⟨k0, k1⟩ := cells2 N4.out; have gl := lt_of N4.out; obtain ⟨r0, r1⟩ := cells2 J4.out; have rl := lt_of J4.out; have rz0 := fr_of J4.out 0; have rz1 := fr_of J4.out 1) | (go_at_call 53; with_reducible refine (CN.out _ HB2.out).mono ?_; rintro e w3 ⟨rfl, hb3⟩; have HAT3 := Lib.hid (HAT2.out.below hb3); have HB3 := Lib.hid (HB2.out.trans (hb3.mono HB2.out.size)); have HZ3 := Lib.hid (show w1.heap.size ≤ w3.heap.size from Nat.le_trans HZ2.out hb3.size); have N3 := Lib.hid (blk_in N2.out hb3); have J3 := Lib.hid (blk_in J2.out hb3); clear hb3 r0 r1 rl rz0 rz1; clear k0 k1 gl; obtain ⟨k0, k1⟩ := cells2 N3.out; have gl := lt_of N3.out; obtain ⟨r0, r1⟩ := cells2 J3.out; have rl := lt_of J3.out; have rz0 := fr_of J3.out 0; have rz1 := fr_of J3.out 1) | (go_at_call 82; with_reducible refine (CIt.out _ (Below.refl _ _)).mono ?_; rintro e w2 ⟨ia, ic, rfl, hat, hb2⟩; have HAT2 := Lib.hid hat; have HB2 := Lib.hid (hb.out.trans (hb2.mono hb.out.size)); have HZ2 := Lib.hid (show w1.heap.size ≤ w2.heap.size from hb2.size); have N2 := Lib.hid (blk_in N1.out hb2); have J2 := Lib.hid (blk_in J1.out hb2); clear hb2 hat; clear k0 k1 gl; obtain ⟨k0, k1⟩ := cells2 N2.out; have gl := lt_of N2.out; obtain ⟨r0, r1⟩ := cells2 J2.out; have rl := lt_of J2.out; have rz0 := fr_of J2.out 0; have rz1 := fr_of J2.out 1))
      generalize hW : w4.alloc (.cells #[.slice ca m cb, .slice cc ll cd] 35) = W5
      have HC5 := Lib.hid (show Below w4.heap.size w4 W5 by rw [← hW]; exact (Below.refl _ _).al _)
      obtain ⟨B, hB⟩ : ∃ B, B = w4.heap.size := ⟨_, rfl⟩
      have B5 := Lib.hid (show W5.heap[B]? = some (.cells #[.slice ca m cb, .slice cc ll cd] 35) by rw [← hW, hB]; exact hp1 _ _)
      rw [← hB]
      have HB0 := Lib.hid hB
      clear hW hB
      have HB5 := Lib.hid (HB4.out.trans (HC5.out.mono HB4.out.size))
      have N5 := Lib.hid (blk_in N4.out HC5.out)
      have J5 := Lib.hid (blk_in J4.out HC5.out)
      have A5 := Lib.hid (HAT4.out.below HC5.out)
      have L5 := Lib.hid (HLR.out.below HC5.out)
      obtain ⟨us0, hv0, _, _⟩ := HPR.out.below HC5.out
      have HV0 := Lib.hid hv0
      clear hv0 k0 k1 gl
      go_wp2_with fail
      go_loopw [33] (fun i wr => ∃ (k : Nat), k ≤ m ∧ i = .int .i64 k ∧ Hid (PermK w3.heap.size w4.heap.size k wr (.slice ca m cb) n.progs (permP n.progs xs)) ∧ Hid (OutT 65 65 w3.heap.size w4.heap.size W5 wr)) (fun i _ => m - (intOf i).toNat)
      case atStart => exact ⟨0, Nat.zero_le _, rfl, Lib.hid ⟨[], us0, rfl, by simpa [pK] using HV0.out, ⟨rfl, fun i u x h => by simp at h, fun i j u v h => by simp at h⟩⟩, Lib.hid (OutT.refl _ _ _ _ _)⟩
      case round =>
        obtain ⟨k, hk, rfl, HG, HO⟩ := hrel
        have HBW := Lib.hid (HO.out.out.below HB5.out HB5.out.size HB3.out.size)
        have BW := Lib.hid (HO.out.out.blk B5.out (.inr (by have := HB0.out; omega)))
        have NW := Lib.hid (HO.out.out.blk N5.out (.inl (by have := HW1.out; have := HZ3.out; omega)))
        have JW := Lib.hid (HO.out.out.blk J5.out (.inl (by have := HW1.out; have := HZ3.out; omega)))
        by_cases hlt : k < m
        case pos =>
          obtain ⟨y, hy⟩ : ∃ y, xs[k]? = some y := ⟨_, List.getElem?_eq_getElem (by rw [← NO.out]; exact hlt)⟩
          have hyr := HRG.out y (List.mem_of_getElem? hy)
          obtain ⟨yy, rfl⟩ : ∃ yy : Nat, y = yy := ⟨y.toNat, by omega⟩
          have hyl : yy < m := by omega
          obtain ⟨x, hx⟩ : ∃ x, n.progs[yy]? = some x := ⟨_, List.getElem?_eq_getElem (by rw [← NP.out]; exact hyl)⟩
          obtain ⟨xold, hxo⟩ : ∃ x, n.progs[k]? = some x := ⟨_, List.getElem?_eq_getElem (by rw [← NP.out]; exact hlt)⟩
          have HX := Lib.hid (permP_at hy hx)
          have HXO := Lib.hid (show (pK n.progs (permP n.progs xs) k)[k]? = some xold by rw [pK_at (by rw [HPL.out]; omega)]; exact hxo)
          have HCL := Lib.hid ((ok_small HOK.out).2.1 x (List.mem_of_getElem? hx))
          obtain ⟨ob, off, rfl, hob, e0⟩ := (HU.out.below HBW.out).atb hy
          obtain ⟨gb, go, pcv, rfl, hgb, f0, f1, f2, es⟩ := (HP.out.below HBW.out).atb hx
          obtain ⟨gb', go', pcv', hpe', hgb', _, _, _, _⟩ := HP.out.atb hx
          simp only [Option.some.injEq, Addr.mk.injEq, and_true] at hpe'
          have hgw : gb < w.heap.size := by rw [hpe'.1]; exact hgb'
          clear hpe' hgb'
          clear hy hx hxo hyr
          obtain ⟨x0, x1, row⟩ := x
          simp only [] at f0 f1 f2 es HCL
          have ES := Lib.hid es
          obtain ⟨ua, uc, rfl⟩ := es.shape
          have CA := Lib.hid (fun (W : World) (hw : Below wr.heap.size wr W) => sl3prog_any x0 x1 (.slice ua row.length uc) row W (ES.out.below hw) (by have := HCL.out; omega))
          obtain ⟨ul, hul⟩ : ∃ q, q = row.length := ⟨_, rfl⟩
          rw [← hul] at f2 CA
          clear hul es ES
          obtain ⟨us, rest, hku, hv1, hF1⟩ := HG.out
          have hvl := hv1.len
          obtain ⟨u0, hu0⟩ : ∃ u0, (us ++ rest)[k]? = some u0 := ⟨_, List.getElem?_eq_getElem (by have := (List.getElem?_eq_some_iff.1 HXO.out).1; omega)⟩
          obtain ⟨PB, pcx, hpe, hpb1, hpb2, _, _, _, _⟩ := hv1.at hu0 HXO.out
          simp only [Value.slice.injEq] at hpe
          obtain ⟨rfl, hlen, rfl⟩ := hpe
          have HPB := Lib.hid (And.intro hpb1 hpb2)
          have HV1 := Lib.hid hv1
          have HF1 := Lib.hid hF1
          have HUB := Lib.hid (fam_hiI hF1)
          have HKU := Lib.hid hku
          clear hv1 hF1 hvl hlen hpb1 hpb2 hku
          obtain ⟨k0, k1⟩ := cells2 NW.out
          have gl := lt_of NW.out
          obtain ⟨b0, b1⟩ := cells2 BW.out
          have bl := lt_of BW.out
          have nn1 : ¬ PB = B := by have := HPB.out; have := HB0.out; omega
          have nn2 : ¬ B = PB := fun e => nn1 e.symm
          have nn3 : ¬ PB = gb := by have := HPB.out; have := HW1.out; have := HZ3.out; omega
          have nn4 : ¬ gb = PB := fun e => nn3 e.symm
          have nn5 : ¬ PB = w.heap.size := by have := HPB.out; have := HW1.out; have := HZ3.out; omega
          have nn6 : ¬ w.heap.size = PB := fun e => nn5 e.symm
          have ik1 : (0 : Int) ≤ (k : Int) := by omega
          have ik2 : (k : Int) < (m : Int) := by omega
          have iy1 : (0 : Int) ≤ (yy : Int) := by omega
          have iy2 : (yy : Int) < (m : Int) := by omega
          go_upto_region 8 with fail
          refine wp_open' ?_
          intro K9 hK9
          go_cut [33] from 33 to 48 (fun i wz => i = .int .i64 k ∧ Hid (PermK w3.heap.size w4.heap.size (k + 1) wz (.slice (some ⟨PB, 0, none⟩) m cb) n.progs (permP n.progs xs)) ∧ Hid (OutT 65 65 w3.heap.size w4.heap.size W5 wz))
          case first =>
            go_region_held3 (fun w' => w'.cell? ⟨B, 0, none⟩ = some (.slice (some ⟨PB, 0, none⟩) m cb) ∧ w'.cell? ⟨w.heap.size, 0, none⟩ = some (.slice (some ⟨gb, go, none⟩) m pcap) ∧ w'.cell? ⟨gb, go + yy * 3, none⟩ = some (.int .i64 x0) ∧ w'.cell? ⟨gb, go + yy * 3 + 1, none⟩ = some (.int .i64 x1) ∧ w'.cell? ⟨gb, go + yy * 3 + 2, none⟩ = some (.slice ua ul uc)) (go_keep) (first | (go_at_call 76; refine (CA.out _ (by first | with_reducible exact Below.refl _ _ | with_reducible exact (Below.refl _ _).drew)).mono ?_; rintro e W5 ⟨c5, rfl, o5, hb5⟩; have hs5 := Lib.hid (show Below wr.heap.size wr W5 by first | with_reducible exact hb5 | with_reducible exact cr_d hb5); have O5 := Lib.hid (OwnI.mono (lo' := wr.heap.size) o5 (by first | exact Nat.le_refl _ | simp)); have B5 := Lib.hid (blk_in BW.out hs5.out); have N5 := Lib.hid (blk_in NW.out hs5.out); obtain ⟨y0, y1⟩ := cells2 B5.out; have yl := lt_of B5.out; obtain ⟨q0, q1⟩ := cells2 N5.out; have ql := lt_of N5.out; have h0 := (hs5.out.cell (p := ⟨gb, go + yy * 3, none⟩) hgb).trans f0; have h1 := (hs5.out.cell (p := ⟨gb, go + yy * 3 + 1, none⟩) hgb).trans f1; have h2 := (hs5.out.cell (p := ⟨gb, go + yy * 3 + 2, none⟩) hgb).trans f2; have V5 := Lib.hid (HV1.out.keep (w' := W5) (fun B cur _ _ q => blk_in q hs5.out)); obtain ⟨PB', pcx, hpe, _, _, hpl, hpt, hpf, t0, t1, t2⟩ := V5.out.at hu0 HXO.out; simp only [Value.slice.injEq, Option.some.injEq, Addr.mk.injEq, and_true] at hpe; obtain ⟨rfl, hml, rfl⟩ := hpe; clear hml; have HPT := Lib.hid hpt; have g0 := hpf (k * 3); have g1 := hpf (k * 3 + 1); have g2 := hpf (k * 3 + 2); clear hpt hpf; obtain ⟨xa5, xc5, rfl⟩ := O5.out.shape; clear o5 hb5))
            all_goals (
              go_wp2_with fail
              go_meet
              case rel =>
                refine ⟨rfl, Lib.hid ?_, Lib.hid ?_⟩
                · exact PermK.step (a := ⟨x0, x1, row⟩) (b := wr.heap.size) HKU.out V5.out (HF1.out.below hs5.out) HXO.out (by rw [← NP.out]; exact hlt) HX.out O5.out (Nat.le_trans HZ4.out (Nat.le_trans HC5.out.size HO.out.out.size)) HUB.out HPT.out
                · exact ((((HO.out.belowHi hs5.out).setC (p := ⟨PB, k * 3, none⟩) HPB.out.1 HPB.out.2 HPT.out _).setC (p := ⟨PB, k * 3 + 1, none⟩) HPB.out.1 HPB.out.2 (HPT.out.setCell _ _) _).setC (p := ⟨PB, k * 3 + 2, none⟩) HPB.out.1 HPB.out.2 ((HPT.out.setCell _ _).setCell _ _) _))
          case rest =>
            obtain ⟨rfl, HG', HO'⟩ := hcut
            refine hK9 _ _ ?_
            go_wp2_with fail
            go_roundw
            case rel => exact ⟨k + 1, by omega, by go_num, HG', HO'⟩
            case measure => simp [intOf]; omega
        obtain rfl : m = k := by omega
        have HPR2 := Lib.hid (HG.out.done NP.out.symm HPL.out (Nat.le_trans HC5.out.size HO.out.out.size))
        have LR6 := Lib.hid (L5.out.outT HO.out (by decide) (by decide) (by decide) (by decide))
        have A6 := Lib.hid (show Own w1.heap.size wr (.slice ia m ic) (oL m xs m) from row_outT A5.out HO.out (by decide) (by decide))
        have HZ6 := Lib.hid (Nat.le_trans HC5.out.size HO.out.out.size)
        obtain ⟨w6, hw6⟩ : ∃ W, W = wr := ⟨_, rfl⟩
        subst hw6
        have BW6 := Lib.hid BW.out
        have NW6 := Lib.hid NW.out
        have JW6 := Lib.hid JW.out
        have HBW6 := Lib.hid HBW.out
        clear HG HO BW NW JW HBW
        obtain ⟨us, hvl, hFm, h3⟩ := LR6.out
        have HVL := Lib.hid hvl
        have HFM := Lib.hid hFm
        have HUL := Lib.hid hvl.len
        have H3 := Lib.hid h3
        clear hvl hFm h3
        obtain ⟨k0, k1⟩ := cells2 NW6.out
        have gl := lt_of NW6.out
        go_wp2_with fail
        clear k0 k1 gl
        go_loopw [52] (fun i wr => ∃ (k : Nat), k ≤ ll ∧ i = .int .i64 k ∧ Hid (VL w3.heap.size w4.heap.size wr (.slice cc ll cd) us (renK (ixI xs) n.links k)) ∧ Hid (OutT 86 86 w3.heap.size w4.heap.size w6 wr)) (fun i _ => ll - (intOf i).toNat)
        case atStart => exact ⟨0, Nat.zero_le _, rfl, Lib.hid (by simpa [renK] using HVL.out), Lib.hid (OutT.refl _ _ _ _ _)⟩
        case round =>
          obtain ⟨k, hk, rfl, HG, HO⟩ := hrel
          have HBW := Lib.hid (HO.out.out.below HBW6.out HBW6.out.size HB3.out.size)
          have BW := Lib.hid (HO.out.out.blk BW6.out (.inr (by have := HB0.out; omega)))
          have JW := Lib.hid (HO.out.out.blk JW6.out (.inl (by have := HW1.out; have := HZ3.out; omega)))
          have AW := Lib.hid (show Own w1.heap.size wr (.slice ia m ic) (oL m xs m) from row_outT A6.out HO.out (by decide) (by decide))
          by_cases hlt : k < ll
          case pos =>
            obtain ⟨x, hx⟩ : ∃ x, n.links[k]? = some x := ⟨_, List.getElem?_eq_getElem (by rw [← NL.out]; exact hlt)⟩
            obtain ⟨lb, lo', pcv, rfl, hbl, e0, e1, e2, e3, e4, es⟩ := (HL.out.below HBW.out).atb hx
            have HXK := Lib.hid (renK_at (f := ixI xs) hx)
            have HXS := Lib.hid (renK_set (f := ixI xs) hx)
            have HFR := Lib.hid (frm_of HOK.out (List.mem_of_getElem? hx))
            have hmp : 0 < m := by rw [NP.out]; exact pos_of HOK.out (List.mem_of_getElem? hx)
            obtain ⟨u0, hu0⟩ : ∃ u0, us[k]? = some u0 := ⟨_, List.getElem?_eq_getElem (by rw [← HUL.out, ← NL.out]; exact hlt)⟩
            clear hx
            obtain ⟨ib, hia, hib⟩ := HAT3.out.at2 (by rw [oL_len]; exact hmp)
            subst hia
            obtain ⟨xf, xo, xt, xi, row⟩ := x
            simp only [] at e0 e1 e2 e3 e4 es
            obtain ⟨ua, uc, rfl⟩ := es.shape
            obtain ⟨ul, hul⟩ : ∃ q, q = row.length := ⟨_, rfl⟩
            rw [← hul] at e4
            clear hul es
            obtain ⟨k0, k1⟩ := cells2 (HO.out.out.blk NW6.out (.inl (by have := HW1.out; have := HZ3.out; omega)))
            have gl := lt_of (HO.out.out.blk NW6.out (.inl (by have := HW1.out; have := HZ3.out; omega)))
            go_upto_region 13 with fail
            generalize hW : wr.alloc (.cells #[.int .i64 xf, .int .i64 xo, .int .i64 xt, .int .i64 xi, .slice ua ul uc] 86) = W1
            have HC1 := Lib.hid (show Below wr.heap.size wr W1 by rw [← hW]; exact (Below.refl _ _).al _)
            obtain ⟨BX, hBX⟩ : ∃ z, z = wr.heap.size := ⟨_, rfl⟩
            have PX := Lib.hid (show W1.heap[BX]? = some (.cells #[.int .i64 xf, .int .i64 xo, .int .i64 xt, .int .i64 xi, .slice ua ul uc] 86) by rw [← hW, hBX]; exact hp1 _ _)
            have HO1 := Lib.hid (show OutT 86 86 w3.heap.size w4.heap.size w6 W1 by rw [← hW]; exact HO.out.al _)
            rw [← hBX]
            have HBX0 := Lib.hid (show w4.heap.size ≤ BX by rw [hBX]; exact Nat.le_trans HZ6.out HO.out.out.size)
            clear hW hBX e0 e1 e2 e3 e4 k0 k1 gl
            have V1 := Lib.hid (HG.out.keep (w' := W1) (fun B cur _ _ q => blk_in q HC1.out))
            have B1x := Lib.hid (blk_in BW.out HC1.out)
            have AW1 := Lib.hid (AW.out.below HC1.out)
            obtain ⟨LB, cc1, hpe, hpb1, hpb2, hpl, hpt, hpf, e10, _, e12, _, _⟩ := V1.out.at hu0 HXK.out
            simp only [Value.slice.injEq] at hpe
            obtain ⟨rfl, hml, rfl⟩ := hpe
            have g10 := hpf (k * 5)
            have HPT1 := Lib.hid hpt
            have HLB1 := Lib.hid (And.intro hpb1 hpb2)
            have nn1 : ¬ LB = BX := by have := HBX0.out; omega
            have nn2 : ¬ BX = LB := fun e => nn1 e.symm
            have nn3 : ¬ LB = B := by have := HB0.out; omega
            have nn4 : ¬ B = LB := fun e => nn3 e.symm
            have nn5 : ¬ LB = ib := by omega
            have nn6 : ¬ ib = LB := fun e => nn5 e.symm
            clear hml hpt hpf hpb1 hpb2
            have ik1 : (0 : Int) ≤ (k : Int) := by omega
            have ik2 : (k : Int) < (ll : Int) := by omega
            obtain ⟨p10, p11, p12, p13, p14⟩ := cells5 PX.out
            have pl1 := lt_of PX.out
            obtain ⟨b10, b11⟩ := cells2 B1x.out
            have bl1 := lt_of B1x.out
            have il1 := (AW1.out.lt ib rfl).2
            rcases HFR.out.1 with ⟨hin, hfo⟩ | ⟨hin, hfo⟩
            · replace hfo : xf = -1 := hfo
              subst hfo
              go_upto_region 15 with fail
              have HO5 := HO1
              have P5 := PX
              have B5x := B1x
              have AW5 := AW1
              have V5 := Lib.hid (show VL w3.heap.size w4.heap.size W1 (.slice (some ⟨LB, 0, none⟩) ll cd) us ((renK (ixI xs) n.links k).set k ⟨-1, xo, xt, xi, row⟩) by rw [set_same HXK.out]; exact V1.out)
              clear p10 p11 p12 p13 p14 pl1 b10 b11 bl1 g10 e10 e12 hpl il1
              have HXK5 := Lib.hid (show ((renK (ixI xs) n.links k).set k (⟨-1, xo, xt, xi, row⟩))[k]? = some (⟨-1, xo, xt, xi, row⟩ : Lnk) from List.getElem?_set_self (List.getElem?_eq_some_iff.1 HXK.out).1)
              obtain ⟨LB', cc', hpe, _, _, hpl5, hpt, hpf, _, _, e52, _, _⟩ := V5.out.at hu0 HXK5.out
              simp only [Value.slice.injEq, Option.some.injEq, Addr.mk.injEq, and_true] at hpe
              obtain ⟨rfl, hml, rfl⟩ := hpe
              have HPT5 := Lib.hid hpt
              have g52 := hpf (k * 5 + 2)
              clear hml hpt hpf
              obtain ⟨p50, p51, p52, p53, p54⟩ := cells5 P5.out
              have pl5 := lt_of P5.out
              obtain ⟨b50, b51⟩ := cells2 B5x.out
              have bl5 := lt_of B5x.out
              have il5 := (AW5.out.lt ib rfl).2
              rcases HFR.out.2 with ⟨hout, hto⟩ | ⟨hout, hto⟩
              · have HX2 := Lib.hid (show renL (ixI xs) ⟨-1, xo, xt, xi, row⟩ = ⟨-1, xo, xt, xi, row⟩ by unfold renL; rw [if_pos hin, if_pos hout])
                replace hto : xt = -1 := hto
                subst hto
                clear hout hin
                go_wp2_with fail
                go_roundw
                case rel =>
                  refine ⟨k + 1, by omega, by go_num, Lib.hid ?_, HO5⟩
                  have q := V5.out
                  rw [← HX2.out, HXS.out] at q
                  exact q
                case measure => simp [intOf]; omega
              · have HX2 := Lib.hid (show renL (ixI xs) ⟨-1, xo, xt, xi, row⟩ = ⟨-1, xo, ixI xs xt, xi, row⟩ by unfold renL; rw [if_pos hin, if_neg hout])
                replace hto : 0 ≤ xt ∧ xt < (n.progs.length : Int) := hto
                rw [← NP.out] at hto
                obtain ⟨tt, rfl⟩ : ∃ tt : Nat, xt = tt := ⟨xt.toNat, by omega⟩
                have htl : tt < m := by omega
                have d2 : decide ((tt : Int) ≥ 0) = true := decide_eq_true (by omega)
                have d3 : decide (0 ≤ (tt : Int)) = true := decide_eq_true (by omega)
                have it1 : (0 : Int) ≤ (tt : Int) := by omega
                have it2 : (tt : Int) < (m : Int) := by omega
                have ca2 := AW5.out.cell3 (oL_at htl (by rw [List.take_of_length_le (by rw [← NO.out]; exact Nat.le_refl _)]; exact isOrd_all HS0.out _ (rngI_mem.2 ⟨it1, it2⟩)))
                clear hout hto hin
                go_upto_region 16 with fail
                refine wp_open' ?_
                intro K8 hK8
                go_cut [52] from 52 to 83 (fun i wz => i = .int .i64 k ∧ Hid (VL w3.heap.size w4.heap.size wz (.slice (some ⟨LB, 0, none⟩) ll cd) us (renK (ixI xs) n.links (k + 1))) ∧ Hid (OutT 86 86 w3.heap.size w4.heap.size w6 wz))
                case first =>
                  go_region_held3 (fun w' => w'.cell? ⟨B, 1, none⟩ = some (.slice (some ⟨LB, 0, none⟩) ll cd) ∧ w'.cell? ⟨BX, 2, none⟩ = some (.int .i64 (tt : Int)) ∧ w'.cell? ⟨ib, tt, none⟩ = some (.int .i64 (ixI xs (tt : Int)))) (go_keep) (first | fail)
                  all_goals (
                    go_wp2_with fail
                    go_meet
                    case rel =>
                      refine ⟨rfl, Lib.hid ?_, Lib.hid ?_⟩
                      · have q := V5.out.set2 HXK5.out (ixI xs (tt : Int))
                        rw [set_two, ← HX2.out, HXS.out] at q
                        exact q
                      · exact (HO5.out.setC (p := ⟨LB, k * 5 + 2, none⟩) HLB1.out.1 HLB1.out.2 HPT5.out (.int .i64 (ixI xs (tt : Int)))).belowHi (Below.refl _ _).drew)
                case rest =>
                  obtain ⟨rfl, HG', HO'⟩ := hcut
                  refine hK8 _ _ ?_
                  go_wp2_with fail
                  go_roundw
                  case rel => exact ⟨k + 1, by omega, by go_num, HG', HO'⟩
                  case measure => simp [intOf]; omega
            · replace hfo : 0 ≤ xf ∧ xf < (n.progs.length : Int) := hfo
              rw [← NP.out] at hfo
              obtain ⟨ff, rfl⟩ : ∃ ff : Nat, xf = ff := ⟨xf.toNat, by omega⟩
              have hfl : ff < m := by omega
              have d2 : decide ((ff : Int) ≥ 0) = true := decide_eq_true (by omega)
              have d3 : decide (0 ≤ (ff : Int)) = true := decide_eq_true (by omega)
              have if1 : (0 : Int) ≤ (ff : Int) := by omega
              have if2 : (ff : Int) < (m : Int) := by omega
              have ca1 := AW1.out.cell3 (oL_at hfl (by rw [List.take_of_length_le (by rw [← NO.out]; exact Nat.le_refl _)]; exact isOrd_all HS0.out _ (rngI_mem.2 ⟨if1, if2⟩)))
              clear hfo
              go_upto_region 14 with fail
              refine wp_open' ?_
              intro K9 hK9
              go_cut [52] from 52 to 83 (fun i wz => i = .int .i64 k ∧ Hid (VL w3.heap.size w4.heap.size wz (.slice (some ⟨LB, 0, none⟩) ll cd) us ((renK (ixI xs) n.links k).set k ⟨ixI xs (ff : Int), xo, xt, xi, row⟩)) ∧ Hid (OutT 86 86 w3.heap.size w4.heap.size w6 wz) ∧ Hid (wz.heap[BX]? = some (.cells #[.int .i64 (ff : Int), .int .i64 xo, .int .i64 xt, .int .i64 xi, .slice ua ul uc] 86)) ∧ Hid (wz.heap[B]? = some (.cells #[.slice ca m cb, .slice (some ⟨LB, 0, none⟩) ll cd] 35)) ∧ Hid (Own w1.heap.size wz (.slice (some ⟨ib, 0, none⟩) m ic) (oL m xs m)))
              case first =>
                go_region_held3 (fun w' => w'.cell? ⟨B, 1, none⟩ = some (.slice (some ⟨LB, 0, none⟩) ll cd) ∧ w'.cell? ⟨BX, 0, none⟩ = some (.int .i64 (ff : Int)) ∧ w'.cell? ⟨ib, ff, none⟩ = some (.int .i64 (ixI xs (ff : Int)))) (go_keep) (first | fail)
                all_goals (
                  go_wp2_with fail
                  go_meet
                  case rel =>
                    refine ⟨rfl, Lib.hid ?_, Lib.hid ?_, Lib.hid (setR_blkN PX.out nn2 _), Lib.hid (setR_blkN B1x.out nn4 _), Lib.hid ?_⟩
                    · exact V1.out.set0 HXK.out (ixI xs (ff : Int))
                    · exact (HO1.out.setC (p := ⟨LB, k * 5, none⟩) HLB1.out.1 HLB1.out.2 HPT1.out (.int .i64 (ixI xs (ff : Int)))).belowHi (Below.refl _ _).drew
                    · exact row_setTL AW1.out HPT1.out (by decide) _)
              case rest =>
              rename World => W5
              obtain ⟨rfl, V5, HO5, P5, B5x, AW5⟩ := hcut
              refine hK9 _ _ ?_
              clear p10 p11 p12 p13 p14 pl1 b10 b11 bl1 g10 e10 e12 hpl il1 d2 d3 ca1
              have HXK5 := Lib.hid (show ((renK (ixI xs) n.links k).set k (⟨ixI xs (ff : Int), xo, xt, xi, row⟩))[k]? = some (⟨ixI xs (ff : Int), xo, xt, xi, row⟩ : Lnk) from List.getElem?_set_self (List.getElem?_eq_some_iff.1 HXK.out).1)
              obtain ⟨LB', cc', hpe, _, _, hpl5, hpt, hpf, _, _, e52, _, _⟩ := V5.out.at hu0 HXK5.out
              simp only [Value.slice.injEq, Option.some.injEq, Addr.mk.injEq, and_true] at hpe
              obtain ⟨rfl, hml, rfl⟩ := hpe
              have HPT5 := Lib.hid hpt
              have g52 := hpf (k * 5 + 2)
              clear hml hpt hpf
              obtain ⟨p50, p51, p52, p53, p54⟩ := cells5 P5.out
              have pl5 := lt_of P5.out
              obtain ⟨b50, b51⟩ := cells2 B5x.out
              have bl5 := lt_of B5x.out
              have il5 := (AW5.out.lt ib rfl).2
              rcases HFR.out.2 with ⟨hout, hto⟩ | ⟨hout, hto⟩
              · have HX2 := Lib.hid (show renL (ixI xs) ⟨(ff : Int), xo, xt, xi, row⟩ = ⟨ixI xs (ff : Int), xo, xt, xi, row⟩ by unfold renL; rw [if_neg hin, if_pos hout])
                replace hto : xt = -1 := hto
                subst hto
                clear hout hin
                go_wp2_with fail
                go_roundw
                case rel =>
                  refine ⟨k + 1, by omega, by go_num, Lib.hid ?_, HO5⟩
                  have q := V5.out
                  rw [← HX2.out, HXS.out] at q
                  exact q
                case measure => simp [intOf]; omega
              · have HX2 := Lib.hid (show renL (ixI xs) ⟨(ff : Int), xo, xt, xi, row⟩ = ⟨ixI xs (ff : Int), xo, ixI xs xt, xi, row⟩ by unfold renL; rw [if_neg hin, if_neg hout])
                replace hto : 0 ≤ xt ∧ xt < (n.progs.length : Int) := hto
                rw [← NP.out] at hto
                obtain ⟨tt, rfl⟩ : ∃ tt : Nat, xt = tt := ⟨xt.toNat, by omega⟩
                have htl : tt < m := by omega
                have d2 : decide ((tt : Int) ≥ 0) = true := decide_eq_true (by omega)
                have d3 : decide (0 ≤ (tt : Int)) = true := decide_eq_true (by omega)
                have it1 : (0 : Int) ≤ (tt : Int) := by omega
                have it2 : (tt : Int) < (m : Int) := by omega
                have ca2 := AW5.out.cell3 (oL_at htl (by rw [List.take_of_length_le (by rw [← NO.out]; exact Nat.le_refl _)]; exact isOrd_all HS0.out _ (rngI_mem.2 ⟨it1, it2⟩)))
                clear hout hto hin
                go_upto_region 16 with fail
                refine wp_open' ?_
                intro K8 hK8
                go_cut [52] from 52 to 83 (fun i wz => i = .int .i64 k ∧ Hid (VL w3.heap.size w4.heap.size wz (.slice (some ⟨LB, 0, none⟩) ll cd) us (renK (ixI xs) n.links (k + 1))) ∧ Hid (OutT 86 86 w3.heap.size w4.heap.size w6 wz))
                case first =>
                  go_region_held3 (fun w' => w'.cell? ⟨B, 1, none⟩ = some (.slice (some ⟨LB, 0, none⟩) ll cd) ∧ w'.cell? ⟨BX, 2, none⟩ = some (.int .i64 (tt : Int)) ∧ w'.cell? ⟨ib, tt, none⟩ = some (.int .i64 (ixI xs (tt : Int)))) (go_keep) (first | fail)
                  all_goals (
                    go_wp2_with fail
                    go_meet
                    case rel =>
                      refine ⟨rfl, Lib.hid ?_, Lib.hid ?_⟩
                      · have q := V5.out.set2 HXK5.out (ixI xs (tt : Int))
                        rw [set_two, ← HX2.out, HXS.out] at q
                        exact q
                      · exact (HO5.out.setC (p := ⟨LB, k * 5 + 2, none⟩) HLB1.out.1 HLB1.out.2 HPT5.out (.int .i64 (ixI xs (tt : Int)))).belowHi (Below.refl _ _).drew)
                case rest =>
                  obtain ⟨rfl, HG', HO'⟩ := hcut
                  refine hK8 _ _ ?_
                  go_wp2_with fail
                  go_roundw
                  case rel => exact ⟨k + 1, by omega, by go_num, HG', HO'⟩
                  case measure => simp [intOf]; omega
          obtain rfl : ll = k := by omega
          have HLR2 := Lib.hid (show LnksR w3.heap.size wr.heap.size wr (.slice cc ll cd) (n.links.map (renL (ixI xs))) from ⟨us, by have q := HG.out; rw [NL.out, renK_end, ← NL.out] at q; exact q.mono (Nat.le_refl _) (Nat.le_trans HZ6.out HO.out.out.size), by
            have e : (n.links.map (renL (ixI xs))).map Lnk.tok = n.links.map Lnk.tok := by rw [List.map_map]; rfl
            rw [e]
            exact ⟨HFM.out.len, fun i x xs hx hxs => row_outT (HFM.out.own i x xs hx hxs) HO.out (by decide) (by decide), HFM.out.apart⟩, fun x hx q e => Nat.lt_of_lt_of_le (H3.out x hx q e) (Nat.le_trans HZ6.out HO.out.out.size)⟩)
          have HPR3 := Lib.hid (HPR2.out.outT HO.out (by decide) (by decide) (by decide) (by decide))
          have HNR := Lib.hid (show NetR w3.heap.size wr.heap.size wr (.agg #[.slice ca m cb, .slice cc ll cd]) (permN n xs) from ⟨_, _, rfl, HPR3.out.mono (Nat.le_refl _) HO.out.out.size, HLR2.out, wf_perm HWF.out (by rw [← NO.out]; omega)⟩)
          obtain ⟨b0, b1⟩ := cells2 BW.out
          have bl := lt_of BW.out
          obtain ⟨r0, r1⟩ := cells2 JW.out
          have rl := lt_of JW.out
          have rz0 := fr_of JW.out 0
          have rz1 := fr_of JW.out 1
          go_wp2_with fail
          have q := set2_all JW.out (.slice ca m cb) (.slice cc ll cd)
          refine bodyPost_ret (v := .tuple #[.agg #[.slice ca m cb, .slice cc ll cd], .bool true]) (by simp [results, Try.results37, go_sem, r0, r1]) rfl ⟨_, rfl, ?_, ?_⟩
          · exact (HNR.out.out q.2 (.inr (by have := HW1.out; have := HZ3.out; omega))).mono HB3.out.size q.2.size
          · exact q.2.below HBW.out HBW.out.size (by omega)
end Go.Proofs.Ytmfagmfclehdbaa
