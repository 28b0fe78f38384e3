/-
  The program's copy of a network. No statement of the seat is proved here.
-/
import Derived.Test.YtkeoefbkeommhaaNetE
namespace Go.Proofs.Ytkeoefbkeommhaa
open Go.RowKit

theorem OutT.belowHi {T1 T2 lo hi : Nat} {a w w' : World} (h : OutT T1 T2 lo hi a w) (hb : Below w.heap.size w w') : OutT T1 T2 lo hi a w' :=
  ⟨h.out.belowHi hb, fun k T hk n1 n2 => by
    have e := h.ty k T hk n1 n2
    obtain ⟨cs, fr, hq⟩ := hk
    exact (hb.block k (lt_of (e.trans hq))).trans e⟩
theorem set_same {α : Type} {xs : List α} {k : Nat} {x : α} (hx : xs[k]? = some x) : xs.set k x = xs := by
  apply List.ext_getElem?
  intro i
  rw [List.getElem?_set]
  by_cases e : k = i
  · subst e
    rw [if_pos rfl, if_pos (List.getElem?_eq_some_iff.1 hx).1, hx]
  · rw [if_neg e]
theorem app_set {α : Type} {us rest : List α} {k : Nat} {u : α} (hk : us.length = k) (hl : k < (us ++ rest).length) : (us ++ rest).set k u = (us ++ [u]) ++ rest.drop 1 := by
  rw [List.length_append] at hl
  rcases rest with _ | ⟨r, rest⟩
  · simp at hl; omega
  · subst hk
    simp
/-- The first k of these have been copied; the others are as they were cloned. -/
def CopyP (lo hi k : Nat) (w : World) (v : Value) (xs : List Prg) : Prop := ∃ us rest, us.length = k ∧ VP lo hi w v (us ++ rest) xs ∧ FamI lo w us ((xs.take k).map Prg.code)
theorem row_setTP {lo sz m B j T T2 : Nat} {w : World} {v : Value} {cs : List Value} (h : w.ownsRow lo T sz v m cs) (ht : Typed w B T2) (hT : T2 ≠ T) (u : Value) : (w.setCell ⟨B, j, none⟩ u).ownsRow lo T sz v m cs := by
  refine ⟨h.1, ?_⟩
  rcases h.2 with hn | ⟨q, cap, cur, rfl, hbb, hq, rest⟩
  · exact .inl hn
  · refine .inr ⟨q, cap, cur, rfl, hbb, ?_, rest⟩
    obtain ⟨cs', fr, hB⟩ := ht
    rw [Below.heap_setCell _ _ _ _ (by
      show q ≠ B
      intro e
      subst e
      rw [hq] at hB
      simp at hB
      exact hT hB.2.1.symm)]
    exact hq
theorem CopyP.step {lo hi k b m PB c : Nat} {w : World} {x : Prg} {xs : List Prg} {us rest : List Value} {u : Value} (hk : us.length = k) (hv : VP lo hi w (.slice (some ⟨PB, 0, none⟩) m c) (us ++ rest) xs) (hF : FamI lo w us ((xs.take k).map Prg.code)) (hx : xs[k]? = some x)
    (ho : OwnI b w u x.code) (hlo : lo ≤ b) (hb : ∀ y ∈ us, ∀ q, y.ownBlock = some q → q < b) (ht : Typed w PB 79) : CopyP lo hi (k + 1) (((w.setCell ⟨PB, k * 3, none⟩ (.int .i64 x.ins)).setCell ⟨PB, k * 3 + 1, none⟩ (.int .i64 x.outs)).setCell ⟨PB, k * 3 + 2, none⟩ u) (.slice (some ⟨PB, 0, none⟩) m c) xs := by
  have hkl := (List.getElem?_eq_some_iff.1 hx).1
  have hl := hv.len
  have e : xs.take (k + 1) = xs.take k ++ [x] := by rw [List.take_succ_eq_append_getElem hkl, (List.getElem?_eq_some_iff.1 hx).2]
  have v1 := hv.set0 hx x.ins
  rw [set_same (show xs[k]? = some { x with ins := x.ins } from hx)] at v1
  have v2 := v1.set1 hx x.outs
  rw [set_same (show xs[k]? = some { x with outs := x.outs } from hx)] at v2
  have v3 := v2.set2 hx u
  rw [app_set hk (by omega)] at v3
  refine ⟨us ++ [u], rest.drop 1, by simp [hk], v3, ?_⟩
  rw [e, List.map_append]
  refine hF.snoc (fun y ys q => row_setTP (row_setTP (row_setTP q ht (by decide) _) (ht.setCell _ _) (by decide) _) ((ht.setCell _ _).setCell _ _) (by decide) _) (row_setTP (row_setTP (row_setTP (row_mono ho hlo) ht (by decide) _) (ht.setCell _ _) (by decide) _) ((ht.setCell _ _).setCell _ _) (by decide) _) (fun y ys q hy => ?_)
  cases q1 : y.ownBlock with
  | none => exact .inl q1
  | some d =>
    right
    rw [q1]
    intro q2
    have := hb y hy d q1
    have := (World.ownsRow.lt ho d q2.symm).1
    omega
theorem CopyP.done {lo hi k : Nat} {w : World} {v : Value} {xs : List Prg} (h : CopyP lo hi k w v xs) (hk : xs.length = k) (hh : hi ≤ w.heap.size) : PrgsR lo w.heap.size w v xs := by
  obtain ⟨us, rest, hu, hv, hF⟩ := h
  have hl := hv.len
  rw [List.length_append] at hl
  obtain rfl : rest = [] := List.eq_nil_of_length_eq_zero (by omega)
  rw [List.append_nil] at hv
  rw [List.take_of_length_le (by omega)] at hF
  exact ⟨us, hv.mono (Nat.le_refl _) hh, hF, fam_hiI hF⟩
/-- The first k of these have been copied; the others are as they were cloned. -/
def CopyL (lo hi k : Nat) (w : World) (v : Value) (xs : List Lnk) : Prop := ∃ us rest, us.length = k ∧ VL lo hi w v (us ++ rest) xs ∧ Fam lo w us ((xs.take k).map Lnk.tok)
theorem row_setTL {lo sz m B j T T2 : Nat} {w : World} {v : Value} {cs : List Value} (h : w.ownsRow lo T sz v m cs) (ht : Typed w B T2) (hT : T2 ≠ T) (u : Value) : (w.setCell ⟨B, j, none⟩ u).ownsRow lo T sz v m cs := by
  refine ⟨h.1, ?_⟩
  rcases h.2 with hn | ⟨q, cap, cur, rfl, hbb, hq, rest⟩
  · exact .inl hn
  · refine .inr ⟨q, cap, cur, rfl, hbb, ?_, rest⟩
    obtain ⟨cs', fr, hB⟩ := ht
    rw [Below.heap_setCell _ _ _ _ (by
      show q ≠ B
      intro e
      subst e
      rw [hq] at hB
      simp at hB
      exact hT hB.2.1.symm)]
    exact hq
theorem CopyL.step {lo hi k b m PB c : Nat} {w : World} {x : Lnk} {xs : List Lnk} {us rest : List Value} {u : Value} (hk : us.length = k) (hv : VL lo hi w (.slice (some ⟨PB, 0, none⟩) m c) (us ++ rest) xs) (hF : Fam lo w us ((xs.take k).map Lnk.tok)) (hx : xs[k]? = some x)
    (ho : Own b w u x.tok) (hlo : lo ≤ b) (hb : ∀ y ∈ us, ∀ q, y.ownBlock = some q → q < b) (ht : Typed w PB 68) : CopyL lo hi (k + 1) (w.setCell ⟨PB, k * 5 + 4, none⟩ u) (.slice (some ⟨PB, 0, none⟩) m c) xs := by
  have hkl := (List.getElem?_eq_some_iff.1 hx).1
  have hl := hv.len
  have e : xs.take (k + 1) = xs.take k ++ [x] := by rw [List.take_succ_eq_append_getElem hkl, (List.getElem?_eq_some_iff.1 hx).2]
  have v3 := hv.set4 hx u
  rw [app_set hk (by omega)] at v3
  refine ⟨us ++ [u], rest.drop 1, by simp [hk], v3, ?_⟩
  rw [e, List.map_append]
  refine hF.snoc (fun y ys q => row_setTL q ht (by decide) _) (row_setTL (row_mono ho hlo) ht (by decide) _) (fun y ys q hy => ?_)
  cases q1 : y.ownBlock with
  | none => exact .inl q1
  | some d =>
    right
    rw [q1]
    intro q2
    have := hb y hy d q1
    have := (World.ownsRow.lt ho d q2.symm).1
    omega
theorem CopyL.done {lo hi k : Nat} {w : World} {v : Value} {xs : List Lnk} (h : CopyL lo hi k w v xs) (hk : xs.length = k) (hh : hi ≤ w.heap.size) : LnksR lo w.heap.size w v xs := by
  obtain ⟨us, rest, hu, hv, hF⟩ := h
  have hl := hv.len
  rw [List.length_append] at hl
  obtain rfl : rest = [] := List.eq_nil_of_length_eq_zero (by omega)
  rw [List.append_nil] at hv
  rw [List.take_of_length_le (by omega)] at hF
  exact ⟨us, hv.mono (Nat.le_refl _) hh, hF, fam_hi hF⟩

set_option maxRecDepth 100000 in
set_option maxHeartbeats 16000000 in
theorem icopynet_any (v : Value) (n : Net) (w : World) (h : NetV w v n) (hsm : SmallN n) :
    Calls Try.prog 53 #[v] w fun e w' => ∃ r, e = .returned r ∧ NetR w.heap.size w'.heap.size w' r n ∧ Below w.heap.size w w' := by
  have HWF := Lib.hid h.wf
  have HNB := Lib.hid hsm
  obtain ⟨pv, lv, rfl, hp, hl⟩ := h
  have LP := hp.len
  have LL := hl.len
  have HP := Lib.hid hp
  have HL := Lib.hid hl
  obtain ⟨la, lcap, rfl⟩ := hl.shape
  obtain ⟨pa, pcap, rfl⟩ := hp.shape
  have hm100 := hsm.1
  have hl100 := hsm.2.2.1
  obtain ⟨m, hm⟩ : ∃ m, m = n.progs.length := ⟨_, rfl⟩
  obtain ⟨ll, hll⟩ : ∃ m, m = n.links.length := ⟨_, rfl⟩
  rw [← hm, ← hll]
  rw [← hm] at HP LP hm100
  rw [← hll] at HL LL hl100
  have NP := Lib.hid hm
  have NL := Lib.hid hll
  clear hp hl hm hll hsm
  have hb := Lib.hid (((Below.refl w.heap.size w).al (.cells #[.slice pa m pcap, .slice la ll lcap] 31)).al (.cells #[.slice none 0 0, .slice none 0 0] 31))
  have hH := Lib.hid (hp21 w (.cells #[.slice pa m pcap, .slice la ll lcap] 31) (.cells #[.slice none 0 0, .slice none 0 0] 31))
  have hH1 := Lib.hid (hp2 w (.cells #[.slice pa m pcap, .slice la ll lcap] 31) (.cells #[.slice none 0 0, .slice none 0 0] 31))
  go_enter Try.func53, Try.ntmps53
  go_upto_region 1 with fail
  generalize hW : (w.alloc (.cells #[.slice pa m pcap, .slice la ll lcap] 31)).alloc (.cells #[.slice none 0 0, .slice none 0 0] 31) = w2 at hb hH hH1 ⊢
  have HW2 := Lib.hid (show w.heap.size + 2 = w2.heap.size by rw [← hW]; simp)
  clear hW
  have CP := Lib.hid (fun (W : World) (hw : Below w2.heap.size w2 W) => icloneP_any (.slice pa m pcap) n.progs W (HP.out.below (hb.out.trans (hw.mono hb.out.size))) (by have := NP.out; omega))
  have CQ := Lib.hid (fun (W : World) (hw : Below w2.heap.size w2 W) => icloneL_any (.slice la ll lcap) n.links W (HL.out.below (hb.out.trans (hw.mono hb.out.size))) (by have := NL.out; omega))
  obtain ⟨k0, k1⟩ := cells2 hH.out
  have gl := lt_of hH.out
  have na2 : ¬ w2.heap.size = w.heap.size := by omega
  have nb2 : ¬ w.heap.size = w2.heap.size := by omega
  go_cut [3] from 4 (fun s3 wr => ∃ (B : Nat) (xa : Option Addr) (xc : Nat) (za : Option Addr) (zc : Nat), s3 = .pointer (some ⟨B, 0, none⟩) ∧ Hid (wr.heap[B]? = some (.cells #[.slice xa m xc, .slice za ll zc] 31)) ∧ Hid (w2.heap.size ≤ B) ∧ Hid (∃ us, VP w2.heap.size wr.heap.size wr (.slice xa m xc) us n.progs) ∧ Hid (∃ us, VL w2.heap.size wr.heap.size wr (.slice za ll zc) us n.links) ∧ Hid (Below w2.heap.size w2 wr))
  case first =>
    go_region_held3 (fun w' => w'.cell? ⟨w.heap.size, 0, none⟩ = some (.slice pa m pcap) ∧ w'.cell? ⟨w.heap.size, 1, none⟩ = some (.slice la ll lcap)) (go_keep) (first | (go_at_call 78; refine (CQ.out _ (HC7.out.trans ((by first | with_reducible exact Below.refl _ _ | with_reducible exact (Below.refl _ _).drew | with_reducible exact (Below.refl _ _).al _ | with_reducible exact ((Below.refl _ _).al _).drew | with_reducible exact (Below.refl _ _).drew.al _ : Below W7.heap.size W7 _).mono HC7.out.size))).mono ?_; rintro e W8 ⟨v8, rfl, ⟨us8, lu8, _, o8⟩, hb8⟩; have hs8 := (show Below W7.heap.size W7 W8 by first | with_reducible exact hb8 | with_reducible exact cr_d hb8 | with_reducible exact cr_1 hb8 | with_reducible exact cr_1d hb8 | with_reducible exact cr_d1 hb8); have HC8 := Lib.hid (HC7.out.trans (hs8.mono HC7.out.size)); have RW8 := Lib.hid (R7.out.keep (w' := W8) (fun B cur _ _ q => blk_in q hs8)); have LU8 := Lib.hid lu8; have R8 := Lib.hid (o8.mono (lo' := w2.heap.size) (hi' := W8.heap.size) (by have := HC7.out.size; first | exact this | (simp; omega)) (Nat.le_refl _)); have G8 := Lib.hid (blk_in G7.out hs8); (first | (have Z8 := Lib.hid (blk_in Z7.out hs8)) | (have Z8 := Lib.hid (show W8.heap[W7.heap.size]? = some (.cells #[.slice none 0 0, .slice none 0 0] 31) by first | exact blk_in (hp1 W7 _) hb8 | exact blk_in (hp1 W7.drew _) hb8 | exact blk_in (W := (W7.alloc (.cells #[.slice none 0 0, .slice none 0 0] 31)).drew) (hp1 W7 _) hb8)) | skip); (try (obtain ⟨z0, z1⟩ := cells2 Z8.out; have zf0 := fr_of Z8.out 0; have zf1 := fr_of Z8.out 1; have zl := lt_of Z8.out)); obtain ⟨e8_0, e8_1⟩ := cells2 G8.out; have l8 := lt_of G8.out; obtain ⟨x8, y8, hv8⟩ := R8.out.shape; rw [← NL.out] at hv8; subst hv8; have na8 : ¬ W8.heap.size = w.heap.size := (by omega); have nb8 : ¬ w.heap.size = W8.heap.size := (by omega); have hz8 : W7.heap.size ≤ W8.heap.size := hs8.size; clear o8 hb8 hs8 lu8) | (go_at_call 76; refine (CP.out _ (by first | with_reducible exact Below.refl _ _ | with_reducible exact (Below.refl _ _).drew | with_reducible exact (Below.refl _ _).al _ | with_reducible exact ((Below.refl _ _).al _).drew | with_reducible exact (Below.refl _ _).drew.al _ : Below w2.heap.size w2 _)).mono ?_; rintro e W7 ⟨v7, rfl, ⟨us7, lu7, _, o7⟩, hb7⟩; have hs7 := (show Below w2.heap.size w2 W7 by first | with_reducible exact hb7 | with_reducible exact cr_d hb7 | with_reducible exact cr_1 hb7 | with_reducible exact cr_1d hb7 | with_reducible exact cr_d1 hb7); have HC7 := Lib.hid hs7; have LU7 := Lib.hid lu7; have R7 := Lib.hid (o7.mono (lo' := w2.heap.size) (hi' := W7.heap.size) (by first | exact Nat.le_refl _ | (simp; done)) (Nat.le_refl _)); have G7 := Lib.hid (blk_in hH.out hs7); (try have Z7 := Lib.hid (show W7.heap[w2.heap.size]? = some (.cells #[.slice none 0 0, .slice none 0 0] 31) by first | exact blk_in (hp1 w2 _) hb7 | exact blk_in (hp1 w2.drew _) hb7 | exact blk_in (W := (w2.alloc (.cells #[.slice none 0 0, .slice none 0 0] 31)).drew) (hp1 w2 _) hb7)); obtain ⟨e7_0, e7_1⟩ := cells2 G7.out; have l7 := lt_of G7.out; obtain ⟨x7, y7, hv7⟩ := R7.out.shape; rw [← NP.out] at hv7; subst hv7; have na7 : ¬ W7.heap.size = w.heap.size := (by omega); have nb7 : ¬ w.heap.size = W7.heap.size := (by omega); have hz7 : w2.heap.size ≤ W7.heap.size := hs7.size; clear o7 hb7 hs7 lu7))
    · go_wp2_with fail
      go_meet
      case rel =>
        refine ⟨_, x7, y7, x8, y8, rfl, Lib.hid (hp1 _ _), Lib.hid HC8.out.size, Lib.hid ⟨us7, ?_⟩, Lib.hid ⟨us8, ?_⟩, Lib.hid (HC8.out.al _)⟩
        · exact (RW8.out.keep (fun B cur _ _ q => al_keep q)).mono (Nat.le_refl _) (by simp; omega)
        · exact (R8.out.keep (fun B cur _ _ q => al_keep q)).mono (Nat.le_refl _) (by simp)
    · go_wp2_with fail
      go_meet
      case rel =>
        have q := set2_all Z8.out (.slice x7 m y7) (.slice x8 ll y8)
        refine ⟨_, x7, y7, x8, y8, rfl, Lib.hid q.1, Lib.hid hz7, Lib.hid ⟨us7, ?_⟩, Lib.hid ⟨us8, ?_⟩, Lib.hid (q.2.below HC8.out HC8.out.size hz7)⟩
        · exact (RW8.out.keep (fun B cur _ _ h => (q.2.block B (lt_of h) (by have : B ≠ W7.heap.size := (fun e => by subst e; rw [Z8.out] at h; simp at h); omega)).trans h)).mono (Nat.le_refl _) (Nat.le_trans hz8 q.2.size)
        · exact (R8.out.keep (fun B cur _ _ h => (q.2.block B (lt_of h) (by have : B ≠ W7.heap.size := (fun e => by subst e; rw [Z8.out] at h; simp at h); omega)).trans h)).mono (Nat.le_refl _) q.2.size
    · go_wp2_with fail
      go_meet
      case rel =>
        have q := set2_all Z8.out (.slice x7 m y7) (.slice x8 ll y8)
        refine ⟨_, x7, y7, x8, y8, rfl, Lib.hid q.1, Lib.hid (Nat.le_refl _), Lib.hid ⟨us7, ?_⟩, Lib.hid ⟨us8, ?_⟩, Lib.hid (q.2.below HC8.out HC8.out.size (Nat.le_refl _))⟩
        · exact (RW8.out.keep (fun B cur _ _ h => (q.2.block B (lt_of h) (by have : B ≠ w2.heap.size := (fun e => by subst e; rw [Z8.out] at h; simp at h); omega)).trans h)).mono (Nat.le_refl _) (Nat.le_trans hz8 q.2.size)
        · exact (R8.out.keep (fun B cur _ _ h => (q.2.block B (lt_of h) (by have : B ≠ w2.heap.size := (fun e => by subst e; rw [Z8.out] at h; simp at h); omega)).trans h)).mono (Nat.le_refl _) q.2.size
  rename World => w3
  obtain ⟨B, xa, xc, za, zc, rfl, HSw3, HBB, HVP, HVL, HC3⟩ := hcut
  have H2w3 := Lib.hid HC3.out.size
  have H3w3 := Lib.hid (Nat.le_refl w3.heap.size)
  have HBw3 := Lib.hid (hb.out.trans (HC3.out.mono hb.out.size))
  have G3 := Lib.hid (blk_in hH.out HC3.out)
  have J3 := Lib.hid (blk_in hH1.out HC3.out)
  clear k0 k1 gl na2 nb2
  obtain ⟨k0, k1⟩ := cells2 G3.out
  have gl := lt_of G3.out
  go_wp2_with fail
  clear k0 k1 gl
  go_loopw [18] (fun i wr => ∃ (k : Nat), k ≤ m ∧ i = .int .i64 k ∧ Hid (CopyP w2.heap.size w3.heap.size k wr (.slice xa m xc) n.progs) ∧ Hid (OutT 79 79 w2.heap.size w3.heap.size w3 wr)) (fun i _ => m - (intOf i).toNat)
  case atStart => exact ⟨0, Nat.zero_le _, rfl, Lib.hid (by obtain ⟨us, hv⟩ := HVP.out; exact ⟨[], us, rfl, hv, ⟨rfl, fun i u x h => by simp at h, fun i j u v h => by simp at h⟩⟩), Lib.hid (OutT.refl _ _ _ _ _)⟩
  case round =>
    obtain ⟨k, hk, rfl, HG, HO⟩ := hrel
    have HBW := Lib.hid (HO.out.out.below HBw3.out HBw3.out.size (by have := HW2.out; omega))
    by_cases hlt : k < m
    case pos =>
      obtain ⟨x, hx⟩ : ∃ x, (n.progs)[k]? = some x := ⟨_, List.getElem?_eq_getElem (by rw [← NP.out]; exact hlt)⟩
      obtain ⟨gb, go, pcv, rfl, hgb, e0, e1, e2, es⟩ := (HP.out.below HBW.out).atb hx
      have HX := Lib.hid hx
      have HLB := Lib.hid (HNB.out.2.1 x (List.mem_of_getElem? hx))
      obtain ⟨us, rest, hku, hv1, hF1⟩ := HG.out
      have hvl := hv1.len
      obtain ⟨u0, hu0⟩ : ∃ u0, (us ++ rest)[k]? = some u0 := ⟨_, List.getElem?_eq_getElem (by have := (List.getElem?_eq_some_iff.1 hx).1; omega)⟩
      obtain ⟨PB, pcx, hpe, hpb1, hpb2, _, _, _, _⟩ := hv1.at hu0 hx
      simp only [Value.slice.injEq] at hpe
      obtain ⟨rfl, hlen, rfl⟩ := hpe
      have HPB := Lib.hid (And.intro hpb1 hpb2)
      have HV1 := Lib.hid hv1
      have HF1 := Lib.hid hF1
      have HUB := Lib.hid (fam_hiI hF1)
      have HKU := Lib.hid hku
      clear hx hv1 hF1 hvl hlen hpb1 hpb2 hku
      have ES := Lib.hid es
      obtain ⟨x0, x1, row⟩ := x
      simp only [] at e0 e1 e2 ES HLB
      obtain ⟨ua, uc, rfl⟩ := es.shape
      have CA0 := fun (W : World) (hw : Below wr.heap.size wr W) => icprog_any x0 x1 (.slice ua row.length uc) row W (ES.out.below hw) (by have := HLB.out; omega)
      obtain ⟨ul, hul⟩ : ∃ q, q = row.length := ⟨_, rfl⟩
      rw [← hul] at e2 CA0
      clear hul es ES
      go_upto_region 5 with fail
      generalize hW : wr.alloc (.cells #[.int .i64 x0, .int .i64 x1, .slice ua ul uc] 79) = W1
      have HC1 := Lib.hid (show Below wr.heap.size wr W1 by rw [← hW]; exact (Below.refl _ _).al _)
      have PX := Lib.hid (show W1.heap[wr.heap.size]? = some (.cells #[.int .i64 x0, .int .i64 x1, .slice ua ul uc] 79) by rw [← hW]; exact hp1 _ _)
      clear hW
      obtain ⟨p0, p1, p2⟩ := cells3 PX.out
      have pl := lt_of PX.out
      have B1 := Lib.hid (show W1.heap[B]? = some (.cells #[.slice (some ⟨PB, 0, none⟩) m xc, .slice za ll zc] 31) from blk_in ((HO.out.ty B _ ⟨_, _, HSw3.out⟩ (by decide) (by decide)).trans HSw3.out) HC1.out)
      obtain ⟨b0, b1⟩ := cells2 B1.out
      have bl := lt_of B1.out
      have V1 := Lib.hid (HV1.out.keep (w' := W1) (fun B cur _ _ q => blk_in q HC1.out))
      have CA := Lib.hid (fun (W : World) (hw : Below W1.heap.size W1 W) => CA0 W (HC1.out.trans (hw.mono HC1.out.size)))
      clear CA0
      have nn1 : ¬ PB = B := fun e => by
        obtain ⟨PB2, pc2, hpe2, _, _, _, ⟨cs2, fr2, hty⟩, _⟩ := V1.out.at hu0 HX.out
        simp only [Value.slice.injEq, Option.some.injEq, Addr.mk.injEq, and_true] at hpe2
        rw [← hpe2.1, e, B1.out] at hty
        simp at hty
      have nn2 : ¬ PB = wr.heap.size := by have := HPB.out; have := HO.out.out.size; have := HC3.out.size; have := H2w3.out; have := H3w3.out; omega
      have ik1 : (0 : Int) ≤ (k : Int) := by omega
      have ik2 : (k : Int) < (m : Int) := by omega
      have nn3 : ¬ B = PB := fun e => nn1 e.symm
      have nn4 : ¬ wr.heap.size = PB := fun e => nn2 e.symm
      refine wp_open' ?_
      intro K9 hK9
      go_cut [18] from 18 to 29 (fun i wz => i = .int .i64 k ∧ Hid (CopyP w2.heap.size w3.heap.size (k + 1) wz (.slice (some ⟨PB, 0, none⟩) m xc) n.progs) ∧ Hid (OutT 79 79 w2.heap.size w3.heap.size w3 wz))
      case first =>
        go_region_held3 (fun w' => w'.cell? ⟨B, 0, none⟩ = some (.slice (some ⟨PB, 0, none⟩) m xc) ∧ w'.cell? ⟨wr.heap.size, 0, none⟩ = some (.int .i64 x0) ∧ w'.cell? ⟨wr.heap.size, 1, none⟩ = some (.int .i64 x1) ∧ w'.cell? ⟨wr.heap.size, 2, none⟩ = some (.slice ua ul uc)) (go_keep) (first | (go_at_call 118; refine (CA.out _ (by first | with_reducible exact Below.refl _ _ | with_reducible exact (Below.refl _ _).drew)).mono ?_; rintro e W5 ⟨c5, rfl, o5, hb5⟩; have hs5 := Lib.hid (show Below W1.heap.size W1 W5 by first | with_reducible exact hb5 | with_reducible exact cr_d hb5); have O5 := Lib.hid (OwnI.mono (lo' := W1.heap.size) o5 (by first | exact Nat.le_refl _ | simp)); have B5 := Lib.hid (blk_in B1.out hs5.out); have P5 := Lib.hid (blk_in PX.out hs5.out); obtain ⟨y0, y1⟩ := cells2 B5.out; have yl := lt_of B5.out; obtain ⟨q0, q1, q2⟩ := cells3 P5.out; have yp := lt_of P5.out; have V5 := Lib.hid (V1.out.keep (w' := W5) (fun B cur _ _ q => blk_in q hs5.out)); obtain ⟨PB', pcx, hpe, _, _, hpl, hpt, hpf, t0, t1, t2⟩ := V5.out.at hu0 HX.out; simp only [Value.slice.injEq, Option.some.injEq, Addr.mk.injEq, and_true] at hpe; obtain ⟨rfl, hml, rfl⟩ := hpe; clear hml; have HPT := Lib.hid hpt; clear hpt; have g0 := hpf (k * 3); have g1 := hpf (k * 3 + 1); have g2 := hpf (k * 3 + 2); obtain ⟨xa5, xc5, rfl⟩ := O5.out.shape; clear o5 hb5))
        all_goals (
          go_wp2_with fail
          go_meet
          case rel =>
            refine ⟨rfl, Lib.hid ?_, Lib.hid ?_⟩
            · exact CopyP.step (x := ⟨x0, x1, row⟩) (b := W1.heap.size) HKU.out V5.out (HF1.out.below (HC1.out.trans (hs5.out.mono HC1.out.size))) HX.out O5.out (Nat.le_trans (Nat.le_trans H2w3.out HO.out.out.size) HC1.out.size) (fun y hy q e => Nat.lt_of_lt_of_le (HUB.out y hy q e) HC1.out.size) HPT.out
            · exact (((((HO.out.belowHi HC1.out).belowHi hs5.out).setC (p := ⟨PB, k * 3, none⟩) HPB.out.1 HPB.out.2 HPT.out _).setC (p := ⟨PB, k * 3 + 1, none⟩) HPB.out.1 HPB.out.2 (HPT.out.setCell _ _) _).setC (p := ⟨PB, k * 3 + 2, none⟩) HPB.out.1 HPB.out.2 ((HPT.out.setCell _ _).setCell _ _) _))
      case rest =>
        obtain ⟨rfl, HG', HO'⟩ := hcut
        refine hK9 _ _ ?_
        go_wp2_with fail
        go_roundw
        case rel => exact ⟨k + 1, by omega, by go_num, HG', HO'⟩
        case measure => simp [intOf]; omega
    obtain rfl : m = k := by omega
    have HPR := Lib.hid (HG.out.done NP.out.symm HO.out.out.size)
    have HS5 := Lib.hid ((HO.out.ty B _ ⟨_, _, HSw3.out⟩ (by decide) (by decide)).trans HSw3.out)
    have GR := Lib.hid (HO.out.out.blk G3.out (.inl (by have := HW2.out; omega)))
    have JR := Lib.hid (HO.out.out.blk J3.out (.inl (by have := HW2.out; omega)))
    replace HVL := Lib.hid (show ∃ us, VL w2.heap.size w3.heap.size wr (.slice za ll zc) us n.links by obtain ⟨us, hv⟩ := HVL.out; exact ⟨us, hv.keep (fun B' cur _ _ q => (HO.out.ty B' _ ⟨_, _, q⟩ (by decide) (by decide)).trans q)⟩)
    obtain ⟨w5, hw5⟩ : ∃ W, W = wr := ⟨_, rfl⟩
    subst hw5
    have HSw5 := Lib.hid HS5.out
    have HBw5 := Lib.hid HBW.out
    have H2w5 := Lib.hid (Nat.le_trans H2w3.out HO.out.out.size)
    have H3w5 := Lib.hid HO.out.out.size
    clear HG HO HBW HS5
    obtain ⟨k0, k1⟩ := cells2 GR.out
    have gl := lt_of GR.out
    go_wp2_with fail
    clear k0 k1 gl
    go_loopw [33] (fun i wr => ∃ (k : Nat), k ≤ ll ∧ i = .int .i64 k ∧ Hid (CopyL w2.heap.size w3.heap.size k wr (.slice za ll zc) n.links) ∧ Hid (OutT 68 68 w2.heap.size w3.heap.size w5 wr)) (fun i _ => ll - (intOf i).toNat)
    case atStart => exact ⟨0, Nat.zero_le _, rfl, Lib.hid (by obtain ⟨us, hv⟩ := HVL.out; exact ⟨[], us, rfl, hv, ⟨rfl, fun i u x h => by simp at h, fun i j u v h => by simp at h⟩⟩), Lib.hid (OutT.refl _ _ _ _ _)⟩
    case round =>
      obtain ⟨k, hk, rfl, HG, HO⟩ := hrel
      have HBW := Lib.hid (HO.out.out.below HBw5.out HBw5.out.size (by have := HW2.out; omega))
      by_cases hlt : k < ll
      case pos =>
        obtain ⟨x, hx⟩ : ∃ x, (n.links)[k]? = some x := ⟨_, List.getElem?_eq_getElem (by rw [← NL.out]; exact hlt)⟩
        obtain ⟨gb, go, pcv, rfl, hgb, e0, e1, e2, e3, e4, es⟩ := (HL.out.below HBW.out).atb hx
        have HX := Lib.hid hx
        have HLB := Lib.hid (HNB.out.2.2.2 x (List.mem_of_getElem? hx))
        obtain ⟨us, rest, hku, hv1, hF1⟩ := HG.out
        have hvl := hv1.len
        obtain ⟨u0, hu0⟩ : ∃ u0, (us ++ rest)[k]? = some u0 := ⟨_, List.getElem?_eq_getElem (by have := (List.getElem?_eq_some_iff.1 hx).1; omega)⟩
        obtain ⟨PB, pcx, hpe, hpb1, hpb2, _, _, _, _⟩ := hv1.at hu0 hx
        simp only [Value.slice.injEq] at hpe
        obtain ⟨rfl, hlen, rfl⟩ := hpe
        have HPB := Lib.hid (And.intro hpb1 hpb2)
        have HV1 := Lib.hid hv1
        have HF1 := Lib.hid hF1
        have HUB := Lib.hid (fam_hi hF1)
        have HKU := Lib.hid hku
        clear hx hv1 hF1 hvl hlen hpb1 hpb2 hku
        have ES := Lib.hid es
        obtain ⟨x0, x1, x2, x3, row⟩ := x
        simp only [] at e0 e1 e2 e3 e4 ES HLB
        obtain ⟨ua, uc, rfl⟩ := es.shape
        have CA0 := fun (W : World) (hw : Below wr.heap.size wr W) => copyOf_any (.slice ua row.length uc) row W (ES.out.below hw) (by have := HLB.out; omega)
        obtain ⟨ul, hul⟩ : ∃ q, q = row.length := ⟨_, rfl⟩
        rw [← hul] at e4 CA0
        clear hul es ES
        go_upto_region 10 with fail
        generalize hW : wr.alloc (.cells #[.int .i64 x0, .int .i64 x1, .int .i64 x2, .int .i64 x3, .slice ua ul uc] 68) = W1
        have HC1 := Lib.hid (show Below wr.heap.size wr W1 by rw [← hW]; exact (Below.refl _ _).al _)
        have PX := Lib.hid (show W1.heap[wr.heap.size]? = some (.cells #[.int .i64 x0, .int .i64 x1, .int .i64 x2, .int .i64 x3, .slice ua ul uc] 68) by rw [← hW]; exact hp1 _ _)
        clear hW
        obtain ⟨p0, p1, p2, p3, p4⟩ := cells5 PX.out
        have pl := lt_of PX.out
        have B1 := Lib.hid (show W1.heap[B]? = some (.cells #[.slice xa m xc, .slice (some ⟨PB, 0, none⟩) ll zc] 31) from blk_in ((HO.out.ty B _ ⟨_, _, HSw5.out⟩ (by decide) (by decide)).trans HSw5.out) HC1.out)
        obtain ⟨b0, b1⟩ := cells2 B1.out
        have bl := lt_of B1.out
        have V1 := Lib.hid (HV1.out.keep (w' := W1) (fun B cur _ _ q => blk_in q HC1.out))
        have CA := Lib.hid (fun (W : World) (hw : Below W1.heap.size W1 W) => CA0 W (HC1.out.trans (hw.mono HC1.out.size)))
        clear CA0
        have nn1 : ¬ PB = B := fun e => by
          obtain ⟨PB2, pc2, hpe2, _, _, _, ⟨cs2, fr2, hty⟩, _⟩ := V1.out.at hu0 HX.out
          simp only [Value.slice.injEq, Option.some.injEq, Addr.mk.injEq, and_true] at hpe2
          rw [← hpe2.1, e, B1.out] at hty
          simp at hty
        have nn2 : ¬ PB = wr.heap.size := by have := HPB.out; have := HO.out.out.size; have := HC3.out.size; have := H2w5.out; have := H3w5.out; omega
        have ik1 : (0 : Int) ≤ (k : Int) := by omega
        have ik2 : (k : Int) < (ll : Int) := by omega
        have nn3 : ¬ B = PB := fun e => nn1 e.symm
        have nn4 : ¬ wr.heap.size = PB := fun e => nn2 e.symm
        refine wp_open' ?_
        intro K9 hK9
        go_cut [33] from 33 to 46 (fun i wz => i = .int .i64 k ∧ Hid (CopyL w2.heap.size w3.heap.size (k + 1) wz (.slice (some ⟨PB, 0, none⟩) ll zc) n.links) ∧ Hid (OutT 68 68 w2.heap.size w3.heap.size w5 wz))
        case first =>
          go_region_held3 (fun w' => w'.cell? ⟨B, 1, none⟩ = some (.slice (some ⟨PB, 0, none⟩) ll zc) ∧ w'.cell? ⟨wr.heap.size, 4, none⟩ = some (.slice ua ul uc)) (go_keep) (first | (go_at_call 119; refine (CA.out _ (by first | with_reducible exact Below.refl _ _ | with_reducible exact (Below.refl _ _).drew)).mono ?_; rintro e W5 ⟨c5, rfl, o5, hb5⟩; have hs5 := Lib.hid (show Below W1.heap.size W1 W5 by first | with_reducible exact hb5 | with_reducible exact cr_d hb5); have O5 := Lib.hid (Own.mono (lo' := W1.heap.size) o5 (by first | exact Nat.le_refl _ | simp)); have B5 := Lib.hid (blk_in B1.out hs5.out); have P5 := Lib.hid (blk_in PX.out hs5.out); obtain ⟨y0, y1⟩ := cells2 B5.out; have yl := lt_of B5.out; obtain ⟨q0, q1, q2, q3, q4⟩ := cells5 P5.out; have yp := lt_of P5.out; have V5 := Lib.hid (V1.out.keep (w' := W5) (fun B cur _ _ q => blk_in q hs5.out)); obtain ⟨PB', pcx, hpe, _, _, hpl, hpt, hpf, t0, t1, t2, t3, t4⟩ := V5.out.at hu0 HX.out; simp only [Value.slice.injEq, Option.some.injEq, Addr.mk.injEq, and_true] at hpe; obtain ⟨rfl, hml, rfl⟩ := hpe; clear hml; have HPT := Lib.hid hpt; clear hpt; have g0 := hpf (k * 5); have g1 := hpf (k * 5 + 1); have g2 := hpf (k * 5 + 2); have g3 := hpf (k * 5 + 3); have g4 := hpf (k * 5 + 4); obtain ⟨xa5, xc5, rfl⟩ := O5.out.shape; clear o5 hb5))
          all_goals (
            go_wp2_with fail
            go_meet
            case rel =>
              refine ⟨rfl, Lib.hid ?_, Lib.hid ?_⟩
              · exact CopyL.step (x := ⟨x0, x1, x2, x3, row⟩) (b := W1.heap.size) HKU.out V5.out (HF1.out.below (HC1.out.trans (hs5.out.mono HC1.out.size))) HX.out O5.out (Nat.le_trans (Nat.le_trans H2w5.out HO.out.out.size) HC1.out.size) (fun y hy q e => Nat.lt_of_lt_of_le (HUB.out y hy q e) HC1.out.size) HPT.out
              · exact (((HO.out.belowHi HC1.out).belowHi hs5.out).setC (p := ⟨PB, k * 5 + 4, none⟩) HPB.out.1 HPB.out.2 HPT.out _))
        case rest =>
          obtain ⟨rfl, HG', HO'⟩ := hcut
          refine hK9 _ _ ?_
          go_wp2_with fail
          go_roundw
          case rel => exact ⟨k + 1, by omega, by go_num, HG', HO'⟩
          case measure => simp [intOf]; omega
      obtain rfl : ll = k := by omega
      have HLR := Lib.hid (HG.out.done NL.out.symm (Nat.le_trans H3w5.out HO.out.out.size))
      have HPR2 := Lib.hid (HPR.out.outT HO.out (by decide) (by decide) (by decide) (by decide))
      have HSW := Lib.hid ((HO.out.ty B _ ⟨_, _, HSw5.out⟩ (by decide) (by decide)).trans HSw5.out)
      have JW := Lib.hid (HO.out.out.blk JR.out (.inl (by have := HW2.out; omega)))
      obtain ⟨s0, s1⟩ := cells2 HSW.out
      have sl := lt_of HSW.out
      obtain ⟨r0, r1⟩ := cells2 JW.out
      have rl := lt_of JW.out
      have rz0 := fr_of JW.out 0
      have rz1 := fr_of JW.out 1
      have q := set2_all JW.out (.slice xa m xc) (.slice za ll zc)
      have Q2 := Lib.hid q.2
      clear q
      go_wp2_with fail
      refine bodyPost_ret (v := .agg #[.slice xa m xc, .slice za ll zc]) (by simp [results, Try.results53, go_sem, r0, r1]) rfl ⟨_, rfl, ?_, ?_⟩
      · have z : NetR w2.heap.size wr.heap.size wr (.agg #[.slice xa m xc, .slice za ll zc]) n := ⟨_, _, rfl, HPR2.out.mono (Nat.le_refl _) HO.out.out.size, HLR.out, HWF.out⟩
        exact (z.out Q2.out (.inr (by have := HW2.out; omega))).mono (by have := HW2.out; omega) Q2.out.size
      · exact Q2.out.below HBW.out HBW.out.size (by omega)
end Go.Proofs.Ytkeoefbkeommhaa
