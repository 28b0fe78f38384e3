/-
  Indices in an order; links renumbered by a closure. No statement of the seat is proved here.
-/
import Derived.Test.YtmfagmfclehdbaaNetF
import Derived.Test.YtmfagmfclehdbaaCaps
namespace Go.Proofs.Ytmfagmfclehdbaa
open Go.RowKit

/-- Where it is in an order, or -1. -/
def ixI (xs : List Int) (x : Int) : Int := if x ∈ xs then ((xs.idxOf x : Nat) : Int) else -1
theorem ixI_hit {xs : List Int} {k : Nat} {x : Int} (hx : xs[k]? = some x) (hn : x ∉ xs.take k) : ixI xs x = k := by
  have hk := (List.getElem?_eq_some_iff.1 hx).1
  unfold ixI
  rw [if_pos (List.mem_of_getElem? hx)]
  conv => lhs; rw [← List.take_append_drop k xs, List.idxOf_append, if_neg hn, List.drop_eq_getElem_cons hk, (List.getElem?_eq_some_iff.1 hx).2, List.idxOf_cons_self]
  simp
  omega
theorem ixI_none {xs : List Int} {x : Int} (hn : x ∉ xs) : ixI xs x = -1 := if_neg hn
theorem ixI_pos {xs : List Int} {x : Int} : decide (x ∈ xs) = decide (0 ≤ ixI xs x) := by
  unfold ixI
  by_cases h : x ∈ xs
  · rw [if_pos h]; simp [h]
  · rw [if_neg h]; simp [h]
theorem ixI_wf {xs : List Int} {x : Int} (h : xs.length ≤ 9223372036854775807) : -1 ≤ ixI xs x ∧ ixI xs x ≤ 9223372036854775807 := by
  unfold ixI
  by_cases hm : x ∈ xs
  · rw [if_pos hm]; have := List.idxOf_le_length (a := x) (l := xs); omega
  · rw [if_neg hm]; omega
theorem notin_stepI {xs : List Int} {k : Nat} {x y : Int} (hx : xs[k]? = some y) (h : y ≠ x) (hn : x ∉ xs.take k) : x ∉ xs.take (k + 1) := by
  have hk := (List.getElem?_eq_some_iff.1 hx).1
  rw [List.take_succ_eq_append_getElem hk, (List.getElem?_eq_some_iff.1 hx).2]
  simp only [List.mem_append, List.mem_singleton]
  rintro (q | q)
  · exact hn q
  · exact h q.symm

set_option maxRecDepth 100000 in
set_option maxHeartbeats 4000000 in
theorem iixI_any (v : Value) (xs : List Int) (x : Int) (w : World) (h : Sl w v xs) :
    Calls Try.prog 86 #[v, .int .i64 x] w fun e w' => e = .returned (.int .i64 (ixI xs x)) ∧ w = w' := by
  have HV := Lib.hid h
  have hll := h.len
  obtain ⟨a, cap, rfl⟩ := h.shape
  clear h
  obtain ⟨n, hn⟩ : ∃ n, n = xs.length := ⟨_, rfl⟩
  obtain ⟨r, hr⟩ : ∃ r, r = ixI xs x := ⟨_, rfl⟩
  rw [← hr]
  rw [← hn] at hll HV ⊢
  have HN := Lib.hid hn
  have HR := Lib.hid hr
  clear hn hr
  go_enter Try.func86, Try.ntmps86
  go_wp2_with fail
  go_loopw [8] (fun i wr => ∃ k : Nat, k ≤ n ∧ i = .int .i64 k ∧ Hid (x ∉ xs.take k) ∧ w = wr) (fun i _ => n - (intOf i).toNat)
  case atStart => exact ⟨0, Nat.zero_le _, rfl, Lib.hid (by simp), rfl⟩
  case round =>
    obtain ⟨k, hk, rfl, HNI, hw⟩ := hrel
    subst hw
    by_cases hlt : k < n
    · obtain ⟨y, hy⟩ : ∃ y, xs[k]? = some y := ⟨_, List.getElem?_eq_getElem (by rw [← HN.out]; exact hlt)⟩
      obtain ⟨b, off, rfl, hbl, e0⟩ := HV.out.atb hy
      have HY := Lib.hid hy
      clear hy
      by_cases hd : y = x
      · subst hd
        have HD := Lib.hid (ixI_hit HY.out HNI.out)
        go_wp2_with fail
        go_ret
        have e := HR.out.trans HD.out
        subst e
        exact ⟨rfl, rfl⟩
      · have HD := Lib.hid (notin_stepI HY.out hd HNI.out)
        have d1 : (x == y) = false := by simpa using fun e : x = y => hd e.symm
        clear hd
        go_wp2_with fail
        go_roundw
        case rel => exact ⟨k + 1, by omega, by go_num, HD, trivial⟩
        case measure => simp [intOf]; omega
    · have e := Lib.hid (HR.out.trans (ixI_none (by have := HNI.out; rwa [List.take_of_length_le (by rw [← HN.out]; omega)] at this)))
      go_wp2_with fail
      go_ret
      obtain rfl := e.out
      exact ⟨rfl, rfl⟩
set_option maxHeartbeats 1600000 in
theorem icontI_any (v : Value) (xs : List Int) (x : Int) (w : World) (h : Sl w v xs) :
    Calls Try.prog 129 #[v, .int .i64 x] w fun e w' => e = .returned (.bool (decide (x ∈ xs))) ∧ w = w' := by
  have CI := Lib.hid (iixI_any v xs x w h)
  obtain ⟨a, cap, rfl⟩ := h.shape
  obtain ⟨r, hr⟩ : ∃ r, r = ixI xs x := ⟨_, rfl⟩
  have HD := Lib.hid (ixI_pos (xs := xs) (x := x))
  rw [← hr] at CI HD
  clear hr h
  go_enter Try.func129, Try.ntmps129
  go_wp2_with (go_at_call 86; with_reducible refine CI.out.mono ?_; rintro e w' ⟨rfl, rfl⟩)
  go_ret
  exact ⟨ret_bool HD.out, rfl⟩

/-- The closure of PermuteNetwork: where a process is in the order. -/
theorem icloP_any (gc : Nat) (v : Value) (xs : List Int) (x : Int) (w : World) (hg : w.heap[gc]? = some (.cells #[v] 42)) (h : Sl w v xs) :
    Calls Try.prog 85 #[.int .i64 x, .pointer (some ⟨gc, 0, none⟩)] w fun e w' => e = .returned (.int .i64 (ixI xs x)) ∧ w = w' := by
  have CI := Lib.hid (iixI_any v xs x w h)
  obtain ⟨a, cap, rfl⟩ := h.shape
  obtain ⟨r, hr⟩ : ∃ r, r = ixI xs x := ⟨_, rfl⟩
  rw [← hr] at CI ⊢
  have c0 : w.cell? ⟨gc, 0, none⟩ = some (.slice a xs.length cap) := by rw [cell_of hg 0]; rfl
  have gl := lt_of hg
  clear hr h hg
  go_enter Try.func85, Try.ntmps85
  go_wp2_with (go_at_call 86; with_reducible refine CI.out.mono ?_; rintro e w' ⟨rfl, rfl⟩)
  go_ret
  exact ⟨rfl, rfl⟩

def isOrdB (c : Nat) (xs : List Int) : Bool := decide (xs.length = c) && upTo (fun k => decide ((k : Int) ∈ xs)) c
set_option maxRecDepth 100000 in
set_option maxHeartbeats 4000000 in
theorem iisOrd_any (c : Nat) (v : Value) (xs : List Int) (w : World) (h : Sl w v xs) (hc : c ≤ 9223372036854775807) :
    Calls Try.prog 83 #[.int .i64 c, v] w fun e w' => e = .returned (.bool (isOrdB c xs)) ∧ w = w' := by
  have CC := Lib.hid (fun (x : Int) => icontI_any v xs x w h)
  have hll := h.len
  obtain ⟨a, cap, rfl⟩ := h.shape
  obtain ⟨r, hr⟩ : ∃ r, r = isOrdB c xs := ⟨_, rfl⟩
  rw [← hr]
  obtain ⟨n, hn⟩ : ∃ n, n = xs.length := ⟨_, rfl⟩
  rw [← hn] at CC hll ⊢
  have HR := Lib.hid (show r = (decide (n = c) && upTo (fun k => decide ((k : Int) ∈ xs)) c) by rw [hr, hn]; rfl)
  clear hr h hn
  by_cases hnc : n = c
  · subst hnc
    have HR2 := Lib.hid (show r = upTo (fun k => decide ((k : Int) ∈ xs)) n by rw [HR.out]; simp)
    go_enter Try.func83, Try.ntmps83
    go_wp2_with fail
    go_loopw [11] (fun i wr => ∃ k : Nat, k ≤ n ∧ i = .int .i64 k ∧ Hid (upTo (fun k => decide ((k : Int) ∈ xs)) k = true) ∧ w = wr) (fun i _ => n - (intOf i).toNat)
    case atStart => exact ⟨0, Nat.zero_le _, rfl, Lib.hid rfl, rfl⟩
    case round =>
      obtain ⟨k, hk, rfl, HA, hw⟩ := hrel
      subst hw
      by_cases hlt : k < n
      · have CK := Lib.hid (CC.out (k : Int))
        by_cases hm : ((k : Int)) ∈ xs
        · rw [decide_eq_true hm] at CK
          have HA2 := Lib.hid (upTo_step (p := fun k => decide ((k : Int) ∈ xs)) HA.out (decide_eq_true hm))
          clear hm
          go_wp2_with (go_at_call 129; with_reducible refine CK.out.mono ?_; rintro e w' ⟨rfl, rfl⟩)
          go_roundw
          case rel => exact ⟨k + 1, by omega, by go_num, HA2, trivial⟩
          case measure => simp [intOf]; omega
        · rw [decide_eq_false hm] at CK
          have HA2 := Lib.hid (HR2.out.trans (upTo_no (p := fun k => decide ((k : Int) ∈ xs)) hlt (decide_eq_false hm)))
          clear hm
          go_wp2_with (go_at_call 129; with_reducible refine CK.out.mono ?_; rintro e w' ⟨rfl, rfl⟩)
          go_ret
          exact ⟨ret_bool HA2.out, rfl⟩
      · have HA2 := Lib.hid (show r = true by rw [HR2.out, show n = k by omega]; exact HA.out)
        go_wp2_with fail
        go_ret
        exact ⟨ret_bool HA2.out, rfl⟩
  · have HA2 := Lib.hid (show r = false by rw [HR.out, decide_eq_false hnc]; rfl)
    have d1 : ((n : Int) == (c : Int)) = false := by simpa using fun e : (n : Int) = c => hnc (by omega)
    have d2 : ((n : Int) != (c : Int)) = true := by simpa using fun e : (n : Int) = c => hnc (by omega)
    go_enter Try.func83, Try.ntmps83
    go_wp2_with fail
    go_ret
    exact ⟨ret_bool HA2.out, rfl⟩

/-- A link whose processes have other numbers. -/
def renL (f : Int → Int) (l : Lnk) : Lnk := ⟨if l.src = outE then l.frm else f l.frm, l.out, if l.tgt = outE then l.to else f l.to, l.inn, l.tok⟩
def renK (f : Int → Int) (ls : List Lnk) (k : Nat) : List Lnk := (ls.take k).map (renL f) ++ ls.drop k
theorem renK_at {f : Int → Int} {ls : List Lnk} {k : Nat} {x : Lnk} (hx : ls[k]? = some x) : (renK f ls k)[k]? = some x := by
  have hk := (List.getElem?_eq_some_iff.1 hx).1
  unfold renK
  rw [List.getElem?_append_right (by simp; omega)]
  simp [List.length_take, Nat.min_eq_left (Nat.le_of_lt hk), hx]
theorem renK_set {f : Int → Int} {ls : List Lnk} {k : Nat} {x : Lnk} (hx : ls[k]? = some x) : (renK f ls k).set k (renL f x) = renK f ls (k + 1) := by
  have hk := (List.getElem?_eq_some_iff.1 hx).1
  unfold renK
  rw [List.set_append_right _ _ (by simp; omega), List.take_succ_eq_append_getElem hk, (List.getElem?_eq_some_iff.1 hx).2, List.map_append, List.append_assoc]
  congr 1
  rw [List.length_map, List.length_take, Nat.min_eq_left (Nat.le_of_lt hk), Nat.sub_self, List.drop_eq_getElem_cons hk]
  rfl
theorem renK_end (f : Int → Int) (ls : List Lnk) : renK f ls ls.length = ls.map (renL f) := by
  unfold renK; rw [List.take_length, List.drop_length, List.append_nil]
theorem set_two {α : Type} (xs : List α) (k : Nat) (a b : α) : (xs.set k a).set k b = xs.set k b := by rw [List.set_set]

set_option maxRecDepth 100000 in
set_option maxHeartbeats 16000000 in
theorem irenP_any (gc : Nat) (f : Int → Int) (v : Value) (ls : List Lnk) (w : World) (h : SlL w v ls) (hl : ls.length ≤ 1100000)
    (hf : ∀ (W : World) (i : Int), Below w.heap.size w W → (∃ l ∈ ls, (i = l.frm ∧ l.src ≠ outE) ∨ (i = l.to ∧ l.tgt ≠ outE)) → Calls Try.prog 85 #[.int .i64 i, .pointer (some ⟨gc, 0, none⟩)] W fun e w' => e = .returned (.int .i64 (f i)) ∧ W = w') :
    Calls Try.prog 84 #[v, .func (.func 85) #[] #[.pointer (some ⟨gc, 0, none⟩)]] w fun e w' => ∃ c, e = .returned c ∧ (∃ us, us.length = ls.length ∧ (∀ (i : Nat) (u : Value) (p : Lnk), us[i]? = some u → ls[i]? = some p → Sl w u p.tok) ∧ VL w.heap.size w'.heap.size w' c us (ls.map (renL f))) ∧ Below w.heap.size w w' := by
  have HF := Lib.hid hf
  have HV := Lib.hid h
  have CL := Lib.hid (fun (W : World) (hw : Below w.heap.size w W) => icloneL_any v ls W (h.below hw) hl)
  obtain ⟨la, lcap, rfl⟩ := h.shape
  obtain ⟨n, hn⟩ : ∃ n, n = ls.length := ⟨_, rfl⟩
  rw [← hn] at CL HV hl ⊢
  have NN := Lib.hid hn
  clear h hf hn
  have CL1 := Lib.hid (show Calls Try.prog 123 #[.slice la n lcap] w fun e w' => ∃ c, e = .returned c ∧ (∃ us, us.length = n ∧ (∀ (i : Nat) (u : Value) (p : Lnk), us[i]? = some u → ls[i]? = some p → Sl w u p.tok) ∧ VL w.heap.size w'.heap.size w' c us ls) ∧ Below w.heap.size w w' from CL.out w (Below.refl _ _))
  go_enter Try.func84, Try.ntmps84
  go_wp2_with (go_at_call 123; with_reducible refine CL1.out.mono ?_; rintro e w2 ⟨c, rfl, ⟨us, hus, hsl, hvl⟩, hb2⟩; have HUS := Lib.hid hus; have HSL := Lib.hid hsl; have HVL := Lib.hid hvl; have HB2 := Lib.hid hb2; obtain ⟨ca, cc, rfl⟩ := hvl.shape; rw [← NN.out]; rw [← NN.out] at HVL; clear hus hsl hvl hb2)
  go_loopw [12] (fun i wr => ∃ (k : Nat), k ≤ n ∧ i = .int .i64 k ∧ Hid (VL w.heap.size wr.heap.size wr (.slice ca n cc) us (renK f ls k)) ∧ Hid (Below w.heap.size w wr)) (fun i _ => n - (intOf i).toNat)
  case atStart => exact ⟨0, Nat.zero_le _, rfl, HVL, HB2⟩
  case round =>
    obtain ⟨k, hk, rfl, HG, HB⟩ := hrel
    by_cases hlt : k < n
    case pos =>
      obtain ⟨x, hx⟩ : ∃ x, ls[k]? = some x := ⟨_, List.getElem?_eq_getElem (by rw [← NN.out]; exact hlt)⟩
      obtain ⟨lb, off, pcv, rfl, hbl, e0, e1, e2, e3, e4, es⟩ := (HV.out.below HB.out).atb hx
      have HXK := Lib.hid (renK_at (f := f) hx)
      have HXS := Lib.hid (renK_set (f := f) hx)
      have HM := Lib.hid (List.mem_of_getElem? hx)
      obtain ⟨u0, hu0⟩ : ∃ u0, us[k]? = some u0 := ⟨_, List.getElem?_eq_getElem (by rw [HUS.out]; exact hlt)⟩
      clear hx
      obtain ⟨xf, xo, xt, xi, row⟩ := x
      simp only [] at e0 e1 e2 e3 e4 es
      obtain ⟨ua, uc, rfl⟩ := es.shape
      obtain ⟨ul, hul⟩ : ∃ q, q = row.length := ⟨_, rfl⟩
      rw [← hul] at e4
      clear hul es
      have CI := Lib.hid (fun (W : World) => iinput_any xf xo xt xi (.slice ua ul uc) W)
      have CO := Lib.hid (fun (W : World) => ioutput_any xf xo xt xi (.slice ua ul uc) W)
      go_upto_region 5 with fail
      generalize hW : wr.alloc (.cells #[.int .i64 xf, .int .i64 xo, .int .i64 xt, .int .i64 xi, .slice ua ul uc] 86) = W1
      have HC1 := Lib.hid (show Below wr.heap.size wr W1 by rw [← hW]; exact (Below.refl _ _).al _)
      have PX := Lib.hid (show W1.heap[wr.heap.size]? = some (.cells #[.int .i64 xf, .int .i64 xo, .int .i64 xt, .int .i64 xi, .slice ua ul uc] 86) by rw [← hW]; exact hp1 _ _)
      clear hW e0 e1 e2 e3 e4
      obtain ⟨p10, p11, p12, p13, p14⟩ := cells5 PX.out
      have pl1 := lt_of PX.out
      have V1 := Lib.hid ((HG.out.keep (w' := W1) (fun B cur _ _ q => blk_in q HC1.out)).mono (Nat.le_refl _) (Nat.le_refl _))
      obtain ⟨LB, cc1, hpe, hpb1, hpb2, hpl, hpt, hpf, e10, _, e12, _, _⟩ := V1.out.at hu0 HXK.out
      simp only [Value.slice.injEq] at hpe
      obtain ⟨rfl, hml, rfl⟩ := hpe
      have g10 := hpf (k * 5)
      have g12 := hpf (k * 5 + 2)
      have nn1 : ¬ LB = wr.heap.size := by omega
      have nn2 : ¬ wr.heap.size = LB := by omega
      have HLB1 := Lib.hid (And.intro hpb1 hpb2)
      clear hml hpt hpf hpb1 hpb2
      have ik1 : (0 : Int) ≤ (k : Int) := by omega
      have ik2 : (k : Int) < (n : Int) := by omega
      by_cases hin : ((xf, xo) : End) = outE
      case pos =>
        rw [decide_eq_true hin] at CI
        go_upto_region 7 with (go_at_call 112; with_reducible refine (CI.out _).mono ?_; rintro e W3 ⟨rfl, hb3⟩; have HC3 := Lib.hid (HC1.out.trans (hb3.mono HC1.out.size)); have P3 := Lib.hid (blk_in PX.out hb3); have V3 := Lib.hid (V1.out.keep (w' := W3) (fun B cur _ _ q => blk_in q hb3)); have HB3 := Lib.hid (HB.out.trans (HC3.out.mono HB.out.size)); clear p10 p11 p12 p13 p14 pl1 g10 g12 e10 e12; obtain ⟨p30, p31, p32, p33, p34⟩ := cells5 P3.out; have pl3 := lt_of P3.out; obtain ⟨LB', cc', hpe, _, _, hpl3, hpt, hpf, e10, _, e12, _, _⟩ := V3.out.at hu0 HXK.out; simp only [Value.slice.injEq, Option.some.injEq, Addr.mk.injEq, and_true] at hpe; obtain ⟨rfl, hml, rfl⟩ := hpe; clear hml; have HPT3 := Lib.hid hpt; have g10 := hpf (k * 5); have g12 := hpf (k * 5 + 2); clear hpt hpf hb3)
        have HZ5 := Lib.hid (show wr.heap.size ≤ W3.heap.size from HC3.out.size)
        have HB5 := HB3
        have P5 := P3
        have V5 := Lib.hid (show VL w.heap.size wr.heap.size W3 (.slice (some ⟨LB, 0, none⟩) n cc) us ((renK f ls k).set k ⟨xf, xo, xt, xi, row⟩) by rw [set_same HXK.out]; exact V3.out)
        clear p30 p31 p32 p33 p34 pl3 g10 g12 e10 e12 hpl3
        have HXK5 := Lib.hid (show ((renK f ls k).set k ⟨xf, xo, xt, xi, row⟩)[k]? = some (⟨xf, xo, xt, xi, row⟩ : Lnk) from List.getElem?_set_self (List.getElem?_eq_some_iff.1 HXK.out).1)
        obtain ⟨p50, p51, p52, p53, p54⟩ := cells5 P5.out
        have pl5 := lt_of P5.out
        obtain ⟨LB', cc', hpe, _, _, hpl5, hpt, hpf, _, _, e52, _, _⟩ := V5.out.at hu0 HXK5.out
        simp only [Value.slice.injEq, Option.some.injEq, Addr.mk.injEq, and_true] at hpe
        obtain ⟨rfl, hml, rfl⟩ := hpe
        have g52 := hpf (k * 5 + 2)
        clear hml hpt hpf
        by_cases hout : ((xt, xi) : End) = outE
        case pos =>
          have HX2 := Lib.hid (show renL f ⟨xf, xo, xt, xi, row⟩ = ⟨xf, xo, xt, xi, row⟩ by unfold renL Lnk.src Lnk.tgt; simp only []; rw [if_pos hin, if_pos hout])
          rw [decide_eq_true hout] at CO
          clear hout hin
          go_wp2_with (go_at_call 113; with_reducible refine (CO.out _).mono ?_; rintro e W7 ⟨rfl, hb7⟩; have HZ7 := Lib.hid hb7.size; have HB7 := Lib.hid (HB5.out.trans (hb7.mono HB5.out.size)); have P7 := Lib.hid (blk_in P5.out hb7); have V7 := Lib.hid (V5.out.keep (w' := W7) (fun B cur _ _ q => blk_in q hb7)); clear p50 p51 p52 p53 p54 pl5 g52 e52; obtain ⟨p70, p71, p72, p73, p74⟩ := cells5 P7.out; have pl7 := lt_of P7.out; obtain ⟨LB', cc', hpe, _, _, hpl7, hpt, hpf, _, _, e72, _, _⟩ := V7.out.at hu0 HXK5.out; simp only [Value.slice.injEq, Option.some.injEq, Addr.mk.injEq, and_true] at hpe; obtain ⟨rfl, hml, rfl⟩ := hpe; clear hml; have g72 := hpf (k * 5 + 2); clear hpt hpf hb7)
          go_roundw
          case rel =>
            refine ⟨k + 1, by omega, by go_num, Lib.hid ?_, HB7⟩
            have q := V7.out
            rw [← HX2.out, HXS.out] at q
            exact q.mono (Nat.le_refl _) (Nat.le_trans HZ5.out HZ7.out)
          case measure => simp [intOf]; omega
        case neg =>
          have HX2 := Lib.hid (show renL f ⟨xf, xo, xt, xi, row⟩ = ⟨xf, xo, f xt, xi, row⟩ by unfold renL Lnk.src Lnk.tgt; simp only []; rw [if_pos hin, if_neg hout])
          rw [decide_eq_false hout] at CO
          have CG := Lib.hid (fun (W : World) (hw : Below w.heap.size w W) => HF.out W xt hw ⟨_, HM.out, .inr ⟨rfl, hout⟩⟩)
          clear hout hin
          go_wp2_with (first | (go_at_call 85; with_reducible refine (CG.out _ HB7.out).mono ?_; rintro e w' ⟨rfl, rfl⟩) | (go_at_call 113; with_reducible refine (CO.out _).mono ?_; rintro e W7 ⟨rfl, hb7⟩; have HZ7 := Lib.hid hb7.size; have HB7 := Lib.hid (HB5.out.trans (hb7.mono HB5.out.size)); have P7 := Lib.hid (blk_in P5.out hb7); have V7 := Lib.hid (V5.out.keep (w' := W7) (fun B cur _ _ q => blk_in q hb7)); clear p50 p51 p52 p53 p54 pl5 g52 e52; obtain ⟨p70, p71, p72, p73, p74⟩ := cells5 P7.out; have pl7 := lt_of P7.out; obtain ⟨LB', cc', hpe, _, _, hpl7, hpt, hpf, _, _, e72, _, _⟩ := V7.out.at hu0 HXK5.out; simp only [Value.slice.injEq, Option.some.injEq, Addr.mk.injEq, and_true] at hpe; obtain ⟨rfl, hml, rfl⟩ := hpe; clear hml; have g72 := hpf (k * 5 + 2); clear hpt hpf hb7))
          go_roundw
          case rel =>
            refine ⟨k + 1, by omega, by go_num, Lib.hid ?_, Lib.hid ?_⟩
            · have q := V7.out.set2 HXK5.out (f xt)
              rw [set_two, ← HX2.out, HXS.out] at q
              exact q.mono (Nat.le_refl _) (by rw [World.size_setCell]; exact Nat.le_trans HZ5.out HZ7.out)
            · exact HB7.out.setCell (p := ⟨LB, k * 5 + 2, none⟩) HLB1.out.1 _
          case measure => simp [intOf]; omega
      case neg =>
        rw [decide_eq_false hin] at CI
        have CF := Lib.hid (fun (W : World) (hw : Below w.heap.size w W) => HF.out W xf hw ⟨_, HM.out, .inl ⟨rfl, hin⟩⟩)
        go_upto_region 7 with (first | (go_at_call 85; with_reducible refine (CF.out _ HB3.out).mono ?_; rintro e w' ⟨rfl, rfl⟩) | (go_at_call 112; with_reducible refine (CI.out _).mono ?_; rintro e W3 ⟨rfl, hb3⟩; have HC3 := Lib.hid (HC1.out.trans (hb3.mono HC1.out.size)); have P3 := Lib.hid (blk_in PX.out hb3); have V3 := Lib.hid (V1.out.keep (w' := W3) (fun B cur _ _ q => blk_in q hb3)); have HB3 := Lib.hid (HB.out.trans (HC3.out.mono HB.out.size)); clear p10 p11 p12 p13 p14 pl1 g10 g12 e10 e12; obtain ⟨p30, p31, p32, p33, p34⟩ := cells5 P3.out; have pl3 := lt_of P3.out; obtain ⟨LB', cc', hpe, _, _, hpl3, hpt, hpf, e10, _, e12, _, _⟩ := V3.out.at hu0 HXK.out; simp only [Value.slice.injEq, Option.some.injEq, Addr.mk.injEq, and_true] at hpe; obtain ⟨rfl, hml, rfl⟩ := hpe; clear hml; have HPT3 := Lib.hid hpt; have g10 := hpf (k * 5); have g12 := hpf (k * 5 + 2); clear hpt hpf hb3))
        generalize hW : W3.setCell ⟨LB, k * 5, none⟩ (.int .i64 (f xf)) = W5
        have HZ5 := Lib.hid (show wr.heap.size ≤ W5.heap.size by rw [← hW, World.size_setCell]; exact HC3.out.size)
        have HB5 := Lib.hid (show Below w.heap.size w W5 by rw [← hW]; exact HB3.out.setCell (p := ⟨LB, k * 5, none⟩) HLB1.out.1 _)
        have P5 := Lib.hid (show W5.heap[wr.heap.size]? = some (.cells #[.int .i64 xf, .int .i64 xo, .int .i64 xt, .int .i64 xi, .slice ua ul uc] 86) by rw [← hW]; exact setR_blkN P3.out nn2 _)
        have V5 := Lib.hid (show VL w.heap.size wr.heap.size W5 (.slice (some ⟨LB, 0, none⟩) n cc) us ((renK f ls k).set k ⟨f xf, xo, xt, xi, row⟩) by rw [← hW]; exact V3.out.set0 HXK.out (f xf))
        clear hW p30 p31 p32 p33 p34 pl3 g10 g12 e10 e12 hpl3
        have HXK5 := Lib.hid (show ((renK f ls k).set k ⟨f xf, xo, xt, xi, row⟩)[k]? = some (⟨f xf, xo, xt, xi, row⟩ : Lnk) from List.getElem?_set_self (List.getElem?_eq_some_iff.1 HXK.out).1)
        obtain ⟨p50, p51, p52, p53, p54⟩ := cells5 P5.out
        have pl5 := lt_of P5.out
        obtain ⟨LB', cc', hpe, _, _, hpl5, hpt, hpf, _, _, e52, _, _⟩ := V5.out.at hu0 HXK5.out
        simp only [Value.slice.injEq, Option.some.injEq, Addr.mk.injEq, and_true] at hpe
        obtain ⟨rfl, hml, rfl⟩ := hpe
        have g52 := hpf (k * 5 + 2)
        clear hml hpt hpf
        by_cases hout : ((xt, xi) : End) = outE
        case pos =>
          have HX2 := Lib.hid (show renL f ⟨xf, xo, xt, xi, row⟩ = ⟨f xf, xo, xt, xi, row⟩ by unfold renL Lnk.src Lnk.tgt; simp only []; rw [if_neg hin, if_pos hout])
          rw [decide_eq_true hout] at CO
          clear hout hin
          go_wp2_with (go_at_call 113; with_reducible refine (CO.out _).mono ?_; rintro e W7 ⟨rfl, hb7⟩; have HZ7 := Lib.hid hb7.size; have HB7 := Lib.hid (HB5.out.trans (hb7.mono HB5.out.size)); have P7 := Lib.hid (blk_in P5.out hb7); have V7 := Lib.hid (V5.out.keep (w' := W7) (fun B cur _ _ q => blk_in q hb7)); clear p50 p51 p52 p53 p54 pl5 g52 e52; obtain ⟨p70, p71, p72, p73, p74⟩ := cells5 P7.out; have pl7 := lt_of P7.out; obtain ⟨LB', cc', hpe, _, _, hpl7, hpt, hpf, _, _, e72, _, _⟩ := V7.out.at hu0 HXK5.out; simp only [Value.slice.injEq, Option.some.injEq, Addr.mk.injEq, and_true] at hpe; obtain ⟨rfl, hml, rfl⟩ := hpe; clear hml; have g72 := hpf (k * 5 + 2); clear hpt hpf hb7)
          go_roundw
          case rel =>
            refine ⟨k + 1, by omega, by go_num, Lib.hid ?_, HB7⟩
            have q := V7.out
            rw [← HX2.out, HXS.out] at q
            exact q.mono (Nat.le_refl _) (Nat.le_trans HZ5.out HZ7.out)
          case measure => simp [intOf]; omega
        case neg =>
          have HX2 := Lib.hid (show renL f ⟨xf, xo, xt, xi, row⟩ = ⟨f xf, xo, f xt, xi, row⟩ by unfold renL Lnk.src Lnk.tgt; simp only []; rw [if_neg hin, if_neg hout])
          rw [decide_eq_false hout] at CO
          have CG := Lib.hid (fun (W : World) (hw : Below w.heap.size w W) => HF.out W xt hw ⟨_, HM.out, .inr ⟨rfl, hout⟩⟩)
          clear hout hin
          go_wp2_with (first | (go_at_call 85; with_reducible refine (CG.out _ HB7.out).mono ?_; rintro e w' ⟨rfl, rfl⟩) | (go_at_call 113; with_reducible refine (CO.out _).mono ?_; rintro e W7 ⟨rfl, hb7⟩; have HZ7 := Lib.hid hb7.size; have HB7 := Lib.hid (HB5.out.trans (hb7.mono HB5.out.size)); have P7 := Lib.hid (blk_in P5.out hb7); have V7 := Lib.hid (V5.out.keep (w' := W7) (fun B cur _ _ q => blk_in q hb7)); clear p50 p51 p52 p53 p54 pl5 g52 e52; obtain ⟨p70, p71, p72, p73, p74⟩ := cells5 P7.out; have pl7 := lt_of P7.out; obtain ⟨LB', cc', hpe, _, _, hpl7, hpt, hpf, _, _, e72, _, _⟩ := V7.out.at hu0 HXK5.out; simp only [Value.slice.injEq, Option.some.injEq, Addr.mk.injEq, and_true] at hpe; obtain ⟨rfl, hml, rfl⟩ := hpe; clear hml; have g72 := hpf (k * 5 + 2); clear hpt hpf hb7))
          go_roundw
          case rel =>
            refine ⟨k + 1, by omega, by go_num, Lib.hid ?_, Lib.hid ?_⟩
            · have q := V7.out.set2 HXK5.out (f xt)
              rw [set_two, ← HX2.out, HXS.out] at q
              exact q.mono (Nat.le_refl _) (by rw [World.size_setCell]; exact Nat.le_trans HZ5.out HZ7.out)
            · exact HB7.out.setCell (p := ⟨LB, k * 5 + 2, none⟩) HLB1.out.1 _
          case measure => simp [intOf]; omega
    obtain rfl : n = k := by omega
    have HD := Lib.hid (show VL w.heap.size wr.heap.size wr (.slice ca n cc) us (ls.map (renL f)) by have q := HG.out; rw [NN.out, renK_end, ← NN.out] at q; exact q)
    go_wp2_with fail
    go_ret
    exact ⟨_, rfl, ⟨us, HUS.out, HSL.out, HD.out⟩, HB.out⟩
end Go.Proofs.Ytmfagmfclehdbaa
