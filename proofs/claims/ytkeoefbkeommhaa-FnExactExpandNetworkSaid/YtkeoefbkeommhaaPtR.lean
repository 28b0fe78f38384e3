/-
  The closure of partFrom, and links renumbered by it. No statement of the seat is proved here.
-/
import Derived.Test.YtkeoefbkeommhaaNetL
namespace Go.Proofs.Ytkeoefbkeommhaa
open Go.RowKit

theorem icloF_any (gc : Nat) (first x : Int) (w : World) (hg : w.heap[gc]? = some (.cells #[.int .i64 first] 3)) (hx : 0 ≤ x ∧ x ≤ 1048576) (hm : 0 ≤ first ∧ first ≤ 1048576) :
    Calls Try.prog 127 #[.int .i64 x, .pointer (some ⟨gc, 0, none⟩)] w fun e w' => e = .returned (.int .i64 (first + x)) ∧ w = w' := by
  have c0 : w.cell? ⟨gc, 0, none⟩ = some (.int .i64 first) := by rw [cell_of hg 0]; rfl
  have gl := lt_of hg
  have hw : wrap64 (first + x) = first + x := IntWalk.wrap64_in _ (by omega)
  clear hg
  go_enter Try.func127, Try.ntmps127
  go_wp2_with fail
  go_ret
  exact ⟨rfl, rfl⟩
set_option maxRecDepth 100000 in
set_option maxHeartbeats 4000000 in
theorem icloneL0_any (u : Value) (xs : List Lnk) (w0 w : World) (h : SlL w0 u xs) (hb0 : Below w0.heap.size w0 w) (hl : xs.length ≤ 1100000) :
    Calls Try.prog 78 #[u] w fun e w' => ∃ c, e = .returned c ∧ (∃ us, us.length = xs.length ∧ (∀ (i : Nat) (u : Value) (p : Lnk), us[i]? = some u → xs[i]? = some p → Sl w0 u p.tok) ∧ VL w.heap.size w'.heap.size w' c us xs) ∧ Below w.heap.size w w' := by
  obtain ⟨a, cap, rfl⟩ := h.shape
  obtain ⟨_, hn, us, hus, hsl, hc, h1⟩ := h.cellsOf
  have HN := Lib.hid hn
  have HC := Lib.hid (fun ad e j y hy => (hb0.cell (World.block_lt_of_cell? w0 _ (hc ad e j y hy))).trans (hc ad e j y hy))
  have HLN := Lib.hid (show (cellsL xs us).length = xs.length * 5 by rw [cellsL_len _ _ hus.symm, hus])
  have H1 := Lib.hid (cellsL_one xs us h1)
  have HB := Lib.hid hl
  have HU := Lib.hid hus
  have HSL := Lib.hid hsl
  clear hn hc h1 hl h hus hsl
  have kn := fun (W : World) (a : Option Addr) (n c : Nat) => Lib.run_eql_slice_nil (P := Try.prog) W 29 68 a n c 0 0 Try.underlying29
  obtain ⟨i0, hi, hz0, hz1, hz2⟩ := infoL_parts
  cases a with
  | none =>
    obtain ⟨h0, h1⟩ := HN.out rfl
    have kb : (none : Option Addr).isNone = true := rfl
    go_enter Try.func78, Try.ntmps78
    go_wp2_with fail
    go_ret
    obtain rfl : xs = [] := List.eq_nil_of_length_eq_zero h0
    exact ⟨.slice none 0 0, rfl, by first | exact ⟨[], rfl, fun i u p h => by simp at h, .inl ⟨rfl, rfl, rfl⟩⟩ | exact .inl ⟨rfl, rfl, rfl⟩, Below.refl _ _⟩
  | some ad =>
    have kb : (some ad : Option Addr).isNone = false := rfl
    go_enter Try.func78, Try.ntmps78
    go_wp2_with (at_builtin; refine wpList_app_src Try.underlying29 hi hz0 hz1 hz2 rfl (by decide) rfl _ _ rfl rfl (lo := w.heap.size) (v := .slice (some ⟨w.heap.size, 0, none⟩) 0 0) (n := 0) (L := []) rfl rfl (lit0T _ _ _) HN.out (fun ad e j y hy => (World.cell_al _ (HC.out ad e j y hy))) HLN.out H1.out (by have := HB.out; unfold maxLen; omega) (by have := HB.out; omega) (by simp) ?_)
    intro v' w5 hown hgrow _
    have HB5 := Lib.hid (((Below.refl w.heap.size w).al (.cells #[] 68)).grown hgrow (by simp) (fun q e => by simp [Value.ownBlock] at e; omega))
    have HOW := Lib.hid hown
    clear hown hgrow
    go_wp2_with fail
    go_ret
    exact ⟨_, rfl, ⟨us, HU.out, HSL.out, VL.ofRow HOW.out rfl HU.out⟩, HB5.out⟩



set_option maxRecDepth 100000 in
set_option maxHeartbeats 16000000 in
theorem irenF_any (gc : Nat) (f : Int → Int) (v : Value) (ls : List Lnk) (w0 w : World) (h : SlL w0 v ls) (hb0 : Below w0.heap.size w0 w) (hl : ls.length ≤ 1100000)
    (hf : ∀ (W : World) (i : Int), Below w.heap.size w W → (∃ l ∈ ls, (i = l.frm ∧ l.src ≠ outE) ∨ (i = l.to ∧ l.tgt ≠ outE)) → Calls Try.prog 127 #[.int .i64 i, .pointer (some ⟨gc, 0, none⟩)] W fun e w' => e = .returned (.int .i64 (f i)) ∧ W = w') :
    Calls Try.prog 66 #[v, .func (.func 127) #[] #[.pointer (some ⟨gc, 0, none⟩)]] w fun e w' => ∃ c, e = .returned c ∧ (∃ us, us.length = ls.length ∧ (∀ (i : Nat) (u : Value) (p : Lnk), us[i]? = some u → ls[i]? = some p → Sl w0 u p.tok) ∧ VL w.heap.size w'.heap.size w' c us (ls.map (renL f))) ∧ Below w.heap.size w w' := by
  have HF := Lib.hid hf
  have HV := Lib.hid (h.below hb0)
  have CL := Lib.hid (fun (W : World) (hw : Below w.heap.size w W) => icloneL0_any v ls w0 W h (hb0.trans (hw.mono hb0.size)) hl)
  obtain ⟨la, lcap, rfl⟩ := h.shape
  obtain ⟨n, hn⟩ : ∃ n, n = ls.length := ⟨_, rfl⟩
  rw [← hn] at CL HV hl ⊢
  have NN := Lib.hid hn
  clear h hf hn
  have CL1 := Lib.hid (show Calls Try.prog 78 #[.slice la n lcap] w fun e w' => ∃ c, e = .returned c ∧ (∃ us, us.length = n ∧ (∀ (i : Nat) (u : Value) (p : Lnk), us[i]? = some u → ls[i]? = some p → Sl w0 u p.tok) ∧ VL w.heap.size w'.heap.size w' c us ls) ∧ Below w.heap.size w w' from CL.out w (Below.refl _ _))
  go_enter Try.func66, Try.ntmps66
  go_wp2_with (go_at_call 78; with_reducible refine CL1.out.mono ?_; rintro e w2 ⟨c, rfl, ⟨us, hus, hsl, hvl⟩, hb2⟩; have HUS := Lib.hid hus; have HSL := Lib.hid hsl; have HVL := Lib.hid hvl; have HB2 := Lib.hid hb2; obtain ⟨ca, cc, rfl⟩ := hvl.shape; rw [← NN.out]; rw [← NN.out] at HVL; clear hus hsl hvl hb2)
  go_loopw [12] (fun i wr => ∃ (k : Nat), k ≤ n ∧ i = .int .i64 k ∧ Hid (VL w.heap.size wr.heap.size wr (.slice ca n cc) us (renK f ls k)) ∧ Hid (Below w.heap.size w wr)) (fun i _ => n - (intOf i).toNat)
  case atStart => exact ⟨0, Nat.zero_le _, rfl, HVL, HB2⟩
  case round =>
    obtain ⟨k, hk, rfl, HG, HB⟩ := hrel
    by_cases hlt : k < n
    case pos =>
      obtain ⟨x, hx⟩ : ∃ x, ls[k]? = some x := ⟨_, List.getElem?_eq_getElem (by rw [← NN.out]; exact hlt)⟩
      obtain ⟨lb, off, pcv, rfl, hbl, e0, e1, e2, e3, e4, es⟩ := (HV.out.below HB.out).atb hx
      have HXK := Lib.hid (renK_at (f := f) hx)
      have HXS := Lib.hid (renK_set (f := f) hx)
      have HM := Lib.hid (List.mem_of_getElem? hx)
      obtain ⟨u0, hu0⟩ : ∃ u0, us[k]? = some u0 := ⟨_, List.getElem?_eq_getElem (by rw [HUS.out]; exact hlt)⟩
      clear hx
      obtain ⟨xf, xo, xt, xi, row⟩ := x
      simp only [] at e0 e1 e2 e3 e4 es
      obtain ⟨ua, uc, rfl⟩ := es.shape
      obtain ⟨ul, hul⟩ : ∃ q, q = row.length := ⟨_, rfl⟩
      rw [← hul] at e4
      clear hul es
      have CI := Lib.hid (fun (W : World) => iinput_any xf xo xt xi (.slice ua ul uc) W)
      have CO := Lib.hid (fun (W : World) => ioutput_any xf xo xt xi (.slice ua ul uc) W)
      go_upto_region 5 with fail
      generalize hW : wr.alloc (.cells #[.int .i64 xf, .int .i64 xo, .int .i64 xt, .int .i64 xi, .slice ua ul uc] 68) = W1
      have HC1 := Lib.hid (show Below wr.heap.size wr W1 by rw [← hW]; exact (Below.refl _ _).al _)
      have PX := Lib.hid (show W1.heap[wr.heap.size]? = some (.cells #[.int .i64 xf, .int .i64 xo, .int .i64 xt, .int .i64 xi, .slice ua ul uc] 68) by rw [← hW]; exact hp1 _ _)
      clear hW e0 e1 e2 e3 e4
      obtain ⟨p10, p11, p12, p13, p14⟩ := cells5 PX.out
      have pl1 := lt_of PX.out
      have V1 := Lib.hid ((HG.out.keep (w' := W1) (fun B cur _ _ q => blk_in q HC1.out)).mono (Nat.le_refl _) (Nat.le_refl _))
      obtain ⟨LB, cc1, hpe, hpb1, hpb2, hpl, hpt, hpf, e10, _, e12, _, _⟩ := V1.out.at hu0 HXK.out
      simp only [Value.slice.injEq] at hpe
      obtain ⟨rfl, hml, rfl⟩ := hpe
      have g10 := hpf (k * 5)
      have g12 := hpf (k * 5 + 2)
      have nn1 : ¬ LB = wr.heap.size := by omega
      have nn2 : ¬ wr.heap.size = LB := by omega
      have HLB1 := Lib.hid (And.intro hpb1 hpb2)
      clear hml hpt hpf hpb1 hpb2
      have ik1 : (0 : Int) ≤ (k : Int) := by omega
      have ik2 : (k : Int) < (n : Int) := by omega
      by_cases hin : ((xf, xo) : End) = outE
      case pos =>
        rw [decide_eq_true hin] at CI
        go_upto_region 7 with (go_at_call 110; with_reducible refine (CI.out _).mono ?_; rintro e W3 ⟨rfl, hb3⟩; have HC3 := Lib.hid (HC1.out.trans (hb3.mono HC1.out.size)); have P3 := Lib.hid (blk_in PX.out hb3); have V3 := Lib.hid (V1.out.keep (w' := W3) (fun B cur _ _ q => blk_in q hb3)); have HB3 := Lib.hid (HB.out.trans (HC3.out.mono HB.out.size)); clear p10 p11 p12 p13 p14 pl1 g10 g12 e10 e12; obtain ⟨p30, p31, p32, p33, p34⟩ := cells5 P3.out; have pl3 := lt_of P3.out; obtain ⟨LB', cc', hpe, _, _, hpl3, hpt, hpf, e10, _, e12, _, _⟩ := V3.out.at hu0 HXK.out; simp only [Value.slice.injEq, Option.some.injEq, Addr.mk.injEq, and_true] at hpe; obtain ⟨rfl, hml, rfl⟩ := hpe; clear hml; have HPT3 := Lib.hid hpt; have g10 := hpf (k * 5); have g12 := hpf (k * 5 + 2); clear hpt hpf hb3)
        have HZ5 := Lib.hid (show wr.heap.size ≤ W3.heap.size from HC3.out.size)
        have HB5 := HB3
        have P5 := P3
        have V5 := Lib.hid (show VL w.heap.size wr.heap.size W3 (.slice (some ⟨LB, 0, none⟩) n cc) us ((renK f ls k).set k ⟨xf, xo, xt, xi, row⟩) by rw [set_same HXK.out]; exact V3.out)
        clear p30 p31 p32 p33 p34 pl3 g10 g12 e10 e12 hpl3
        have HXK5 := Lib.hid (show ((renK f ls k).set k ⟨xf, xo, xt, xi, row⟩)[k]? = some (⟨xf, xo, xt, xi, row⟩ : Lnk) from List.getElem?_set_self (List.getElem?_eq_some_iff.1 HXK.out).1)
        obtain ⟨p50, p51, p52, p53, p54⟩ := cells5 P5.out
        have pl5 := lt_of P5.out
        obtain ⟨LB', cc', hpe, _, _, hpl5, hpt, hpf, _, _, e52, _, _⟩ := V5.out.at hu0 HXK5.out
        simp only [Value.slice.injEq, Option.some.injEq, Addr.mk.injEq, and_true] at hpe
        obtain ⟨rfl, hml, rfl⟩ := hpe
        have g52 := hpf (k * 5 + 2)
        clear hml hpt hpf
        by_cases hout : ((xt, xi) : End) = outE
        case pos =>
          have HX2 := Lib.hid (show renL f ⟨xf, xo, xt, xi, row⟩ = ⟨xf, xo, xt, xi, row⟩ by unfold renL Lnk.src Lnk.tgt; simp only []; rw [if_pos hin, if_pos hout])
          rw [decide_eq_true hout] at CO
          clear hout hin
          go_wp2_with (go_at_call 111; with_reducible refine (CO.out _).mono ?_; rintro e W7 ⟨rfl, hb7⟩; have HZ7 := Lib.hid hb7.size; have HB7 := Lib.hid (HB5.out.trans (hb7.mono HB5.out.size)); have P7 := Lib.hid (blk_in P5.out hb7); have V7 := Lib.hid (V5.out.keep (w' := W7) (fun B cur _ _ q => blk_in q hb7)); clear p50 p51 p52 p53 p54 pl5 g52 e52; obtain ⟨p70, p71, p72, p73, p74⟩ := cells5 P7.out; have pl7 := lt_of P7.out; obtain ⟨LB', cc', hpe, _, _, hpl7, hpt, hpf, _, _, e72, _, _⟩ := V7.out.at hu0 HXK5.out; simp only [Value.slice.injEq, Option.some.injEq, Addr.mk.injEq, and_true] at hpe; obtain ⟨rfl, hml, rfl⟩ := hpe; clear hml; have g72 := hpf (k * 5 + 2); clear hpt hpf hb7)
          go_roundw
          case rel =>
            refine ⟨k + 1, by omega, by go_num, Lib.hid ?_, HB7⟩
            have q := V7.out
            rw [← HX2.out, HXS.out] at q
            exact q.mono (Nat.le_refl _) (Nat.le_trans HZ5.out HZ7.out)
          case measure => simp [intOf]; omega
        case neg =>
          have HX2 := Lib.hid (show renL f ⟨xf, xo, xt, xi, row⟩ = ⟨xf, xo, f xt, xi, row⟩ by unfold renL Lnk.src Lnk.tgt; simp only []; rw [if_pos hin, if_neg hout])
          rw [decide_eq_false hout] at CO
          have CG := Lib.hid (fun (W : World) (hw : Below w.heap.size w W) => HF.out W xt hw ⟨_, HM.out, .inr ⟨rfl, hout⟩⟩)
          clear hout hin
          go_wp2_with (first | (go_at_call 127; with_reducible refine (CG.out _ HB7.out).mono ?_; rintro e w' ⟨rfl, rfl⟩) | (go_at_call 111; with_reducible refine (CO.out _).mono ?_; rintro e W7 ⟨rfl, hb7⟩; have HZ7 := Lib.hid hb7.size; have HB7 := Lib.hid (HB5.out.trans (hb7.mono HB5.out.size)); have P7 := Lib.hid (blk_in P5.out hb7); have V7 := Lib.hid (V5.out.keep (w' := W7) (fun B cur _ _ q => blk_in q hb7)); clear p50 p51 p52 p53 p54 pl5 g52 e52; obtain ⟨p70, p71, p72, p73, p74⟩ := cells5 P7.out; have pl7 := lt_of P7.out; obtain ⟨LB', cc', hpe, _, _, hpl7, hpt, hpf, _, _, e72, _, _⟩ := V7.out.at hu0 HXK5.out; simp only [Value.slice.injEq, Option.some.injEq, Addr.mk.injEq, and_true] at hpe; obtain ⟨rfl, hml, rfl⟩ := hpe; clear hml; have g72 := hpf (k * 5 + 2); clear hpt hpf hb7))
          go_roundw
          case rel =>
            refine ⟨k + 1, by omega, by go_num, Lib.hid ?_, Lib.hid ?_⟩
            · have q := V7.out.set2 HXK5.out (f xt)
              rw [set_two, ← HX2.out, HXS.out] at q
              exact q.mono (Nat.le_refl _) (by rw [World.size_setCell]; exact Nat.le_trans HZ5.out HZ7.out)
            · exact HB7.out.setCell (p := ⟨LB, k * 5 + 2, none⟩) HLB1.out.1 _
          case measure => simp [intOf]; omega
      case neg =>
        rw [decide_eq_false hin] at CI
        have CF := Lib.hid (fun (W : World) (hw : Below w.heap.size w W) => HF.out W xf hw ⟨_, HM.out, .inl ⟨rfl, hin⟩⟩)
        go_upto_region 7 with (first | (go_at_call 127; with_reducible refine (CF.out _ HB3.out).mono ?_; rintro e w' ⟨rfl, rfl⟩) | (go_at_call 110; with_reducible refine (CI.out _).mono ?_; rintro e W3 ⟨rfl, hb3⟩; have HC3 := Lib.hid (HC1.out.trans (hb3.mono HC1.out.size)); have P3 := Lib.hid (blk_in PX.out hb3); have V3 := Lib.hid (V1.out.keep (w' := W3) (fun B cur _ _ q => blk_in q hb3)); have HB3 := Lib.hid (HB.out.trans (HC3.out.mono HB.out.size)); clear p10 p11 p12 p13 p14 pl1 g10 g12 e10 e12; obtain ⟨p30, p31, p32, p33, p34⟩ := cells5 P3.out; have pl3 := lt_of P3.out; obtain ⟨LB', cc', hpe, _, _, hpl3, hpt, hpf, e10, _, e12, _, _⟩ := V3.out.at hu0 HXK.out; simp only [Value.slice.injEq, Option.some.injEq, Addr.mk.injEq, and_true] at hpe; obtain ⟨rfl, hml, rfl⟩ := hpe; clear hml; have HPT3 := Lib.hid hpt; have g10 := hpf (k * 5); have g12 := hpf (k * 5 + 2); clear hpt hpf hb3))
        generalize hW : W3.setCell ⟨LB, k * 5, none⟩ (.int .i64 (f xf)) = W5
        have HZ5 := Lib.hid (show wr.heap.size ≤ W5.heap.size by rw [← hW, World.size_setCell]; exact HC3.out.size)
        have HB5 := Lib.hid (show Below w.heap.size w W5 by rw [← hW]; exact HB3.out.setCell (p := ⟨LB, k * 5, none⟩) HLB1.out.1 _)
        have P5 := Lib.hid (show W5.heap[wr.heap.size]? = some (.cells #[.int .i64 xf, .int .i64 xo, .int .i64 xt, .int .i64 xi, .slice ua ul uc] 68) by rw [← hW]; exact setR_blkN P3.out nn2 _)
        have V5 := Lib.hid (show VL w.heap.size wr.heap.size W5 (.slice (some ⟨LB, 0, none⟩) n cc) us ((renK f ls k).set k ⟨f xf, xo, xt, xi, row⟩) by rw [← hW]; exact V3.out.set0 HXK.out (f xf))
        clear hW p30 p31 p32 p33 p34 pl3 g10 g12 e10 e12 hpl3
        have HXK5 := Lib.hid (show ((renK f ls k).set k ⟨f xf, xo, xt, xi, row⟩)[k]? = some (⟨f xf, xo, xt, xi, row⟩ : Lnk) from List.getElem?_set_self (List.getElem?_eq_some_iff.1 HXK.out).1)
        obtain ⟨p50, p51, p52, p53, p54⟩ := cells5 P5.out
        have pl5 := lt_of P5.out
        obtain ⟨LB', cc', hpe, _, _, hpl5, hpt, hpf, _, _, e52, _, _⟩ := V5.out.at hu0 HXK5.out
        simp only [Value.slice.injEq, Option.some.injEq, Addr.mk.injEq, and_true] at hpe
        obtain ⟨rfl, hml, rfl⟩ := hpe
        have g52 := hpf (k * 5 + 2)
        clear hml hpt hpf
        by_cases hout : ((xt, xi) : End) = outE
        case pos =>
          have HX2 := Lib.hid (show renL f ⟨xf, xo, xt, xi, row⟩ = ⟨f xf, xo, xt, xi, row⟩ by unfold renL Lnk.src Lnk.tgt; simp only []; rw [if_neg hin, if_pos hout])
          rw [decide_eq_true hout] at CO
          clear hout hin
          go_wp2_with (go_at_call 111; with_reducible refine (CO.out _).mono ?_; rintro e W7 ⟨rfl, hb7⟩; have HZ7 := Lib.hid hb7.size; have HB7 := Lib.hid (HB5.out.trans (hb7.mono HB5.out.size)); have P7 := Lib.hid (blk_in P5.out hb7); have V7 := Lib.hid (V5.out.keep (w' := W7) (fun B cur _ _ q => blk_in q hb7)); clear p50 p51 p52 p53 p54 pl5 g52 e52; obtain ⟨p70, p71, p72, p73, p74⟩ := cells5 P7.out; have pl7 := lt_of P7.out; obtain ⟨LB', cc', hpe, _, _, hpl7, hpt, hpf, _, _, e72, _, _⟩ := V7.out.at hu0 HXK5.out; simp only [Value.slice.injEq, Option.some.injEq, Addr.mk.injEq, and_true] at hpe; obtain ⟨rfl, hml, rfl⟩ := hpe; clear hml; have g72 := hpf (k * 5 + 2); clear hpt hpf hb7)
          go_roundw
          case rel =>
            refine ⟨k + 1, by omega, by go_num, Lib.hid ?_, HB7⟩
            have q := V7.out
            rw [← HX2.out, HXS.out] at q
            exact q.mono (Nat.le_refl _) (Nat.le_trans HZ5.out HZ7.out)
          case measure => simp [intOf]; omega
        case neg =>
          have HX2 := Lib.hid (show renL f ⟨xf, xo, xt, xi, row⟩ = ⟨f xf, xo, f xt, xi, row⟩ by unfold renL Lnk.src Lnk.tgt; simp only []; rw [if_neg hin, if_neg hout])
          rw [decide_eq_false hout] at CO
          have CG := Lib.hid (fun (W : World) (hw : Below w.heap.size w W) => HF.out W xt hw ⟨_, HM.out, .inr ⟨rfl, hout⟩⟩)
          clear hout hin
          go_wp2_with (first | (go_at_call 127; with_reducible refine (CG.out _ HB7.out).mono ?_; rintro e w' ⟨rfl, rfl⟩) | (go_at_call 111; with_reducible refine (CO.out _).mono ?_; rintro e W7 ⟨rfl, hb7⟩; have HZ7 := Lib.hid hb7.size; have HB7 := Lib.hid (HB5.out.trans (hb7.mono HB5.out.size)); have P7 := Lib.hid (blk_in P5.out hb7); have V7 := Lib.hid (V5.out.keep (w' := W7) (fun B cur _ _ q => blk_in q hb7)); clear p50 p51 p52 p53 p54 pl5 g52 e52; obtain ⟨p70, p71, p72, p73, p74⟩ := cells5 P7.out; have pl7 := lt_of P7.out; obtain ⟨LB', cc', hpe, _, _, hpl7, hpt, hpf, _, _, e72, _, _⟩ := V7.out.at hu0 HXK5.out; simp only [Value.slice.injEq, Option.some.injEq, Addr.mk.injEq, and_true] at hpe; obtain ⟨rfl, hml, rfl⟩ := hpe; clear hml; have g72 := hpf (k * 5 + 2); clear hpt hpf hb7))
          go_roundw
          case rel =>
            refine ⟨k + 1, by omega, by go_num, Lib.hid ?_, Lib.hid ?_⟩
            · have q := V7.out.set2 HXK5.out (f xt)
              rw [set_two, ← HX2.out, HXS.out] at q
              exact q.mono (Nat.le_refl _) (by rw [World.size_setCell]; exact Nat.le_trans HZ5.out HZ7.out)
            · exact HB7.out.setCell (p := ⟨LB, k * 5 + 2, none⟩) HLB1.out.1 _
          case measure => simp [intOf]; omega
    obtain rfl : n = k := by omega
    have HD := Lib.hid (show VL w.heap.size wr.heap.size wr (.slice ca n cc) us (ls.map (renL f)) by have q := HG.out; rw [NN.out, renK_end, ← NN.out] at q; exact q)
    go_wp2_with fail
    go_ret
    exact ⟨_, rfl, ⟨us, HUS.out, HSL.out, HD.out⟩, HB.out⟩
end Go.Proofs.Ytkeoefbkeommhaa
