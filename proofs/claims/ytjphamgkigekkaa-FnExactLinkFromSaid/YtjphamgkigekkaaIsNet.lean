/-
  What the program's IsNetwork answers. No statement of the seat is proved here.
-/
import Derived.Test.YtjphamgkigekkaaEach
namespace Go.Proofs.Ytjphamgkigekkaa
open Go.RowKit

theorem appE_other {lo : Nat} {w w1 : World} {L : Obj} {v u u' : Value} {xs : List End} (h : OwnE lo w v xs) (ha : Apart v u) (hg : (w.alloc L).grownBy w1 u.ownBlock) (hat : u'.ownBlock = u.ownBlock ∨ u'.ownBlock = some (w.heap.size + 1)) :
    OwnE lo w1 v xs ∧ Apart v u' := by
  refine ⟨OwnE.kept (World.ownsRow.alloc h L) hg ha, ?_⟩
  rcases hat with e | e
  · unfold Apart at ha ⊢; rw [e]; exact ha
  · cases q : v.ownBlock with
    | none => exact .inl q
    | some k =>
      right
      rw [q, e]
      intro z
      have := (h.lt k q).2
      simp at z
      omega
theorem al_size (w : World) (o : Obj) : (w.alloc o).heap.size = w.heap.size + 1 := by simp
theorem each_is {f : Nat} {vs : Array Value} {w : World} {b c : Bool} (h : Calls Try.prog f vs w fun e w' => e = .returned (.bool b) ∧ Below w.heap.size w w') (hb : c = b) : Calls Try.prog f vs w fun e w' => e = .returned (.bool c) ∧ Below w.heap.size w w' := by
  subst hb; exact h
theorem ownE_snoc2 {lo n : Nat} {w : World} {v : Value} {L : List End} {e : End} (hl : L.length = n) (h : w.ownsRow lo 119 2 v (n + 1) (cellsE L ++ [.int .i64 e.1, .int .i64 e.2])) : OwnE lo w v (L ++ [e]) := by
  subst hl; exact ownE_snoc h
theorem keepE {w8 w9 : World} {lo g T : Nat} {u : Value} {xs : List End} {cs : Array Value} {L : Obj} (hou : OwnE lo w8 u xs) (h : w8.heap[g]? = some (.cells cs T)) (hT : T ≠ 119) (hg : (w8.alloc L).grownBy w9 u.ownBlock) : w9.heap[g]? = some (.cells cs T) := by
  have lg := lt_of h
  have ne : some g ≠ u.ownBlock := by
    rcases hou.2 with ⟨rfl, _⟩ | ⟨k, cap, cur, rfl, _, hk, _⟩
    · simp [Value.ownBlock]
    · intro e
      simp [Value.ownBlock] at e
      subst e
      rw [hk] at h
      simp at h
      exact hT h.2.symm
  rw [hg.block g (by simp; omega) ne, Below.heap_alloc _ _ _ lg]
  exact h
theorem ends_step {g : Lnk → End} {ls : List Lnk} {k : Nat} {x : Lnk} (hx : ls[k]? = some x) : (ls.take (k + 1)).map g = (ls.take k).map g ++ [g x] := by
  have hk := (List.getElem?_eq_some_iff.1 hx).1
  rw [List.take_succ_eq_append_getElem hk, (List.getElem?_eq_some_iff.1 hx).2, List.map_append]; rfl
theorem allT_step {α : Type} {q : α → Bool} {xs : List α} {k : Nat} {x : α} (hx : xs[k]? = some x) (ha : (xs.take k).all q = true) (hp : q x = true) : (xs.take (k + 1)).all q = true := by
  have hk := (List.getElem?_eq_some_iff.1 hx).1
  rw [List.take_succ_eq_append_getElem hk, (List.getElem?_eq_some_iff.1 hx).2]; simp at ha ⊢; exact ⟨ha, hp⟩
theorem allT_no {α : Type} {q : α → Bool} {xs : List α} {k : Nat} {x : α} (hx : xs[k]? = some x) (hp : q x = false) : xs.all q = false := by
  rw [List.all_eq_false]
  exact ⟨x, List.mem_of_getElem? hx, by simp [hp]⟩
theorem allT_end {α : Type} {q : α → Bool} {xs : List α} {k : Nat} (h : ¬ k < xs.length) (ha : (xs.take k).all q = true) : xs.all q = true := by
  rwa [List.take_of_length_le (by omega)] at ha
theorem okN_head {n : Net} (h : headL n = false) : okN n = false := by unfold okN; rw [h]; rfl
theorem okN_link {n : Net} (h : n.links.all linkL = false) : okN n = false := by unfold okN; rw [h]; simp
theorem okN_rest {n : Net} (h : headL n = true) (h2 : n.links.all linkL = true) : okN n = (once (ports Prg.outs n.progs) (n.links.map Lnk.src) && once (ports Prg.ins n.progs) (n.links.map Lnk.tgt)) := by unfold okN; rw [h, h2]; rfl
theorem head_no {ps : List Prg} {ls : List Lnk} (h : ¬ (ps.length ≤ 12 ∧ ls.length ≤ 30)) : headL ⟨ps, ls⟩ = false := by unfold headL; simp only []; rw [decide_eq_false h]; rfl
theorem head_prog {ps : List Prg} {ls : List Lnk} (h : ps.all okP = false) : headL ⟨ps, ls⟩ = false := by unfold headL; simp only []; rw [h]; simp
theorem head_yes {ps : List Prg} {ls : List Lnk} (h : ps.length ≤ 12 ∧ ls.length ≤ 30) (h2 : ps.all okP = true) : headL ⟨ps, ls⟩ = true := by unfold headL; simp only []; rw [decide_eq_true h, h2]; rfl
theorem ports_wf {f : Prg → Int} {ps : List Prg} (hf : ∀ p, okP p = true → f p ≤ 3) (hall : ps.all okP = true) (hl : ps.length ≤ 12) : ∀ e ∈ ports f ps, wfE e := by
  intro e he
  obtain ⟨i, p, h1, h2, h3, h4⟩ := mem_ports.1 he
  have := (List.getElem?_eq_some_iff.1 h1).1
  have := hf p (all_get hall h1)
  unfold wfE wfI
  omega

set_option maxRecDepth 100000 in
set_option maxHeartbeats 8000000 in
theorem iisnet_any (v : Value) (n : Net) (w : World) (h : NetV w v n) :
    Calls Try.prog 73 #[v] w fun e w' => e = .returned (.bool (okN n)) ∧ Below w.heap.size w w' := by
  obtain ⟨c, d, rfl, hp, hl⟩ := h
  obtain ⟨ps, ls⟩ := n
  simp only [] at hp hl ⊢
  have HP := Lib.hid hp
  have HL := Lib.hid hl
  have hpl := hp.len
  have hll := hl.len
  obtain ⟨pa, pcap, rfl, _, _, _, hrest⟩ := hp
  obtain ⟨la, lcap, rfl, _, _, _, hrest2⟩ := hl
  obtain ⟨m, hm⟩ : ∃ m, m = ps.length := ⟨_, rfl⟩
  obtain ⟨n, hn⟩ : ∃ n, n = ls.length := ⟨_, rfl⟩
  obtain ⟨r, hr⟩ : ∃ r, r = okN ⟨ps, ls⟩ := ⟨_, rfl⟩
  rw [← hr]
  rw [← hm] at hpl ⊢
  rw [← hn] at hll ⊢
  rw [← hm] at HP
  rw [← hn] at HL
  have HM := Lib.hid hm
  have HN := Lib.hid hn
  have HR := Lib.hid hr
  clear hm hn hr
  obtain ⟨i0, hi, hz0, hz1, hz2⟩ := infoE_parts
  have hb := Lib.hid ((Below.refl w.heap.size w).al (.cells #[.slice pa m pcap, .slice la n lcap] 34))
  have hH := Lib.hid (hp1 w (.cells #[.slice pa m pcap, .slice la n lcap] 34))
  by_cases q0 : m ≤ 12
  case neg =>
    have d0 : decide ((m : Int) > 12) = true := decide_eq_true (by omega)
    have d1 : decide (12 < (m : Int)) = true := decide_eq_true (by omega)
    go_enter Try.func73, Try.ntmps73
    go_wp2_with fail
    go_ret
    exact ⟨ret_bool (HR.out.trans (okN_head (head_no (by have := HM.out; omega)))), hb.out⟩
  have d0 : decide ((m : Int) > 12) = false := decide_eq_false (by omega)
  have d1 : decide (12 < (m : Int)) = false := decide_eq_false (by omega)
  by_cases q1 : n ≤ 30
  case neg =>
    have d2 : decide ((n : Int) > 30) = true := decide_eq_true (by omega)
    have d3 : decide (30 < (n : Int)) = true := decide_eq_true (by omega)
    go_enter Try.func73, Try.ntmps73
    go_wp2_with fail
    go_ret
    exact ⟨ret_bool (HR.out.trans (okN_head (head_no (by have := HN.out; omega)))), hb.out⟩
  have d2 : decide ((n : Int) > 30) = false := decide_eq_false (by omega)
  have d3 : decide (30 < (n : Int)) = false := decide_eq_false (by omega)
  go_enter Try.func73, Try.ntmps73
  go_wp2_with fail
  go_loopw [22] (fun i wr => ∃ k : Nat, k ≤ m ∧ i = .int .i64 k ∧ Hid ((ps.take k).all okP = true) ∧ Hid (Below (w.heap.size + 1) (w.alloc (.cells #[.slice pa m pcap, .slice la n lcap] 34)) wr)) (fun i _ => m - (intOf i).toNat)
  case atStart => exact ⟨0, Nat.zero_le _, rfl, by simp [Hid], Lib.hid (Below.refl _ _)⟩
  case round =>
    obtain ⟨k, hk, rfl, hA, hW⟩ := hrel
    have HB := Lib.hid (hb.out.trans (hW.out.mono (by omega)))
    by_cases hlt : k < m
    · rcases hrest with rfl | ⟨b, off, rfl, hbl, hcell⟩
      · exact absurd hlt (by have := HM.out; simp at this; omega)
      · obtain ⟨x, hx⟩ : ∃ x, ps[k]? = some x := ⟨_, List.getElem?_eq_getElem (by rw [← HM.out]; exact hlt)⟩
        obtain ⟨u, e0, e1, e2, e3⟩ := hcell k x hx
        have HS := Lib.hid (e3.below HB.out)
        obtain ⟨ua, uc, e4⟩ := e3.shape
        have c0 := (HB.out.cell (p := ⟨b, off + k * 3, none⟩) hbl).trans e0
        have c1 := (HB.out.cell (p := ⟨b, off + k * 3 + 1, none⟩) hbl).trans e1
        have c2 := (HB.out.cell (p := ⟨b, off + k * 3 + 2, none⟩) hbl).trans e2
        have hbl2 : b < wr.heap.size := Nat.lt_of_lt_of_le hbl HB.out.size
        have HX := Lib.hid hx
        clear hx hcell e0 e1 e2 e3
        obtain ⟨pi, po, pc⟩ := x
        simp only [] at c0 c1 c2 e4 HS
        obtain ⟨ul, hul⟩ : ∃ z, z = pc.length := ⟨_, rfl⟩
        rw [← hul] at e4
        clear hul
        subst e4
        cases ht : okP ⟨pi, po, pc⟩ with
        | true =>
          go_wp2_with (go_at_call 122; refine (iisp_any _ ⟨pi, po, pc⟩ _ ⟨_, rfl, HS.out.below ((Below.refl _ _).al _)⟩).mono ?_; rintro e w2 ⟨rfl, hb1⟩; have HB1 := Lib.hid hb1; clear hb1; rw [ht])
          go_roundw
          case rel => exact ⟨k + 1, by omega, by go_num, Lib.hid (allT_step HX.out hA.out ht), Lib.hid (hW.out.trans ((((Below.refl _ _).al _).trans (HB1.out.mono (by simp))).mono (by have := hW.out.size; simp at this; omega)))⟩
          case measure => simp [intOf]; omega
        | false =>
          go_wp2_with (go_at_call 122; refine (iisp_any _ ⟨pi, po, pc⟩ _ ⟨_, rfl, HS.out.below ((Below.refl _ _).al _)⟩).mono ?_; rintro e w2 ⟨rfl, hb1⟩; have HB1 := Lib.hid hb1; clear hb1; rw [ht])
          go_ret
          exact ⟨ret_bool (HR.out.trans (okN_head (head_prog (allT_no HX.out ht)))), HB.out.trans ((((Below.refl _ _).al _).trans (HB1.out.mono (by simp))).mono HB.out.size)⟩
    · have HALL := Lib.hid (allT_end (by rw [← HM.out]; exact hlt) hA.out)
      have HHEAD := Lib.hid (head_yes (ps := ps) (ls := ls) (by rw [← HM.out, ← HN.out]; exact ⟨q0, q1⟩) HALL.out)
      have B := blk_in hH.out (hW.out.mono (by simp))
      obtain ⟨t0, t1⟩ := cells2 B
      have tl := lt_of B
      clear B
      go_wp2_with fail
      go_loopw [5, 6, 33] (fun o o2 i wr => ∃ j : Nat, j ≤ n ∧ i = .int .i64 j ∧ Hid ((ls.take j).all linkL = true) ∧ Hid (OwnE (w.heap.size + 1) wr o ((ls.take j).map Lnk.src)) ∧ Hid (OwnE (w.heap.size + 1) wr o2 ((ls.take j).map Lnk.tgt)) ∧ Hid (Apart o o2) ∧ Hid (Below (w.heap.size + 1) (w.alloc (.cells #[.slice pa m pcap, .slice la n lcap] 34)) wr)) (fun _ _ i _ => n - (intOf i).toNat)
      case atStart => exact ⟨0, Nat.zero_le _, rfl, by simp [Hid], Lib.hid (ownE_nil _ _), Lib.hid (ownE_nil _ _), Lib.hid (.inl rfl), hW⟩
      case round =>
        obtain ⟨j, hj, rfl, hL, HO1, HO2, HAP, hV⟩ := hrel
        have HC := Lib.hid (hb.out.trans (hV.out.mono (by omega)))
        by_cases hjl : j < n
        · rcases hrest2 with rfl | ⟨b, off, rfl, hbl, hcell⟩
          · exact absurd hjl (by have := HN.out; simp at this; omega)
          · obtain ⟨x, hx⟩ : ∃ x, ls[j]? = some x := ⟨_, List.getElem?_eq_getElem (by rw [← HN.out]; exact hjl)⟩
            obtain ⟨u, e0, e1, e2, e3, e4, _, e5⟩ := hcell j x hx
            have HS := Lib.hid (e5.below HC.out)
            obtain ⟨ua, uc, e6⟩ := e5.shape
            have c0 := (HC.out.cell (p := ⟨b, off + j * 5, none⟩) hbl).trans e0
            have c1 := (HC.out.cell (p := ⟨b, off + j * 5 + 1, none⟩) hbl).trans e1
            have c2 := (HC.out.cell (p := ⟨b, off + j * 5 + 2, none⟩) hbl).trans e2
            have c3 := (HC.out.cell (p := ⟨b, off + j * 5 + 3, none⟩) hbl).trans e3
            have c4 := (HC.out.cell (p := ⟨b, off + j * 5 + 4, none⟩) hbl).trans e4
            have hbl2 : b < wr.heap.size := Nat.lt_of_lt_of_le hbl HC.out.size
            have HX := Lib.hid hx
            clear hx hcell e0 e1 e2 e3 e4 e5
            obtain ⟨xf, xo, xt, xi, xk⟩ := x
            simp only [] at c0 c1 c2 c3 c4 e6 HS
            obtain ⟨ul, hul⟩ : ∃ z, z = xk.length := ⟨_, rfl⟩
            rw [← hul] at e6
            clear hul
            subst e6
            have hH5 := Lib.hid (hp1 wr (.cells #[.int .i64 xf, .int .i64 xo, .int .i64 xt, .int .i64 xi, .slice ua ul uc] 82))
            have HB5 := Lib.hid ((Below.refl wr.heap.size wr).al (.cells #[.int .i64 xf, .int .i64 xo, .int .i64 xt, .int .i64 xi, .slice ua ul uc] 82))
            have SC := Lib.hid (istream_any (.slice ua ul uc) xk _ (HS.out.below HB5.out))
            have hLs : ((ls.take j).map Lnk.src).length = j := by rw [List.length_map, List.length_take]; have := HN.out; omega
            have hLt : ((ls.take j).map Lnk.tgt).length = j := by rw [List.length_map, List.length_take]; have := HN.out; omega
            obtain ⟨L, hLe⟩ : ∃ L, L = (ls.take j).map Lnk.src := ⟨_, rfl⟩
            obtain ⟨M, hMe⟩ : ∃ M, M = (ls.take j).map Lnk.tgt := ⟨_, rfl⟩
            rw [← hLe] at HO1 hLs
            rw [← hMe] at HO2 hLt
            have HLE := Lib.hid hLe
            have HME := Lib.hid hMe
            clear hLe hMe
            cases hs : isS xk with
            | false =>
              rw [hs] at SC
              go_wp2_with (go_at_call 123; refine SC.out.mono ?_; rintro e w2 ⟨rfl, rfl⟩)
              go_ret
              exact ⟨ret_bool (HR.out.trans (okN_link (allT_no HX.out (by simp [linkL, hs])))), HC.out.trans (HB5.out.mono HC.out.size)⟩
            | true =>
              rw [hs] at SC
              have IC := Lib.hid (fun W => iinput_any xf xo xt xi (.slice ua ul uc) W)
              have OC := Lib.hid (fun W => ioutput_any xf xo xt xi (.slice ua ul uc) W)
              by_cases hin : (xf, xo) = outE
              · rw [decide_eq_true hin] at IC
                by_cases hout : (xt, xi) = outE
                · rw [decide_eq_true hout] at OC
                  have HIN := Lib.hid hin
                  have HOUT := Lib.hid hout
                  clear hin hout
                  go_wp2_with (first | (go_at_call 123; refine SC.out.mono ?_; rintro e w2 ⟨rfl, rfl⟩) | (go_at_call 115; refine (IC.out _).mono ?_; rintro e w6 ⟨rfl, hb6⟩; have HB6 := Lib.hid hb6; have B6 := blk_in hH5.out hb6; obtain ⟨f0, f1, f2, f3, f4⟩ := cells5 B6; have fl := lt_of B6; clear hb6 B6) | (go_at_call 124; refine (OC.out _).mono ?_; rintro e w7 ⟨rfl, hb7⟩; have HB7 := Lib.hid (HB6.out.trans (hb7.mono HB6.out.size)); have B7 := blk_in hH5.out HB7.out; obtain ⟨g0, g1, g2, g3, g4⟩ := cells5 B7; have gl := lt_of B7; clear hb7 B7))
                  go_ret
                  exact ⟨ret_bool (HR.out.trans (okN_link (allT_no HX.out (by simp [linkL, Lnk.src, Lnk.tgt, HIN.out, HOUT.out])))), HC.out.trans ((HB5.out.trans (HB7.out.mono HB5.out.size)).mono HC.out.size)⟩
                · rw [decide_eq_false hout] at OC
                  have HIN := Lib.hid hin
                  have HOUT := Lib.hid hout
                  have HLK := Lib.hid (show linkL ⟨xf, xo, xt, xi, xk⟩ = true by simp [linkL, Lnk.src, Lnk.tgt, hs, hin, hout])
                  clear hin hout
                  go_wp2_with (first | (go_at_call 123; refine SC.out.mono ?_; rintro e w2 ⟨rfl, rfl⟩) | (go_at_call 115; refine (IC.out _).mono ?_; rintro e w6 ⟨rfl, hb6⟩; have HB6 := Lib.hid hb6; have B6 := blk_in hH5.out hb6; obtain ⟨f0, f1, f2, f3, f4⟩ := cells5 B6; have fl := lt_of B6; clear hb6 B6) | (go_at_call 124; refine (OC.out _).mono ?_; rintro e w7 ⟨rfl, hb7⟩; have HB7 := Lib.hid (HB6.out.trans (hb7.mono HB6.out.size)); have B7 := blk_in hH5.out HB7.out; obtain ⟨g0, g1, g2, g3, g4⟩ := cells5 B7; have gl := lt_of B7; clear hb7 B7) | (go_at_call 109; refine (isrc_any xf xo xt xi _ _).mono ?_; rintro e w8 ⟨rfl, hb8⟩; have HB8 := Lib.hid (HB7.out.trans (hb8.mono HB7.out.size)); have B8 := blk_in hH5.out HB8.out; obtain ⟨k0, k1, k2, k3, k4⟩ := cells5 B8; have kl := lt_of B8; have HW8 := Lib.hid (HB5.out.trans (HB8.out.mono (HB5.out.size))); have HQ1 := Lib.hid (HO1.out.below HW8.out); have HQ2 := Lib.hid (HO2.out.below HW8.out); clear hb8 B8) | (at_builtin; refine wpList_append_own_at _ rfl _ _ 137 rfl (w.heap.size + 1) 119 i0 (.agg #[.int .i64 0, .int .i64 0]) 2 16 Try.underlying137 hi hz0 hz1 hz2 rfl (by decide) _ _ _ rfl (World.ownsRow.alloc HQ1.out _) ⟨_, 0, none⟩ 1 1 [.int .i64 xf, .int .i64 xo] rfl rfl ?c0 ?c1 ?c3 ?c4 ?c5 ?_))
                  case c0 => exact two_new _ _ _ _
                  case c1 => exact two_one _ _
                  case c3 => unfold maxLen; omega
                  case c4 => omega
                  case c5 => have h1 := HW8.out.size; have h2 := hV.out.size; rw [al_size] at h2; simp; omega
                  intro v9 w9 hown hgrow _ hat
                  have hV8 := Lib.hid (hV.out.trans (HW8.out.mono (by have h2 := hV.out.size; rw [al_size] at h2; omega)))
                  have hV9 := Lib.hid ((hV8.out.alloc (by have h2 := hV8.out.size; rw [al_size] at h2; simp; omega) (.cells #[.int .i64 xf, .int .i64 xo] 119)).grown hgrow (by have h2 := hV8.out.size; rw [al_size] at h2; simp; omega) (fun q e => (HQ1.out.lt q e).1))
                  have R2 := appE_other HQ2.out HAP.out.symm hgrow hat
                  have hO9 := Lib.hid (ownE_snoc2 (e := ((xf, xo) : End)) hLs hown)
                  have hP9 := Lib.hid R2.1
                  have hA9 := Lib.hid R2.2
                  have h59 := Lib.hid (show w9.heap[wr.heap.size]? = _ from keepE HQ1.out (blk_in hH5.out HB8.out) (by decide) hgrow)
                  obtain ⟨m0, m1, m2, m3, m4⟩ := cells5 h59.out
                  have ml := lt_of h59.out
                  clear hown hgrow hat R2
                  go_wp2_with (first | (go_at_call 107; refine (itgt_any xf xo xt xi _ _).mono ?_; rintro e w10 ⟨rfl, hb10⟩; have HB10 := Lib.hid hb10; have HQ3 := Lib.hid (hO9.out.below hb10); have HQ4 := Lib.hid (hP9.out.below hb10); have hV10 := Lib.hid (hV9.out.trans (hb10.mono (by have h2 := hV9.out.size; rw [al_size] at h2; omega))); clear hb10) | (at_builtin; refine wpList_append_own_at _ rfl _ _ 137 rfl (w.heap.size + 1) 119 i0 (.agg #[.int .i64 0, .int .i64 0]) 2 16 Try.underlying137 hi hz0 hz1 hz2 rfl (by decide) _ _ _ rfl (World.ownsRow.alloc HQ4.out _) ⟨_, 0, none⟩ 1 1 [.int .i64 xt, .int .i64 xi] rfl rfl ?c0 ?c1 ?c3 ?c4 ?c5 ?_))
                  case c0 => exact two_new _ _ _ _
                  case c1 => exact two_one _ _
                  case c3 => unfold maxLen; omega
                  case c4 => omega
                  case c5 => have h2 := hV10.out.size; rw [al_size] at h2; simp; omega
                  intro v11 w11 hown hgrow _ hat
                  have hV11 := Lib.hid ((hV10.out.alloc (by have h2 := hV10.out.size; rw [al_size] at h2; simp; omega) (.cells #[.int .i64 xt, .int .i64 xi] 119)).grown hgrow (by have h2 := hV10.out.size; rw [al_size] at h2; simp; omega) (fun q e => (HQ4.out.lt q e).1))
                  have R2 := appE_other HQ3.out hA9.out.symm hgrow hat
                  have hO11 := Lib.hid (ownE_snoc2 (e := ((xt, xi) : End)) hLt hown)
                  have hP11 := Lib.hid R2.1
                  have hA11 := Lib.hid R2.2
                  clear hown hgrow hat R2
                  go_wp2_with fail
                  go_roundw
                  case rel => exact ⟨j + 1, by omega, by go_num, Lib.hid (allT_step HX.out hL.out HLK.out), Lib.hid (by rw [ends_step HX.out, ← HLE.out]; exact hP11.out), Lib.hid (by rw [ends_step HX.out, ← HME.out]; exact hO11.out), hA11, hV11⟩
                  case measure => simp [intOf]; omega
              · rw [decide_eq_false hin] at IC
                have HIN := Lib.hid hin
                have HLK := Lib.hid (show linkL ⟨xf, xo, xt, xi, xk⟩ = true by simp [linkL, Lnk.src, Lnk.tgt, hs, hin])
                clear hin
                go_wp2_with (first | (go_at_call 123; refine SC.out.mono ?_; rintro e w2 ⟨rfl, rfl⟩) | (go_at_call 115; refine (IC.out _).mono ?_; rintro e w6 ⟨rfl, hb6⟩; have HB6 := Lib.hid hb6; have B6 := blk_in hH5.out hb6; obtain ⟨f0, f1, f2, f3, f4⟩ := cells5 B6; have fl := lt_of B6; clear hb6 B6) | (go_at_call 109; refine (isrc_any xf xo xt xi _ _).mono ?_; rintro e w8 ⟨rfl, hb8⟩; have HB8 := Lib.hid (HB6.out.trans (hb8.mono HB6.out.size)); have B8 := blk_in hH5.out HB8.out; obtain ⟨k0, k1, k2, k3, k4⟩ := cells5 B8; have kl := lt_of B8; have HW8 := Lib.hid (HB5.out.trans (HB8.out.mono (HB5.out.size))); have HQ1 := Lib.hid (HO1.out.below HW8.out); have HQ2 := Lib.hid (HO2.out.below HW8.out); clear hb8 B8) | (at_builtin; refine wpList_append_own_at _ rfl _ _ 137 rfl (w.heap.size + 1) 119 i0 (.agg #[.int .i64 0, .int .i64 0]) 2 16 Try.underlying137 hi hz0 hz1 hz2 rfl (by decide) _ _ _ rfl (World.ownsRow.alloc HQ1.out _) ⟨_, 0, none⟩ 1 1 [.int .i64 xf, .int .i64 xo] rfl rfl ?c0 ?c1 ?c3 ?c4 ?c5 ?_))
                case c0 => exact two_new _ _ _ _
                case c1 => exact two_one _ _
                case c3 => unfold maxLen; omega
                case c4 => omega
                case c5 => have h1 := HW8.out.size; have h2 := hV.out.size; rw [al_size] at h2; simp; omega
                intro v9 w9 hown hgrow _ hat
                have hV8 := Lib.hid (hV.out.trans (HW8.out.mono (by have h2 := hV.out.size; rw [al_size] at h2; omega)))
                have hV9 := Lib.hid ((hV8.out.alloc (by have h2 := hV8.out.size; rw [al_size] at h2; simp; omega) (.cells #[.int .i64 xf, .int .i64 xo] 119)).grown hgrow (by have h2 := hV8.out.size; rw [al_size] at h2; simp; omega) (fun q e => (HQ1.out.lt q e).1))
                have R2 := appE_other HQ2.out HAP.out.symm hgrow hat
                have hO9 := Lib.hid (ownE_snoc2 (e := ((xf, xo) : End)) hLs hown)
                have hP9 := Lib.hid R2.1
                have hA9 := Lib.hid R2.2
                have h59 := Lib.hid (show w9.heap[wr.heap.size]? = _ from keepE HQ1.out (blk_in hH5.out HB8.out) (by decide) hgrow)
                obtain ⟨m0, m1, m2, m3, m4⟩ := cells5 h59.out
                have ml := lt_of h59.out
                clear hown hgrow hat R2
                go_wp2_with (first | (go_at_call 107; refine (itgt_any xf xo xt xi _ _).mono ?_; rintro e w10 ⟨rfl, hb10⟩; have HB10 := Lib.hid hb10; have HQ3 := Lib.hid (hO9.out.below hb10); have HQ4 := Lib.hid (hP9.out.below hb10); have hV10 := Lib.hid (hV9.out.trans (hb10.mono (by have h2 := hV9.out.size; rw [al_size] at h2; omega))); clear hb10) | (at_builtin; refine wpList_append_own_at _ rfl _ _ 137 rfl (w.heap.size + 1) 119 i0 (.agg #[.int .i64 0, .int .i64 0]) 2 16 Try.underlying137 hi hz0 hz1 hz2 rfl (by decide) _ _ _ rfl (World.ownsRow.alloc HQ4.out _) ⟨_, 0, none⟩ 1 1 [.int .i64 xt, .int .i64 xi] rfl rfl ?c0 ?c1 ?c3 ?c4 ?c5 ?_))
                case c0 => exact two_new _ _ _ _
                case c1 => exact two_one _ _
                case c3 => unfold maxLen; omega
                case c4 => omega
                case c5 => have h2 := hV10.out.size; rw [al_size] at h2; simp; omega
                intro v11 w11 hown hgrow _ hat
                have hV11 := Lib.hid ((hV10.out.alloc (by have h2 := hV10.out.size; rw [al_size] at h2; simp; omega) (.cells #[.int .i64 xt, .int .i64 xi] 119)).grown hgrow (by have h2 := hV10.out.size; rw [al_size] at h2; simp; omega) (fun q e => (HQ4.out.lt q e).1))
                have R2 := appE_other HQ3.out hA9.out.symm hgrow hat
                have hO11 := Lib.hid (ownE_snoc2 (e := ((xt, xi) : End)) hLt hown)
                have hP11 := Lib.hid R2.1
                have hA11 := Lib.hid R2.2
                clear hown hgrow hat R2
                go_wp2_with fail
                go_roundw
                case rel => exact ⟨j + 1, by omega, by go_num, Lib.hid (allT_step HX.out hL.out HLK.out), Lib.hid (by rw [ends_step HX.out, ← HLE.out]; exact hP11.out), Lib.hid (by rw [ends_step HX.out, ← HME.out]; exact hO11.out), hA11, hV11⟩
                case measure => simp [intOf]; omega
        · have HLALL := Lib.hid (allT_end (by rw [← HN.out]; exact hjl) hL.out)
          have HO1' := HO1.out
          have HO2' := HO2.out
          rw [List.take_of_length_le (by rw [← HN.out]; omega)] at HO1' HO2'
          replace HO1 := Lib.hid HO1'
          replace HO2 := Lib.hid HO2'
          clear HO1' HO2'
          have hE := Lib.hid (HR.out.trans (okN_rest HHEAD.out HLALL.out))
          have B := blk_in hH.out (hV.out.mono (by simp))
          obtain ⟨t0, t1⟩ := cells2 B
          have tl := lt_of B
          clear B
          have hwf := HL.out.wf
          have NV := Lib.hid (show NetV wr (.agg #[.slice pa m pcap, .slice la n lcap]) ⟨ps, ls⟩ from ⟨_, _, rfl, HP.out.below HC.out, HL.out.below HC.out⟩)
          have HBX := Lib.hid (blk_in hH.out (hV.out.mono (by simp)))
          have hp12 : ps.length ≤ 12 := by rw [← HM.out]; exact q0
          have lo1 := portsFrom_len (fun p hp => (okP_outs hp).2) 0 ps HALL.out
          have lo2 := portsFrom_len (fun p hp => (okP_ins hp).2) 0 ps HALL.out
          have ln30 : ls.length ≤ 30 := by rw [← HN.out]; exact q1
          obtain ⟨b1, hb1⟩ : ∃ b, b = once (ports Prg.outs ps) (ls.map Lnk.src) := ⟨_, rfl⟩
          obtain ⟨b2, hb2⟩ : ∃ b, b = once (ports Prg.ins ps) (ls.map Lnk.tgt) := ⟨_, rfl⟩
          have E1 := Lib.hid (fun (lo : Nat) (v u : Value) (W : World) (hv : OwnE lo W v (ports Prg.outs ps)) (hu : OwnE lo W u (ls.map Lnk.src)) => each_is (ieach_any lo v u _ _ W hv hu (ports_nodup _ _ _) (ports_wf (fun p hp => (okP_outs hp).2) HALL.out hp12) (by intro e he; obtain ⟨l, hl, rfl⟩ := List.mem_map.1 he; exact (hwf l hl).1) (by unfold ports; omega) (by rw [List.length_map]; omega)) hb1)
          have E2 := Lib.hid (fun (lo : Nat) (v u : Value) (W : World) (hv : OwnE lo W v (ports Prg.ins ps)) (hu : OwnE lo W u (ls.map Lnk.tgt)) => each_is (ieach_any lo v u _ _ W hv hu (ports_nodup _ _ _) (ports_wf (fun p hp => (okP_ins hp).2) HALL.out hp12) (by intro e he; obtain ⟨l, hl, rfl⟩ := List.mem_map.1 he; exact (hwf l hl).2) (by unfold ports; omega) (by rw [List.length_map]; omega)) hb2)
          rw [← hb1, ← hb2] at hE
          clear hb1 hb2 hwf lo1 lo2 ln30 hp12
          cases b1 with
          | false =>
            go_wp2_with (first | (go_at_call 126; refine (iports_outs _ ⟨ps, ls⟩ _ NV.out HHEAD.out).mono ?_; rintro e w20 ⟨v20, rfl, ho20, hb20⟩; have HO20 := Lib.hid ho20; have HB20 := Lib.hid hb20; clear ho20 hb20) | (go_at_call 125; refine (E1.out (w.heap.size + 1) _ _ _ (HO20.out.mono (by have h2 := hV.out.size; rw [al_size] at h2; omega)) (HO1.out.below HB20.out)).mono ?_; rintro e w21 ⟨rfl, hb21⟩; have HB21 := Lib.hid (HB20.out.trans (hb21.mono HB20.out.size)); have B21 := blk_in HBX.out HB21.out; obtain ⟨x0, x1⟩ := cells2 B21; have xl := lt_of B21; have NV21 := Lib.hid (NV.out.below HB21.out); clear hb21 B21))
            go_ret
            exact ⟨ret_bool hE.out, HC.out.trans (HB21.out.mono HC.out.size)⟩
          | true =>
            go_wp2_with (first | (go_at_call 126; refine (iports_ins _ ⟨ps, ls⟩ _ NV21.out HHEAD.out).mono ?_; rintro e w22 ⟨v22, rfl, ho22, hb22⟩; have HO22 := Lib.hid ho22; have HB22 := Lib.hid (HB21.out.trans (hb22.mono HB21.out.size)); clear ho22 hb22) | (go_at_call 126; refine (iports_outs _ ⟨ps, ls⟩ _ NV.out HHEAD.out).mono ?_; rintro e w20 ⟨v20, rfl, ho20, hb20⟩; have HO20 := Lib.hid ho20; have HB20 := Lib.hid hb20; clear ho20 hb20) | (go_at_call 125; refine (E2.out (w.heap.size + 1) _ _ _ (HO22.out.mono (by have h1 := HB21.out.size; have h2 := hV.out.size; rw [al_size] at h2; omega)) (HO2.out.below HB22.out)).mono ?_; rintro e w23 ⟨rfl, hb23⟩; have HB23 := Lib.hid (HB22.out.trans (hb23.mono HB22.out.size)); clear hb23) | (go_at_call 125; refine (E1.out (w.heap.size + 1) _ _ _ (HO20.out.mono (by have h2 := hV.out.size; rw [al_size] at h2; omega)) (HO1.out.below HB20.out)).mono ?_; rintro e w21 ⟨rfl, hb21⟩; have HB21 := Lib.hid (HB20.out.trans (hb21.mono HB20.out.size)); have B21 := blk_in HBX.out HB21.out; obtain ⟨x0, x1⟩ := cells2 B21; have xl := lt_of B21; have NV21 := Lib.hid (NV.out.below HB21.out); clear hb21 B21))
            go_ret
            exact ⟨ret_bool hE.out, HC.out.trans (HB23.out.mono HC.out.size)⟩
end Go.Proofs.Ytjphamgkigekkaa
