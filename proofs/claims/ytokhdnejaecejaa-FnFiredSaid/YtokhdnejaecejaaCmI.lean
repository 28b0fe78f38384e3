/-
  What CompressSchedule answers, the program's and the model's. No statement of the seat is proved here.
-/
import Derived.Test.YtokhdnejaecejaaCmM
import Derived.Test.YtokhdnejaecejaaGrP
namespace Go.Proofs.Ytokhdnejaecejaa
open Go.RowKit

theorem litC (w : World) (cs : Array Value) (T : Nat) : ∀ j u, cs.toList[j]? = some u → (w.alloc (.cells cs T)).cell? ((⟨w.heap.size, 0, none⟩ : Addr).add j) = some u := by
  intro j u hj
  rw [Addr.add_lit, Nat.zero_add, cell_of (hp1 w _), ← Array.getElem?_toList]; exact hj
theorem lo_set {pre : List Lop} {l : Lop} {t : Int} : (cellsLo (pre ++ [l])).set (pre.length * 2 + 1) (.int .i64 t) = cellsLo (pre ++ [⟨l.nd, t⟩]) := by
  rw [cellsLo_app, cellsLo_app, List.set_append, if_neg (by rw [cellsLo_len]; omega), cellsLo_len, show pre.length * 2 + 1 - pre.length * 2 = 1 by omega]
  simp [cellsLo]
theorem lo_at {pre : List Lop} {l : Lop} : (cellsLo (pre ++ [l]))[pre.length * 2 + 1]? = some (.int .i64 l.tm) := by
  rw [cellsLo_app, List.getElem?_append_right (by rw [cellsLo_len]; omega), cellsLo_len, show pre.length * 2 + 1 - pre.length * 2 = 1 by omega]
  simp [cellsLo]
theorem ownLo_nil (lo : Nat) (w : World) : OwnLo lo w (.slice none 0 0) [] := World.ownsRow_nil _ _ _ _


set_option maxRecDepth 100000 in
set_option maxHeartbeats 8000000 in
theorem icomp_w (u : Value) (ks : List Int) (w : World) (hu : Sl w u ks) (hs : ks.length ≤ 1048576) :
    Calls Try.prog 29 #[u] w fun e w' => ∃ v', e = .returned v' ∧ LoH w.heap.size w'.heap.size w' v' (comp ks) ∧ Below w.heap.size w w' := by
  obtain ⟨ua, uc, rfl, _, _, _, hrest⟩ := hu
  obtain ⟨kl, hkl⟩ : ∃ m, m = ks.length := ⟨_, rfl⟩
  rw [← hkl] at hs ⊢
  have HKL := Lib.hid hkl
  clear hkl
  obtain ⟨i0, hi, hz0, hz1, hz2⟩ := infoLo_parts
  have HB0 := Lib.hid (Below.refl w.heap.size w)
  go_enter Try.func29, Try.ntmps29
  go_wp2_with fail
  go_loopw [3, 8] (fun lv i wr => ∃ k : Nat, k ≤ kl ∧ i = .int .i64 k ∧ Hid (OwnLo w.heap.size wr lv (comp (ks.take k))) ∧ Hid (Below w.heap.size w wr)) (fun _ i _ => kl - (intOf i).toNat)
  case atStart => exact ⟨0, Nat.zero_le _, rfl, Lib.hid (by rw [List.take_zero, comp_nil]; exact ownLo_nil _ _), HB0⟩
  case round =>
    obtain ⟨k, hk, rfl, HO0, HB⟩ := hrel
    by_cases hlt : k < kl
    · have HJL := Lib.hid (show k < ks.length by rw [← HKL.out]; exact hlt)
      rcases hrest with rfl | ⟨b, off, rfl, hbl, hcell⟩
      · exact absurd HJL.out (by simp)
      · obtain ⟨x, hx⟩ : ∃ x, ks[k]? = some x := ⟨_, List.getElem?_eq_getElem HJL.out⟩
        have hck := (HB.out.cell (p := ⟨b, off + k, none⟩) hbl).trans (hcell k HJL.out)
        rw [show ks.getD k 0 = x by simp [List.getD, hx]] at hck
        have HX := Lib.hid hx
        have hblr : b < wr.heap.size := Nat.lt_of_lt_of_le hbl HB.out.size
        obtain ⟨xs, hxs⟩ : ∃ L, L = comp (ks.take k) := ⟨_, rfl⟩
        rw [← hxs] at HO0
        have HXS := Lib.hid hxs
        obtain ⟨va, vc, rfl⟩ := HO0.out.shape
        obtain ⟨vn, hvn⟩ : ∃ z, z = xs.length := ⟨_, rfl⟩
        have HVN := Lib.hid hvn
        have hvk : vn ≤ k := by rw [hvn, hxs]; refine Nat.le_trans (comp_len _) ?_; simp; omega
        have HO := Lib.hid (show wr.ownsRow w.heap.size 58 2 (.slice va vn vc) vn (cellsLo xs) by rw [hvn]; exact HO0.out)
        rw [← hvn]
        clear HO0 hvn hxs hx
        have wv : wrap64 (((vn + 1 : Nat) : Int) - 1) = (vn : Int) := by rw [IntWalk.wrap64_in _ (by omega)]; omega
        have wv2 : wrap64 ((vn : Int) + 1 - 1) = (vn : Int) := by rw [IntWalk.wrap64_in _ (by omega)]; omega
        by_cases hk0 : k = 0
        · have d0 : ((k : Int) == 0) = true := by rw [beq_iff_eq]; omega
          have d1 : decide ((k : Int) > 0) = false := decide_eq_false (by omega)
          have d1' : decide (0 < (k : Int)) = false := decide_eq_false (by omega)
          have d1n : decide (0 < k) = false := decide_eq_false (by omega)
          have HN := Lib.hid (show ∀ pre l, xs = pre ++ [l] → l.nd ≠ x by intro pre l e; have q := HXS.out; rw [hk0, List.take_zero, comp_nil] at q; rw [q] at e; simp at e)
          clear hk0
          go_wp2_with (at_builtin; refine wpList_append_own_at _ rfl _ _ 44 rfl w.heap.size 58 i0 (.agg #[.int .i64 0, .int .i64 0]) 2 16 Try.underlying44 hi hz0 hz1 hz2 rfl (by decide) _ vn (cellsLo xs) rfl (World.ownsRow.alloc HO.out _) ⟨wr.heap.size, 0, none⟩ 1 1 [.int .i64 x, .int .i64 0] rfl rfl (litC wr #[.int .i64 x, .int .i64 0] 58) (by intro u hu; simp at hu; rcases hu with rfl | rfl <;> rfl) ?c3 ?c4 ?c5 ?_)
          case c3 => unfold maxLen; omega
          case c4 => omega
          case c5 => have := HB.out.size; simp; omega
          intro v' w4 hown hgrow _ _
          have hb4 := Lib.hid ((HB.out.al (.cells #[.int .i64 x, .int .i64 0] 58)).grown hgrow (by have := HB.out.size; simp; omega) (fun q e => (World.ownsRow.lt HO.out q e).1))
          have HO4 := Lib.hid (show w4.ownsRow w.heap.size 58 2 v' (vn + 1) (cellsLo (xs ++ [⟨x, 0⟩])) by rw [cellsLo_app]; exact hown)
          clear hown hgrow
          obtain ⟨g, cap4, rfl⟩ : ∃ g c, v' = .slice (some ⟨g, 0, none⟩) (vn + 1) c := by
            rcases HO4.out.2 with ⟨_, q⟩ | ⟨g, c, cur, q, _⟩
            · omega
            · exact ⟨g, c, q⟩
          have hgl : g < w4.heap.size := (World.ownsRow.lt HO4.out g rfl).2
          have hg0 : w.heap.size ≤ g := (World.ownsRow.lt HO4.out g rfl).1
          have hcl : w4.cell? ⟨g, vn * 2 + 1, none⟩ = some (.int .i64 0) := by rw [HO4.out.cellAt _ (by omega), HVN.out, lo_at]
          have hfz := HO4.out.frozenAt (vn * 2 + 1)
          go_wp2_with fail
          go_roundw
          case rel =>
            have R := (HO4.out.stored (vn * 2 + 1) (.int .i64 (0 + 1))).1
            rw [show (cellsLo (xs ++ [⟨x, 0⟩])).set (vn * 2 + 1) (.int .i64 (0 + 1)) = cellsLo (xs ++ [⟨x, 1⟩]) by rw [HVN.out, lo_set]; rfl] at R
            refine ⟨k + 1, by omega, by go_num, Lib.hid ?_, Lib.hid (hb4.out.setCell (p := ⟨g, vn * 2 + 1, none⟩) hg0 _)⟩
            rw [comp_take HX.out, ← HXS.out, addLo_new HN.out]
            unfold OwnLo
            rw [List.length_append, ← HVN.out]
            exact R
          case measure => simp [intOf]; omega
        · have hk1 : 1 ≤ k := by omega
          have d0 : ((k : Int) == 0) = false := by rw [beq_eq_false_iff_ne]; omega
          have d1 : decide ((k : Int) > 0) = true := decide_eq_true (by omega)
          have d1' : decide (0 < (k : Int)) = true := decide_eq_true (by omega)
          have d1n : decide (0 < k) = true := decide_eq_true (by omega)
          have hjl : k - 1 < kl := by omega
          have wk : wrap64 ((k : Int) - 1) = (k : Int) - 1 := IntWalk.wrap64_in _ (by omega)
          obtain ⟨y, hy⟩ : ∃ y, ks[k - 1]? = some y := ⟨_, List.getElem?_eq_getElem (by rw [← HKL.out]; exact hjl)⟩
          have hcj := (HB.out.cell (p := ⟨b, off + (k - 1), none⟩) hbl).trans (hcell (k - 1) (by rw [← HKL.out]; exact hjl))
          rw [show ks.getD (k - 1) 0 = y by simp [List.getD, hy]] at hcj
          obtain ⟨pre, l, hpl, hly⟩ := comp_last hy
          rw [show k - 1 + 1 = k by omega, ← HXS.out] at hpl
          have HPL := Lib.hid hpl
          have HLY := Lib.hid hly
          clear hk0 hy hpl hly hcell
          by_cases hxy : x = y
          · have d2 : (x == y) = true := by rw [beq_iff_eq]; exact hxy
            have d2' : (y == x) = true := by rw [beq_iff_eq]; exact hxy.symm
            have d3 : (x != y) = false := by simp [hxy]
            have HXY := Lib.hid hxy
            clear hxy
            obtain ⟨q, hq⟩ : ∃ q, q = pre.length := ⟨_, rfl⟩
            have HQ := Lib.hid hq
            have hvq : vn = q + 1 := by rw [HVN.out, HPL.out, hq]; simp
            have HVQ := Lib.hid hvq
            have hv1 : 1 ≤ vn := by omega
            have hql : vn - 1 < vn := by omega
            have wq : wrap64 ((vn : Int) - 1) = (vn : Int) - 1 := IntWalk.wrap64_in _ (by omega)
            have hqv : q = vn - 1 := by omega
            subst hqv
            obtain ⟨tm, htm⟩ : ∃ t, t = l.tm := ⟨_, rfl⟩
            have hb1 : 1 ≤ tm ∧ tm ≤ 1048576 := by
              have := comp_tm (xs := ks.take k) (l := l) (by rw [← HXS.out, HPL.out]; simp)
              rw [htm]; simp at this; omega
            have wt : wrap64 (tm + 1) = tm + 1 := IntWalk.wrap64_in _ (by omega)
            have HTM := Lib.hid htm
            obtain ⟨g, rfl⟩ : ∃ g, va = some ⟨g, 0, none⟩ := by
              rcases HO.out.2 with ⟨_, z⟩ | ⟨g, c, cur, z, _⟩
              · omega
              · simp only [Value.slice.injEq] at z; exact ⟨g, z.1⟩
            have hgl : g < wr.heap.size := (World.ownsRow.lt HO.out g rfl).2
            have hg0 : w.heap.size ≤ g := (World.ownsRow.lt HO.out g rfl).1
            have hcl : wr.cell? ⟨g, (vn - 1) * 2 + 1, none⟩ = some (.int .i64 tm) := by rw [HO.out.cellAt _ (by omega), HPL.out, hq, lo_at, htm]
            have hfz := HO.out.frozenAt ((vn - 1) * 2 + 1)
            clear hq htm hvq
            go_wp2_with fail
            go_roundw
            case rel =>
              have R := (HO.out.stored ((vn - 1) * 2 + 1) (.int .i64 (tm + 1))).1
              rw [HPL.out, HQ.out, lo_set, ← HQ.out, HTM.out] at R
              rw [HTM.out]
              refine ⟨k + 1, by omega, by go_num, Lib.hid ?_, Lib.hid (HB.out.setCell (p := ⟨g, (vn - 1) * 2 + 1, none⟩) hg0 _)⟩
              rw [comp_take HX.out, ← HXS.out, HPL.out, addLo_same (HLY.out.trans HXY.out.symm)]
              unfold OwnLo
              rw [List.length_append, ← HQ.out, show ([⟨x, l.tm + 1⟩] : List Lop).length = 1 from rfl, ← HVQ.out]
              rw [show x = l.nd from HXY.out.trans HLY.out.symm]
              exact R
            case measure => simp [intOf]; omega
          · have d2 : (x == y) = false := by rw [beq_eq_false_iff_ne]; exact hxy
            have d2' : (y == x) = false := by rw [beq_eq_false_iff_ne]; exact fun e => hxy e.symm
            have d3 : (x != y) = true := by simp [hxy]
            have HN := Lib.hid (show ∀ pre l, xs = pre ++ [l] → l.nd ≠ x by
              intro pre' l' e
              rw [HPL.out] at e
              have q := (List.append_inj' e rfl).2
              simp at q
              rw [← q, HLY.out]; exact fun z => hxy z.symm)
            clear hxy
            go_wp2_with (at_builtin; refine wpList_append_own_at _ rfl _ _ 44 rfl w.heap.size 58 i0 (.agg #[.int .i64 0, .int .i64 0]) 2 16 Try.underlying44 hi hz0 hz1 hz2 rfl (by decide) _ vn (cellsLo xs) rfl (World.ownsRow.alloc HO.out _) ⟨wr.heap.size, 0, none⟩ 1 1 [.int .i64 x, .int .i64 0] rfl rfl (litC wr #[.int .i64 x, .int .i64 0] 58) (by intro u hu; simp at hu; rcases hu with rfl | rfl <;> rfl) ?c3 ?c4 ?c5 ?_)
            case c3 => unfold maxLen; omega
            case c4 => omega
            case c5 => have := HB.out.size; simp; omega
            intro v' w4 hown hgrow _ _
            have hb4 := Lib.hid ((HB.out.al (.cells #[.int .i64 x, .int .i64 0] 58)).grown hgrow (by have := HB.out.size; simp; omega) (fun q e => (World.ownsRow.lt HO.out q e).1))
            have HO4 := Lib.hid (show w4.ownsRow w.heap.size 58 2 v' (vn + 1) (cellsLo (xs ++ [⟨x, 0⟩])) by rw [cellsLo_app]; exact hown)
            clear hown hgrow
            obtain ⟨g, cap4, rfl⟩ : ∃ g c, v' = .slice (some ⟨g, 0, none⟩) (vn + 1) c := by
              rcases HO4.out.2 with ⟨_, q⟩ | ⟨g, c, cur, q, _⟩
              · omega
              · exact ⟨g, c, q⟩
            have hgl : g < w4.heap.size := (World.ownsRow.lt HO4.out g rfl).2
            have hg0 : w.heap.size ≤ g := (World.ownsRow.lt HO4.out g rfl).1
            have hcl : w4.cell? ⟨g, vn * 2 + 1, none⟩ = some (.int .i64 0) := by rw [HO4.out.cellAt _ (by omega), HVN.out, lo_at]
            have hfz := HO4.out.frozenAt (vn * 2 + 1)
            go_wp2_with fail
            go_roundw
            case rel =>
              have R := (HO4.out.stored (vn * 2 + 1) (.int .i64 (0 + 1))).1
              rw [show (cellsLo (xs ++ [⟨x, 0⟩])).set (vn * 2 + 1) (.int .i64 (0 + 1)) = cellsLo (xs ++ [⟨x, 1⟩]) by rw [HVN.out, lo_set]; rfl] at R
              refine ⟨k + 1, by omega, by go_num, Lib.hid ?_, Lib.hid (hb4.out.setCell (p := ⟨g, vn * 2 + 1, none⟩) hg0 _)⟩
              rw [comp_take HX.out, ← HXS.out, addLo_new HN.out]
              unfold OwnLo
              rw [List.length_append, ← HVN.out]
              exact R
            case measure => simp [intOf]; omega
    · have e : ks.take k = ks := List.take_of_length_le (by rw [← HKL.out]; omega)
      rw [e] at HO0
      obtain ⟨va, vc, rfl⟩ := HO0.out.shape
      go_wp2_with fail
      go_ret
      exact ⟨_, rfl, LoH.of HO0.out, HB.out⟩


set_option maxRecDepth 100000 in
set_option maxHeartbeats 8000000 in
theorem scomp_w (u : Value) (ks : List Int) (w : World) (hu : Sl w u ks) (hs : ks.length ≤ 1048576) :
    Calls Try.prog 28 #[u] w fun e w' => ∃ v', e = .returned v' ∧ LoH w.heap.size w'.heap.size w' v' (comp ks) ∧ Below w.heap.size w w' := by
  obtain ⟨ua, uc, rfl, _, _, _, hrest⟩ := hu
  obtain ⟨kl, hkl⟩ : ∃ m, m = ks.length := ⟨_, rfl⟩
  rw [← hkl] at hs ⊢
  have HKL := Lib.hid hkl
  clear hkl
  obtain ⟨i0, hi, hz0, hz1, hz2⟩ := infoLo_parts
  have HB0 := Lib.hid ((Below.refl w.heap.size w).al (.cells #[] 58))
  go_enter Try.func28, Try.ntmps28
  go_wp2_with fail
  go_loopw [3, 9] (fun lv i wr => ∃ k : Nat, k ≤ kl ∧ i = .int .i64 k ∧ Hid (OwnLo w.heap.size wr lv (comp (ks.take k))) ∧ Hid (Below w.heap.size w wr)) (fun _ i _ => kl - (intOf i).toNat)
  case atStart => exact ⟨0, Nat.zero_le _, rfl, Lib.hid (by rw [List.take_zero, comp_nil]; exact World.ownsRow_made w #[] 0 (Nat.le_refl _) (by unfold maxLen; omega) rfl), HB0⟩
  case round =>
    obtain ⟨k, hk, rfl, HO0, HB⟩ := hrel
    by_cases hlt : k < kl
    · have HJL := Lib.hid (show k < ks.length by rw [← HKL.out]; exact hlt)
      rcases hrest with rfl | ⟨b, off, rfl, hbl, hcell⟩
      · exact absurd HJL.out (by simp)
      · obtain ⟨x, hx⟩ : ∃ x, ks[k]? = some x := ⟨_, List.getElem?_eq_getElem HJL.out⟩
        have hck := (HB.out.cell (p := ⟨b, off + k, none⟩) hbl).trans (hcell k HJL.out)
        rw [show ks.getD k 0 = x by simp [List.getD, hx]] at hck
        have HX := Lib.hid hx
        have hblr : b < wr.heap.size := Nat.lt_of_lt_of_le hbl HB.out.size
        obtain ⟨xs, hxs⟩ : ∃ L, L = comp (ks.take k) := ⟨_, rfl⟩
        rw [← hxs] at HO0
        have HXS := Lib.hid hxs
        obtain ⟨va, vc, rfl⟩ := HO0.out.shape
        obtain ⟨vn, hvn⟩ : ∃ z, z = xs.length := ⟨_, rfl⟩
        have HVN := Lib.hid hvn
        have hvk : vn ≤ k := by rw [hvn, hxs]; refine Nat.le_trans (comp_len _) ?_; simp; omega
        have HO := Lib.hid (show wr.ownsRow w.heap.size 58 2 (.slice va vn vc) vn (cellsLo xs) by rw [hvn]; exact HO0.out)
        rw [← hvn]
        clear HO0 hvn hxs hx
        have wv : wrap64 (((vn + 1 : Nat) : Int) - 1) = (vn : Int) := by rw [IntWalk.wrap64_in _ (by omega)]; omega
        have wv2 : wrap64 ((vn : Int) + 1 - 1) = (vn : Int) := by rw [IntWalk.wrap64_in _ (by omega)]; omega
        by_cases hk0 : k = 0
        · have d0 : ((k : Int) == 0) = true := by rw [beq_iff_eq]; omega
          have d1 : decide ((k : Int) > 0) = false := decide_eq_false (by omega)
          have d1' : decide (0 < (k : Int)) = false := decide_eq_false (by omega)
          have d1n : decide (0 < k) = false := decide_eq_false (by omega)
          have HN := Lib.hid (show ∀ pre l, xs = pre ++ [l] → l.nd ≠ x by intro pre l e; have q := HXS.out; rw [hk0, List.take_zero, comp_nil] at q; rw [q] at e; simp at e)
          clear hk0
          go_wp2_with (at_builtin; refine wpList_append_own_at _ rfl _ _ 44 rfl w.heap.size 58 i0 (.agg #[.int .i64 0, .int .i64 0]) 2 16 Try.underlying44 hi hz0 hz1 hz2 rfl (by decide) _ vn (cellsLo xs) rfl (World.ownsRow.alloc HO.out _) ⟨wr.heap.size, 0, none⟩ 1 1 [.int .i64 x, .int .i64 1] rfl rfl (litC wr #[.int .i64 x, .int .i64 1] 58) (by intro u hu; simp at hu; rcases hu with rfl | rfl <;> rfl) ?c3 ?c4 ?c5 ?_)
          case c3 => unfold maxLen; omega
          case c4 => omega
          case c5 => have := HB.out.size; simp; omega
          intro v' w4 hown hgrow _ _
          have hb4 := Lib.hid ((HB.out.al (.cells #[.int .i64 x, .int .i64 1] 58)).grown hgrow (by have := HB.out.size; simp; omega) (fun q e => (World.ownsRow.lt HO.out q e).1))
          have HO4 := Lib.hid (show w4.ownsRow w.heap.size 58 2 v' (vn + 1) (cellsLo (xs ++ [⟨x, 1⟩])) by rw [cellsLo_app]; exact hown)
          clear hown hgrow
          obtain ⟨g, cap4, rfl⟩ : ∃ g c, v' = .slice (some ⟨g, 0, none⟩) (vn + 1) c := by
            rcases HO4.out.2 with ⟨_, q⟩ | ⟨g, c, cur, q, _⟩
            · omega
            · exact ⟨g, c, q⟩
          go_wp2_with fail
          go_roundw
          case rel =>
            refine ⟨k + 1, by omega, by go_num, Lib.hid ?_, hb4⟩
            rw [comp_take HX.out, ← HXS.out, addLo_new HN.out]
            unfold OwnLo
            rw [List.length_append, ← HVN.out]
            exact HO4.out
          case measure => simp [intOf]; omega
        · have hk1 : 1 ≤ k := by omega
          have d0 : ((k : Int) == 0) = false := by rw [beq_eq_false_iff_ne]; omega
          have d1 : decide ((k : Int) > 0) = true := decide_eq_true (by omega)
          have d1' : decide (0 < (k : Int)) = true := decide_eq_true (by omega)
          have d1n : decide (0 < k) = true := decide_eq_true (by omega)
          have hjl : k - 1 < kl := by omega
          have wk : wrap64 ((k : Int) - 1) = (k : Int) - 1 := IntWalk.wrap64_in _ (by omega)
          obtain ⟨y, hy⟩ : ∃ y, ks[k - 1]? = some y := ⟨_, List.getElem?_eq_getElem (by rw [← HKL.out]; exact hjl)⟩
          have hcj := (HB.out.cell (p := ⟨b, off + (k - 1), none⟩) hbl).trans (hcell (k - 1) (by rw [← HKL.out]; exact hjl))
          rw [show ks.getD (k - 1) 0 = y by simp [List.getD, hy]] at hcj
          obtain ⟨pre, l, hpl, hly⟩ := comp_last hy
          rw [show k - 1 + 1 = k by omega, ← HXS.out] at hpl
          have HPL := Lib.hid hpl
          have HLY := Lib.hid hly
          clear hk0 hy hpl hly hcell
          by_cases hxy : x = y
          · have d2 : (x == y) = true := by rw [beq_iff_eq]; exact hxy
            have d2' : (y == x) = true := by rw [beq_iff_eq]; exact hxy.symm
            have d3 : (x != y) = false := by simp [hxy]
            have HXY := Lib.hid hxy
            clear hxy
            obtain ⟨q, hq⟩ : ∃ q, q = pre.length := ⟨_, rfl⟩
            have HQ := Lib.hid hq
            have hvq : vn = q + 1 := by rw [HVN.out, HPL.out, hq]; simp
            have HVQ := Lib.hid hvq
            have hv1 : 1 ≤ vn := by omega
            have hql : vn - 1 < vn := by omega
            have wq : wrap64 ((vn : Int) - 1) = (vn : Int) - 1 := IntWalk.wrap64_in _ (by omega)
            have hqv : q = vn - 1 := by omega
            subst hqv
            obtain ⟨tm, htm⟩ : ∃ t, t = l.tm := ⟨_, rfl⟩
            have hb1 : 1 ≤ tm ∧ tm ≤ 1048576 := by
              have := comp_tm (xs := ks.take k) (l := l) (by rw [← HXS.out, HPL.out]; simp)
              rw [htm]; simp at this; omega
            have wt : wrap64 (tm + 1) = tm + 1 := IntWalk.wrap64_in _ (by omega)
            have HTM := Lib.hid htm
            obtain ⟨g, rfl⟩ : ∃ g, va = some ⟨g, 0, none⟩ := by
              rcases HO.out.2 with ⟨_, z⟩ | ⟨g, c, cur, z, _⟩
              · omega
              · simp only [Value.slice.injEq] at z; exact ⟨g, z.1⟩
            have hgl : g < wr.heap.size := (World.ownsRow.lt HO.out g rfl).2
            have hg0 : w.heap.size ≤ g := (World.ownsRow.lt HO.out g rfl).1
            have hcl : wr.cell? ⟨g, (vn - 1) * 2 + 1, none⟩ = some (.int .i64 tm) := by rw [HO.out.cellAt _ (by omega), HPL.out, hq, lo_at, htm]
            have hfz := HO.out.frozenAt ((vn - 1) * 2 + 1)
            clear hq htm hvq
            go_wp2_with fail
            go_roundw
            case rel =>
              have R := (HO.out.stored ((vn - 1) * 2 + 1) (.int .i64 (tm + 1))).1
              rw [HPL.out, HQ.out, lo_set, ← HQ.out, HTM.out] at R
              rw [HTM.out]
              refine ⟨k + 1, by omega, by go_num, Lib.hid ?_, Lib.hid (HB.out.setCell (p := ⟨g, (vn - 1) * 2 + 1, none⟩) hg0 _)⟩
              rw [comp_take HX.out, ← HXS.out, HPL.out, addLo_same (HLY.out.trans HXY.out.symm)]
              unfold OwnLo
              rw [List.length_append, ← HQ.out, show ([⟨x, l.tm + 1⟩] : List Lop).length = 1 from rfl, ← HVQ.out]
              rw [show x = l.nd from HXY.out.trans HLY.out.symm]
              exact R
            case measure => simp [intOf]; omega
          · have d2 : (x == y) = false := by rw [beq_eq_false_iff_ne]; exact hxy
            have d2' : (y == x) = false := by rw [beq_eq_false_iff_ne]; exact fun e => hxy e.symm
            have d3 : (x != y) = true := by simp [hxy]
            have HN := Lib.hid (show ∀ pre l, xs = pre ++ [l] → l.nd ≠ x by
              intro pre' l' e
              rw [HPL.out] at e
              have q := (List.append_inj' e rfl).2
              simp at q
              rw [← q, HLY.out]; exact fun z => hxy z.symm)
            clear hxy
            go_wp2_with (at_builtin; refine wpList_append_own_at _ rfl _ _ 44 rfl w.heap.size 58 i0 (.agg #[.int .i64 0, .int .i64 0]) 2 16 Try.underlying44 hi hz0 hz1 hz2 rfl (by decide) _ vn (cellsLo xs) rfl (World.ownsRow.alloc HO.out _) ⟨wr.heap.size, 0, none⟩ 1 1 [.int .i64 x, .int .i64 1] rfl rfl (litC wr #[.int .i64 x, .int .i64 1] 58) (by intro u hu; simp at hu; rcases hu with rfl | rfl <;> rfl) ?c3 ?c4 ?c5 ?_)
            case c3 => unfold maxLen; omega
            case c4 => omega
            case c5 => have := HB.out.size; simp; omega
            intro v' w4 hown hgrow _ _
            have hb4 := Lib.hid ((HB.out.al (.cells #[.int .i64 x, .int .i64 1] 58)).grown hgrow (by have := HB.out.size; simp; omega) (fun q e => (World.ownsRow.lt HO.out q e).1))
            have HO4 := Lib.hid (show w4.ownsRow w.heap.size 58 2 v' (vn + 1) (cellsLo (xs ++ [⟨x, 1⟩])) by rw [cellsLo_app]; exact hown)
            clear hown hgrow
            obtain ⟨g, cap4, rfl⟩ : ∃ g c, v' = .slice (some ⟨g, 0, none⟩) (vn + 1) c := by
              rcases HO4.out.2 with ⟨_, q⟩ | ⟨g, c, cur, q, _⟩
              · omega
              · exact ⟨g, c, q⟩
            go_wp2_with fail
            go_roundw
            case rel =>
              refine ⟨k + 1, by omega, by go_num, Lib.hid ?_, hb4⟩
              rw [comp_take HX.out, ← HXS.out, addLo_new HN.out]
              unfold OwnLo
              rw [List.length_append, ← HVN.out]
              exact HO4.out
            case measure => simp [intOf]; omega
    · have e : ks.take k = ks := List.take_of_length_le (by rw [← HKL.out]; omega)
      rw [e] at HO0
      obtain ⟨va, vc, rfl⟩ := HO0.out.shape
      go_wp2_with fail
      go_ret
      exact ⟨_, rfl, LoH.of HO0.out, HB.out⟩

end Go.Proofs.Ytokhdnejaecejaa
