/-
  What ExpandSchedule answers, the program's and the model's. No statement of the seat is proved here.
-/
import Derived.Test.YtokhdnejaecejaaRep
import Derived.Test.YtokhdnejaecejaaGrS
namespace Go.Proofs.Ytokhdnejaecejaa
open Go.RowKit


set_option maxRecDepth 100000 in
set_option maxHeartbeats 8000000 in
theorem iexp_w (u : Value) (ls : List Lop) (w : World) (hu : SlLo w u ls) :
    Calls Try.prog 36 #[u] w fun e w' => ∃ v', e = .returned (.tuple #[v', .bool (expOk ls)]) ∧ OwnH w.heap.size w'.heap.size w' v' (expR ls) ∧ Below w.heap.size w w' := by
  obtain ⟨ua, uc, rfl, _, hum, _, hrest⟩ := hu
  have htm : ls.length ≤ 9223372036854775807 := by unfold maxLen at hum; omega
  obtain ⟨m, hm⟩ : ∃ m, m = ls.length := ⟨_, rfl⟩
  obtain ⟨ok, hok⟩ : ∃ b, b = expOk ls := ⟨_, rfl⟩
  obtain ⟨R, hR⟩ : ∃ b, b = expR ls := ⟨_, rfl⟩
  rw [← hm] at htm ⊢
  rw [← hok, ← hR]
  have HM := Lib.hid hm
  have HNO := Lib.hid (show expL ls = none → ok = false ∧ R = [] from fun q => ⟨by rw [hok, expOk_no q], by rw [hR, expR_no q]⟩)
  have HYES := Lib.hid (show ∀ xs, expL ls = some xs → ok = true ∧ R = xs from fun xs q => ⟨by rw [hok, expOk_yes q], by rw [hR, expR_yes q]⟩)
  obtain ⟨i0, hi, hz0, hz1, hz2⟩ := info_parts info
  clear hm hok hR hum
  have HB0 := Lib.hid (Below.refl w.heap.size w)
  go_enter Try.func36, Try.ntmps36
  go_wp2_with fail
  go_loopw [4, 9] (fun lv i wr => ∃ (k : Nat) (xs : List Int), k ≤ m ∧ i = .int .i64 k ∧ Hid (expL (ls.take k) = some xs) ∧ Hid (Own w.heap.size wr lv xs) ∧ Hid (Below w.heap.size w wr)) (fun _ i _ => m - (intOf i).toNat)
  case atStart => exact ⟨0, [], Nat.zero_le _, rfl, Lib.hid rfl, Lib.hid (own_nil _ _), HB0⟩
  case round =>
    obtain ⟨k, xs, hk, rfl, HE, HO0, HB⟩ := hrel
    by_cases hlt : k < m
    · have HJL := Lib.hid (show k < ls.length by rw [← HM.out]; exact hlt)
      rcases hrest with rfl | ⟨b, off, rfl, hbl, hcell⟩
      · exact absurd HJL.out (by simp)
      · obtain ⟨x, hx⟩ : ∃ x, ls[k]? = some x := ⟨_, List.getElem?_eq_getElem HJL.out⟩
        obtain ⟨e0, e1⟩ := hcell k x hx
        have c0 := (HB.out.cell (p := ⟨b, off + k * 2, none⟩) hbl).trans e0
        have c1 := (HB.out.cell (p := ⟨b, off + k * 2 + 1, none⟩) hbl).trans e1
        have hbl2 : b < wr.heap.size := Nat.lt_of_lt_of_le hbl HB.out.size
        have HX := Lib.hid hx
        have HLEN := Lib.hid (expL_len xs HE.out)
        obtain ⟨va, vc, rfl⟩ := HO0.out.shape
        obtain ⟨vn, hvn⟩ : ∃ z, z = xs.length := ⟨_, rfl⟩
        have HVN := Lib.hid hvn
        have hv16 : vn ≤ 1600 := by rw [hvn]; exact HLEN.out
        have HO := Lib.hid (show wr.ownsRow w.heap.size 3 1 (.slice va vn vc) vn (vals xs) by rw [hvn]; exact HO0.out)
        rw [← hvn]
        clear HO0 hvn hx hcell e0 e1
        obtain ⟨nd, tm⟩ := x
        simp only [] at c0 c1
        have hb1 := (Below.refl wr.heap.size wr).al (.cells #[.int .i64 nd, .int .i64 tm] 58)
        have HB1 := Lib.hid (HB.out.trans (hb1.mono HB.out.size))
        have HX1 := Lib.hid (hp1 wr (.cells #[.int .i64 nd, .int .i64 tm] 58))
        have HO1 := Lib.hid (row_below HO.out hb1)
        have wl : wrap64 (1600 - (vn : Int)) = 1600 - (vn : Int) := IntWalk.wrap64_in _ (by omega)
        clear hb1
        go_upto_region 5 with fail
        generalize hw4 : wr.alloc (.cells #[.int .i64 nd, .int .i64 tm] 58) = w4
        rw [hw4] at HB1 HO1 HX1
        obtain ⟨y0, y1⟩ := cells2 HX1.out
        have ly := lt_of HX1.out
        clear hw4 c0 c1
        cases ht : inB 0 (1600 - (vn : Int)) tm with
        | false =>
          have HT := Lib.hid ht
          have hn := Lib.hid (expL_fail (ls := ls) (k := k + 1) (by rw [expL_take HX.out, HE.out]; exact expS_no (by rw [← HVN.out]; exact ht)))
          clear ht
          by_cases t1 : tm < 0
          · have d1 : decide (tm < 0) = true := decide_eq_true t1
            go_wp2_with fail
            go_ret2
            obtain ⟨rfl, rfl⟩ := HNO.out hn.out
            exact ⟨_, rfl, OwnH.of (own_nil _ _), HB1.out⟩
          · have d1 : decide (tm < 0) = false := decide_eq_false t1
            have t2 : 1600 - (vn : Int) < tm := by have q := inB_f HT.out; omega
            have d2 : decide (tm > 1600 - (vn : Int)) = true := decide_eq_true t2
            have d2' : decide (1600 - (vn : Int) < tm) = true := decide_eq_true t2
            go_wp2_with fail
            go_ret2
            obtain ⟨rfl, rfl⟩ := HNO.out hn.out
            exact ⟨_, rfl, OwnH.of (own_nil _ _), HB1.out⟩
        | true =>
          have HT := Lib.hid ht
          have hbt := inB_t ht
          have HN := Lib.hid (show expL (ls.take (k + 1)) = some (xs ++ List.replicate tm.toNat nd) by rw [expL_take HX.out, HE.out]; exact expS_yes (by rw [← HVN.out]; exact ht))
          obtain ⟨c, hc⟩ : ∃ c : Nat, tm = (c : Int) := ⟨tm.toNat, by omega⟩
          subst hc
          rw [Int.toNat_natCast] at HN
          have hcv : c ≤ 1600 ∧ vn + c ≤ 1600 := by omega
          clear ht hbt
          have d1 : decide ((c : Int) < 0) = false := decide_eq_false (by omega)
          have d2 : decide ((c : Int) > 1600 - (vn : Int)) = false := decide_eq_false (by omega)
          have d2' : decide (1600 - (vn : Int) < (c : Int)) = false := decide_eq_false (by omega)
          have hb5 := (Below.refl w4.heap.size w4).al (.cells #[.int .i64 nd] 3)
          have HB5 := Lib.hid (HB1.out.trans (hb5.mono HB1.out.size))
          have HO5 := Lib.hid (row_below HO1.out hb5)
          have HL5 := Lib.hid (hp1 w4 (.cells #[.int .i64 nd] 3))
          have HX5 := Lib.hid (blk_in HX1.out hb5)
          clear hb5
          go_wp2_with (first | (go_at_call 68; refine (irep_any nd c w4.heap.size hcv.1 _ HL5.out).mono ?_; rintro e w6 ⟨rv, rfl, orr, hb6⟩; have HB6 := Lib.hid (HB5.out.trans (hb6.mono HB5.out.size)); have HO6 := Lib.hid (row_below HO5.out hb6); obtain ⟨ra, rc, rfl⟩ := orr.shape; have HR6 := Lib.hid orr.sl; rw [List.length_replicate] at HR6 ⊢; clear orr hb6) | (at_builtin; refine wpList_append_sl rfl _ _ rfl w.heap.size (.slice va vn vc) xs rfl (show Own w.heap.size w6 (.slice va vn vc) xs by unfold Own; rw [← HVN.out]; exact HO6.out) ra c rc (List.replicate c nd) rfl HR6.out ?q1 ?q2 ?_))
          case q1 => rw [List.length_replicate, ← HVN.out]; omega
          case q2 => exact HB6.out.size
          intro v' w7 hown hgrow
          have HB7 := Lib.hid (HB6.out.grown hgrow HB6.out.size (fun q e => (World.ownsRow.lt HO6.out q e).1))
          have HO7 := Lib.hid hown
          clear hown hgrow
          go_wp2_with fail
          go_roundw
          case rel => exact ⟨k + 1, xs ++ List.replicate c nd, by omega, by go_num, HN, HO7, HB7⟩
          case measure => simp [intOf]; omega
    · have e : ls.take k = ls := List.take_of_length_le (by rw [← HM.out]; omega)
      rw [e] at HE
      obtain ⟨va, vc, rfl⟩ := HO0.out.shape
      obtain ⟨h1, h2⟩ := HYES.out xs HE.out
      have H1 := Lib.hid h1
      have H2 := Lib.hid h2
      clear h1 h2 e
      go_wp2_with fail
      go_ret2
      refine ⟨.slice va xs.length vc, by rw [H1.out]; rfl, ?_, HB.out⟩
      rw [H2.out]
      exact OwnH.of HO0.out


set_option maxRecDepth 100000 in
set_option maxHeartbeats 8000000 in
theorem sexp_w (u : Value) (ls : List Lop) (w : World) (hu : SlLo w u ls) :
    Calls Try.prog 34 #[u] w fun e w' => ∃ v', e = .returned (.tuple #[v', .bool (expOk ls)]) ∧ OwnH w.heap.size w'.heap.size w' v' (expR ls) ∧ Below w.heap.size w w' := by
  obtain ⟨ua, uc, rfl, _, hum, _, hrest⟩ := hu
  have htm : ls.length ≤ 9223372036854775807 := by unfold maxLen at hum; omega
  obtain ⟨m, hm⟩ : ∃ m, m = ls.length := ⟨_, rfl⟩
  obtain ⟨ok, hok⟩ : ∃ b, b = expOk ls := ⟨_, rfl⟩
  obtain ⟨R, hR⟩ : ∃ b, b = expR ls := ⟨_, rfl⟩
  rw [← hm] at htm ⊢
  rw [← hok, ← hR]
  have HM := Lib.hid hm
  have HNO := Lib.hid (show expL ls = none → ok = false ∧ R = [] from fun q => ⟨by rw [hok, expOk_no q], by rw [hR, expR_no q]⟩)
  have HYES := Lib.hid (show ∀ xs, expL ls = some xs → ok = true ∧ R = xs from fun xs q => ⟨by rw [hok, expOk_yes q], by rw [hR, expR_yes q]⟩)
  obtain ⟨i0, hi, hz0, hz1, hz2⟩ := info_parts info
  clear hm hok hR hum
  have HB0 := Lib.hid ((Below.refl w.heap.size w).al (.cells #[] 3))
  go_enter Try.func34, Try.ntmps34
  go_wp2_with fail
  go_loopw [4, 11] (fun lv i wr => ∃ (k : Nat) (xs : List Int), k ≤ m ∧ i = .int .i64 k ∧ Hid (expL (ls.take k) = some xs) ∧ Hid (Own w.heap.size wr lv xs) ∧ Hid (Below w.heap.size w wr)) (fun _ i _ => m - (intOf i).toNat)
  case atStart => exact ⟨0, [], Nat.zero_le _, rfl, Lib.hid rfl, Lib.hid (lit0 _), HB0⟩
  case round =>
    obtain ⟨k, xs, hk, rfl, HE, HO0, HB⟩ := hrel
    by_cases hlt : k < m
    · have HJL := Lib.hid (show k < ls.length by rw [← HM.out]; exact hlt)
      rcases hrest with rfl | ⟨b, off, rfl, hbl, hcell⟩
      · exact absurd HJL.out (by simp)
      · obtain ⟨x, hx⟩ : ∃ x, ls[k]? = some x := ⟨_, List.getElem?_eq_getElem HJL.out⟩
        obtain ⟨e0, e1⟩ := hcell k x hx
        have c0 := (HB.out.cell (p := ⟨b, off + k * 2, none⟩) hbl).trans e0
        have c1 := (HB.out.cell (p := ⟨b, off + k * 2 + 1, none⟩) hbl).trans e1
        have hbl2 : b < wr.heap.size := Nat.lt_of_lt_of_le hbl HB.out.size
        have HX := Lib.hid hx
        have HLEN := Lib.hid (expL_len xs HE.out)
        obtain ⟨va, vc, rfl⟩ := HO0.out.shape
        obtain ⟨vn, hvn⟩ : ∃ z, z = xs.length := ⟨_, rfl⟩
        have HVN := Lib.hid hvn
        have hv16 : vn ≤ 1600 := by rw [hvn]; exact HLEN.out
        have HO := Lib.hid (show wr.ownsRow w.heap.size 3 1 (.slice va vn vc) vn (vals xs) by rw [hvn]; exact HO0.out)
        rw [← hvn]
        clear HO0 hvn hx hcell e0 e1
        obtain ⟨nd, tm⟩ := x
        simp only [] at c0 c1
        have hb1 := (Below.refl wr.heap.size wr).al (.cells #[.int .i64 nd, .int .i64 tm] 58)
        have HB1 := Lib.hid (HB.out.trans (hb1.mono HB.out.size))
        have HX1 := Lib.hid (hp1 wr (.cells #[.int .i64 nd, .int .i64 tm] 58))
        have HO1 := Lib.hid (row_below HO.out hb1)
        have wl : wrap64 (1600 - (vn : Int)) = 1600 - (vn : Int) := IntWalk.wrap64_in _ (by omega)
        clear hb1
        go_upto_region 5 with fail
        obtain ⟨BX, hBX⟩ : ∃ B, B = wr.heap.size := ⟨_, rfl⟩
        rw [← hBX]
        generalize hw4 : wr.alloc (.cells #[.int .i64 nd, .int .i64 tm] 58) = w4
        rw [hw4] at HB1 HO1 HX1
        rw [← hBX] at HX1
        clear hBX
        obtain ⟨y0, y1⟩ := cells2 HX1.out
        have ly := lt_of HX1.out
        clear hw4 c0 c1
        cases ht : inB 0 (1600 - (vn : Int)) tm with
        | false =>
          have HT := Lib.hid ht
          have hn := Lib.hid (expL_fail (ls := ls) (k := k + 1) (by rw [expL_take HX.out, HE.out]; exact expS_no (by rw [← HVN.out]; exact ht)))
          clear ht
          go_wp2_with (go_at_call 54; refine (sin_any _ _ _ _).mono ?_; rintro e w' ⟨rfl, rfl⟩; rw [HT.out])
          go_ret2
          obtain ⟨rfl, rfl⟩ := HNO.out hn.out
          exact ⟨_, rfl, OwnH.of (own_nil _ _), HB1.out⟩
        | true =>
          have HT := Lib.hid ht
          have hbt := inB_t ht
          have HN := Lib.hid (show expL (ls.take (k + 1)) = some (xs ++ List.replicate tm.toNat nd) by rw [expL_take HX.out, HE.out]; exact expS_yes (by rw [← HVN.out]; exact ht))
          obtain ⟨c, hc⟩ : ∃ c : Nat, tm = (c : Int) := ⟨tm.toNat, by omega⟩
          subst hc
          rw [Int.toNat_natCast] at HN
          have hcv : c ≤ 1600 ∧ vn + c ≤ 1600 := by omega
          clear ht hbt
          go_wp2_with (go_at_call 54; refine (sin_any _ _ _ _).mono ?_; rintro e w' ⟨rfl, rfl⟩; rw [HT.out])
          have HO4 := Lib.hid (show Own w.heap.size w4 (.slice va vn vc) (xs ++ List.replicate 0 nd) by unfold Own; rw [List.replicate_zero, List.append_nil, ← HVN.out]; exact HO1.out)
          go_loopw [4, 7] (fun lv i wr => ∃ j : Nat, j ≤ c ∧ i = .int .i64 j ∧ Hid (Own w.heap.size wr lv (xs ++ List.replicate j nd)) ∧ Hid (wr.heap[BX]? = some (.cells #[.int .i64 nd, .int .i64 c] 58)) ∧ Hid (Below w.heap.size w wr)) (fun _ i _ => c - (intOf i).toNat)
          case atStart => exact ⟨0, Nat.zero_le _, rfl, HO4, HX1, HB1⟩
          case round =>
            clear HO4 y0 y1 ly HX1 HB1
            obtain ⟨j, hj, rfl, HOJ, HXJ, HBJ⟩ := hrel
            obtain ⟨y0, y1⟩ := cells2 HXJ.out
            have ly := lt_of HXJ.out
            obtain ⟨za, zc, rfl⟩ := HOJ.out.shape
            obtain ⟨zn, hzn⟩ : ∃ z, z = (xs ++ List.replicate j nd).length := ⟨_, rfl⟩
            have HZN := Lib.hid hzn
            have hzv : zn = vn + j := by rw [hzn, HVN.out]; simp
            have hz16 : zn ≤ 3200 := by omega
            have HOZ := Lib.hid (show wr.ownsRow w.heap.size 3 1 (.slice za zn zc) zn (vals (xs ++ List.replicate j nd)) by rw [hzn]; exact HOJ.out)
            rw [← hzn]
            have hBJ := HBJ.out.size
            clear hzn hzv
            by_cases hjc : j < c
            · go_wp2_with (at_builtin; refine wpList_append_own_at _ rfl _ _ 33 rfl w.heap.size 3 i0 (.int .i64 0) 1 8 Try.underlying33 hi hz0 hz1 hz2 rfl (by decide) _ zn (vals (xs ++ List.replicate j nd)) rfl (World.ownsRow.alloc HOZ.out _) ⟨wr.heap.size, 0, none⟩ 1 1 [.int .i64 nd] rfl rfl (one_src _ _) (one_one _) ?c3 ?c4 ?c5 ?_)
              case c3 => unfold maxLen; omega
              case c4 => omega
              case c5 => simp; omega
              intro v' w7 hown hgrow _ hat
              have R := app_rel (B := w.heap.size) (L := xs ++ List.replicate j nd) HBJ.out hBJ (Nat.le_refl _) (show Own w.heap.size wr (.slice za zn zc) (xs ++ List.replicate j nd) by unfold Own; rw [← HZN.out]; exact HOZ.out) (by rw [← HZN.out]; exact hown) hgrow
              have HO7 := Lib.hid R.1
              have HB7 := Lib.hid R.2
              have HBN := Lib.hid HXJ.out
              have HX7 := Lib.hid (show w7.heap[BX]? = some (.cells #[.int .i64 nd, .int .i64 c] 58) from by
                have hTB : (wr.alloc (.cells #[.int .i64 nd] 3)).heap[BX]? = some (.cells #[.int .i64 nd, .int .i64 c] 58) := (Below.heap_alloc _ _ _ (lt_of HXJ.out)).trans HXJ.out
                exact grown_keep hTB (by decide) (Own.below (show Own w.heap.size wr (.slice za zn zc) (xs ++ List.replicate j nd) by unfold Own; rw [← HZN.out]; exact HOZ.out) ((Below.refl _ _).al _)) hgrow)
              clear hown hgrow hat R
              go_wp2_with fail
              go_roundw
              case rel => exact ⟨j + 1, by omega, by go_num, Lib.hid (by rw [List.replicate_succ', ← List.append_assoc]; exact HO7.out), HX7, HB7⟩
              case measure => simp [intOf]; omega
            · obtain rfl : j = c := by omega
              have HO9 := Lib.hid (show Own w.heap.size wr (.slice za zn zc) (xs ++ List.replicate j nd) by unfold Own; rw [← HZN.out]; exact HOZ.out)
              go_wp2_with fail
              go_roundw
              case rel => exact ⟨k + 1, xs ++ List.replicate j nd, by omega, by go_num, HN, HO9, HBJ⟩
              case measure => simp [intOf]; omega
    · have e : ls.take k = ls := List.take_of_length_le (by rw [← HM.out]; omega)
      rw [e] at HE
      obtain ⟨va, vc, rfl⟩ := HO0.out.shape
      obtain ⟨h1, h2⟩ := HYES.out xs HE.out
      have H1 := Lib.hid h1
      have H2 := Lib.hid h2
      clear h1 h2 e
      go_wp2_with fail
      go_ret2
      refine ⟨.slice va xs.length vc, by rw [H1.out]; rfl, ?_, HB.out⟩
      rw [H2.out]
      exact OwnH.of HO0.out

end Go.Proofs.Ytokhdnejaecejaa
