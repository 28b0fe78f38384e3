/-
  The two sides of the edges, and the edges that a node has on a side. No statement of the seat is proved here.
-/
import Derived.Test.YtokhdnejaecejaaGrI
import Derived.Laws.EntriesVeiled
namespace Go.Proofs.Ytokhdnejaecejaa
open Go.RowKit

set_option maxHeartbeats 400000 in
theorem isdT_any (w : World) :
    Calls Try.prog 78 #[] w fun e w' => e = .returned (.agg #[.func (.func 120) #[] #[], .func (.func 121) #[] #[], .int .i64 1]) ∧ Below w.heap.size w w' := by
  have hb := Below.refl w.heap.size w
  go_enter Try.func78, Try.ntmps78
  go_wp2
  refine bodyPost_ret (v := .agg #[.func (.func 120) #[] #[], .func (.func 121) #[] #[], .int .i64 1]) (by simp [results, Try.results78, go_sem]) rfl ⟨rfl, by repeat (first | exact hb | apply Below.al)⟩

set_option maxHeartbeats 400000 in
theorem icloT1_any (x : Edg) (w : World) :
    Calls Try.prog 120 #[.agg #[.int .i64 x.fr, .int .i64 x.to, .int .i64 x.mke, .int .i64 x.tk, .int .i64 x.tok]] w fun e w' => e = .returned (.int .i64 x.to) ∧ Below w.heap.size w w' := by
  have hb := Below.refl w.heap.size w
  go_enter Try.func120, Try.ntmps120
  go_wp2
  go_ret
  exact ⟨rfl, by repeat (first | exact hb | apply Below.al)⟩

set_option maxHeartbeats 400000 in
theorem icloT2_any (x : Edg) (w : World) :
    Calls Try.prog 121 #[.agg #[.int .i64 x.fr, .int .i64 x.to, .int .i64 x.mke, .int .i64 x.tk, .int .i64 x.tok]] w fun e w' => e = .returned (.int .i64 x.tk) ∧ Below w.heap.size w w' := by
  have hb := Below.refl w.heap.size w
  go_enter Try.func121, Try.ntmps121
  go_wp2
  go_ret
  exact ⟨rfl, by repeat (first | exact hb | apply Below.al)⟩

set_option maxRecDepth 100000 in
set_option maxHeartbeats 4000000 in
theorem ieatT_any (n : Int) (c : Value) (es : List Edg) (k : Int) (w : World) (h : SlEd w c es) (hl : es.length ≤ 1000000) :
    Calls Try.prog 106 #[.agg #[.func (.func 120) #[] #[], .func (.func 121) #[] #[], .int .i64 1], .agg #[.int .i64 n, c], .int .i64 k] w fun e w' => ∃ v', e = .returned v' ∧ Own w.heap.size w' v' (idxs Edg.to es k) ∧ Below w.heap.size w w' := by
  obtain ⟨a, cap, rfl, _, _, _, hrest⟩ := h
  obtain ⟨m, hmm⟩ : ∃ m, m = es.length := ⟨_, rfl⟩
  rw [← hmm] at hl ⊢
  have HM := Lib.hid hmm
  clear hmm
  have hb := Lib.hid (((Below.refl w.heap.size w).al (.cells #[.func (.func 120) #[] #[], .func (.func 121) #[] #[], .int .i64 1] 108)).al (.cells #[.int .i64 n, .slice a m cap] 29))
  have hH := Lib.hid (hp21 w (.cells #[.func (.func 120) #[] #[], .func (.func 121) #[] #[], .int .i64 1] 108) (.cells #[.int .i64 n, .slice a m cap] 29))
  obtain ⟨i0, hi, hz0, hz1, hz2⟩ := info_parts info
  go_enter Try.func106, Try.ntmps106
  go_wp2_with fail
  go_loopw [7, 13] (fun u i wr => ∃ j : Nat, j ≤ m ∧ i = .int .i64 j ∧ Hid (Own (w.heap.size + 1) wr u (idxT Edg.to es k j)) ∧ Hid (wr.heap[w.heap.size]? = some (.cells #[.func (.func 120) #[] #[], .func (.func 121) #[] #[], .int .i64 1] 108)) ∧ Hid (Below w.heap.size w wr)) (fun _ i _ => m - (intOf i).toNat)
  case atStart => exact ⟨0, Nat.zero_le _, rfl, Lib.hid (by rw [idxT_zero]; exact own_nil _ _), hH, hb⟩
  case round =>
    obtain ⟨j, hk, rfl, HO, HS, HB⟩ := hrel
    by_cases hlt : j < m
    · rcases hrest with rfl | ⟨b, off, rfl, hbl, hcell⟩
      · exact absurd hlt (by have := HM.out; simp at this; omega)
      · obtain ⟨x, hx⟩ : ∃ x, es[j]? = some x := ⟨_, List.getElem?_eq_getElem (by rw [← HM.out]; exact hlt)⟩
        obtain ⟨e0, e1, e2, e3, e4⟩ := hcell j x hx
        have c0 := (HB.out.cell (p := ⟨b, off + j * 5, none⟩) hbl).trans e0
        have c1 := (HB.out.cell (p := ⟨b, off + j * 5 + 1, none⟩) hbl).trans e1
        have c2 := (HB.out.cell (p := ⟨b, off + j * 5 + 2, none⟩) hbl).trans e2
        have c3 := (HB.out.cell (p := ⟨b, off + j * 5 + 3, none⟩) hbl).trans e3
        have c4 := (HB.out.cell (p := ⟨b, off + j * 5 + 4, none⟩) hbl).trans e4
        have hbl2 : b < wr.heap.size := Nat.lt_of_lt_of_le hbl HB.out.size
        obtain ⟨s0, s1, s2⟩ := cells3 HS.out
        have ls := lt_of HS.out
        have HX := Lib.hid hx
        obtain ⟨xs, hxs⟩ : ∃ L, L = idxT Edg.to es k j := ⟨_, rfl⟩
        rw [← hxs] at HO
        have HLE := Lib.hid hxs
        have hlen : xs.length ≤ j := by rw [hxs]; exact idxT_len _ _ _ _
        obtain ⟨va, vc, rfl⟩ := HO.out.shape
        obtain ⟨vn, hvn⟩ : ∃ z, z = xs.length := ⟨_, rfl⟩
        rw [← hvn] at HO hlen ⊢
        have HVN := Lib.hid hvn
        clear hx hcell e0 e1 e2 e3 e4 hxs hvn
        have hb1 := (Below.refl wr.heap.size wr).al (.cells #[.int .i64 x.fr, .int .i64 x.to, .int .i64 x.mke, .int .i64 x.tk, .int .i64 x.tok] 62)
        have HB1 := Lib.hid (HB.out.trans (hb1.mono HB.out.size))
        have HO1 := Lib.hid (HO.out.below hb1)
        have HS1 := Lib.hid (blk_in HS.out hb1)
        clear hb1
        by_cases ht : x.to = k
        · have d1 : (x.to == k) = true := by simpa using ht
          have HT := Lib.hid ht
          clear ht
          go_wp2_with (first | (go_at_call 120; refine (icloT1_any x _).mono ?_; rintro e w3 ⟨rfl, hb3⟩; have HB3 := Lib.hid (HB1.out.trans (hb3.mono HB1.out.size)); have HO3 := Lib.hid (HO1.out.below hb3); have HS3 := Lib.hid (blk_in HS1.out hb3); clear hb3) | (at_builtin; refine wpList_append_own_at _ rfl _ _ 33 rfl (w.heap.size + 1) 3 i0 (.int .i64 0) 1 8 Try.underlying33 hi hz0 hz1 hz2 rfl (by decide) _ _ _ rfl (World.ownsRow.alloc (show w3.ownsRow (w.heap.size + 1) 3 1 (.slice va vn vc) xs.length (vals xs) from HO3.out) _) ⟨w3.heap.size, 0, none⟩ 1 1 [.int .i64 (j : Int)] rfl rfl (one_src _ _) (one_one _) ?c3 ?c4 ?c5 ?_))
          case c3 => have := HVN.out; unfold maxLen; omega
          case c4 => have := HVN.out; omega
          case c5 => have := lt_of HS3.out; simp; omega
          intro v' w4 hown hgrow _ hat
          have hs3 := lt_of HS3.out
          have R := app_rel (B := w.heap.size) HB3.out (by omega) (by omega) (show Own (w.heap.size + 1) w3 (.slice va vn vc) xs from HO3.out) hown hgrow
          have HOW := Lib.hid R.1
          have HB4 := Lib.hid R.2
          have HS4 := Lib.hid (show w4.heap[w.heap.size]? = some (.cells #[.func (.func 120) #[] #[], .func (.func 121) #[] #[], .int .i64 1] 108) by
            rw [hgrow.block w.heap.size (by simp; omega) (fun e => by have := (HO3.out.lt _ e.symm).1; omega)]
            exact (Below.heap_alloc _ _ _ hs3).trans HS3.out)
          clear hown hgrow hat R hs3
          go_wp2_with fail
          go_roundw
          case rel => exact ⟨j + 1, by omega, by go_num, Lib.hid (by rw [idxT_yes HX.out HT.out, ← HLE.out]; exact HOW.out), HS4, HB4⟩
          case measure => simp [intOf]; omega
        · have d1 : (x.to == k) = false := by simpa using ht
          have HT := Lib.hid ht
          clear ht
          go_wp2_with (go_at_call 120; refine (icloT1_any x _).mono ?_; rintro e w3 ⟨rfl, hb3⟩; have HB3 := Lib.hid (HB1.out.trans (hb3.mono HB1.out.size)); have HO3 := Lib.hid (HO1.out.below hb3); have HS3 := Lib.hid (blk_in HS1.out hb3); clear hb3)
          go_roundw
          case rel => exact ⟨j + 1, by omega, by go_num, Lib.hid (by rw [idxT_no HX.out HT.out, ← HLE.out]; exact HO3.out), HS3, HB3⟩
          case measure => simp [intOf]; omega
    · have e : j = es.length := by rw [← HM.out]; omega
      rw [e] at HO
      obtain ⟨va, vc, rfl⟩ := HO.out.shape
      go_wp2_with fail
      go_ret
      exact ⟨_, rfl, HO.out.mono (by omega), HB.out⟩

set_option maxHeartbeats 400000 in
theorem isdM_any (w : World) :
    Calls Try.prog 79 #[] w fun e w' => e = .returned (.agg #[.func (.func 122) #[] #[], .func (.func 123) #[] #[], .int .i64 2]) ∧ Below w.heap.size w w' := by
  have hb := Below.refl w.heap.size w
  go_enter Try.func79, Try.ntmps79
  go_wp2
  refine bodyPost_ret (v := .agg #[.func (.func 122) #[] #[], .func (.func 123) #[] #[], .int .i64 2]) (by simp [results, Try.results79, go_sem]) rfl ⟨rfl, by repeat (first | exact hb | apply Below.al)⟩

set_option maxHeartbeats 400000 in
theorem icloM1_any (x : Edg) (w : World) :
    Calls Try.prog 122 #[.agg #[.int .i64 x.fr, .int .i64 x.to, .int .i64 x.mke, .int .i64 x.tk, .int .i64 x.tok]] w fun e w' => e = .returned (.int .i64 x.fr) ∧ Below w.heap.size w w' := by
  have hb := Below.refl w.heap.size w
  go_enter Try.func122, Try.ntmps122
  go_wp2
  go_ret
  exact ⟨rfl, by repeat (first | exact hb | apply Below.al)⟩

set_option maxHeartbeats 400000 in
theorem icloM2_any (x : Edg) (w : World) :
    Calls Try.prog 123 #[.agg #[.int .i64 x.fr, .int .i64 x.to, .int .i64 x.mke, .int .i64 x.tk, .int .i64 x.tok]] w fun e w' => e = .returned (.int .i64 x.mke) ∧ Below w.heap.size w w' := by
  have hb := Below.refl w.heap.size w
  go_enter Try.func123, Try.ntmps123
  go_wp2
  go_ret
  exact ⟨rfl, by repeat (first | exact hb | apply Below.al)⟩

set_option maxRecDepth 100000 in
set_option maxHeartbeats 4000000 in
theorem ieatM_any (n : Int) (c : Value) (es : List Edg) (k : Int) (w : World) (h : SlEd w c es) (hl : es.length ≤ 1000000) :
    Calls Try.prog 106 #[.agg #[.func (.func 122) #[] #[], .func (.func 123) #[] #[], .int .i64 2], .agg #[.int .i64 n, c], .int .i64 k] w fun e w' => ∃ v', e = .returned v' ∧ Own w.heap.size w' v' (idxs Edg.fr es k) ∧ Below w.heap.size w w' := by
  obtain ⟨a, cap, rfl, _, _, _, hrest⟩ := h
  obtain ⟨m, hmm⟩ : ∃ m, m = es.length := ⟨_, rfl⟩
  rw [← hmm] at hl ⊢
  have HM := Lib.hid hmm
  clear hmm
  have hb := Lib.hid (((Below.refl w.heap.size w).al (.cells #[.func (.func 122) #[] #[], .func (.func 123) #[] #[], .int .i64 2] 108)).al (.cells #[.int .i64 n, .slice a m cap] 29))
  have hH := Lib.hid (hp21 w (.cells #[.func (.func 122) #[] #[], .func (.func 123) #[] #[], .int .i64 2] 108) (.cells #[.int .i64 n, .slice a m cap] 29))
  obtain ⟨i0, hi, hz0, hz1, hz2⟩ := info_parts info
  go_enter Try.func106, Try.ntmps106
  go_wp2_with fail
  go_loopw [7, 13] (fun u i wr => ∃ j : Nat, j ≤ m ∧ i = .int .i64 j ∧ Hid (Own (w.heap.size + 1) wr u (idxT Edg.fr es k j)) ∧ Hid (wr.heap[w.heap.size]? = some (.cells #[.func (.func 122) #[] #[], .func (.func 123) #[] #[], .int .i64 2] 108)) ∧ Hid (Below w.heap.size w wr)) (fun _ i _ => m - (intOf i).toNat)
  case atStart => exact ⟨0, Nat.zero_le _, rfl, Lib.hid (by rw [idxT_zero]; exact own_nil _ _), hH, hb⟩
  case round =>
    obtain ⟨j, hk, rfl, HO, HS, HB⟩ := hrel
    by_cases hlt : j < m
    · rcases hrest with rfl | ⟨b, off, rfl, hbl, hcell⟩
      · exact absurd hlt (by have := HM.out; simp at this; omega)
      · obtain ⟨x, hx⟩ : ∃ x, es[j]? = some x := ⟨_, List.getElem?_eq_getElem (by rw [← HM.out]; exact hlt)⟩
        obtain ⟨e0, e1, e2, e3, e4⟩ := hcell j x hx
        have c0 := (HB.out.cell (p := ⟨b, off + j * 5, none⟩) hbl).trans e0
        have c1 := (HB.out.cell (p := ⟨b, off + j * 5 + 1, none⟩) hbl).trans e1
        have c2 := (HB.out.cell (p := ⟨b, off + j * 5 + 2, none⟩) hbl).trans e2
        have c3 := (HB.out.cell (p := ⟨b, off + j * 5 + 3, none⟩) hbl).trans e3
        have c4 := (HB.out.cell (p := ⟨b, off + j * 5 + 4, none⟩) hbl).trans e4
        have hbl2 : b < wr.heap.size := Nat.lt_of_lt_of_le hbl HB.out.size
        obtain ⟨s0, s1, s2⟩ := cells3 HS.out
        have ls := lt_of HS.out
        have HX := Lib.hid hx
        obtain ⟨xs, hxs⟩ : ∃ L, L = idxT Edg.fr es k j := ⟨_, rfl⟩
        rw [← hxs] at HO
        have HLE := Lib.hid hxs
        have hlen : xs.length ≤ j := by rw [hxs]; exact idxT_len _ _ _ _
        obtain ⟨va, vc, rfl⟩ := HO.out.shape
        obtain ⟨vn, hvn⟩ : ∃ z, z = xs.length := ⟨_, rfl⟩
        rw [← hvn] at HO hlen ⊢
        have HVN := Lib.hid hvn
        clear hx hcell e0 e1 e2 e3 e4 hxs hvn
        have hb1 := (Below.refl wr.heap.size wr).al (.cells #[.int .i64 x.fr, .int .i64 x.to, .int .i64 x.mke, .int .i64 x.tk, .int .i64 x.tok] 62)
        have HB1 := Lib.hid (HB.out.trans (hb1.mono HB.out.size))
        have HO1 := Lib.hid (HO.out.below hb1)
        have HS1 := Lib.hid (blk_in HS.out hb1)
        clear hb1
        by_cases ht : x.fr = k
        · have d1 : (x.fr == k) = true := by simpa using ht
          have HT := Lib.hid ht
          clear ht
          go_wp2_with (first | (go_at_call 122; refine (icloM1_any x _).mono ?_; rintro e w3 ⟨rfl, hb3⟩; have HB3 := Lib.hid (HB1.out.trans (hb3.mono HB1.out.size)); have HO3 := Lib.hid (HO1.out.below hb3); have HS3 := Lib.hid (blk_in HS1.out hb3); clear hb3) | (at_builtin; refine wpList_append_own_at _ rfl _ _ 33 rfl (w.heap.size + 1) 3 i0 (.int .i64 0) 1 8 Try.underlying33 hi hz0 hz1 hz2 rfl (by decide) _ _ _ rfl (World.ownsRow.alloc (show w3.ownsRow (w.heap.size + 1) 3 1 (.slice va vn vc) xs.length (vals xs) from HO3.out) _) ⟨w3.heap.size, 0, none⟩ 1 1 [.int .i64 (j : Int)] rfl rfl (one_src _ _) (one_one _) ?c3 ?c4 ?c5 ?_))
          case c3 => have := HVN.out; unfold maxLen; omega
          case c4 => have := HVN.out; omega
          case c5 => have := lt_of HS3.out; simp; omega
          intro v' w4 hown hgrow _ hat
          have hs3 := lt_of HS3.out
          have R := app_rel (B := w.heap.size) HB3.out (by omega) (by omega) (show Own (w.heap.size + 1) w3 (.slice va vn vc) xs from HO3.out) hown hgrow
          have HOW := Lib.hid R.1
          have HB4 := Lib.hid R.2
          have HS4 := Lib.hid (show w4.heap[w.heap.size]? = some (.cells #[.func (.func 122) #[] #[], .func (.func 123) #[] #[], .int .i64 2] 108) by
            rw [hgrow.block w.heap.size (by simp; omega) (fun e => by have := (HO3.out.lt _ e.symm).1; omega)]
            exact (Below.heap_alloc _ _ _ hs3).trans HS3.out)
          clear hown hgrow hat R hs3
          go_wp2_with fail
          go_roundw
          case rel => exact ⟨j + 1, by omega, by go_num, Lib.hid (by rw [idxT_yes HX.out HT.out, ← HLE.out]; exact HOW.out), HS4, HB4⟩
          case measure => simp [intOf]; omega
        · have d1 : (x.fr == k) = false := by simpa using ht
          have HT := Lib.hid ht
          clear ht
          go_wp2_with (go_at_call 122; refine (icloM1_any x _).mono ?_; rintro e w3 ⟨rfl, hb3⟩; have HB3 := Lib.hid (HB1.out.trans (hb3.mono HB1.out.size)); have HO3 := Lib.hid (HO1.out.below hb3); have HS3 := Lib.hid (blk_in HS1.out hb3); clear hb3)
          go_roundw
          case rel => exact ⟨j + 1, by omega, by go_num, Lib.hid (by rw [idxT_no HX.out HT.out, ← HLE.out]; exact HO3.out), HS3, HB3⟩
          case measure => simp [intOf]; omega
    · have e : j = es.length := by rw [← HM.out]; omega
      rw [e] at HO
      obtain ⟨va, vc, rfl⟩ := HO.out.shape
      go_wp2_with fail
      go_ret
      exact ⟨_, rfl, HO.out.mono (by omega), HB.out⟩

end Go.Proofs.Ytokhdnejaecejaa
