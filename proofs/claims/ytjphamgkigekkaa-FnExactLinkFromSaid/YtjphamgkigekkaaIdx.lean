/-
  What the program's indexAt answers. No statement of the seat is proved here.
-/
import Derived.Test.YtjphamgkigekkaaIsNet
import Derived.Test.YtjphamgkigekkaaLinkM
import Derived.Deep.RegionHeld3
namespace Go.Proofs.Ytjphamgkigekkaa
open Go.RowKit

/-- The library's search: the first link with this end. -/
def idxE (g : Lnk → End) (ls : List Lnk) (e : End) : Int := if e ∈ ls.map g then ((ls.map g).idxOf e : Int) else -1
theorem idxE_hit {g : Lnk → End} {ls : List Lnk} {k : Nat} {x : Lnk} {e : End} (hx : ls[k]? = some x) (h : g x = e) (hn : e ∉ (ls.take k).map g) : idxE g ls e = k := by
  have hk := (List.getElem?_eq_some_iff.1 hx).1
  have hm : e ∈ ls.map g := List.mem_map.2 ⟨x, List.mem_of_getElem? hx, h⟩
  unfold idxE
  rw [if_pos hm]
  conv => lhs; rw [← List.take_append_drop k ls, List.map_append, List.idxOf_append, if_neg hn, List.drop_eq_getElem_cons hk, (List.getElem?_eq_some_iff.1 hx).2, List.map_cons, h, List.idxOf_cons_self]
  simp
  omega
theorem idxE_none {g : Lnk → End} {ls : List Lnk} {e : End} (hn : e ∉ ls.map g) : idxE g ls e = -1 := if_neg hn
theorem notin_step {g : Lnk → End} {ls : List Lnk} {k : Nat} {x : Lnk} {e : End} (hx : ls[k]? = some x) (h : g x ≠ e) (hn : e ∉ (ls.take k).map g) : e ∉ (ls.take (k + 1)).map g := by
  have hk := (List.getElem?_eq_some_iff.1 hx).1
  rw [List.take_succ_eq_append_getElem hk, (List.getElem?_eq_some_iff.1 hx).2, List.map_append]
  simp only [List.map_cons, List.map_nil, List.mem_append, List.mem_singleton]
  rintro (q | q)
  · exact hn q
  · exact h q.symm

set_option maxRecDepth 100000 in
set_option maxHeartbeats 1600000 in
theorem icloT_any (g1 g2 : Nat) (a b xf xo xt xi : Int) (u : Value) (w : World) (h1 : w.heap[g1]? = some (.cells #[.func (.func 107) #[] #[]] 117)) (h2 : w.heap[g2]? = some (.cells #[.int .i64 a, .int .i64 b] 119)) :
    Calls Try.prog 156 #[.agg #[.int .i64 xf, .int .i64 xo, .int .i64 xt, .int .i64 xi, u], .pointer (some ⟨g1, 0, none⟩), .pointer (some ⟨g2, 0, none⟩)] w fun e w' => e = .returned (.bool (decide ((xt, xi) = ((a, b) : End)))) ∧ Below w.heap.size w w' := by
  have H1 := Lib.hid h1
  have H2 := Lib.hid h2
  have hb := Lib.hid ((Below.refl w.heap.size w).al (.cells #[.int .i64 xf, .int .i64 xo, .int .i64 xt, .int .i64 xi, u] 82))
  have hH := Lib.hid (hp1 w (.cells #[.int .i64 xf, .int .i64 xo, .int .i64 xt, .int .i64 xi, u] 82))
  have l1 := lt_of h1
  have l2 := lt_of h2
  obtain ⟨c20, c21⟩ := cells2 h2
  have c10 : w.cell? ⟨g1, 0, none⟩ = some (.func (.func 107) #[] #[]) := by rw [cell_of h1 0]; rfl
  clear h1 h2
  go_enter Try.func156, Try.ntmps156
  go_upto_region 1 with fail
  obtain ⟨W, hW⟩ : ∃ W, W = w.alloc (.cells #[.int .i64 xf, .int .i64 xo, .int .i64 xt, .int .i64 xi, u] 82) := ⟨_, rfl⟩
  have HBW := Lib.hid (show Below w.heap.size w W by rw [hW]; exact hb.out)
  have HHW := Lib.hid (show W.heap[w.heap.size]? = some (.cells #[.int .i64 xf, .int .i64 xo, .int .i64 xt, .int .i64 xi, u] 82) by rw [hW]; exact hH.out)
  have HS := Lib.hid (show w.heap.size ≤ W.heap.size by rw [hW]; simp)
  rw [← hW]
  clear hW c10 c20 c21
  have H1W := Lib.hid (blk_in H1.out HBW.out)
  have H2W := Lib.hid (blk_in H2.out HBW.out)
  obtain ⟨c20, c21⟩ := cells2 H2W.out
  have c10 : W.cell? ⟨g1, 0, none⟩ = some (.func (.func 107) #[] #[]) := by rw [cell_of H1W.out 0]; rfl
  have b1 := lt_of H1W.out
  have b2 := lt_of H2W.out
  obtain ⟨x0, x1, x2, x3, x4⟩ := cells5 HHW.out
  have bx := lt_of HHW.out
  by_cases t1 : xt = a
  · subst t1
    by_cases t2 : xi = b
    · subst t2
      have BV := Lib.hid (show decide ((xt, xi) = ((xt, xi) : End)) = true by simp)
      go_region_held3 (fun w' => w'.cell? ⟨g1, 0, none⟩ = some (.func (.func 107) #[] #[]) ∧ w'.cell? ⟨g2, 0, none⟩ = some (.int .i64 xt) ∧ w'.cell? ⟨g2, 1, none⟩ = some (.int .i64 xi) ∧ w'.cell? ⟨w.heap.size, 0, none⟩ = some (.int .i64 xf) ∧ w'.cell? ⟨w.heap.size, 1, none⟩ = some (.int .i64 xo) ∧ w'.cell? ⟨w.heap.size, 2, none⟩ = some (.int .i64 xt) ∧ w'.cell? ⟨w.heap.size, 3, none⟩ = some (.int .i64 xi) ∧ w'.cell? ⟨w.heap.size, 4, none⟩ = some u) (go_keep)
        (first | (go_at_call 107; refine (itgt_any xf xo xt xi u _).mono ?_; rintro e w3 ⟨rfl, hb3⟩; have hc3 : Below W.heap.size W w3 := (by first | with_reducible exact hb3 | with_reducible exact cr_d hb3); have HB3 := Lib.hid (HBW.out.trans (hc3.mono HS.out)); have q1 := blk_in H1W.out hc3; have q2 := blk_in H2W.out hc3; have q3 := blk_in HHW.out hc3; obtain ⟨y20, y21⟩ := cells2 q2; have y10 : w3.cell? ⟨g1, 0, none⟩ = some (.func (.func 107) #[] #[]) := (by rw [cell_of q1 0]; rfl); obtain ⟨z0, z1, z2, z3, z4⟩ := cells5 q3; clear hb3 hc3 q1 q2 q3))
      all_goals
        go_wp2_with fail
        go_ret
        first | exact ⟨ret_bool BV.out.symm, HB3.out⟩ | exact ⟨ret_bool BV.out, HB3.out⟩
    · have BV := Lib.hid (show decide ((xt, xi) = ((xt, b) : End)) = false from decide_eq_false (fun e => t2 (congrArg Prod.snd e)))
      have d2 : (xi == b) = false := by simpa using t2
      go_region_held3 (fun w' => w'.cell? ⟨g1, 0, none⟩ = some (.func (.func 107) #[] #[]) ∧ w'.cell? ⟨g2, 0, none⟩ = some (.int .i64 xt) ∧ w'.cell? ⟨g2, 1, none⟩ = some (.int .i64 b) ∧ w'.cell? ⟨w.heap.size, 0, none⟩ = some (.int .i64 xf) ∧ w'.cell? ⟨w.heap.size, 1, none⟩ = some (.int .i64 xo) ∧ w'.cell? ⟨w.heap.size, 2, none⟩ = some (.int .i64 xt) ∧ w'.cell? ⟨w.heap.size, 3, none⟩ = some (.int .i64 xi) ∧ w'.cell? ⟨w.heap.size, 4, none⟩ = some u) (go_keep)
        (first | (go_at_call 107; refine (itgt_any xf xo xt xi u _).mono ?_; rintro e w3 ⟨rfl, hb3⟩; have hc3 : Below W.heap.size W w3 := (by first | with_reducible exact hb3 | with_reducible exact cr_d hb3); have HB3 := Lib.hid (HBW.out.trans (hc3.mono HS.out)); have q1 := blk_in H1W.out hc3; have q2 := blk_in H2W.out hc3; have q3 := blk_in HHW.out hc3; obtain ⟨y20, y21⟩ := cells2 q2; have y10 : w3.cell? ⟨g1, 0, none⟩ = some (.func (.func 107) #[] #[]) := (by rw [cell_of q1 0]; rfl); obtain ⟨z0, z1, z2, z3, z4⟩ := cells5 q3; clear hb3 hc3 q1 q2 q3))
      all_goals
        go_wp2_with fail
        go_ret
        first | exact ⟨ret_bool BV.out.symm, HB3.out⟩ | exact ⟨ret_bool BV.out, HB3.out⟩
  · have BV := Lib.hid (show decide ((xt, xi) = ((a, b) : End)) = false from decide_eq_false (fun e => t1 (congrArg Prod.fst e)))
    have d1 : (xt == a) = false := by simpa using t1
    go_region_held3 (fun w' => w'.cell? ⟨g1, 0, none⟩ = some (.func (.func 107) #[] #[]) ∧ w'.cell? ⟨g2, 0, none⟩ = some (.int .i64 a) ∧ w'.cell? ⟨g2, 1, none⟩ = some (.int .i64 b) ∧ w'.cell? ⟨w.heap.size, 0, none⟩ = some (.int .i64 xf) ∧ w'.cell? ⟨w.heap.size, 1, none⟩ = some (.int .i64 xo) ∧ w'.cell? ⟨w.heap.size, 2, none⟩ = some (.int .i64 xt) ∧ w'.cell? ⟨w.heap.size, 3, none⟩ = some (.int .i64 xi) ∧ w'.cell? ⟨w.heap.size, 4, none⟩ = some u) (go_keep)
      (first | (go_at_call 107; refine (itgt_any xf xo xt xi u _).mono ?_; rintro e w3 ⟨rfl, hb3⟩; have hc3 : Below W.heap.size W w3 := (by first | with_reducible exact hb3 | with_reducible exact cr_d hb3); have HB3 := Lib.hid (HBW.out.trans (hc3.mono HS.out)); have q1 := blk_in H1W.out hc3; have q2 := blk_in H2W.out hc3; have q3 := blk_in HHW.out hc3; obtain ⟨y20, y21⟩ := cells2 q2; have y10 : w3.cell? ⟨g1, 0, none⟩ = some (.func (.func 107) #[] #[]) := (by rw [cell_of q1 0]; rfl); obtain ⟨z0, z1, z2, z3, z4⟩ := cells5 q3; clear hb3 hc3 q1 q2 q3))
    all_goals
      go_wp2_with fail
      go_ret
      first | exact ⟨ret_bool BV.out.symm, HB3.out⟩ | exact ⟨ret_bool BV.out, HB3.out⟩

set_option maxRecDepth 100000 in
set_option maxHeartbeats 4000000 in
theorem iidxT_any (v : Value) (ls : List Lnk) (g1 g2 : Nat) (a b : Int) (w : World) (h : SlL w v ls) (h1 : w.heap[g1]? = some (.cells #[.func (.func 107) #[] #[]] 117)) (h2 : w.heap[g2]? = some (.cells #[.int .i64 a, .int .i64 b] 119)) :
    Calls Try.prog 155 #[v, .func (.func 156) #[] #[.pointer (some ⟨g1, 0, none⟩), .pointer (some ⟨g2, 0, none⟩)]] w fun e w' => e = .returned (.int .i64 (idxE Lnk.tgt ls (a, b))) ∧ Below w.heap.size w w' := by
  have HV := Lib.hid h
  have hll := h.len
  obtain ⟨la, lcap, rfl⟩ := h.shape
  clear h
  have H1 := Lib.hid h1
  have H2 := Lib.hid h2
  clear h1 h2
  obtain ⟨n, hn⟩ : ∃ n, n = ls.length := ⟨_, rfl⟩
  obtain ⟨r, hr⟩ : ∃ r, r = idxE Lnk.tgt ls (a, b) := ⟨_, rfl⟩
  rw [← hr]
  rw [← hn] at hll HV ⊢
  have HN := Lib.hid hn
  have HR := Lib.hid hr
  clear hn hr
  have hb := Lib.hid (Below.refl w.heap.size w)
  go_enter Try.func155, Try.ntmps155
  go_wp2_with fail
  go_loopw [8] (fun i wr => ∃ k : Nat, k ≤ n ∧ i = .int .i64 k ∧ Hid (((a, b) : End) ∉ (ls.take k).map Lnk.tgt) ∧ Hid (Below w.heap.size w wr)) (fun i _ => n - (intOf i).toNat)
  case atStart => exact ⟨0, Nat.zero_le _, rfl, Lib.hid (by simp), hb⟩
  case round =>
    obtain ⟨k, hk, rfl, HNI, HB⟩ := hrel
    by_cases hlt : k < n
    · obtain ⟨x, hx⟩ : ∃ x, ls[k]? = some x := ⟨_, List.getElem?_eq_getElem (by rw [← HN.out]; exact hlt)⟩
      obtain ⟨lb, off, c, rfl, hbl, e0, e1, e2, e3, e4, e5⟩ := (HV.out.below HB.out).atb hx
      have HX := Lib.hid hx
      clear hx
      obtain ⟨xf, xo, xt, xi, xk⟩ := x
      simp only [] at e0 e1 e2 e3 e4 e5
      obtain ⟨ua, uc, rfl⟩ := e5.shape
      obtain ⟨ul, hul⟩ : ∃ z, z = xk.length := ⟨_, rfl⟩
      rw [← hul] at e4
      clear hul e5
      have B1 := Lib.hid (blk_in H1.out HB.out)
      have B2 := Lib.hid (blk_in H2.out HB.out)
      have CC := Lib.hid (icloT_any g1 g2 a b xf xo xt xi (.slice ua ul uc) wr B1.out B2.out)
      by_cases hd : (xt, xi) = ((a, b) : End)
      · rw [decide_eq_true hd] at CC
        have HD := Lib.hid (idxE_hit (g := Lnk.tgt) HX.out hd HNI.out)
        clear hd
        go_wp2_with (go_at_call 156; with_reducible refine CC.out.mono ?_; rintro e w3 ⟨rfl, hb3⟩; have HB3 := Lib.hid (HB.out.trans (hb3.mono HB.out.size)); clear hb3)
        go_ret
        have e := HR.out.trans HD.out
        subst e
        exact ⟨rfl, HB3.out⟩
      · rw [decide_eq_false hd] at CC
        have HD := Lib.hid (notin_step (g := Lnk.tgt) HX.out hd HNI.out)
        clear hd
        go_wp2_with (go_at_call 156; with_reducible refine CC.out.mono ?_; rintro e w3 ⟨rfl, hb3⟩; have HB3 := Lib.hid (HB.out.trans (hb3.mono HB.out.size)); clear hb3)
        go_roundw
        case rel => exact ⟨k + 1, by omega, by go_num, HD, HB3⟩
        case measure => simp [intOf]; omega
    · have e := Lib.hid (HR.out.trans (idxE_none (by have := HNI.out; rwa [List.take_of_length_le (by rw [← HN.out]; omega)] at this)))
      go_wp2_with fail
      go_ret
      obtain rfl := e.out
      exact ⟨rfl, HB.out⟩


set_option maxRecDepth 100000 in
set_option maxHeartbeats 1600000 in
theorem icloS_any (g1 g2 : Nat) (a b xf xo xt xi : Int) (u : Value) (w : World) (h1 : w.heap[g1]? = some (.cells #[.func (.func 109) #[] #[]] 117)) (h2 : w.heap[g2]? = some (.cells #[.int .i64 a, .int .i64 b] 119)) :
    Calls Try.prog 156 #[.agg #[.int .i64 xf, .int .i64 xo, .int .i64 xt, .int .i64 xi, u], .pointer (some ⟨g1, 0, none⟩), .pointer (some ⟨g2, 0, none⟩)] w fun e w' => e = .returned (.bool (decide ((xf, xo) = ((a, b) : End)))) ∧ Below w.heap.size w w' := by
  have H1 := Lib.hid h1
  have H2 := Lib.hid h2
  have hb := Lib.hid ((Below.refl w.heap.size w).al (.cells #[.int .i64 xf, .int .i64 xo, .int .i64 xt, .int .i64 xi, u] 82))
  have hH := Lib.hid (hp1 w (.cells #[.int .i64 xf, .int .i64 xo, .int .i64 xt, .int .i64 xi, u] 82))
  have l1 := lt_of h1
  have l2 := lt_of h2
  obtain ⟨c20, c21⟩ := cells2 h2
  have c10 : w.cell? ⟨g1, 0, none⟩ = some (.func (.func 109) #[] #[]) := by rw [cell_of h1 0]; rfl
  clear h1 h2
  go_enter Try.func156, Try.ntmps156
  go_upto_region 1 with fail
  obtain ⟨W, hW⟩ : ∃ W, W = w.alloc (.cells #[.int .i64 xf, .int .i64 xo, .int .i64 xt, .int .i64 xi, u] 82) := ⟨_, rfl⟩
  have HBW := Lib.hid (show Below w.heap.size w W by rw [hW]; exact hb.out)
  have HHW := Lib.hid (show W.heap[w.heap.size]? = some (.cells #[.int .i64 xf, .int .i64 xo, .int .i64 xt, .int .i64 xi, u] 82) by rw [hW]; exact hH.out)
  have HS := Lib.hid (show w.heap.size ≤ W.heap.size by rw [hW]; simp)
  rw [← hW]
  clear hW c10 c20 c21
  have H1W := Lib.hid (blk_in H1.out HBW.out)
  have H2W := Lib.hid (blk_in H2.out HBW.out)
  obtain ⟨c20, c21⟩ := cells2 H2W.out
  have c10 : W.cell? ⟨g1, 0, none⟩ = some (.func (.func 109) #[] #[]) := by rw [cell_of H1W.out 0]; rfl
  have b1 := lt_of H1W.out
  have b2 := lt_of H2W.out
  obtain ⟨x0, x1, x2, x3, x4⟩ := cells5 HHW.out
  have bx := lt_of HHW.out
  by_cases t1 : xf = a
  · subst t1
    by_cases t2 : xo = b
    · subst t2
      have BV := Lib.hid (show decide ((xf, xo) = ((xf, xo) : End)) = true by simp)
      go_region_held3 (fun w' => w'.cell? ⟨g1, 0, none⟩ = some (.func (.func 109) #[] #[]) ∧ w'.cell? ⟨g2, 0, none⟩ = some (.int .i64 xf) ∧ w'.cell? ⟨g2, 1, none⟩ = some (.int .i64 xo) ∧ w'.cell? ⟨w.heap.size, 0, none⟩ = some (.int .i64 xf) ∧ w'.cell? ⟨w.heap.size, 1, none⟩ = some (.int .i64 xo) ∧ w'.cell? ⟨w.heap.size, 2, none⟩ = some (.int .i64 xt) ∧ w'.cell? ⟨w.heap.size, 3, none⟩ = some (.int .i64 xi) ∧ w'.cell? ⟨w.heap.size, 4, none⟩ = some u) (go_keep)
        (first | (go_at_call 109; refine (isrc_any xf xo xt xi u _).mono ?_; rintro e w3 ⟨rfl, hb3⟩; have hc3 : Below W.heap.size W w3 := (by first | with_reducible exact hb3 | with_reducible exact cr_d hb3); have HB3 := Lib.hid (HBW.out.trans (hc3.mono HS.out)); have q1 := blk_in H1W.out hc3; have q2 := blk_in H2W.out hc3; have q3 := blk_in HHW.out hc3; obtain ⟨y20, y21⟩ := cells2 q2; have y10 : w3.cell? ⟨g1, 0, none⟩ = some (.func (.func 109) #[] #[]) := (by rw [cell_of q1 0]; rfl); obtain ⟨z0, z1, z2, z3, z4⟩ := cells5 q3; clear hb3 hc3 q1 q2 q3))
      all_goals
        go_wp2_with fail
        go_ret
        first | exact ⟨ret_bool BV.out.symm, HB3.out⟩ | exact ⟨ret_bool BV.out, HB3.out⟩
    · have BV := Lib.hid (show decide ((xf, xo) = ((xf, b) : End)) = false from decide_eq_false (fun e => t2 (congrArg Prod.snd e)))
      have d2 : (xo == b) = false := by simpa using t2
      go_region_held3 (fun w' => w'.cell? ⟨g1, 0, none⟩ = some (.func (.func 109) #[] #[]) ∧ w'.cell? ⟨g2, 0, none⟩ = some (.int .i64 xf) ∧ w'.cell? ⟨g2, 1, none⟩ = some (.int .i64 b) ∧ w'.cell? ⟨w.heap.size, 0, none⟩ = some (.int .i64 xf) ∧ w'.cell? ⟨w.heap.size, 1, none⟩ = some (.int .i64 xo) ∧ w'.cell? ⟨w.heap.size, 2, none⟩ = some (.int .i64 xt) ∧ w'.cell? ⟨w.heap.size, 3, none⟩ = some (.int .i64 xi) ∧ w'.cell? ⟨w.heap.size, 4, none⟩ = some u) (go_keep)
        (first | (go_at_call 109; refine (isrc_any xf xo xt xi u _).mono ?_; rintro e w3 ⟨rfl, hb3⟩; have hc3 : Below W.heap.size W w3 := (by first | with_reducible exact hb3 | with_reducible exact cr_d hb3); have HB3 := Lib.hid (HBW.out.trans (hc3.mono HS.out)); have q1 := blk_in H1W.out hc3; have q2 := blk_in H2W.out hc3; have q3 := blk_in HHW.out hc3; obtain ⟨y20, y21⟩ := cells2 q2; have y10 : w3.cell? ⟨g1, 0, none⟩ = some (.func (.func 109) #[] #[]) := (by rw [cell_of q1 0]; rfl); obtain ⟨z0, z1, z2, z3, z4⟩ := cells5 q3; clear hb3 hc3 q1 q2 q3))
      all_goals
        go_wp2_with fail
        go_ret
        first | exact ⟨ret_bool BV.out.symm, HB3.out⟩ | exact ⟨ret_bool BV.out, HB3.out⟩
  · have BV := Lib.hid (show decide ((xf, xo) = ((a, b) : End)) = false from decide_eq_false (fun e => t1 (congrArg Prod.fst e)))
    have d1 : (xf == a) = false := by simpa using t1
    go_region_held3 (fun w' => w'.cell? ⟨g1, 0, none⟩ = some (.func (.func 109) #[] #[]) ∧ w'.cell? ⟨g2, 0, none⟩ = some (.int .i64 a) ∧ w'.cell? ⟨g2, 1, none⟩ = some (.int .i64 b) ∧ w'.cell? ⟨w.heap.size, 0, none⟩ = some (.int .i64 xf) ∧ w'.cell? ⟨w.heap.size, 1, none⟩ = some (.int .i64 xo) ∧ w'.cell? ⟨w.heap.size, 2, none⟩ = some (.int .i64 xt) ∧ w'.cell? ⟨w.heap.size, 3, none⟩ = some (.int .i64 xi) ∧ w'.cell? ⟨w.heap.size, 4, none⟩ = some u) (go_keep)
      (first | (go_at_call 109; refine (isrc_any xf xo xt xi u _).mono ?_; rintro e w3 ⟨rfl, hb3⟩; have hc3 : Below W.heap.size W w3 := (by first | with_reducible exact hb3 | with_reducible exact cr_d hb3); have HB3 := Lib.hid (HBW.out.trans (hc3.mono HS.out)); have q1 := blk_in H1W.out hc3; have q2 := blk_in H2W.out hc3; have q3 := blk_in HHW.out hc3; obtain ⟨y20, y21⟩ := cells2 q2; have y10 : w3.cell? ⟨g1, 0, none⟩ = some (.func (.func 109) #[] #[]) := (by rw [cell_of q1 0]; rfl); obtain ⟨z0, z1, z2, z3, z4⟩ := cells5 q3; clear hb3 hc3 q1 q2 q3))
    all_goals
      go_wp2_with fail
      go_ret
      first | exact ⟨ret_bool BV.out.symm, HB3.out⟩ | exact ⟨ret_bool BV.out, HB3.out⟩

set_option maxRecDepth 100000 in
set_option maxHeartbeats 4000000 in
theorem iidxS_any (v : Value) (ls : List Lnk) (g1 g2 : Nat) (a b : Int) (w : World) (h : SlL w v ls) (h1 : w.heap[g1]? = some (.cells #[.func (.func 109) #[] #[]] 117)) (h2 : w.heap[g2]? = some (.cells #[.int .i64 a, .int .i64 b] 119)) :
    Calls Try.prog 155 #[v, .func (.func 156) #[] #[.pointer (some ⟨g1, 0, none⟩), .pointer (some ⟨g2, 0, none⟩)]] w fun e w' => e = .returned (.int .i64 (idxE Lnk.src ls (a, b))) ∧ Below w.heap.size w w' := by
  have HV := Lib.hid h
  have hll := h.len
  obtain ⟨la, lcap, rfl⟩ := h.shape
  clear h
  have H1 := Lib.hid h1
  have H2 := Lib.hid h2
  clear h1 h2
  obtain ⟨n, hn⟩ : ∃ n, n = ls.length := ⟨_, rfl⟩
  obtain ⟨r, hr⟩ : ∃ r, r = idxE Lnk.src ls (a, b) := ⟨_, rfl⟩
  rw [← hr]
  rw [← hn] at hll HV ⊢
  have HN := Lib.hid hn
  have HR := Lib.hid hr
  clear hn hr
  have hb := Lib.hid (Below.refl w.heap.size w)
  go_enter Try.func155, Try.ntmps155
  go_wp2_with fail
  go_loopw [8] (fun i wr => ∃ k : Nat, k ≤ n ∧ i = .int .i64 k ∧ Hid (((a, b) : End) ∉ (ls.take k).map Lnk.src) ∧ Hid (Below w.heap.size w wr)) (fun i _ => n - (intOf i).toNat)
  case atStart => exact ⟨0, Nat.zero_le _, rfl, Lib.hid (by simp), hb⟩
  case round =>
    obtain ⟨k, hk, rfl, HNI, HB⟩ := hrel
    by_cases hlt : k < n
    · obtain ⟨x, hx⟩ : ∃ x, ls[k]? = some x := ⟨_, List.getElem?_eq_getElem (by rw [← HN.out]; exact hlt)⟩
      obtain ⟨lb, off, c, rfl, hbl, e0, e1, e2, e3, e4, e5⟩ := (HV.out.below HB.out).atb hx
      have HX := Lib.hid hx
      clear hx
      obtain ⟨xf, xo, xt, xi, xk⟩ := x
      simp only [] at e0 e1 e2 e3 e4 e5
      obtain ⟨ua, uc, rfl⟩ := e5.shape
      obtain ⟨ul, hul⟩ : ∃ z, z = xk.length := ⟨_, rfl⟩
      rw [← hul] at e4
      clear hul e5
      have B1 := Lib.hid (blk_in H1.out HB.out)
      have B2 := Lib.hid (blk_in H2.out HB.out)
      have CC := Lib.hid (icloS_any g1 g2 a b xf xo xt xi (.slice ua ul uc) wr B1.out B2.out)
      by_cases hd : (xf, xo) = ((a, b) : End)
      · rw [decide_eq_true hd] at CC
        have HD := Lib.hid (idxE_hit (g := Lnk.src) HX.out hd HNI.out)
        clear hd
        go_wp2_with (go_at_call 156; with_reducible refine CC.out.mono ?_; rintro e w3 ⟨rfl, hb3⟩; have HB3 := Lib.hid (HB.out.trans (hb3.mono HB.out.size)); clear hb3)
        go_ret
        have e := HR.out.trans HD.out
        subst e
        exact ⟨rfl, HB3.out⟩
      · rw [decide_eq_false hd] at CC
        have HD := Lib.hid (notin_step (g := Lnk.src) HX.out hd HNI.out)
        clear hd
        go_wp2_with (go_at_call 156; with_reducible refine CC.out.mono ?_; rintro e w3 ⟨rfl, hb3⟩; have HB3 := Lib.hid (HB.out.trans (hb3.mono HB.out.size)); clear hb3)
        go_roundw
        case rel => exact ⟨k + 1, by omega, by go_num, HD, HB3⟩
        case measure => simp [intOf]; omega
    · have e := Lib.hid (HR.out.trans (idxE_none (by have := HNI.out; rwa [List.take_of_length_le (by rw [← HN.out]; omega)] at this)))
      go_wp2_with fail
      go_ret
      obtain rfl := e.out
      exact ⟨rfl, HB.out⟩


set_option maxRecDepth 100000 in
set_option maxHeartbeats 1600000 in
theorem iindexT_any (v : Value) (ls : List Lnk) (a b : Int) (w : World) (h : SlL w v ls) :
    Calls Try.prog 144 #[v, .func (.func 107) #[] #[], .agg #[.int .i64 a, .int .i64 b]] w fun e w' => e = .returned (.int .i64 (idxE Lnk.tgt ls (a, b))) ∧ Below w.heap.size w w' := by
  obtain ⟨r, hr⟩ : ∃ r, r = idxE Lnk.tgt ls (a, b) := ⟨_, rfl⟩
  have hb := Lib.hid (((Below.refl w.heap.size w).al (.cells #[.func (.func 107) #[] #[]] 117)).al (.cells #[.int .i64 a, .int .i64 b] 119))
  have CI := Lib.hid (iidxT_any v ls w.heap.size (w.heap.size + 1) a b _ (h.below hb.out) (hp21 w (.cells #[.func (.func 107) #[] #[]] 117) (.cells #[.int .i64 a, .int .i64 b] 119)) (hp2 w _ _))
  rw [← hr] at CI ⊢
  obtain ⟨la, lcap, rfl⟩ := h.shape
  obtain ⟨ll, hll⟩ : ∃ m, m = ls.length := ⟨_, rfl⟩
  rw [← hll] at CI ⊢
  clear h hr hll
  have hmf : ∀ (fn : Fn) (first cap : Array Value) (w : World), (Instr.makeFunc fn first cap).run Try.prog w = .ok (.func fn first cap) w := fun _ _ _ _ => rfl
  go_enter Try.func144, Try.ntmps144
  go_wp2_with (go_at_call 155; refine CI.out.mono ?_; rintro e w2 ⟨rfl, hb1⟩; have HB1 := Lib.hid (hb.out.trans (hb1.mono hb.out.size)); clear hb1)
  go_ret
  exact ⟨rfl, HB1.out⟩

set_option maxRecDepth 100000 in
set_option maxHeartbeats 1600000 in
theorem iindexS_any (v : Value) (ls : List Lnk) (a b : Int) (w : World) (h : SlL w v ls) :
    Calls Try.prog 144 #[v, .func (.func 109) #[] #[], .agg #[.int .i64 a, .int .i64 b]] w fun e w' => e = .returned (.int .i64 (idxE Lnk.src ls (a, b))) ∧ Below w.heap.size w w' := by
  obtain ⟨r, hr⟩ : ∃ r, r = idxE Lnk.src ls (a, b) := ⟨_, rfl⟩
  have hb := Lib.hid (((Below.refl w.heap.size w).al (.cells #[.func (.func 109) #[] #[]] 117)).al (.cells #[.int .i64 a, .int .i64 b] 119))
  have CI := Lib.hid (iidxS_any v ls w.heap.size (w.heap.size + 1) a b _ (h.below hb.out) (hp21 w (.cells #[.func (.func 109) #[] #[]] 117) (.cells #[.int .i64 a, .int .i64 b] 119)) (hp2 w _ _))
  rw [← hr] at CI ⊢
  obtain ⟨la, lcap, rfl⟩ := h.shape
  obtain ⟨ll, hll⟩ : ∃ m, m = ls.length := ⟨_, rfl⟩
  rw [← hll] at CI ⊢
  clear h hr hll
  have hmf : ∀ (fn : Fn) (first cap : Array Value) (w : World), (Instr.makeFunc fn first cap).run Try.prog w = .ok (.func fn first cap) w := fun _ _ _ _ => rfl
  go_enter Try.func144, Try.ntmps144
  go_wp2_with (go_at_call 155; refine CI.out.mono ?_; rintro e w2 ⟨rfl, hb1⟩; have HB1 := Lib.hid (hb.out.trans (hb1.mono hb.out.size)); clear hb1)
  go_ret
  exact ⟨rfl, HB1.out⟩

end Go.Proofs.Ytjphamgkigekkaa
