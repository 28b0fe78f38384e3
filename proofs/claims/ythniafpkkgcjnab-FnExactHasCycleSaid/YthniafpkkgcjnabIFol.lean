/-
  What the program's reachedThrough leaves. No statement of the seat is proved here.
-/
import Derived.Test.YthniafpkkgcjnabSortW
import Derived.Test.YthniafpkkgcjnabIsNet
namespace Go.Proofs.Ythniafpkkgcjnab
open Go.RowKit

set_option maxRecDepth 100000 in
set_option maxHeartbeats 8000000 in
theorem ifol_any (g2 g5 : Nat) (la : Option Addr) (ll lcap : Nat) (ls : List Lnk) (u : Value) (xs : List Int) (f : Int) (w0 w : World) (hl : SlL w0 (.slice la ll lcap) ls) (hb0 : Below w0.heap.size w0 w) (hg2 : w0.heap.size ≤ g2) (hg5 : g2 < g5) (hn : ls.length ≤ 30) (hx : xs.length ≤ 12)
    (h2 : w.heap[g2]? = some (.cells #[.slice la ll lcap] 30)) (h5 : w.heap[g5]? = some (.cells #[u] 36)) (ho : Own (g5 + 1) w u xs) :
    Calls Try.prog 102 #[.int .i64 f, .pointer (some ⟨g2, 0, none⟩), .pointer (some ⟨g5, 0, none⟩)] w fun e w' => e = .returned (.tuple #[]) ∧ (∃ v', w'.heap[g5]? = some (.cells #[v'] 36) ∧ Own (g5 + 1) w' v' (follow ls xs f)) ∧ Below g5 w w' := by
  have HV := Lib.hid hl
  have hllen := hl.len
  obtain ⟨_, _, hv, _⟩ := hl
  have hll : ll = ls.length := by simp at hv; exact hv.2.1
  clear hv
  have H2 := Lib.hid h2
  have HB0 := Lib.hid hb0
  have HM := Lib.hid hll
  have hl30 : ll ≤ 30 := by omega
  have hgw : g5 < w.heap.size := lt_of h5
  have c2 := cells1 h2
  have l2 := lt_of h2
  have HS := Lib.hid (show ∃ v, w.heap[g5]? = some (.cells #[v] 36) ∧ Own (g5 + 1) w v (follow (ls.take 0) xs f) from ⟨u, h5, by simpa [follow] using ho⟩)
  obtain ⟨i0, hi, hz0, hz1, hz2⟩ := info_parts info
  clear h2 h5 ho hb0 hll hn hllen
  go_enter Try.func102, Try.ntmps102
  go_wp2_with fail
  go_loopw [8] (fun i wr => ∃ k : Nat, k ≤ ll ∧ i = .int .i64 k ∧ Hid (∃ v, wr.heap[g5]? = some (.cells #[v] 36) ∧ Own (g5 + 1) wr v (follow (ls.take k) xs f)) ∧ Hid (Below g5 w wr)) (fun i _ => ll - (intOf i).toNat)
  case atStart => exact ⟨0, Nat.zero_le _, rfl, HS, Lib.hid (Below.refl _ _)⟩
  case round =>
    clear HS c2 l2
    obtain ⟨k, hk, rfl, HI, HB⟩ := hrel
    by_cases hlt : k < ll
    · obtain ⟨v, h5, hO⟩ := HI.out
      have HWB := Lib.hid (HB0.out.trans (HB.out.mono (by omega)))
      obtain ⟨x, hx⟩ : ∃ x, ls[k]? = some x := ⟨_, List.getElem?_eq_getElem (by rw [← HM.out]; exact hlt)⟩
      obtain ⟨lb, off, c, rfl, hbl, e0, e1, e2, e3, e4, e5⟩ := (HV.out.below HWB.out).atb hx
      have HX := Lib.hid hx
      have hgr : g5 < wr.heap.size := lt_of h5
      have G2 := Lib.hid (show wr.heap[g2]? = some (.cells #[.slice (some ⟨lb, off, none⟩) ll lcap] 30) by rw [HB.out.block g2 (by omega)]; exact H2.out)
      have c5 := cells1 h5
      have H5 := Lib.hid h5
      obtain ⟨L, hL⟩ : ∃ L, L = follow (ls.take k) xs f := ⟨_, rfl⟩
      rw [← hL] at hO
      have hLk : L.length ≤ 12 + k := by
        have := follow_len (ls.take k) xs f
        rw [List.length_take] at this
        rw [hL]
        omega
      have HLE := Lib.hid hL
      have HO := Lib.hid hO
      obtain ⟨xf, xo, xt, xi, xk⟩ := x
      simp only [] at e0 e1 e2 e3 e4 e5
      obtain ⟨ua, uc, rfl⟩ := e5.shape
      obtain ⟨ul, hul⟩ : ∃ z, z = xk.length := ⟨_, rfl⟩
      rw [← hul] at e4
      obtain ⟨va, vc, rfl⟩ := hO.shape
      obtain ⟨vn, hvn⟩ : ∃ z, z = L.length := ⟨_, rfl⟩
      have HVN := Lib.hid hvn
      rw [← hvn] at c5 HO H5 hLk
      clear hul e5 hx hL hO h5 hvn HI
      have hb1 := (Below.refl wr.heap.size wr).al (.cells #[.int .i64 xf, .int .i64 xo, .int .i64 xt, .int .i64 xi, .slice ua ul uc] 78)
      have HB1 := Lib.hid (HB.out.trans (hb1.mono (by omega)))
      have HO1 := Lib.hid (HO.out.below hb1)
      have H51 := Lib.hid (blk_in H5.out hb1)
      have HH := Lib.hid (hp1 wr (.cells #[.int .i64 xf, .int .i64 xo, .int .i64 xt, .int .i64 xi, .slice ua ul uc] 78))
      have hgr2 : g5 < wr.heap.size + 1 := by omega
      clear hb1
      by_cases t1 : xf = f
      · have CO := Lib.hid (fun W => ioutput_any xf xo xt xi (.slice ua ul uc) W)
        have T1 := Lib.hid t1
        by_cases t2 : (xt, xi) = outE
        · rw [decide_eq_true t2] at CO
          have HQ := Lib.hid (folStep_skip (f := f) (xs := L) (l := ⟨xf, xo, xt, xi, xk⟩) (fun q => q.2.1 t2))
          clear t2
          subst t1
          go_wp2_with (go_at_call 90; with_reducible refine (CO.out _).mono ?_; rintro e w3 ⟨rfl, hb3⟩; have HB3 := Lib.hid (HB1.out.trans (hb3.mono (by simp; omega))); have HO3 := Lib.hid (HO1.out.below hb3); have H53 := Lib.hid (blk_in H51.out hb3); clear hb3)
          go_roundw
          case rel => exact ⟨k + 1, by omega, by go_num, Lib.hid ⟨_, H53.out, by rw [follow_step HX.out, ← HLE.out, HQ.out]; exact HO3.out⟩, HB3⟩
          case measure => simp [intOf]; omega
        · rw [decide_eq_false t2] at CO
          have T2 := Lib.hid t2
          clear t2
          by_cases t3 : xt ∈ L
          · have CC := Lib.hid (fun (W : World) (h : Sl W (.slice va vn vc) L) => (show Calls Try.prog 72 #[.slice va vn vc, .int .i64 xt] W fun e w' => e = .returned (.bool true) ∧ W = w' by have := icont_any _ L xt W h; rw [decide_eq_true t3] at this; exact this))
            have HQ := Lib.hid (folStep_skip (f := f) (xs := L) (l := ⟨xf, xo, xt, xi, xk⟩) (fun q => q.2.2 t3))
            clear t3
            subst t1
            go_wp2_with (first | (go_at_call 72; with_reducible refine (CC.out _ HO3.out.sl).mono ?_; rintro e w' ⟨rfl, rfl⟩) | (go_at_call 90; with_reducible refine (CO.out _).mono ?_; rintro e w3 ⟨rfl, hb3⟩; have HB3 := Lib.hid (HB1.out.trans (hb3.mono (by simp; omega))); have HO3 := Lib.hid (HO1.out.below hb3); have h53 := blk_in H51.out hb3; have H53 := Lib.hid h53; have c53 := cells1 h53; have l53 := lt_of h53; have hh3 := blk_in HH.out hb3; obtain ⟨y0, y1, y2, y3, y4⟩ := cells5 hh3; have lh3 := lt_of hh3; clear hb3 h53 hh3))
            go_roundw
            case rel => exact ⟨k + 1, by omega, by go_num, Lib.hid ⟨_, H53.out, by rw [follow_step HX.out, ← HLE.out, HQ.out]; exact HO3.out⟩, HB3⟩
            case measure => simp [intOf]; omega
          · have CC := Lib.hid (fun (W : World) (h : Sl W (.slice va vn vc) L) => (show Calls Try.prog 72 #[.slice va vn vc, .int .i64 xt] W fun e w' => e = .returned (.bool false) ∧ W = w' by have := icont_any _ L xt W h; rw [decide_eq_false t3] at this; exact this))
            have HQ := Lib.hid (folStep_add (f := f) (xs := L) (l := ⟨xf, xo, xt, xi, xk⟩) ⟨t1, T2.out, t3⟩)
            clear t3
            subst t1
            go_wp2_with (first | (go_at_call 72; with_reducible refine (CC.out _ HO3.out.sl).mono ?_; rintro e w' ⟨rfl, rfl⟩) | (go_at_call 90; with_reducible refine (CO.out _).mono ?_; rintro e w3 ⟨rfl, hb3⟩; have HB3 := Lib.hid (HB1.out.trans (hb3.mono (by simp; omega))); have HO3 := Lib.hid (HO1.out.below hb3); have h53 := blk_in H51.out hb3; have H53 := Lib.hid h53; have c53 := cells1 h53; have l53 := lt_of h53; have hh3 := blk_in HH.out hb3; obtain ⟨y0, y1, y2, y3, y4⟩ := cells5 hh3; have lh3 := lt_of hh3; clear hb3 h53 hh3) | (at_builtin; refine wpList_append_own_at _ rfl _ _ 36 rfl (g5 + 1) 3 i0 (.int .i64 0) 1 8 Try.underlying36 hi hz0 hz1 hz2 rfl (by decide) _ _ _ rfl (World.ownsRow.alloc (show w3.ownsRow (g5 + 1) 3 1 (.slice va vn vc) L.length (vals L) from HO3.out) _) ⟨w3.heap.size, 0, none⟩ 1 1 [.int .i64 xt] rfl rfl (one_src _ _) (one_one _) ?c3 ?c4 ?c5 ?_))
            case c3 => have := HVN.out; unfold maxLen; omega
            case c4 => have := HVN.out; omega
            case c5 => have := lt_of H53.out; simp; omega
            intro v' w4 hown hgrow _ hat
            have hs3 := lt_of H53.out
            have R := app_rel (B := g5) HB3.out (by omega) (by omega) (show Own (g5 + 1) w3 (.slice va vn vc) L from HO3.out) hown hgrow
            have HOW := Lib.hid R.1
            have HB4 := Lib.hid R.2
            obtain ⟨na, nc, hsh⟩ := R.1.shape
            rw [List.length_append, List.length_singleton] at hsh
            subst hsh
            have h54 : w4.heap[g5]? = some (.cells #[.slice va vn vc] 36) := by
              rw [hgrow.block g5 (by simp; omega) (fun e => by have := (HO3.out.lt g5 e.symm).1; omega)]
              exact (Below.heap_alloc _ _ _ hs3).trans H53.out
            have c54 := cells1 h54
            have f54 := fr_of h54 0
            have l54 := lt_of h54
            have H54 := Lib.hid h54
            clear hown hgrow hat R h54 hs3
            go_wp2_with fail
            go_roundw
            case rel => exact ⟨k + 1, by omega, by go_num, Lib.hid ⟨_, set0_one H54.out _, by rw [follow_step HX.out, ← HLE.out, HQ.out]; exact Own.setB HOW.out (a := ⟨g5, 0, none⟩) (by show g5 < g5 + 1; omega) _⟩, Lib.hid (HB4.out.setCell (by show g5 ≤ g5; omega) _)⟩
            case measure => simp [intOf]; omega
      · have HQ := Lib.hid (folStep_skip (f := f) (xs := L) (l := ⟨xf, xo, xt, xi, xk⟩) (fun q => t1 q.1))
        have d1 : (xf == f) = false := by simpa using t1
        go_wp2_with fail
        go_roundw
        case rel => exact ⟨k + 1, by omega, by go_num, Lib.hid ⟨_, H51.out, by rw [follow_step HX.out, ← HLE.out, HQ.out]; exact HO1.out⟩, HB1⟩
        case measure => simp [intOf]; omega
    · have e : ls.take k = ls := List.take_of_length_le (by rw [← HM.out]; omega)
      rw [e] at HI
      go_wp2_with fail
      go_end0
      exact ⟨rfl, HI.out, HB.out⟩
end Go.Proofs.Ythniafpkkgcjnab
