/-
  What the program's reachedThrough, ReachedFrom, HasCycle answer. No statement of the seat is proved here.
-/
import Derived.Test.YthniafpkkgcjnabIFol
namespace Go.Proofs.Ythniafpkkgcjnab
open Go.RowKit

theorem slL_mono {w w' : World} {v : Value} {ls : List Lnk} (h : SlL w v ls) (hb : Below w.heap.size w w') : SlL w' v ls := h.below hb
theorem Bfs.at_end {ls : List Lnk} {p : Int} {xs : List Int} {k : Nat} (h : Bfs ls p xs k) (hk : ¬ k < xs.length) : Bfs ls p xs xs.length := by
  have := h.le
  rw [show xs.length = k by omega]
  exact h

set_option maxRecDepth 100000 in
set_option maxHeartbeats 8000000 in
theorem ireach_any (v : Value) (ls : List Lnk) (n : Nat) (p : Int) (w : World) (hl : SlL w v ls) (hn : ls.length ≤ 30) (hok : EndsOk ls n) (hn12 : n ≤ 12) (hp : 0 ≤ p) :
    Calls Try.prog 71 #[v, .int .i64 p] w fun e w' => ∃ r, e = .returned r ∧ Own w.heap.size w' r (reachL ls n p) ∧ Below w.heap.size w w' := by
  have HL := Lib.hid hl
  obtain ⟨la, lcap, rfl⟩ := hl.shape
  obtain ⟨ll, hll⟩ : ∃ z, z = ls.length := ⟨_, rfl⟩
  rw [← hll] at HL ⊢
  have HM := Lib.hid hll
  have HOK := Lib.hid hok
  have HP := Lib.hid hp
  clear hl hll hok
  have hb := Lib.hid (((Below.refl w.heap.size w).al (.cells #[.slice la ll lcap] 30)).al (.cells #[.slice none 0 0] 36))
  have hH2 := Lib.hid (hp21 w (.cells #[.slice la ll lcap] 30) (.cells #[.slice none 0 0] 36))
  have hH5 := Lib.hid (hp2 w (.cells #[.slice la ll lcap] 30) (.cells #[.slice none 0 0] 36))
  have hmf : ∀ (fn : Fn) (first cap : Array Value) (w : World), (Instr.makeFunc fn first cap).run Try.prog w = .ok (.func fn first cap) w := fun _ _ _ _ => rfl
  have CF := Lib.hid (fun (W : World) (u : Value) (xs : List Int) (f : Int) (hb0 : Below w.heap.size w W) (hx : xs.length ≤ 12) (h2 : W.heap[w.heap.size]? = some (.cells #[.slice la ll lcap] 30)) (h5 : W.heap[w.heap.size + 1]? = some (.cells #[u] 36)) (ho : Own (w.heap.size + 1 + 1) W u xs) =>
    ifol_any w.heap.size (w.heap.size + 1) la ll lcap ls u xs f w W HL.out hb0 (Nat.le_refl _) (Nat.lt_succ_self _) hn hx h2 h5 ho)
  go_enter Try.func71, Try.ntmps71
  go_wp2_with (go_at_call 102; with_reducible refine (CF.out _ _ [] p hb.out (by simp) hH2.out hH5.out (own_nil _ _)).mono ?_; rintro e w3 ⟨rfl, hv3, hb3⟩; have HV3 := Lib.hid hv3; have HB3 := Lib.hid (hb.out.trans (hb3.mono (by omega))); have G3 := Lib.hid (show w3.heap[w.heap.size]? = some (.cells #[.slice la ll lcap] 30) by rw [hb3.block w.heap.size (by omega)]; exact hH2.out); clear hb3 hv3)
  go_loopw [7] (fun i wr => ∃ k : Nat, i = .int .i64 k ∧ Hid (∃ u xs, wr.heap[w.heap.size + 1]? = some (.cells #[u] 36) ∧ Own (w.heap.size + 1 + 1) wr u xs ∧ Bfs ls p xs k) ∧ Hid (wr.heap[w.heap.size]? = some (.cells #[.slice la ll lcap] 30)) ∧ Hid (Below w.heap.size w wr)) (fun i _ => n - (intOf i).toNat)
  case atStart => 
    obtain ⟨u, h5, ho⟩ := HV3.out
    exact ⟨0, rfl, Lib.hid ⟨u, _, h5, ho, Bfs.start HOK.out HP.out⟩, G3, HB3⟩
  case round =>
    clear HV3 HB3 G3
    obtain ⟨k, rfl, HI, HG, HB⟩ := hrel
    obtain ⟨u, xs, h5, ho, hbf⟩ := HI.out
    have hxl := hbf.len HOK.out
    have hkl := hbf.le
    have c5 := cells1 h5
    have l5 := lt_of h5
    have H5 := Lib.hid h5
    have HO := Lib.hid ho
    have HF := Lib.hid hbf
    obtain ⟨va, vc, rfl⟩ := ho.shape
    obtain ⟨vn, hvn⟩ : ∃ z, z = xs.length := ⟨_, rfl⟩
    have HVN := Lib.hid hvn
    rw [← hvn] at c5 HO H5 hxl hkl
    clear h5 ho hbf hvn HI
    by_cases hlt : k < vn
    · obtain ⟨a', cap', hv, _, _, _, hc⟩ := HO.out.sl
      simp only [Value.slice.injEq] at hv
      obtain ⟨rfl, hv, rfl⟩ := hv
      rcases hc with hc | ⟨gb, go, rfl, hgb, hcell⟩
      · exfalso; have := HVN.out; rw [hc] at this; simp at this; omega
      · have hck := hcell k (by rw [← HVN.out]; exact hlt)
        obtain ⟨fv, hfv⟩ : ∃ z, z = xs.getD k 0 := ⟨_, rfl⟩
        rw [← hfv] at hck
        have HST := Lib.hid (HF.out.step HOK.out (by rw [← HVN.out]; exact hlt))
        rw [← hfv] at HST
        clear hv hcell hfv
        have lk2 : (k : Int) < (vn : Int) := by omega
        go_wp2_with (go_at_call 102; with_reducible refine (CF.out _ _ xs fv HB.out (by rw [← HVN.out]; omega) HG.out H5.out HO.out).mono ?_; rintro e w4 ⟨rfl, hv4, hb4⟩; have HV4 := Lib.hid hv4; have HB4 := Lib.hid (HB.out.trans (hb4.mono (by omega))); have G4 := Lib.hid (show w4.heap[w.heap.size]? = some (.cells #[.slice la ll lcap] 30) by rw [hb4.block w.heap.size (by omega)]; exact HG.out); clear hb4 hv4)
        go_roundw
        case rel =>
          obtain ⟨u4, h54, ho4⟩ := HV4.out
          exact ⟨k + 1, by go_num, Lib.hid ⟨u4, _, h54, ho4, HST.out⟩, G4, HB4⟩
        case measure => simp [intOf]; omega
    · have HE := Lib.hid (HF.out.at_end (by rw [← HVN.out]; exact hlt))
      have HSO := Lib.hid (HE.out.sorted HOK.out)
      go_wp2_with (go_at_call 103; refine (isort_any (w.heap.size + 1 + 1) (.slice va vn vc) xs _ HO.out (by rw [← HVN.out]; omega)).mono ?_; rintro e w4 ⟨rfl, ho4, hb4⟩; have HO4 := Lib.hid ho4; have HB4 := Lib.hid (HB.out.trans (hb4.mono (by omega))); have h54 : w4.heap[w.heap.size + 1]? = some (.cells #[.slice va vn vc] 36) := (by rw [hb4.block (w.heap.size + 1) (by omega)]; exact H5.out); have c54 := cells1 h54; have l54 := lt_of h54; clear ho4 hb4 h54 c5 l5)
      go_ret
      refine ⟨_, rfl, ?_, HB4.out⟩
      rw [← HSO.out]
      exact Own.mono HO4.out (by omega)
end Go.Proofs.Ythniafpkkgcjnab
