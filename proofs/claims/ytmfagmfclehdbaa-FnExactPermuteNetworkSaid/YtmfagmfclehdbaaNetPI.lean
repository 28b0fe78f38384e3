/-
  The model's l3Inverse. No statement of the seat is proved here.
-/
import Derived.Test.YtmfagmfclehdbaaNetPM
namespace Go.Proofs.Ytmfagmfclehdbaa
open Go.RowKit

theorem infoB2 : (Try.prog.info? 4).map (fun i => (i.zero, i.size, i.bytes)) = some (some (.bool false), 1, 1) := by kernel_rfl
theorem infoB2_parts : ∃ i0, Try.prog.info? 4 = some i0 ∧ i0.zero = some (.bool false) ∧ i0.size = 1 ∧ i0.bytes = 1 := by
  have h := infoB2
  cases e : Try.prog.info? 4 with
  | none => rw [e] at h; cases h
  | some i =>
    rw [e] at h
    simp only [Option.map_some, Option.some.injEq, Prod.mk.injEq] at h
    exact ⟨i, rfl, h.1, h.2.1, h.2.2⟩
def oL (m : Nat) (xs : List Int) (k : Nat) : List Int := (List.range m).map fun (i : Nat) => if (i : Int) ∈ xs.take k then ixI xs (i : Int) else 0
def mL (m : Nat) (xs : List Int) (k : Nat) : List Bool := (List.range m).map fun (i : Nat) => decide ((i : Int) ∈ xs.take k)
theorem oL_len (m : Nat) (xs : List Int) (k : Nat) : (oL m xs k).length = m := by unfold oL; simp
theorem mL_len (m : Nat) (xs : List Int) (k : Nat) : (mL m xs k).length = m := by unfold mL; simp
theorem oL_zero (m : Nat) (xs : List Int) : vals (oL m xs 0) = List.replicate m (.int .i64 0) := by
  apply List.ext_getElem?
  intro i
  unfold oL vals
  rw [List.getElem?_map, List.getElem?_map, List.getElem?_replicate]
  by_cases h : i < m
  · rw [List.getElem?_range h, if_pos h]; simp
  · rw [List.getElem?_eq_none (by simpa using h), if_neg h]; rfl
theorem mL_zero (m : Nat) (xs : List Int) : (mL m xs 0).map Value.bool = List.replicate m (.bool false) := by
  apply List.ext_getElem?
  intro i
  unfold mL
  rw [List.getElem?_map, List.getElem?_map, List.getElem?_replicate]
  by_cases h : i < m
  · rw [List.getElem?_range h, if_pos h]; simp
  · rw [List.getElem?_eq_none (by simpa using h), if_neg h]; rfl
theorem take_mem {xs : List Int} {k : Nat} {y x : Int} (hy : xs[k]? = some y) : x ∈ xs.take (k + 1) ↔ x ∈ xs.take k ∨ x = y := by
  have hk := (List.getElem?_eq_some_iff.1 hy).1
  rw [List.take_succ_eq_append_getElem hk, (List.getElem?_eq_some_iff.1 hy).2]
  simp
theorem oL_step {m k yy : Nat} {xs : List Int} (hy : xs[k]? = some ((yy : Nat) : Int)) (hn : ((yy : Nat) : Int) ∉ xs.take k) : (oL m xs k).set yy (k : Int) = oL m xs (k + 1) := by
  apply List.ext_getElem?
  intro i
  rw [List.getElem?_set]
  unfold oL
  rw [List.getElem?_map, List.getElem?_map]
  by_cases h : i < m
  · rw [List.getElem?_range h]
    by_cases e : yy = i
    · subst e
      rw [if_pos rfl, if_pos (by simpa using h)]
      simp only [Option.map_some, Option.some.injEq]
      rw [if_pos ((take_mem hy).2 (.inr rfl)), ixI_hit hy hn]
    · rw [if_neg e]
      simp only [Option.map_some, Option.some.injEq]
      have : ((i : Int) ∈ xs.take (k + 1)) ↔ (i : Int) ∈ xs.take k := by
        rw [take_mem hy]
        exact ⟨fun q => q.elim id (fun q => absurd (by omega) e), .inl⟩
      simp only [this]
  · rw [List.getElem?_eq_none (by simpa using h)]
    by_cases e : yy = i
    · subst e; rw [if_pos rfl, if_neg (by simpa using h)]; rfl
    · rw [if_neg e]; rfl
theorem mL_step {m k yy : Nat} {xs : List Int} (hy : xs[k]? = some ((yy : Nat) : Int)) : (mL m xs k).set yy true = mL m xs (k + 1) := by
  apply List.ext_getElem?
  intro i
  rw [List.getElem?_set]
  unfold mL
  rw [List.getElem?_map, List.getElem?_map]
  by_cases h : i < m
  · rw [List.getElem?_range h]
    by_cases e : yy = i
    · subst e
      rw [if_pos rfl, if_pos (by simpa using h)]
      simp only [Option.map_some, Option.some.injEq]
      exact (decide_eq_true ((take_mem hy).2 (.inr rfl))).symm
    · rw [if_neg e]
      simp only [Option.map_some, Option.some.injEq]
      have : ((i : Int) ∈ xs.take (k + 1)) ↔ (i : Int) ∈ xs.take k := by
        rw [take_mem hy]
        exact ⟨fun q => q.elim id (fun q => absurd (by omega) e), .inl⟩
      simp only [this]
  · rw [List.getElem?_eq_none (by simpa using h)]
    by_cases e : yy = i
    · subst e; rw [if_pos rfl, if_neg (by simpa using h)]; rfl
    · rw [if_neg e]; rfl
theorem oL_at {m k yy : Nat} {xs : List Int} (h : yy < m) (hm : ((yy : Nat) : Int) ∈ xs.take k) : (oL m xs k)[yy]? = some (ixI xs (yy : Int)) := by
  unfold oL
  rw [List.getElem?_map, List.getElem?_range h]
  simp only [Option.map_some]
  rw [if_pos hm]
theorem take_nodup {xs : List Int} {k : Nat} {y : Int} (hy : xs[k]? = some y) (hn : y ∉ xs.take k) (h : (xs.take k).Nodup) : (xs.take (k + 1)).Nodup := by
  have hk := (List.getElem?_eq_some_iff.1 hy).1
  rw [List.take_succ_eq_append_getElem hk, (List.getElem?_eq_some_iff.1 hy).2, List.nodup_append]
  refine ⟨h, by simp, fun a ha b hb => ?_⟩
  rw [List.mem_singleton] at hb
  subst hb
  exact fun e => hn (e ▸ ha)

set_option maxRecDepth 100000 in
set_option maxHeartbeats 16000000 in
theorem sinv_any (m : Nat) (u : Value) (xs : List Int) (w : World) (h : Sl w u xs) (hm : m ≤ 1048576) :
    Calls Try.prog 82 #[u, .int .i64 m] w fun e w' => ∃ r, e = .returned (.tuple #[r, .bool (isOrdB m xs)]) ∧ (isOrdB m xs = true → Own w.heap.size w' r (oL m xs m)) ∧ (∃ a c, r = .slice a (if isOrdB m xs then m else 0) c) ∧ Below w.heap.size w w' := by
  have HU := Lib.hid h
  obtain ⟨oa, oc, rfl⟩ := h.shape
  obtain ⟨R, hR⟩ : ∃ R, R = isOrdB m xs := ⟨_, rfl⟩
  rw [← hR]
  have HR := Lib.hid hR
  obtain ⟨n, hn⟩ : ∃ n, n = xs.length := ⟨_, rfl⟩
  rw [← hn] at HU ⊢
  have NO := Lib.hid hn
  clear h hR hn
  by_cases hnm : n = m
  case neg =>
    obtain rfl : R = false := HR.out.trans (by unfold isOrdB; rw [decide_eq_false (by rw [← NO.out]; exact hnm)]; rfl)
    have d1 : ((n : Int) == (m : Int)) = false := by simpa using fun e : (n : Int) = m => hnm (by omega)
    have d2 : ((n : Int) != (m : Int)) = true := by simpa using fun e : (n : Int) = m => hnm (by omega)
    go_enter Try.func82, Try.ntmps82
    go_wp2_with fail
    go_ret2
    exact ⟨_, rfl, ⟨none, 0, rfl⟩, Below.refl _ _⟩
  subst hnm
  obtain ⟨m, hmn⟩ : ∃ m, m = n := ⟨_, rfl⟩
  subst hmn
  obtain ⟨i0, hi, hz0, hz1, hz2⟩ := info_parts info
  obtain ⟨j0, hj, hy0, hy1, hy2⟩ := infoB2_parts
  go_enter Try.func82, Try.ntmps82
  go_wp2_with (at_make; refine wpList_make_full _ rfl _ _ 42 rfl w.heap.size 3 i0 (.int .i64 0) 1 Try.underlying42 hi hz0 hz1 _ _ _ _ m rfl rfl rfl rfl ?b2 ?b3 ?b4 ?_)
  case b2 => rw [hz2]; omega
  case b3 => unfold maxLen; omega
  case b4 => exact Nat.le_refl _
  intro w1 hown hgrow
  have HB1 := Lib.hid ((Below.refl w.heap.size w).grown hgrow (Nat.le_refl _) (by simp))
  have HO1 := Lib.hid (show w1.ownsRow w.heap.size 3 1 (.slice (some ⟨w.heap.size, 0, none⟩) m m) m (vals (oL m xs 0)) by rw [oL_zero, ← toList_madeCells_one]; exact hown)
  have HL1 := Lib.hid (show w.heap.size < w1.heap.size from (World.ownsRow.lt HO1.out w.heap.size rfl).2)
  clear hown hgrow
  go_wp2_with (at_make; refine wpList_make_full _ rfl _ _ 152 rfl w1.heap.size 4 j0 (.bool false) 1 Try.underlying152 hj hy0 hy1 _ _ _ _ m rfl rfl rfl rfl ?b2 ?b3 ?b4 ?_)
  case b2 => rw [hy2]; omega
  case b3 => unfold maxLen; omega
  case b4 => exact Nat.le_refl _
  intro w2 hown hgrow
  have HC2 := (Below.refl w1.heap.size w1).grown hgrow (Nat.le_refl _) (by simp)
  have HB2 := Lib.hid (HB1.out.trans (HC2.mono HB1.out.size))
  obtain ⟨M, hM⟩ : ∃ M, M = w1.heap.size := ⟨_, rfl⟩
  rw [← hM] at hown HL1 ⊢
  have HO2 := Lib.hid (row_below HO1.out HC2)
  have HM2 := Lib.hid (show w2.ownsRow M 4 1 (.slice (some ⟨M, 0, none⟩) m m) m ((mL m xs 0).map Value.bool) by rw [mL_zero, ← toList_madeCells_one]; exact hown)
  clear hown hgrow HC2 hM HO1 HB1 hi hz0 hz1 hz2 hj hy0 hy1 hy2
  go_wp2_with fail
  go_loopw [20] (fun i wr => ∃ k : Nat, k ≤ m ∧ i = .int .i64 k ∧ Hid (wr.ownsRow w.heap.size 3 1 (.slice (some ⟨w.heap.size, 0, none⟩) m m) m (vals (oL m xs k))) ∧ Hid (wr.ownsRow M 4 1 (.slice (some ⟨M, 0, none⟩) m m) m ((mL m xs k).map Value.bool)) ∧ Hid ((xs.take k).Nodup) ∧ Hid (∀ x ∈ xs.take k, 0 ≤ x ∧ x < (m : Int)) ∧ Hid (Below w.heap.size w wr)) (fun i _ => m - (intOf i).toNat)
  case atStart => exact ⟨0, Nat.zero_le _, rfl, HO2, HM2, Lib.hid (by simp), Lib.hid (by simp), HB2⟩
  case round =>
    clear HO2 HM2 HB2
    obtain ⟨k, hk, rfl, HO, HMT, HND, HRG, HB⟩ := hrel
    by_cases hlt : k < m
    case neg =>
      obtain rfl : m = k := by omega
      have hnd := HND.out
      have hrg := HRG.out
      rw [List.take_of_length_le (by rw [← NO.out]; exact Nat.le_refl _)] at hnd hrg
      obtain rfl : R = true := HR.out.trans (isOrd_of NO.out.symm hnd hrg)
      clear hnd hrg
      go_wp2_with fail
      go_ret2
      exact ⟨_, rfl, (show wr.ownsRow _ 3 1 _ (oL m xs m).length _ by rw [oL_len]; exact HO.out), ⟨_, _, rfl⟩, HB.out⟩
    case pos =>
      obtain ⟨y, hy⟩ : ∃ y, xs[k]? = some y := ⟨_, List.getElem?_eq_getElem (by rw [← NO.out]; exact hlt)⟩
      obtain ⟨ob, off, rfl, hob, e0⟩ := (HU.out.below HB.out).atb hy
      have HY := Lib.hid hy
      clear hy
      by_cases hy0 : y < 0
      case pos =>
        obtain rfl : R = false := HR.out.trans (Bool.eq_false_iff.2 fun e => by have := isOrd_rng e y (List.mem_of_getElem? HY.out); omega)
        have d1 : decide (y < 0) = true := decide_eq_true hy0
        clear hy0
        go_wp2_with fail
        go_ret2
        exact ⟨_, rfl, ⟨none, 0, rfl⟩, HB.out⟩
      have d1 : decide (y < 0) = false := decide_eq_false hy0
      by_cases hym : (m : Int) ≤ y
      case pos =>
        obtain rfl : R = false := HR.out.trans (Bool.eq_false_iff.2 fun e => by have := isOrd_rng e y (List.mem_of_getElem? HY.out); omega)
        have d2 : decide ((m : Int) ≤ y) = true := decide_eq_true hym
        have d3 : decide (y ≥ (m : Int)) = true := decide_eq_true hym
        clear hy0 hym
        go_wp2_with fail
        go_ret2
        exact ⟨_, rfl, ⟨none, 0, rfl⟩, HB.out⟩
      obtain ⟨yy, rfl⟩ : ∃ yy : Nat, y = yy := ⟨y.toNat, by omega⟩
      have hyl : yy < m := by omega
      have d2 : decide ((m : Int) ≤ (yy : Int)) = false := decide_eq_false (by omega)
      have d3 : decide ((yy : Int) ≥ (m : Int)) = false := decide_eq_false (by omega)
      have iy1 : (0 : Int) ≤ (yy : Int) := by omega
      have iy2 : (yy : Int) < (m : Int) := by omega
      clear hy0 hym
      have zf := HMT.out.frozenAt yy
      have ml := (World.ownsRow.lt HMT.out M rfl).2
      have cm0 : wr.cell? ⟨M, yy, none⟩ = some (.bool (decide (((yy : Nat) : Int) ∈ xs.take k))) := by
        rw [HMT.out.cellAt yy (by omega)]; unfold mL; rw [List.getElem?_map, List.getElem?_map, List.getElem?_range hyl]; rfl
      by_cases hmet : ((yy : Nat) : Int) ∈ xs.take k
      case pos =>
        obtain rfl : R = false := HR.out.trans (Bool.eq_false_iff.2 fun e => isOrd_new e HY.out hmet)
        rw [decide_eq_true hmet] at cm0
        clear hmet
        go_wp2_with fail
        go_ret2
        exact ⟨_, rfl, ⟨none, 0, rfl⟩, HB.out⟩
      case neg =>
        rw [decide_eq_false hmet] at cm0
        have HNM := Lib.hid hmet
        clear hmet
        have zo := HO.out.frozenAt yy
        have wl := (World.ownsRow.lt HO.out w.heap.size rfl).2
        obtain ⟨y1, cc1⟩ : ∃ y, wr.cell? ⟨w.heap.size, yy, none⟩ = some y := by rw [HO.out.cellAt yy (by omega), List.getElem?_eq_getElem (by rw [HO.out.1]; omega)]; exact ⟨_, rfl⟩
        have hwM : ¬ w.heap.size = M := by have := HL1.out; omega
        have hMw : ¬ M = w.heap.size := by have := HL1.out; omega
        go_wp2_with fail
        go_roundw
        case rel =>
          refine ⟨k + 1, by omega, by go_num, Lib.hid ?_, Lib.hid ?_, Lib.hid (take_nodup HY.out HNM.out HND.out), Lib.hid (fun x hx => ?_), Lib.hid ?_⟩
          · have q := row_out HO.out ((Out.refl M (M + 1) wr).setC (p := ⟨M, yy, none⟩) (Nat.le_refl _) (Nat.lt_succ_self _) (.bool true)) (fun q e => .inl (by have := HL1.out; obtain rfl := Option.some.inj e; exact this))
            have q2 := (q.stored yy (.int .i64 (k : Int))).1
            rw [← oL_step HY.out HNM.out]
            unfold vals at q2 ⊢
            rw [List.map_set]
            exact q2
          · have q := (HMT.out.stored yy (.bool true)).1
            have q2 := row_out q ((Out.refl w.heap.size (w.heap.size + 1) (wr.setCell ⟨M, yy, none⟩ (.bool true))).setC (p := ⟨w.heap.size, yy, none⟩) (Nat.le_refl _) (Nat.lt_succ_self _) (.int .i64 (k : Int))) (fun q e => .inr (by have := HL1.out; obtain rfl := Option.some.inj e; exact this))
            rw [← mL_step HY.out, List.map_set]
            exact q2
          · rcases (take_mem HY.out).1 hx with q | rfl
            · exact HRG.out x q
            · omega
          · exact (HB.out.setCell (p := ⟨M, yy, none⟩) (by have := HL1.out; show w.heap.size ≤ M; omega) _).setCell (p := ⟨w.heap.size, yy, none⟩) (Nat.le_refl _) _
        case measure => simp [intOf]; omega
end Go.Proofs.Ytmfagmfclehdbaa
