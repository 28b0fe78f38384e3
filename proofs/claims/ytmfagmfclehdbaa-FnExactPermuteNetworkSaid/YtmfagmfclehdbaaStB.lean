/-
  Slices of actors of the call's own: what lies in them, marks, marks read. No statement of the seat is proved here.
-/
import Derived.Test.YtmfagmfclehdbaaStA
import Derived.Test.YtmfagmfclehdbaaLawKit
namespace Go.Proofs.Ytmfagmfclehdbaa
open Go.RowKit

theorem cells4s {w : World} {g T : Nat} {u0 u1 u2 u3 : Value} (h : w.heap[g]? = some (.cells #[u0, u1, u2, u3] T)) : w.cell? ⟨g, 0, none⟩ = some u0 ∧ w.cell? ⟨g, 1, none⟩ = some u1 ∧ w.cell? ⟨g, 2, none⟩ = some u2 ∧ w.cell? ⟨g, 3, none⟩ = some u3 := by
  have a := cell_of h 0; have b := cell_of h 1; have c := cell_of h 2; have d := cell_of h 3
  simp at a b c d; exact ⟨a, b, c, d⟩
theorem beqN2 (m n : Nat) : ((m : Int) == (n : Int)) = decide (m = n) := by
  by_cases h : m = n
  · subst h; simp
  · rw [decide_eq_false h, beq_eq_false_iff_ne]; omega
/-- The slice 'v' of actors holds these places and these rows of registers; its block, where it has one, lies from lo on, below hi. -/
def VA (lo hi : Nat) (w : World) (v : Value) (us : List Value) (pcs : List Int) : Prop :=
  (v = .slice none 0 0 ∧ us = [] ∧ pcs = []) ∨ ∃ (B cap : Nat) (cur : Array Value), v = .slice (some ⟨B, 0, none⟩) us.length cap ∧ lo ≤ B ∧ B < hi ∧ us.length ≤ cap ∧ cap ≤ maxLen ∧ w.heap[B]? = some (.cells cur 74) ∧ pcs.length = us.length ∧
    ∀ i u p, us[i]? = some u → pcs[i]? = some p → cur[i * 2]? = some (.int .i64 p) ∧ cur[i * 2 + 1]? = some u
theorem VA.keep {lo hi : Nat} {w w' : World} {v : Value} {us : List Value} {pcs : List Int} (h : VA lo hi w v us pcs) (hk : ∀ (B : Nat) (cur : Array Value), lo ≤ B → B < hi → w.heap[B]? = some (.cells cur 74) → w'.heap[B]? = some (.cells cur 74)) : VA lo hi w' v us pcs := by
  rcases h with h | ⟨B, cap, cur, h1, h2, h3, h4, h5, h6, h7⟩
  · exact .inl h
  · exact .inr ⟨B, cap, cur, h1, h2, h3, h4, h5, hk B cur h2 h3 h6, h7⟩
theorem VA.mono {lo hi lo' hi' : Nat} {w : World} {v : Value} {us : List Value} {pcs : List Int} (h : VA lo hi w v us pcs) (h1 : lo' ≤ lo) (h2 : hi ≤ hi') : VA lo' hi' w v us pcs := by
  rcases h with h | ⟨B, cap, cur, a1, a2, a3, a4⟩
  · exact .inl h
  · exact .inr ⟨B, cap, cur, a1, by omega, by omega, a4⟩
theorem VA.shape {lo hi : Nat} {w : World} {v : Value} {us : List Value} {pcs : List Int} (h : VA lo hi w v us pcs) : ∃ a c, v = .slice a us.length c := by
  rcases h with ⟨rfl, rfl, _⟩ | ⟨B, cap, cur, rfl, _⟩
  · exact ⟨none, 0, rfl⟩
  · exact ⟨_, _, rfl⟩
theorem VA.at {lo hi j : Nat} {w : World} {v u : Value} {us : List Value} {pcs : List Int} {p : Int} (h : VA lo hi w v us pcs) (hu : us[j]? = some u) (hp : pcs[j]? = some p) :
    ∃ B c, v = .slice (some ⟨B, 0, none⟩) us.length c ∧ lo ≤ B ∧ B < hi ∧ w.cell? ⟨B, j * 2, none⟩ = some (.int .i64 p) ∧ w.cell? ⟨B, j * 2 + 1, none⟩ = some u ∧ w.frozen? ⟨B, j * 2, none⟩ = false ∧ w.frozen? ⟨B, j * 2 + 1, none⟩ = false ∧ B < w.heap.size ∧ ∃ cur, w.heap[B]? = some (.cells cur 74) := by
  rcases h with ⟨rfl, rfl, _⟩ | ⟨B, cap, cur, rfl, h2, h3, h4, h5, h6, h7, h8⟩
  · simp at hu
  · obtain ⟨c0, c1⟩ := h8 j u p hu hp
    exact ⟨B, cap, rfl, h2, h3, (cell_of h6 _).trans c0, (cell_of h6 _).trans c1, fr_of h6 _, fr_of h6 _, lt_of h6, cur, h6⟩
theorem VA.set {lo hi B c n j : Nat} {w : World} {us : List Value} {pcs : List Int} (h : VA lo hi w (.slice (some ⟨B, 0, none⟩) n c) us pcs) (hj : j < us.length) (p : Int) :
    VA lo hi (w.setCell ⟨B, j * 2, none⟩ (.int .i64 p)) (.slice (some ⟨B, 0, none⟩) n c) us (pcs.set j p) := by
  rcases h with ⟨e, _⟩ | ⟨B', cap, cur, e, h2, h3, h4, h5, h6, h7, h8⟩
  · cases e
  · simp only [Value.slice.injEq, Option.some.injEq, Addr.mk.injEq, and_true] at e
    obtain ⟨rfl, rfl, rfl⟩ := e
    refine .inr ⟨B, c, _, rfl, h2, h3, h4, h5, heap_setCell_same w B (j * 2) cur 74 (.int .i64 p) h6, by rw [List.length_set]; exact h7, fun i u q hu hq => ?_⟩
    rw [List.getElem?_set] at hq
    by_cases e : j = i
    · subst e
      rw [if_pos rfl, if_pos (by omega)] at hq
      obtain rfl := Option.some.inj hq
      obtain ⟨q0, hq0⟩ : ∃ q0, pcs[j]? = some q0 := ⟨_, List.getElem?_eq_getElem (by omega)⟩
      obtain ⟨c0, c1⟩ := h8 j u q0 hu hq0
      have hlt := (Array.getElem?_eq_some_iff.1 c0).1
      refine ⟨by rw [Array.getElem?_setIfInBounds, if_pos rfl, if_pos hlt], ?_⟩
      rw [Array.getElem?_setIfInBounds, if_neg (by omega)]
      exact c1
    · rw [if_neg e] at hq
      obtain ⟨c0, c1⟩ := h8 i u q hu hq
      rw [Array.getElem?_setIfInBounds, Array.getElem?_setIfInBounds, if_neg (by omega), if_neg (by omega)]
      exact ⟨c0, c1⟩
/-- A row of a family is written. -/
theorem Fam.row {lo j : Nat} {w w' : World} {x : Value} {us : List Value} {xss : List (List Int)} {ys : List Int} (hF : Fam lo w us xss)
    (hx : us[j]? = some x) (hg : w.grownBy w' x.ownBlock) (ho : Own lo w' x ys) : Fam lo w' us (xss.set j ys) := by
  have hj := (List.getElem?_eq_some_iff.1 hx).1
  have F := hF.upd (w' := w') hx (fun y ys hy ha => hy.kept hg ha) ho (.inl rfl)
  rwa [show us.set j x = us from by
    apply List.ext_getElem?
    intro i
    rw [List.getElem?_set]
    by_cases e : j = i
    · rw [if_pos e, if_pos hj, ← e, hx]
    · rw [if_neg e]] at F

/-- A slice of actors of the call's own: what it holds lies in blocks from lo on, below hi, no two rows in one. -/
def AcH (lo hi : Nat) (w : World) (v : Value) (xs : List Act) : Prop :=
  ∃ us, VA lo hi w v us (xs.map Act.pc) ∧ Fam lo w us (xs.map Act.regs) ∧ ∀ x ∈ us, ∀ q, x.ownBlock = some q → q < hi
theorem AcH.below {lo hi : Nat} {w w' : World} {v : Value} {xs : List Act} (h : AcH lo hi w v xs) (hb : Below w.heap.size w w') : AcH lo hi w' v xs := by
  obtain ⟨us, h1, h2, h3⟩ := h
  exact ⟨us, h1.keep (fun B cur _ _ q => blk_in q hb), h2.below hb, h3⟩
theorem AcH.out {lo hi l2 h2 : Nat} {w w' : World} {v : Value} {xs : List Act} (h : AcH lo hi w v xs) (ho : Out l2 h2 w w') (hd : hi ≤ l2 ∨ h2 ≤ lo) : AcH lo hi w' v xs := by
  obtain ⟨us, h1, hF, h3⟩ := h
  refine ⟨us, h1.keep (fun B cur a b q => ho.blk q (by omega)), ⟨hF.len, fun i x ys hx hys => ?_, hF.apart⟩, h3⟩
  exact (hF.own i x ys hx hys).out (h2 := hi) (h3 x (List.mem_of_getElem? hx)) ho (by omega)
theorem AcH.mono {lo hi lo' hi' : Nat} {w : World} {v : Value} {xs : List Act} (h : AcH lo hi w v xs) (h1 : lo' ≤ lo) (h2 : hi ≤ hi') : AcH lo' hi' w v xs := by
  obtain ⟨us, hv, hF, h3⟩ := h
  exact ⟨us, hv.mono h1 h2, hF.mono h1, fun x hx q e => Nat.lt_of_lt_of_le (h3 x hx q e) h2⟩
theorem AcH.v {lo hi : Nat} {w : World} {v : Value} {xs : List Act} (h : AcH lo hi w v xs) : SlA w v xs := by
  obtain ⟨us, hv, hF, _⟩ := h
  have hl := hF.len
  rw [List.length_map] at hl
  rcases hv with ⟨rfl, rfl, _⟩ | ⟨B, cap, cur, rfl, a2, a3, a4, a5, a6, a7, a8⟩
  · obtain rfl : xs = [] := List.eq_nil_of_length_eq_zero (by simpa using hl.symm)
    exact ⟨none, 0, rfl, Nat.le_refl _, by simp, fun _ => rfl, .inl rfl⟩
  · refine ⟨_, cap, by rw [hl], by omega, a5, (fun e => by cases e), .inr ⟨B, 0, rfl, lt_of a6, fun i x hx => ?_⟩⟩
    have hi : i < xs.length := (List.getElem?_eq_some_iff.1 hx).1
    obtain ⟨u, hu⟩ : ∃ u, us[i]? = some u := ⟨_, List.getElem?_eq_getElem (by omega)⟩
    obtain ⟨c0, c1⟩ := a8 i u x.pc hu (by rw [List.getElem?_map, hx]; rfl)
    refine ⟨u, ?_, ?_, (hF.own i u x.regs hu (by rw [List.getElem?_map, hx]; rfl)).sl⟩
    · rw [Nat.zero_add, cell_of a6]; exact c0
    · rw [Nat.zero_add, cell_of a6]; exact c1
theorem AcH.shape {lo hi : Nat} {w : World} {v : Value} {xs : List Act} (h : AcH lo hi w v xs) : ∃ a c, v = .slice a xs.length c := h.v.shape
theorem AcH.ofO {g m hi : Nat} {w : World} {xs : List Act} (h : ActsO g m w xs m) (ha : RowA 2 g hi w m) (hm : xs.length = m) (hg : g < hi) : AcH g hi w (.slice (some ⟨g, 0, none⟩) m m) xs := by
  obtain ⟨cs, h1, h2⟩ := h
  have hl := h1.1
  obtain ⟨cur, b1, b2, b3, b4⟩ : ∃ cur, w.heap[g]? = some (.cells cur 74) ∧ cur.toList.take (m * 2) = cs ∧ m ≤ m ∧ m ≤ maxLen := by
    rcases h1.2 with ⟨e, _⟩ | ⟨g', cap', cur, e, c1, c2, c3, c4, c5, c6⟩
    · cases e
    · simp only [Value.slice.injEq, Option.some.injEq, Addr.mk.injEq, and_true, true_and] at e
      obtain ⟨rfl, rfl⟩ := e
      exact ⟨cur, c2, c6, c3, c4⟩
  have cell : ∀ i c, cs[i]? = some c → cur[i]? = some c := fun i c hc => by
    have hi := (List.getElem?_eq_some_iff.1 hc).1
    rw [← b2, List.getElem?_take, if_pos (by omega)] at hc
    rw [← Array.getElem?_toList]; exact hc
  have hc0 : ∀ i, i < m → ∃ c, cs[i * 2 + 1]? = some c := fun i hi => ⟨_, List.getElem?_eq_getElem (by omega)⟩
  have key : ∀ i x, xs[i]? = some x → ∃ c, cs[i * 2]? = some (.int .i64 x.pc) ∧ cs[i * 2 + 1]? = some c ∧ Own (g + 1) w c x.regs := fun i x hx => h2 i x (by have := (List.getElem?_eq_some_iff.1 hx).1; omega) hx
  refine ⟨(List.range m).map fun i => cs.getD (i * 2 + 1) (.slice none 0 0), .inr ⟨g, m, cur, by simp, Nat.le_refl _, hg, by simp, b4, b1, by simp [hm], fun i u p hu hp => ?_⟩, ⟨by simp [hm], fun i u ys hu hy => ?_, fun i j u u' hu hu' hij => ?_⟩, fun x hx q e => ?_⟩
  · rw [List.getElem?_map] at hu hp
    obtain ⟨x, hx, rfl⟩ := Option.map_eq_some_iff.1 hp
    obtain ⟨c, k0, k1, _⟩ := key i x hx
    have hi : i < m := by have := (List.getElem?_eq_some_iff.1 hx).1; omega
    rw [List.getElem?_range hi] at hu
    simp only [Option.map_some, Option.some.injEq] at hu
    rw [List.getD_eq_getElem?_getD, k1] at hu
    simp only [Option.getD_some] at hu
    subst hu
    exact ⟨cell _ _ k0, cell _ _ k1⟩
  · rw [List.getElem?_map] at hu hy
    obtain ⟨x, hx, rfl⟩ := Option.map_eq_some_iff.1 hy
    obtain ⟨c, k0, k1, ho⟩ := key i x hx
    have hi : i < m := by have := (List.getElem?_eq_some_iff.1 hx).1; omega
    rw [List.getElem?_range hi] at hu
    simp only [Option.map_some, Option.some.injEq] at hu
    rw [List.getD_eq_getElem?_getD, k1] at hu
    simp only [Option.getD_some] at hu
    subst hu
    exact ho.mono (by omega)
  · have get : ∀ (i : Nat) (u : Value), ((List.range m).map fun i => cs.getD (i * 2 + 1) (.slice none 0 0))[i]? = some u → i < m ∧ w.cell? ⟨g, i * 2 + (2 - 1), none⟩ = some u := by
      intro i u hu
      rw [List.getElem?_map] at hu
      obtain ⟨z, hz, rfl⟩ := Option.map_eq_some_iff.1 hu
      have hi : i < m := by have := (List.getElem?_eq_some_iff.1 hz).1; simpa using this
      rw [List.getElem?_range hi] at hz
      obtain rfl := Option.some.inj hz
      obtain ⟨c, hc⟩ := hc0 i hi
      refine ⟨hi, ?_⟩
      rw [List.getD_eq_getElem?_getD, hc, cell_of b1]
      exact cell _ _ hc
    obtain ⟨h1', c1⟩ := get i u hu
    obtain ⟨h2', c2⟩ := get j u' hu'
    rcases Nat.lt_or_gt_of_ne hij with z | z
    · exact ha.ap i j u u' z h2' c1 c2
    · exact (ha.ap j i u' u z h1' c2 c1).symm
  · obtain ⟨i, hi⟩ := List.getElem?_of_mem hx
    rw [List.getElem?_map] at hi
    obtain ⟨z, hz, rfl⟩ := Option.map_eq_some_iff.1 hi
    have hi' : i < m := by have := (List.getElem?_eq_some_iff.1 hz).1; simpa using this
    rw [List.getElem?_range hi'] at hz
    obtain rfl := Option.some.inj hz
    obtain ⟨c, hc⟩ := hc0 i hi'
    rw [List.getD_eq_getElem?_getD, hc] at e
    refine ha.lt i c hi' ?_ q e
    rw [cell_of b1]
    exact cell _ _ hc
theorem le_sumA {xs : List Act} {x : Act} (h : x ∈ xs) : x.regs.length ≤ sumA xs := by
  unfold sumA
  have := le_sum (f := fun p : Act => p.regs.length) h
  omega
def mkAc (k : Int) (a : Act) : Act := ⟨k, marks (k + 1) a.regs.length⟩
def stAc (a : Act) : Nat := 1 + a.regs.length
theorem sum_stAc : ∀ xs : List Act, (xs.map stAc).sum = sumA xs
  | [] => by simp [sumA]
  | x :: xs => by
    have := sum_stAc xs
    unfold sumA stAc at *
    rw [List.map_cons, List.sum_cons, List.map_cons, List.sum_cons, List.length_cons]
    omega

set_option maxRecDepth 100000 in
set_option maxHeartbeats 4000000 in
theorem markAc_any (lo hi : Nat) (v : Value) (xs : List Act) (k : Int) (w : World) (h : AcH lo hi w v xs) (hk0 : 0 ≤ k) (hk : k + (sumA xs : Nat) ≤ 1000000000) :
    Calls Try.prog 63 #[v, .int .i64 k] w fun e w' => e = .returned (.int .i64 (k + (sumA xs : Nat))) ∧ AcH lo hi w' v (mkAll stAc mkAc k xs) ∧ Out lo hi w w' := by
  obtain ⟨us, hv, hF, h3⟩ := h
  have hl := hF.len
  rw [List.length_map] at hl
  obtain ⟨m, hmm⟩ : ∃ m, m = us.length := ⟨_, rfl⟩
  obtain ⟨s, hs⟩ : ∃ s : Nat, s = sumA xs := ⟨_, rfl⟩
  have hm9 : m ≤ 1000000000 := by unfold sumA at hk; omega
  rw [← hs] at hk ⊢
  obtain ⟨va, vc, hve⟩ := hv.shape
  rw [← hmm] at hve
  subst hve
  have HV0 := Lib.hid (show VA lo hi w (.slice va m vc) us ((mkT stAc mkAc k xs 0).map Act.pc) by rw [mkT_zero]; exact hv)
  have HF0 := Lib.hid (show Fam lo w us ((mkT stAc mkAc k xs 0).map Act.regs) by rw [mkT_zero]; exact hF)
  have HM := Lib.hid (show us.length = m from hmm.symm)
  have HX := Lib.hid (show xs.length = m by omega)
  have H3 := Lib.hid h3
  have HS := Lib.hid (hs.trans (sum_stAc xs).symm)
  clear hs hv hF h3 hl hmm
  go_enter Try.func63, Try.ntmps63
  go_wp2_with fail
  go_loopw [1, 5] (fun t i wr => ∃ (j : Nat) (z : Int), j ≤ m ∧ i = .int .i64 j ∧ t = .int .i64 z ∧ Hid (z = k + (((xs.take j).map stAc).sum : Nat)) ∧ Hid (VA lo hi wr (.slice va m vc) us ((mkT stAc mkAc k xs j).map Act.pc)) ∧ Hid (Fam lo wr us ((mkT stAc mkAc k xs j).map Act.regs)) ∧ Hid (Out lo hi w wr)) (fun _ i _ => m - (intOf i).toNat)
  case atStart => exact ⟨0, k, Nat.zero_le _, rfl, rfl, Lib.hid (by simp), HV0, HF0, Lib.hid (Out.refl _ _ _)⟩
  case round =>
    clear HV0 HF0
    obtain ⟨j, z, hj, rfl, rfl, HZ, HV, HF, HO⟩ := hrel
    by_cases hlt : j < m
    · obtain ⟨x, hx⟩ : ∃ x, xs[j]? = some x := ⟨_, List.getElem?_eq_getElem (by rw [HX.out]; exact hlt)⟩
      obtain ⟨c, hc⟩ : ∃ c, us[j]? = some c := ⟨_, List.getElem?_eq_getElem (by rw [HM.out]; exact hlt)⟩
      have hst := mk_sum_step (st := stAc) hx
      have hle := mk_sum_take_le (st := stAc) xs (j + 1)
      rw [hst, show (xs.map stAc).sum = s from HS.out.symm] at hle
      obtain ⟨n, hn⟩ : ∃ q, q = x.regs.length := ⟨_, rfl⟩
      have hzb : 0 ≤ z ∧ z + 1 + (n : Int) ≤ 1000000000 := by have := HZ.out; have hh : stAc x = 1 + x.regs.length := rfl; rw [hh, ← hn] at hle; omega
      have hat := mkT_at (st := stAc) (mk := mkAc) (k := k) hx
      have ho := HF.out.own j c x.regs hc (by rw [List.getElem?_map, hat]; rfl)
      obtain ⟨B, vc', hve, hB1, hB2, c0, c1, f0, f1, hBl, cur, hB⟩ := HV.out.at hc (by rw [List.getElem?_map, hat]; rfl)
      rw [HM.out] at hve
      simp only [Value.slice.injEq, true_and] at hve
      obtain ⟨rfl, rfl⟩ := hve
      have HOW := Lib.hid ho
      have HC := Lib.hid hc
      have HXX := Lib.hid hx
      have HST := Lib.hid hst
      have HN := Lib.hid hn
      have HB := Lib.hid hB
      have HBB := Lib.hid (And.intro hB1 hB2)
      have HV2 := Lib.hid (VA.set HV.out (by rw [HM.out]; exact hlt) z)
      have HF2 := Lib.hid (HF.out.setB hB (by decide) (j := j * 2) (.int .i64 z))
      have ho2 := HF2.out.own j c x.regs hc (by rw [List.getElem?_map, hat]; rfl)
      have HOW2 := Lib.hid ho2
      obtain ⟨ca, cc, rfl⟩ := ho.shape
      rw [← hn] at c1
      clear hc hx ho hst hle hn hat hB hB1 hB2 ho2
      go_wp2_with (go_at_call 26; refine (mark_any lo _ x.regs (z + 1) _ (by rw [HN.out]; exact HOW2.out) (by omega) (by omega) (by have := HN.out; omega)).mono ?_; rintro e w2 ⟨rfl, ho2, hg2⟩; have HG2 := Lib.hid hg2; have HO2 := Lib.hid ho2; rw [← HN.out]; clear ho2 hg2)
      go_roundw
      case rel =>
        have hzz := HZ.out
        have hst := HST.out
        have hg2 := HG2.out
        have ho2 := HO2.out
        rw [HN.out] at hg2 ho2
        have q1 := HF2.out.row HC.out hg2 ho2
        have q2 := HV2.out.keep (w' := w2) (fun B' cur' _ _ q => grown_keep q (by decide) HOW2.out hg2)
        refine ⟨j + 1, z + 1 + (n : Int), by omega, by go_num, rfl, Lib.hid (by rw [hst, show stAc x = 1 + x.regs.length from rfl, ← HN.out]; omega), Lib.hid ?_, Lib.hid ?_, Lib.hid ?_⟩
        · have e := mkT_step (st := stAc) (mk := mkAc) (k := k) HXX.out
          rw [← hzz] at e
          rw [← e, List.map_set]
          exact q2
        · have e := mkT_step (st := stAc) (mk := mkAc) (k := k) HXX.out
          rw [← hzz] at e
          rw [← e, List.map_set]
          exact q1
        · refine ((HO.out.setC (p := ⟨B, j * 2, none⟩) HBB.out.1 HBB.out.2 _).trans (Out.of_grown hg2 (fun q e => ⟨(HOW2.out.lt q e).1, H3.out _ (List.mem_of_getElem? HC.out) q e⟩)))
      case measure => simp [intOf]; omega
    · obtain rfl : j = m := by omega
      have hz := HZ.out
      have hp := HF.out
      have hq := HV.out
      rw [← HX.out, List.take_length, show (xs.map stAc).sum = s from HS.out.symm] at hz
      have e := mkT_all (st := stAc) (mk := mkAc) k xs
      rw [HX.out] at e
      rw [e] at hp hq
      subst hz
      go_wp2_with fail
      go_ret
      exact ⟨rfl, ⟨us, hq, hp, H3.out⟩, HO.out⟩

set_option maxRecDepth 100000 in
set_option maxHeartbeats 1600000 in
theorem heldAc_any (v : Value) (xs : List Act) (k : Int) (w : World) (h : SlA w v (mkAll stAc mkAc k xs)) (hk0 : 0 ≤ k) (hk : k + (sumA xs : Nat) ≤ 1000000000) :
    Calls Try.prog 65 #[v, .int .i64 k] w fun e w' => e = .returned (.int .i64 (k + (sumA xs : Nat))) ∧ w = w' := by
  obtain ⟨a, cap, rfl, _, _, _, hc⟩ := h
  rw [mkAll_len]
  obtain ⟨m, hmm⟩ : ∃ m, m = xs.length := ⟨_, rfl⟩
  obtain ⟨s, hs⟩ : ∃ s : Nat, s = sumA xs := ⟨_, rfl⟩
  have hm : m ≤ 1000000000 := by unfold sumA at hk; omega
  rw [← hs] at hk ⊢
  rw [← hmm]
  have HM := Lib.hid (show xs.length = m from hmm.symm)
  have HS := Lib.hid (hs.trans (sum_stAc xs).symm)
  have HC := Lib.hid hc
  clear hs hmm hc
  go_enter Try.func65, Try.ntmps65
  go_wp2_with fail
  go_loop [1, 5] (fun t i => ∃ (j : Nat) (z : Int), j ≤ m ∧ i = .int .i64 j ∧ t = .int .i64 z ∧ Hid (z = k + (((xs.take j).map stAc).sum : Nat))) (fun _ i => m - (intOf i).toNat)
  case atStart => exact ⟨0, k, Nat.zero_le _, rfl, rfl, Lib.hid (by simp)⟩
  case round =>
    obtain ⟨j, z, hj, rfl, rfl, HZ⟩ := hrel
    by_cases hlt : j < m
    · obtain ⟨x, hx⟩ : ∃ x, xs[j]? = some x := ⟨_, List.getElem?_eq_getElem (by rw [HM.out]; exact hlt)⟩
      have hst := mk_sum_step (st := stAc) hx
      have hle := mk_sum_take_le (st := stAc) xs (j + 1)
      rw [hst, show (xs.map stAc).sum = s from HS.out.symm] at hle
      have hmk : (mkAll stAc mkAc k xs)[j]? = some (mkAc z x) := by
        rw [mkAll_at k xs j x hx, ← HZ.out]
      obtain ⟨n, hn⟩ : ∃ q, q = x.regs.length := ⟨_, rfl⟩
      have hzb : 0 ≤ z ∧ z + 1 + (n : Int) ≤ 1000000000 := by have := HZ.out; have hh : stAc x = 1 + x.regs.length := rfl; rw [hh, ← hn] at hle; omega
      have hcell : ∃ b off u, a = some ⟨b, off, none⟩ ∧ w.cell? ⟨b, off + j * 2, none⟩ = some (.int .i64 z) ∧ w.cell? ⟨b, off + j * 2 + 1, none⟩ = some u ∧ Sl w u (marks (z + 1) n) := by
        rcases HC.out with e | ⟨b, off, e, _, hcc⟩
        · exfalso
          rw [e] at hmk
          simp at hmk
        · obtain ⟨u, h0, h1, h2⟩ := hcc j _ hmk
          exact ⟨b, off, u, e, h0, h1, by rw [hn]; exact h2⟩
      obtain ⟨b, off, u, rfl, hcz, hcl, hsl⟩ := hcell
      have HSL := Lib.hid hsl
      have HST := Lib.hid hst
      have HN := Lib.hid hn
      clear hx hst hle hmk hn hsl
      go_wp2_with (go_at_call 27; refine (held_any _ (z + 1) n _ HSL.out (by omega) (by omega) (by omega)).mono ?_; rintro e w2 ⟨rfl, rfl⟩)
      go_round
      case rel =>
        have hzz := HZ.out
        have hst := HST.out
        exact ⟨j + 1, z + 1 + (n : Int), by omega, by go_num, rfl, Lib.hid (by rw [hst, show stAc x = 1 + x.regs.length from rfl, ← HN.out]; omega)⟩
      case measure => simp [intOf]; omega
    · obtain rfl : j = m := by omega
      have hz := HZ.out
      rw [← HM.out, List.take_length, show (xs.map stAc).sum = s from HS.out.symm] at hz
      subst hz
      go_wp2_with fail
      go_ret
      exact ⟨rfl, rfl⟩
end Go.Proofs.Ytmfagmfclehdbaa
