/-
  A chain of processes: when it is valid, its rows of links; rows of programs of the call's own. No statement of the seat is proved here.
-/
import Derived.Test.YtmfagmfclehdbaaNetH
namespace Go.Proofs.Ytmfagmfclehdbaa
open Go.RowKit

def chp (ts : List Int) (i : Nat) : Lnk := ⟨(i : Int) - 1, 0, (i : Int), 0, if i = 0 then ts else []⟩
def chl (m : Nat) (ts : List Int) : Lnk := ⟨(m : Int) - 1, 0, -1, 0, if m = 0 then ts else []⟩
def chP (k : Nat) (ts : List Int) : List Lnk := (List.range k).map (chp ts)
def chL (m : Nat) (ts : List Int) : List Lnk := chP m ts ++ [chl m ts]
theorem chP_len (k : Nat) (ts : List Int) : (chP k ts).length = k := by unfold chP; simp
theorem chL_len (m : Nat) (ts : List Int) : (chL m ts).length = m + 1 := by unfold chL; simp [chP_len]
theorem chP_succ (k : Nat) (ts : List Int) : chP (k + 1) ts = chP k ts ++ [chp ts k] := by unfold chP; rw [List.range_succ, List.map_append]; rfl
theorem chP_at {k i : Nat} (ts : List Int) (h : i < k) : (chP k ts)[i]? = some (chp ts i) := by
  unfold chP; rw [List.getElem?_map, List.getElem?_range h]; rfl
theorem chL_at {m i : Nat} (ts : List Int) (h : i < m) : (chL m ts)[i]? = some (chp ts i) := by
  unfold chL; rw [List.getElem?_append_left (by rw [chP_len]; exact h)]; exact chP_at ts h
theorem chL_last (m : Nat) (ts : List Int) : (chL m ts)[m]? = some (chl m ts) := by
  unfold chL; rw [List.getElem?_append_right (by rw [chP_len]; exact Nat.le_refl _), chP_len]; simp
theorem chL_or {m i : Nat} {ts : List Int} {l : Lnk} (h : (chL m ts)[i]? = some l) : (i < m ∧ l = chp ts i) ∨ (i = m ∧ l = chl m ts) := by
  have hi := (List.getElem?_eq_some_iff.1 h).1
  rw [chL_len] at hi
  by_cases e : i < m
  · rw [chL_at ts e] at h; exact .inl ⟨e, (Option.some.inj h).symm⟩
  · obtain rfl : i = m := by omega
    rw [chL_last] at h; exact .inr ⟨rfl, (Option.some.inj h).symm⟩
theorem chL_zero {m : Nat} {ts : List Int} {l : Lnk} (h : l ∈ chL m ts) : l.out = 0 ∧ l.inn = 0 := by
  obtain ⟨i, hi⟩ := List.getElem?_of_mem h
  rcases chL_or hi with ⟨_, rfl⟩ | ⟨_, rfl⟩ <;> exact ⟨rfl, rfl⟩
theorem chL_tok {m i : Nat} {ts : List Int} {l : Lnk} (h : (chL m ts)[i]? = some l) : l.tok = if i = 0 then ts else [] := by
  rcases chL_or h with ⟨_, rfl⟩ | ⟨rfl, rfl⟩ <;> rfl
theorem wf_chL {m : Nat} {ts : List Int} (hm : m ≤ 1100000) : ∀ l ∈ chL m ts, wfL l := by
  intro l h
  obtain ⟨i, hi⟩ := List.getElem?_of_mem h
  rcases chL_or hi with ⟨h1, rfl⟩ | ⟨_, rfl⟩
  · unfold wfL wfE Lnk.src Lnk.tgt chp wfI
    simp only []
    omega
  · unfold wfL wfE Lnk.src Lnk.tgt chl wfI
    simp only []
    omega
def chainB (ps : List Prg) (ts : List Int) : Bool := okN ⟨ps, chL ps.length ts⟩
def chainNetworkR0 (ps : List Prg) (ts : List Int) : Net := if chainB ps ts then ⟨ps, chL ps.length ts⟩ else ⟨[], []⟩
theorem chain_no {ps : List Prg} {ts : List Int} (h : chainB ps ts = false) : chainNetworkR0 ps ts = ⟨[], []⟩ := by unfold chainNetworkR0; rw [h]; rfl
theorem chain_yes {ps : List Prg} {ts : List Int} (h : chainB ps ts = true) : chainNetworkR0 ps ts = ⟨ps, chL ps.length ts⟩ := by unfold chainNetworkR0; rw [h]; rfl
theorem chain_bd (ps : List Prg) (ts : List Int) : szN (chainNetworkR0 ps ts) ≤ 50000 := by
  cases h : chainB ps ts with
  | false => rw [chain_no h]; simp [szN]
  | true => rw [chain_yes h]; exact ok_szN h
theorem chain_ports {ps : List Prg} {ts : List Int} (h : chainB ps ts = true) : ps.length ≠ 0 ∧ ∀ (i : Nat) (p : Prg), ps[i]? = some p → p.ins = 1 ∧ p.outs = 1 := by
  obtain ⟨h1, h2, h3, h4⟩ := (okN_iff _).1 h
  refine ⟨fun e => ?_, fun i p hp => ?_⟩
  · have hl := (h2 (chl ps.length ts) (List.mem_of_getElem? (chL_last ps.length ts))).1
    rw [e] at hl
    unfold linkL at hl
    rw [Bool.and_eq_true] at hl
    exact absurd hl.2 (by simp [chl, Lnk.src, Lnk.tgt, outE])
  · have hi := (List.getElem?_eq_some_iff.1 hp).1
    have ne : ((i : Int), (0 : Int)) ≠ outE := fun e => by have := congrArg Prod.fst e; simp only [outE] at this; omega
    have ins1 : 0 < p.ins := by
      have hl := (h2 (chp ts i) (List.mem_of_getElem? (chL_at ts hi))).2.2
      rcases hl with hl | hl
      · exact absurd hl ne
      · obtain ⟨j, q, hq, e1, _, e2⟩ := mem_ports.1 hl
        have : i = j := by have e : (i : Int) = (j : Int) := e1; omega
        subst this
        rw [hp] at hq
        obtain rfl := Option.some.inj hq
        exact e2
    have outs1 : 0 < p.outs := by
      have hl : ((i : Int), (0 : Int)) = outE ∨ ((i : Int), (0 : Int)) ∈ ports Prg.outs ps := by
        by_cases e : i + 1 < ps.length
        · have q := (h2 (chp ts (i + 1)) (List.mem_of_getElem? (chL_at ts e))).2.1
          have : (chp ts (i + 1)).src = ((i : Int), (0 : Int)) := by unfold chp Lnk.src; simp
          rwa [this] at q
        · have q := (h2 (chl ps.length ts) (List.mem_of_getElem? (chL_last ps.length ts))).2.1
          have : (chl ps.length ts).src = ((i : Int), (0 : Int)) := by unfold chl Lnk.src; simp; omega
          rwa [this] at q
      rcases hl with hl | hl
      · exact absurd hl ne
      · obtain ⟨j, q, hq, e1, _, e2⟩ := mem_ports.1 hl
        have : i = j := by have e : (i : Int) = (j : Int) := e1; omega
        subst this
        rw [hp] at hq
        obtain rfl := Option.some.inj hq
        exact e2
    have no2 : ∀ f : Prg → Int, (∀ e ∈ ports f ps, (∃ l ∈ chL ps.length ts, e = (e.1, l.out) ∨ e = (e.1, l.inn))) → ¬ 1 < f p := by
      intro f hf hlt
      obtain ⟨l, hl, e | e⟩ := hf ((i : Int), (1 : Int)) (mem_ports.2 ⟨i, p, hp, rfl, by simp only []; omega, hlt⟩)
      · have := congrArg Prod.snd e; simp [(chL_zero hl).1] at this
      · have := congrArg Prod.snd e; simp [(chL_zero hl).2] at this
    have i2 := no2 Prg.ins (fun e he => by
      have hc : List.count e ((chL ps.length ts).map Lnk.tgt) = 1 := h4 e he
      have hm : e ∈ (chL ps.length ts).map Lnk.tgt := List.count_pos_iff.1 (by omega)
      obtain ⟨l, hl, rfl⟩ := List.mem_map.1 hm
      exact ⟨l, hl, .inr rfl⟩)
    have o2 := no2 Prg.outs (fun e he => by
      have hc : List.count e ((chL ps.length ts).map Lnk.src) = 1 := h3 e he
      have hm : e ∈ (chL ps.length ts).map Lnk.src := List.count_pos_iff.1 (by omega)
      obtain ⟨l, hl, rfl⟩ := List.mem_map.1 hm
      exact ⟨l, hl, .inl rfl⟩)
    omega

/-- The slots of the tokens: the first is given, the others are nil. -/
def usC (u : Value) : Nat → List Value
  | 0 => []
  | 1 => [u]
  | k + 2 => usC u (k + 1) ++ [.slice none 0 0]
theorem usC_len (u : Value) : ∀ k, (usC u k).length = k
  | 0 => rfl
  | 1 => rfl
  | k + 2 => by rw [usC, List.length_append, usC_len u (k + 1)]; rfl
theorem usC_succ (u : Value) (k : Nat) : usC u (k + 1) = usC u k ++ [if k = 0 then u else .slice none 0 0] := by
  cases k <;> rfl
theorem usC_at (u : Value) : ∀ (k i : Nat) (x : Value), (usC u k)[i]? = some x → x = if i = 0 then u else .slice none 0 0
  | 0, i, x, h => by simp [usC] at h
  | k + 1, i, x, h => by
    rw [usC_succ] at h
    by_cases hi : i < (usC u k).length
    · rw [List.getElem?_append_left hi] at h; exact usC_at u k i x h
    · rw [List.getElem?_append_right (by omega)] at h
      have e : i = k := by
        have := (List.getElem?_eq_some_iff.1 h).1
        simp at this
        rw [usC_len] at hi this
        omega
      subst e
      rw [usC_len] at h
      simpa using h.symm
def cellC (u : Value) (ts : List Int) (k : Nat) : List Value := cellsL (chP k ts) (usC u k)
theorem cellC_succ (u : Value) (ts : List Int) (k : Nat) : cellC u ts (k + 1) = cellC u ts k ++ [.int .i64 ((k : Int) - 1), .int .i64 0, .int .i64 (k : Int), .int .i64 0, if k = 0 then u else .slice none 0 0] := by
  unfold cellC
  rw [chP_succ, usC_succ, cellsL_snoc _ _ _ _ (by rw [chP_len, usC_len])]
  rfl
theorem cellC_len (u : Value) (ts : List Int) (k : Nat) : (cellC u ts k).length = k * 5 := by
  unfold cellC
  rw [cellsL_len _ _ (by rw [chP_len, usC_len]), usC_len]
theorem cellC_end (u : Value) (ts : List Int) (m : Nat) : cellsL (chL m ts) (usC u (m + 1)) = cellC u ts m ++ [.int .i64 ((m : Int) - 1), .int .i64 0, .int .i64 (-1), .int .i64 0, if m = 0 then u else .slice none 0 0] := by
  unfold cellC chL
  rw [usC_succ, cellsL_snoc _ _ _ _ (by rw [chP_len, usC_len])]
  rfl
theorem cellC_set (u : Value) (ts : List Int) (m : Nat) : (cellC u ts (m + 1)).set (m * 5 + 2) (.int .i64 (-1)) = cellsL (chL m ts) (usC u (m + 1)) := by
  rw [cellC_succ, cellC_end, List.set_append_right _ _ (by rw [cellC_len]; omega), cellC_len, show m * 5 + 2 - m * 5 = 2 by omega]
  rfl
/-- A row of links of the call's own, whose slots hold any slices. -/
theorem SlL.ofRow {lo m : Nat} {w : World} {v : Value} {us : List Value} {xs : List Lnk} (h : w.ownsRow lo 86 5 v m (cellsL xs us)) (h1 : xs.length = m) (h2 : us.length = m) (hs : ∀ (i : Nat) (u : Value) (p : Lnk), us[i]? = some u → xs[i]? = some p → Sl w u p.tok) (hw : ∀ l ∈ xs, wfL l) : SlL w v xs := by
  have hv := VL.ofRow h h1 h2
  have hl := hv.len
  rcases hv with ⟨rfl, rfl, rfl⟩ | ⟨B, cap, cur, rfl, a2, a3, a4, a5, a6, a7, a8⟩
  · exact ⟨none, 0, rfl, Nat.le_refl _, by simp, fun _ => rfl, .inl rfl⟩
  · refine ⟨_, cap, by rw [hl], by omega, a5, (fun e => by cases e), .inr ⟨B, 0, rfl, lt_of a6, fun i x hx => ?_⟩⟩
    have hi := (List.getElem?_eq_some_iff.1 hx).1
    obtain ⟨u, hu⟩ : ∃ u, us[i]? = some u := ⟨_, List.getElem?_eq_getElem (by omega)⟩
    have z := a8 i u x hu hx
    simp only [Nat.zero_add]
    exact ⟨u, (cell_of a6 _).trans z.1, (cell_of a6 _).trans z.2.1, (cell_of a6 _).trans z.2.2.1, (cell_of a6 _).trans z.2.2.2.1, (cell_of a6 _).trans z.2.2.2.2, hw x (List.mem_of_getElem? hx), hs i u x hu hx⟩
theorem sl_none (w : World) : Sl w (.slice none 0 0) [] := (show Own 0 w (.slice none 0 0) [] from World.ownsRow_nil _ _ _ _).sl
/-- The chain's links in a row of the call's own. -/
theorem chain_row {lo m : Nat} {w : World} {v u : Value} {ts : List Int} (h : w.ownsRow lo 86 5 v (m + 1) (cellsL (chL m ts) (usC u (m + 1)))) (hu : Sl w u ts) (hm : m ≤ 1100000) : SlL w v (chL m ts) := by
  refine SlL.ofRow h (chL_len m ts) (usC_len u _) (fun i x p hx hp => ?_) (wf_chL hm)
  rw [usC_at u _ i x hx, chL_tok hp]
  by_cases e : i = 0
  · rw [if_pos e, if_pos e]; exact hu
  · rw [if_neg e, if_neg e]; exact sl_none w

/-- Programs of the call's own, as the law lays them. -/
def PgsH (lo hi : Nat) (w : World) (v : Value) (xs : List Prg) : Prop := (∃ g, v = .slice (some ⟨g, 0, none⟩) xs.length xs.length ∧ (lo ≤ g ∧ g < hi) ∧ PrgsO g xs.length w xs xs.length ∧ RowA 3 g hi w xs.length) ∧ hi ≤ w.heap.size
theorem PgsH.below {lo hi : Nat} {w w' : World} {v : Value} {xs : List Prg} (h : PgsH lo hi w v xs) (hb : Below w.heap.size w w') : PgsH lo hi w' v xs := by
  obtain ⟨⟨g, h1, h2, hp, ap⟩, h3⟩ := h
  exact ⟨⟨g, h1, h2, hp.below hb, ap.below hb (rowltP hp)⟩, Nat.le_trans h3 hb.size⟩
theorem PgsH.v {lo hi : Nat} {w : World} {v : Value} {xs : List Prg} (h : PgsH lo hi w v xs) : SlP w v xs := by
  obtain ⟨⟨g, rfl, h2, hp, ap⟩, h3⟩ := h
  exact hp.done rfl
theorem PgsH.shape {lo hi : Nat} {w : World} {v : Value} {xs : List Prg} (h : PgsH lo hi w v xs) : ∃ a c, v = .slice a xs.length c := by
  obtain ⟨⟨g, rfl, _⟩, _⟩ := h
  exact ⟨_, _, rfl⟩
theorem code_le_sum : ∀ (xs : List Prg) (x : Prg), x ∈ xs → x.code.length ≤ (xs.map fun p => p.code.length).sum
  | [], x, h => by simp at h
  | y :: ys, x, h => by
    rw [List.map_cons, List.sum_cons]
    rcases List.mem_cons.1 h with rfl | h
    · omega
    · have := code_le_sum ys x h; omega
theorem toPgs_h (v : Value) (xs : List Prg) (w : World) (h : SlP w v xs) (hs : sumP xs ≤ 1048576) :
    Calls Try.prog 33 #[v] w fun e w' => ∃ v', e = .returned v' ∧ PgsH w.heap.size w'.heap.size w' v' xs ∧ Below w.heap.size w w' := by
  unfold sumP at hs
  refine (toProgramS_any v xs w h (by omega) (fun x hx => by have := code_le_sum xs x hx; omega)).mono ?_
  rintro e w' ⟨rfl, hp, ap, hb⟩
  exact ⟨_, rfl, ⟨⟨_, rfl, ⟨Nat.le_refl _, rowltP hp⟩, hp, ap⟩, Nat.le_refl _⟩, hb⟩
theorem stP_le : ∀ (xs : List Prg), (xs.map stP).sum ≤ 6 * sumP xs
  | [] => by simp
  | x :: xs => by
    have h := stP_le xs
    have hx : stP x = 2 + 4 * x.code.length := rfl
    unfold sumP at h ⊢
    simp only [List.map_cons, List.sum_cons, List.length_cons]
    rw [hx]
    omega
theorem markPgs_h (lo hi : Nat) (v : Value) (xs : List Prg) (k : Int) (w : World) (h : PgsH lo hi w v xs) (hk0 : 0 ≤ k) (hk : k + 6 * (sumP xs : Nat) ≤ 1000000000) :
    Calls Try.prog 36 #[v, .int .i64 k] w fun e w' => e = .returned (.int .i64 (k + ((xs.map stP).sum : Nat))) ∧ Out lo hi w w' := by
  obtain ⟨⟨g, rfl, h2, hp, ap⟩, h3⟩ := h
  refine (markProgramS_any g xs.length hi xs k w hp ap rfl hk0 (by have := stP_le xs; omega) h2.2).mono ?_
  rintro e w' ⟨rfl, _, _, hO⟩
  exact ⟨rfl, hO.out.mono h2.1 (Nat.le_refl _)⟩
end Go.Proofs.Ytmfagmfclehdbaa
