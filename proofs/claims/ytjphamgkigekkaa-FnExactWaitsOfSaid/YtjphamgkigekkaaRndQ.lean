/-
  What the model's l4Inputs leaves: the histories that lead to a process. No statement of the seat is proved here.
  Words for the model's rounds: an append of a whole row, rows that grow. No statement of the seat is proved here.
  What the model's l4Round and RoundOf leave. No statement of the seat is proved here.
  What RoundOf of the model answers; both as the law wants them. No statement of the seat is proved here.
-/
import Derived.Test.YtjphamgkigekkaaRndP
import Derived.Test.YtjphamgkigekkaaSNet
import Derived.Deep.AppendLies
namespace Go.Proofs.Ytjphamgkigekkaa
open Go.RowKit

def inpV (f : Nat → Value) (ix : Nat → Nat) (j : Nat) : List Value := (List.range j).map fun q => f (ix q)
theorem inpV_len (f : Nat → Value) (ix : Nat → Nat) (j : Nat) : (inpV f ix j).length = j := by unfold inpV; simp
theorem inpV_step (f : Nat → Value) (ix : Nat → Nat) (j : Nat) : inpV f ix (j + 1) = inpV f ix j ++ [f (ix j)] := by unfold inpV; rw [List.range_succ, List.map_append]; rfl
theorem inpV_at {f : Nat → Value} {ix : Nat → Nat} {j q : Nat} {y : Value} (h : (inpV f ix j)[q]? = some y) : q < j ∧ y = f (ix q) := by
  unfold inpV at h
  rw [List.getElem?_map] at h
  obtain ⟨z, hz, rfl⟩ := Option.map_eq_some_iff.1 h
  have hq : q < j := by have := (List.getElem?_eq_some_iff.1 hz).1; simpa using this
  rw [List.getElem?_range hq] at hz
  obtain rfl := Option.some.inj hz
  exact ⟨hq, rfl⟩
theorem rows_slR {lo m : Nat} {w : World} {v : Value} {L : List Value} {xss : List (List Int)} (h : w.ownsRow lo 46 1 v m L) (hl : xss.length = m) (hs : ∀ (q : Nat) (y : Value) (x : List Int), L[q]? = some y → xss[q]? = some x → Sl w y x) : SlR w v xss := by
  have hL := h.1
  rcases h.2 with ⟨rfl, rfl⟩ | ⟨g, cap, cur, rfl, _, hg, h1, h2, _, ht⟩
  · have e : xss = [] := List.length_eq_zero_iff.1 hl
    subst e
    exact ⟨none, 0, rfl, Nat.le_refl _, Nat.zero_le _, fun _ => rfl, .inl rfl⟩
  · refine ⟨some ⟨g, 0, none⟩, cap, by rw [hl], by omega, h2, (fun e => by cases e), ?_⟩
    right
    refine ⟨g, 0, rfl, lt_of hg, fun q x hx => ?_⟩
    have hq : q < m := by rw [← hl]; exact (List.getElem?_eq_some_iff.1 hx).1
    obtain ⟨y, hy⟩ : ∃ y, L[q]? = some y := ⟨_, List.getElem?_eq_getElem (by omega)⟩
    refine ⟨y, ?_, hs q y x hy hx⟩
    rw [Nat.zero_add, cell_of hg]
    rw [← ht, List.getElem?_take, if_pos (by omega), Array.getElem?_toList] at hy
    exact hy
theorem lit_s (w : World) (y : Value) : ∀ j u, [y][j]? = some u → (w.alloc (.cells #[y] 46)).cell? ((⟨w.heap.size, 0, none⟩ : Addr).add j) = some u := by
  intro j u hj
  rw [Addr.add_lit, Nat.zero_add, cell_of (hp1 w _)]
  rw [← Array.getElem?_toList]; exact hj

set_option maxRecDepth 100000 in
set_option maxHeartbeats 8000000 in
theorem sinp_any (v u : Value) (n : Net) (h : List (List Int)) (k : Nat) (w : World) (hv : NetV w v n) (hu : SlR w u h) (g : GoodH n h) (hk : k < n.progs.length) :
    Calls Try.prog 77 #[v, u, .int .i64 (k : Int)] w fun e w' => ∃ r, e = .returned r ∧ SlR w' r (inpL n h k) ∧ Below w.heap.size w w' := by
  obtain ⟨hp, hoP⟩ := g.prg hk
  have hP := okP_parts hoP
  have CT := Lib.hid (fun (W : World) (j : Nat) (hw : Below w.heap.size w W) => sto_any v n (k : Int) (j : Int) W (hv.below hw))
  obtain ⟨pv, lv, rfl, hps, hls⟩ := hv
  have HU := Lib.hid hu
  have LP := hps.len
  have LH := slR_len hu
  obtain ⟨pa, pcap, rfl⟩ := hps.shape
  obtain ⟨la, lcap, rfl⟩ := hls.shape
  obtain ⟨ha, hcap, rfl⟩ := slR_shape hu
  obtain ⟨gb, go, c, hpa, hgb, k0, k1, k2, ks⟩ := hps.atb hp
  subst hpa
  obtain ⟨hb0, ho0, hvf, hvs⟩ := slR_hv hu
  have HVS := Lib.hid hvs
  obtain ⟨i0, hi, hz0, hz1, hz2⟩ := infoS_parts
  obtain ⟨ni, hni⟩ : ∃ z : Nat, z = (prgK n k).ins.toNat := ⟨_, rfl⟩
  rw [show (prgK n k).ins = (ni : Int) by rw [hni]; omega] at k0
  have hni3 : ni ≤ 3 := by omega
  have HIN := Lib.hid (show inpL n h k = (List.range ni).map fun j => h.getD (ixT n k j) [] by unfold inpL; rw [← hni])
  have HIX := Lib.hid (show ∀ j, j < ni → ixT n k j < h.length ∧ atE Lnk.tgt n.links ((k : Int), (j : Int)) = (ixT n k j : Int) from fun j hj => by
    obtain ⟨a, b, c, d⟩ := ix_at g.ok hp (show (j : Int) < (prgK n k).ins by omega)
    exact ⟨by rw [g.len]; exact b, d⟩)
  obtain ⟨kx, hkx⟩ := ks.shape
  obtain ⟨kc, hkc⟩ := hkx
  subst hkc
  obtain ⟨pl, hpl⟩ : ∃ z, z = n.progs.length := ⟨_, rfl⟩
  obtain ⟨ll, hll⟩ : ∃ z, z = n.links.length := ⟨_, rfl⟩
  obtain ⟨hl, hhl⟩ : ∃ z, z = h.length := ⟨_, rfl⟩
  rw [← hpl] at hk LP CT ⊢
  rw [← hll] at CT ⊢
  rw [← hhl] at LH HU HIX ⊢
  have NH := Lib.hid hhl
  clear hp hoP hP hps hls hu hvs hni g hpl hll ks k1 k2 hhl
  have h0 := Lib.hid (hp1 w (.cells #[.slice (some ⟨gb, go, none⟩) pl pcap, .slice la ll lcap] 34))
  have hb := Lib.hid ((Below.refl w.heap.size w).al (.cells #[.slice (some ⟨gb, go, none⟩) pl pcap, .slice la ll lcap] 34))
  go_enter Try.func77, Try.ntmps77
  go_wp2_with fail
  have HQ1 := Lib.hid (al_keep (o := (.cells #[] 46)) h0.out)
  have HQ2 := Lib.hid (hb.out.al (.cells #[] 46))
  have HQ3 := Lib.hid (show ((w.alloc (.cells #[.slice (some ⟨gb, go, none⟩) pl pcap, .slice la ll lcap] 34)).alloc (.cells #[] 46)).ownsRow (w.heap.size + 1) 46 1 (.slice (some ⟨w.heap.size + 1, 0, none⟩) 0 0) 0 (inpV hvf (ixT n k) 0) from ⟨rfl, .inr ⟨w.heap.size + 1, 0, #[], rfl, Nat.le_refl _, hp2 w _ _, Nat.le_refl _, Nat.zero_le _, rfl, rfl⟩⟩)
  have HQ4 : w.heap.size + 1 ≤ ((w.alloc (.cells #[.slice (some ⟨gb, go, none⟩) pl pcap, .slice la ll lcap] 34)).alloc (.cells #[] 46)).heap.size := by simp
  generalize ((w.alloc (.cells #[.slice (some ⟨gb, go, none⟩) pl pcap, .slice la ll lcap] 34)).alloc (.cells #[] 46)) = w1 at HQ1 HQ2 HQ3 HQ4 ⊢
  go_loopw [7, 8] (fun o i wr => ∃ j : Nat, j ≤ ni ∧ i = .int .i64 j ∧ Hid (wr.ownsRow (w.heap.size + 1) 46 1 o j (inpV hvf (ixT n k) j)) ∧ Hid (wr.heap[w.heap.size]? = some (.cells #[.slice (some ⟨gb, go, none⟩) pl pcap, .slice la ll lcap] 34)) ∧ Hid (Below w.heap.size w wr) ∧ Hid (w.heap.size + 1 ≤ wr.heap.size)) (fun _ i _ => ni - (intOf i).toNat)
  case atStart => exact ⟨0, Nat.zero_le _, rfl, HQ3, HQ1, HQ2, Lib.hid HQ4⟩
  case round =>
    clear HQ1 HQ2 HQ3 HQ4 h0 hb
    obtain ⟨j, hj, rfl, HO, H0, HB, HS⟩ := hrel
    have c0 := (HB.out.cell (p := ⟨gb, go + k * 3, none⟩) hgb).trans k0
    have gl := Nat.lt_of_lt_of_le hgb HB.out.size
    obtain ⟨b0, b1⟩ := cells2 H0.out
    have bl := lt_of H0.out
    by_cases hlt : j < ni
    case pos =>
      obtain ⟨xl, xe⟩ := HIX.out j hlt
      obtain ⟨y, hy⟩ : ∃ y, h[ixT n k j]? = some y := ⟨_, List.getElem?_eq_getElem (by rw [← NH.out]; exact xl)⟩
      obtain ⟨hha, hhb, hc0, hs0⟩ := HVS.out _ y hy
      subst hha
      have CL := Lib.hid (CT.out wr j HB.out)
      rw [xe] at CL
      obtain ⟨xn, hxn⟩ : ∃ z, z = ixT n k j := ⟨_, rfl⟩
      have HST := Lib.hid (inpV_step hvf (ixT n k) j)
      rw [← hxn] at CL xl hc0 HST
      obtain ⟨ya, yc, hye⟩ := hs0.shape
      rw [← hxn] at hye
      rw [hye] at hc0 HST
      clear hs0 hy xe hxn
      go_wp2_with (first | (go_at_call 78; with_reducible refine CL.out.mono ?_; rintro e w2 ⟨rfl, hb2⟩; have HB2 := Lib.hid hb2; have HW2 := Lib.hid (HB.out.trans (hb2.mono HB.out.size)); have g0 := (HW2.out.cell (p := ⟨hb0, ho0 + xn, none⟩) hhb).trans hc0; have g1 := Nat.lt_of_lt_of_le hhb HW2.out.size; clear hb2) | (at_builtin; (refine wpList_append_own_at _ rfl _ _ 26 rfl (w.heap.size + 1) 46 i0 (.slice none 0 0) 1 24 Try.underlying26 hi hz0 hz1 hz2 rfl (by decide) _ _ _ rfl (World.ownsRow.alloc (rowT_below HO.out HB2.out) _) ⟨w2.heap.size, 0, none⟩ 1 1 [.slice ya y.length yc] rfl rfl (lit_s _ _) ?c1 ?c3 ?c4 ?c5 ?_)))
      case c1 => intro u hu; simp at hu; subst hu; rfl
      case c3 => unfold maxLen; omega
      case c4 => omega
      case c5 => have := HS.out; have := HB2.out.size; simp; omega
      intro o' w3 hown hgrow _ hat
      have HO3 := Lib.hid (show w3.ownsRow (w.heap.size + 1) 46 1 o' (j + 1) (inpV hvf (ixT n k) (j + 1)) by rw [HST.out]; exact hown)
      have HB3 := Lib.hid ((HW2.out.al (.cells #[.slice ya y.length yc] 46)).grown hgrow (by have := HW2.out.size; simp; omega) (fun q e => by have := (HO.out.lt q e).1; omega))
      have H3 := Lib.hid (grown_at (rowT_below HO.out HB2.out) hgrow (blk_in H0.out HB2.out) (by omega))
      have S3 := Lib.hid (show w.heap.size + 1 ≤ w3.heap.size by have := hgrow.size; have := HB2.out.size; have := HS.out; simp at *; omega)
      clear hown hgrow hat
      go_wp2_with fail
      go_roundw
      case rel => exact ⟨j + 1, by omega, by go_num, HO3, H3, HB3, S3⟩
      case measure => simp [intOf]; omega
    case neg =>
      obtain rfl : j = ni := by omega
      go_wp2_with fail
      go_ret
      refine ⟨_, rfl, ?_, HB.out⟩
      rw [HIN.out]
      refine rows_slR HO.out (by simp) (fun q y x hy hx => ?_)
      obtain ⟨q1, rfl⟩ := inpV_at hy
      rw [List.getElem?_map, List.getElem?_range q1] at hx
      obtain rfl := Option.some.inj hx
      have q2 := (HIX.out q q1).1
      have hq : h[ixT n k q]? = some h[ixT n k q] := List.getElem?_eq_getElem (by rw [← NH.out]; exact q2)
      obtain ⟨_, _, _, hs0⟩ := HVS.out _ _ hq
      show Sl wr (hvf (ixT n k q)) (h.getD (ixT n k q) [])
      rw [getD_some hq]
      exact hs0.below HB.out

theorem run_app_sl {lo : Nat} {w : World} {v u : Value} {xs ys : List Int} (hv : Own lo w v xs) (hu : Sl w u ys) (hl : xs.length + ys.length ≤ 100000) (hlo : lo ≤ w.heap.size) :
    ∃ v' w', (Builtin.append_ #[46, 46] 46 #[v, u]).run Try.prog w = .ok v' w' ∧ Own lo w' v' (xs ++ ys) ∧ w.grownBy w' v.ownBlock ∧ (v'.ownBlock = v.ownBlock ∨ v'.ownBlock = some w.heap.size) := by
  obtain ⟨i0, hi, hz0, hz1, hz2⟩ := info_parts info
  obtain ⟨a, cap, rfl, _, _, hn, hr⟩ := hu
  cases a with
  | none =>
    have hys : ys = [] := by
      rcases hr with h | ⟨b, off, h, _⟩
      · exact h
      · cases h
    have hc := hn rfl
    subst hys hc
    refine ⟨v, w, ?_, by rw [List.append_nil]; exact hv, World.grownBy.refl w _, .inl rfl⟩
    rcases hv.2 with ⟨rfl, _⟩ | ⟨g, cap, cur, rfl, _, _, hnc, _⟩
    · simp [Builtin.append_, run_underlying Try.underlying46, sizeOf, typeInfo, hi, Builtin.lenOf, Builtin.firstCells]
    · simp [Builtin.append_, run_underlying Try.underlying46, sizeOf, typeInfo, hi, Builtin.lenOf, Builtin.firstCells, hnc, storeCells]
  | some ad =>
    have hcells : ∀ j y, (vals ys)[j]? = some y → w.cell? (ad.add j) = some y := by
      intro j y hy
      rcases hr with h | ⟨b, off, h, _, hc⟩
      · subst h; simp [vals] at hy
      · obtain rfl := Option.some.inj h
        have hj : j < ys.length := by have := (List.getElem?_eq_some_iff.1 hy).1; rwa [vals_len] at this
        rw [Addr.add_lit, hc j hj]
        unfold vals at hy
        rw [List.getElem?_map] at hy
        obtain ⟨z, hz, rfl⟩ := Option.map_eq_some_iff.1 hy
        rw [List.getD_eq_getElem?_getD, hz]; rfl
    obtain ⟨v', w', hrun, h2, h3, _, h5⟩ := run_append_own_at (P := Try.prog) w lo 46 46 3 i0 (.int .i64 0) 1 8 Try.underlying46 hi hz0 hz1 hz2 rfl (by decide) v xs.length (vals xs) hv ad ys.length cap (vals ys) (by rw [vals_len, Nat.mul_one]) hcells (vals_one ys) (by unfold maxLen; omega) (by omega) hlo
    refine ⟨v', w', hrun, ?_, h3, h5⟩
    unfold Own
    rw [List.length_append, show vals (xs ++ ys) = vals xs ++ vals ys by simp [vals]]
    exact h2
theorem step_app_sl {ops : Array Oper} {o : Oper} {a : Go.Act} {w : World} {K : Go.Act → World → Prop} {Q : Exit → Go.Act → World → Prop} {E : Prop} (hg : o.guard = none) (s x : Operand)
    (hop : o.op = Op.call { callee := Callee.builtin Builtin.append, args := #[s, x], argTypes := #[46, 46] }) (hty : o.type = 46) {lo : Nat} {v u : Value} {xs ys : List Int} (hs : a.eval s = v) (hx : a.eval x = u)
    (hv : Own lo w v xs) (hu : Sl w u ys) (hl : xs.length + ys.length ≤ 100000) (hlo : lo ≤ w.heap.size)
    (h : ∀ v' w', Own lo w' v' (xs ++ ys) → w.grownBy w' v.ownBlock → (v'.ownBlock = v.ownBlock ∨ v'.ownBlock = some w.heap.size) → K (a.put o.dst v') w') :
    if Region.wanted o (yielded ops a.tmps) = true then Oper.wp Try.prog o a w K Q else E := by
  have hw : Region.wanted o (yielded ops a.tmps) = true := by simp [Region.wanted, hg]
  rw [if_pos hw]
  obtain ⟨v', w', hrun, h2, h3, h4⟩ := run_app_sl hv hu hl hlo
  unfold Oper.wp execOp
  simp only [hop, hty, resolve, invoke, builtin, Sem.run_bind, Sem.run_pure, Result.andThen_ok, List.map_toArray, List.map_cons, List.map_nil, hs, hx, hrun]
  exact h v' w' h2 h3 h4

theorem own_far {lo g T : Nat} {w w' : World} {v : Value} {xs : List Int} {cs : Array Value} (h : Own lo w v xs) (hg : w.heap[g]? = some (.cells cs T)) (h2 : T ≠ 3) (hb : ∀ k, k < w.heap.size → k ≠ g → w'.heap[k]? = w.heap[k]?) : Own lo w' v xs := by
  refine ⟨h.1, ?_⟩
  rcases h.2 with hn | ⟨q, cap, cur, rfl, hbb, hq, rest⟩
  · exact .inl hn
  · refine .inr ⟨q, cap, cur, rfl, hbb, ?_, rest⟩
    rw [hb q (lt_of hq) (fun e => by subst e; rw [hq] at hg; simp at hg; exact h2 hg.2.symm)]
    exact hq
/-- What a growth of a row of another type leaves of a row of ints. -/
theorem own_grown {lo lo2 T m : Nat} {w w' : World} {v o : Value} {xs : List Int} {L : List Value} {A : Obj} (h : Own lo w v xs) (hr : w.ownsRow lo2 T 1 o m L) (hT : T ≠ 3) (hg : (w.alloc A).grownBy w' o.ownBlock) : Own lo w' v xs := by
  have h1 := h.below ((Below.refl w.heap.size w).al A)
  rcases hr.2 with ⟨rfl, _⟩ | ⟨r, cap, cur, rfl, hbb, hq, rest⟩
  · refine ⟨h1.1, ?_⟩
    rcases h1.2 with hn | ⟨q, cap, cur, rfl, hb, hq, rest⟩
    · exact .inl hn
    · exact .inr ⟨q, cap, cur, rfl, hb, by rw [hg.block q (lt_of hq) (by simp [Value.ownBlock])]; exact hq, rest⟩
  · exact own_far h1 (blk_in hq ((Below.refl w.heap.size w).al A)) hT (fun k hk hne => hg.block k hk (by simp only [Value.ownBlock, ne_eq, Option.some.injEq]; exact hne))
/-- Streams that have been made so far, in a slice that grows. -/
def GrowR (lo k : Nat) (w : World) (o : Value) (xss : List (List Int)) : Prop := ∃ us, w.ownsRow lo 46 1 o k us ∧ Fam lo w us (xss.take k)
theorem GrowR.shape {lo k : Nat} {w : World} {o : Value} {xss : List (List Int)} (h : GrowR lo k w o xss) : ∃ a c, o = .slice a k c := by
  obtain ⟨us, h1, _⟩ := h
  rcases h1.2 with ⟨rfl, rfl⟩ | ⟨g, cap, cur, rfl, _⟩
  · exact ⟨_, _, rfl⟩
  · exact ⟨_, _, rfl⟩
theorem GrowR.below {lo k : Nat} {w w' : World} {o : Value} {xss : List (List Int)} (h : GrowR lo k w o xss) (hb : Below w.heap.size w w') : GrowR lo k w' o xss := by
  obtain ⟨us, h1, h2⟩ := h
  exact ⟨us, rowT_below h1 hb, h2.below hb⟩
theorem GrowR.step {lo k b : Nat} {w3 w4 : World} {o o' x : Value} {xss : List (List Int)} {row : List Int} {us : List Value} (h1 : w3.ownsRow lo 46 1 o k us) (hF : Fam lo w3 us (xss.take k)) (hx : Own b w3 x row) (hb : ∀ u q, u ∈ us → u.ownBlock = some q → q < b) (hlo : lo ≤ b) (hrow : xss[k]? = some row)
    (hown : w4.ownsRow lo 46 1 o' (k + 1) (us ++ [x])) (hg : (w3.alloc (.cells #[x] 46)).grownBy w4 o.ownBlock) : GrowR lo (k + 1) w4 o' xss := by
  have hq := (List.getElem?_eq_some_iff.1 hrow)
  have e : xss.take (k + 1) = xss.take k ++ [row] := by rw [List.take_succ_eq_append_getElem hq.1, hq.2]
  refine ⟨us ++ [x], hown, ?_⟩
  rw [e]
  refine hF.snoc (fun u ys q => own_grown q h1 (by decide) hg) (own_grown (hx.mono hlo) h1 (by decide) hg) (fun u ys q hu => ?_)
  cases q1 : u.ownBlock with
  | none => exact .inl q1
  | some c =>
    right
    rw [q1]
    intro q2
    have := hb u c hu q1
    have := (hx.lt c q2.symm).1
    omega
theorem GrowR.rows {lo ll : Nat} {w : World} {o : Value} {xss : List (List Int)} (h : GrowR lo ll w o xss) (hx : xss.length = ll) : RowsH lo w.heap.size w o xss := by
  obtain ⟨us, h1, h3⟩ := h
  rw [List.take_of_length_le (by omega)] at h3
  have hF := h3.snoc (w1 := w) (x := .slice none 0 0) (xs := []) (fun u ys q => q) ⟨rfl, .inl ⟨rfl, rfl⟩⟩ (fun u ys q _ => by
      cases q1 : u.ownBlock with
      | none => exact .inl q1
      | some c => right; rw [q1]; simp [Value.ownBlock])
  refine ⟨us, ?_, hF, fam_hi hF⟩
  have hl := h1.1
  rw [Nat.mul_one] at hl
  rcases h1.2 with ⟨rfl, h0⟩ | ⟨g, cap, cur, rfl, hbb, hg, h2, h4, h5, h6⟩
  · exact .inl ⟨rfl, List.length_eq_zero_iff.1 (by omega)⟩
  · exact .inr ⟨g, cap, cur, by rw [hl], hbb, lt_of hg, by omega, h4, hg, by rw [hl]; rw [Nat.mul_one] at h6; exact h6⟩
/-- What the first k processes wrote. -/
def WroteR (lo k : Nat) (w : World) (o : Value) (n : Net) (h : List (List Int)) : Prop := ∃ L : List Value, w.ownsRow lo 26 1 o k L ∧ ∀ q y, L[q]? = some y → ∃ uv, OutM lo w y uv (outsL n h q) (runL n h q).1.used
theorem WroteR.below {lo k : Nat} {w w' : World} {o : Value} {n : Net} {h : List (List Int)} (hs : WroteR lo k w o n h) (hb : Below w.heap.size w w') : WroteR lo k w' o n h := by
  obtain ⟨L, h1, h2⟩ := hs
  refine ⟨L, rowT_below h1 hb, fun q y hy => ?_⟩
  obtain ⟨uv, h3⟩ := h2 q y hy
  exact ⟨uv, h3.below hb⟩
theorem WroteR.shape {lo k : Nat} {w : World} {o : Value} {n : Net} {h : List (List Int)} (hs : WroteR lo k w o n h) : ∃ a c, o = .slice a k c := by
  obtain ⟨us, h1, _⟩ := hs
  rcases h1.2 with ⟨rfl, rfl⟩ | ⟨g, cap, cur, rfl, _⟩
  · exact ⟨_, _, rfl⟩
  · exact ⟨_, _, rfl⟩
theorem outM_mono {lo lo' : Nat} {w : World} {v u : Value} {outs : List (List Int)} {used : List Int} (h : OutM lo w v u outs used) (hl : lo' ≤ lo) : OutM lo' w v u outs used := by
  obtain ⟨us, B, cap, cur, h1, h2, h3, h4, h5, h6, h7⟩ := h
  exact ⟨us, B, cap, cur, h1, by omega, h3, h4, h5, h6, h7.mono hl⟩
theorem outM_grown {lo lo2 T m : Nat} {w w' : World} {v u o : Value} {outs : List (List Int)} {used : List Int} {L : List Value} {A : Obj} (h : OutM lo w v u outs used) (hr : w.ownsRow lo2 T 1 o m L) (hT : T ≠ 3) (hT2 : T ≠ 46) (hg : (w.alloc A).grownBy w' o.ownBlock) : OutM lo w' v u outs used := by
  obtain ⟨us, B, cap, cur, h1, h2, h3, h4, h5, h6, h7⟩ := h
  refine ⟨us, B, cap, cur, h1, h2, h3, h4, ?_, h6, h7.len, fun i u xs q1 q2 => own_grown (h7.own i u xs q1 q2) hr hT hg, h7.apart⟩
  have b1 := blk_in h5 ((Below.refl w.heap.size w).al A)
  rw [hg.block B (lt_of b1) ?_]
  · exact b1
  · intro e
    rcases hr.2 with ⟨rfl, _⟩ | ⟨r, _, _, rfl, _, hq, _⟩
    · simp [Value.ownBlock] at e
    · simp only [Value.ownBlock, Option.some.injEq] at e
      subst e
      rw [h5] at hq
      simp at hq
      exact hT2 hq.2.symm
theorem WroteR.step {lo k : Nat} {w3 w4 : World} {o o' y uv : Value} {n : Net} {h : List (List Int)} {L : List Value} (h1 : w3.ownsRow lo 26 1 o k L) (h2 : ∀ q y, L[q]? = some y → ∃ uv, OutM lo w3 y uv (outsL n h q) (runL n h q).1.used) (hy : OutM lo w3 y uv (outsL n h k) (runL n h k).1.used)
    (hown : w4.ownsRow lo 26 1 o' (k + 1) (L ++ [y])) (hg : (w3.alloc (.cells #[y] 26)).grownBy w4 o.ownBlock) : WroteR lo (k + 1) w4 o' n h := by
  have hl := h1.1
  refine ⟨L ++ [y], hown, fun q z hz => ?_⟩
  rcases Nat.lt_trichotomy q k with e | e | e
  · rw [List.getElem?_append_left (by omega)] at hz
    obtain ⟨uz, h3⟩ := h2 q z hz
    exact ⟨uz, outM_grown h3 h1 (by decide) (by decide) hg⟩
  · rw [List.getElem?_append_right (by omega), show q - L.length = 0 by omega] at hz
    obtain rfl := Option.some.inj hz
    subst e
    exact ⟨uv, outM_grown hy h1 (by decide) (by decide) hg⟩
  · rw [List.getElem?_eq_none (by simp; omega)] at hz
    cases hz
theorem WroteR.at {lo m k o : Nat} {w : World} {x : Value} {n : Net} {h : List (List Int)} {row : List Int} (hs : WroteR lo m w x n h) (hk : k < m) (hrow : (outsL n h k)[o]? = some row) :
    ∃ b c B cap y l, x = .slice (some ⟨b, 0, none⟩) m c ∧ b < w.heap.size ∧ w.cell? ⟨b, k, none⟩ = some (.slice (some ⟨B, 0, none⟩) l cap) ∧ l = (outsL n h k).length ∧ B < w.heap.size ∧ w.cell? ⟨B, o, none⟩ = some y ∧ Own lo w y row := by
  obtain ⟨L, h1, h2⟩ := hs
  have hl := h1.1
  obtain ⟨y, hy⟩ : ∃ y, L[k]? = some y := ⟨_, List.getElem?_eq_getElem (by omega)⟩
  obtain ⟨uv, us, B, cap, cur, rfl, k1, k2, k3, k4, k5, k6⟩ := h2 k y hy
  have hlen := k6.len
  simp only [List.length_append, List.length_cons, List.length_nil] at hlen
  have hol := (List.getElem?_eq_some_iff.1 hrow).1
  obtain ⟨z, hz⟩ : ∃ z, us[o]? = some z := ⟨_, List.getElem?_eq_getElem (by omega)⟩
  have hO := k6.own o z row (by rw [List.getElem?_append_left (by omega)]; exact hz) (by rw [List.getElem?_append_left (by omega)]; exact hrow)
  rcases h1.2 with ⟨_, h0⟩ | ⟨g, cap2, cur2, rfl, _, hg, _, _, _, ht⟩
  · omega
  · refine ⟨g, cap2, B, cap, z, us.length, rfl, lt_of hg, ?_, by omega, lt_of k4, ?_, hO⟩
    · rw [cell_of hg]
      rw [← ht, List.getElem?_take, if_pos (by omega), Array.getElem?_toList] at hy
      rw [← hy]
    · rw [cell_of k4]
      rw [← k5, List.getElem?_take, if_pos (by omega), Array.getElem?_toList] at hz
      rw [← hz]
theorem infoG : (Try.prog.info? 26).map (fun i => (i.zero, i.size, i.bytes)) = some (some (.slice none 0 0), 1, 24) := by kernel_rfl
theorem infoG_parts : ∃ i0, Try.prog.info? 26 = some i0 ∧ i0.zero = some (.slice none 0 0) ∧ i0.size = 1 ∧ i0.bytes = 24 := by
  have h := infoG
  cases e : Try.prog.info? 26 with
  | none => rw [e] at h; cases h
  | some i =>
    rw [e] at h
    simp only [Option.map_some, Option.some.injEq, Prod.mk.injEq] at h
    exact ⟨i, rfl, h.1, h.2.1, h.2.2⟩
theorem lit_g (w : World) (y : Value) : ∀ j u, [y][j]? = some u → (w.alloc (.cells #[y] 26)).cell? ((⟨w.heap.size, 0, none⟩ : Addr).add j) = some u := by
  intro j u hj
  rw [Addr.add_lit, Nat.zero_add, cell_of (hp1 w _)]
  rw [← Array.getElem?_toList]; exact hj

set_option maxRecDepth 100000 in
set_option maxHeartbeats 16000000 in
theorem sround_any (v u : Value) (n : Net) (h : List (List Int)) (w : World) (hv : NetV w v n) (hu : SlR w u h) (g : GoodH n h) :
    Calls Try.prog 60 #[v, u] w fun e w' => ∃ r, e = .returned (.tuple #[r, .bool (okR n h)]) ∧ RowsH w.heap.size w'.heap.size w' r (madeR n h) ∧ Below w.heap.size w w' := by
  obtain ⟨pv, lv, rfl, hps, hls⟩ := hv
  have HV := Lib.hid (show NetV w (.agg #[pv, lv]) n from ⟨pv, lv, rfl, hps, hls⟩)
  have HU := Lib.hid hu
  have HP := Lib.hid hps
  have HL := Lib.hid hls
  have LP := hps.len
  have LL := hls.len
  obtain ⟨pa, pcap, rfl⟩ := hps.shape
  obtain ⟨la, lcap, rfl⟩ := hls.shape
  obtain ⟨ig, hg, gz0, gz1, gz2⟩ := infoG_parts
  obtain ⟨is, hs, sz0, sz1, sz2⟩ := infoS_parts
  have G := Lib.hid g
  obtain ⟨m, hm⟩ : ∃ z, z = n.progs.length := ⟨_, rfl⟩
  obtain ⟨ll, hll⟩ : ∃ z, z = n.links.length := ⟨_, rfl⟩
  have NP := Lib.hid hm
  have NL := Lib.hid hll
  have hm30 : m ≤ 30 := by rw [hm]; have := okN_len g.ok; omega
  have hl30 : ll ≤ 30 := by rw [hll]; have := okN_len g.ok; omega
  have OKR := Lib.hid (show okR n h = (upN (settL n h) m && n.links.all fun l => isS (madeL n h l)) by unfold okR; rw [hm])
  rw [← hm] at HV HP LP
  rw [← hll] at HV HL LL
  rw [← hm, ← hll]
  obtain ⟨ok, hok⟩ : ∃ z, z = okR n h := ⟨_, rfl⟩
  rw [← hok] at OKR
  have HMR := Lib.hid (show madeR n h = if ok then roundL n h else [] by rw [hok]; rfl)
  rw [HMR.out, ← hok]
  clear hps hls hu g hm hll hok HMR
  have h0 := Lib.hid (al_keep (o := (.cells #[] 26)) (hp1 w (.cells #[.slice pa m pcap, .slice la ll lcap] 34)))
  have hb0 := Lib.hid (((Below.refl w.heap.size w).al (.cells #[.slice pa m pcap, .slice la ll lcap] 34)).al (.cells #[] 26))
  have hw0 := Lib.hid (show WroteR (w.heap.size + 1) 0 ((w.alloc (.cells #[.slice pa m pcap, .slice la ll lcap] 34)).alloc (.cells #[] 26)) (.slice (some ⟨w.heap.size + 1, 0, none⟩) 0 0) n h from ⟨[], ⟨rfl, .inr ⟨w.heap.size + 1, 0, #[], rfl, Nat.le_refl _, hp2 w _ _, Nat.le_refl _, Nat.zero_le _, rfl, rfl⟩⟩, fun q y hy => by simp at hy⟩)
  have hs0 : w.heap.size + 1 ≤ ((w.alloc (.cells #[.slice pa m pcap, .slice la ll lcap] 34)).alloc (.cells #[] 26)).heap.size := by simp
  go_enter Try.func60, Try.ntmps60
  go_wp2_with fail
  generalize ((w.alloc (.cells #[.slice pa m pcap, .slice la ll lcap] 34)).alloc (.cells #[] 26)) = w1 at h0 hb0 hw0 hs0 ⊢
  go_loopw [6, 21] (fun o i wr => ∃ k : Nat, k ≤ m ∧ i = .int .i64 k ∧ Hid (WroteR (w.heap.size + 1) k wr o n h) ∧ Hid (upN (settL n h) k = true) ∧ Hid (wr.heap[w.heap.size]? = some (.cells #[.slice pa m pcap, .slice la ll lcap] 34)) ∧ Hid (Below w.heap.size w wr) ∧ Hid (w.heap.size + 1 ≤ wr.heap.size)) (fun _ i _ => m - (intOf i).toNat)
  case atStart => exact ⟨0, Nat.zero_le _, rfl, hw0, Lib.hid rfl, h0, hb0, Lib.hid hs0⟩
  case round =>
    clear h0 hb0 hw0 hs0
    obtain ⟨k, hk, rfl, HO, HUP, H0, HB, HS⟩ := hrel
    by_cases hlt : k < m
    case pos =>
      obtain ⟨hp, hoP⟩ := G.out.prg (show k < n.progs.length by rw [← NP.out]; exact hlt)
      have heta := prg_eta hoP
      have hP := (okP_parts hoP).1
      obtain ⟨gb, go, c, hpa, hgb, k0, k1, k2, ks⟩ := (HP.out.below HB.out).atb hp
      subst hpa
      obtain ⟨ni, hni⟩ : ∃ z : Nat, z = (prgK n k).ins.toNat := ⟨_, rfl⟩
      obtain ⟨no, hno⟩ : ∃ z : Nat, z = (prgK n k).outs.toNat := ⟨_, rfl⟩
      obtain ⟨code, hcode⟩ : ∃ z, z = (prgK n k).code := ⟨_, rfl⟩
      rw [show (prgK n k).ins = (ni : Int) by rw [hni]; omega] at k0
      rw [show (prgK n k).outs = (no : Int) by rw [hno]; omega] at k1
      have HEQ := Lib.hid (show prgK n k = ⟨(ni : Int), (no : Int), code⟩ by rw [hni, hno, hcode]; exact heta)
      have HOP := Lib.hid (show okP ⟨(ni : Int), (no : Int), code⟩ = true by rw [← HEQ.out]; exact hoP)
      have HAS := Lib.hid (show areS (inpL n h k) (ni : Int) = true by rw [hni]; exact G.out.areS k)
      have HRL := Lib.hid (show runL n h k = runS code (inpL n h k) 3000 (startS ni no) by unfold runL; rw [← hcode, ← hni, ← hno])
      rw [← hcode] at ks
      obtain ⟨ua, uc, rfl⟩ := ks.shape
      have KS := Lib.hid ks
      have CI := Lib.hid (fun (W : World) (hw : Below w.heap.size w W) => sinp_any (.agg #[.slice (some ⟨gb, go, none⟩) m pcap, .slice la ll lcap]) u n h k W (HV.out.below hw) (HU.out.below hw) G.out (show k < n.progs.length by rw [← NP.out]; exact hlt))
      have CK := Lib.hid (fun (W : World) (iv : Value) (hw : Below wr.heap.size wr W) (hiv : SlR W iv (inpL n h k)) => srunl_good (.agg #[.int .i64 (ni : Int), .int .i64 (no : Int), .slice ua code.length uc]) iv ni no code (inpL n h k) 3000 W ⟨_, rfl, KS.out.below hw⟩ hiv HOP.out HAS.out (Nat.le_refl _))
      rw [← HRL.out, show ((3000 : Nat) : Int) = 3000 from rfl] at CK
      obtain ⟨pt, hpt⟩ : ∃ z, z = portR code (runL n h k) := ⟨_, rfl⟩
      rw [← hpt] at CK
      have hwy := why_in (code := code) (inp := inpL n h k) 3000 (startS ni no)
      rw [← HRL.out] at hwy
      have HSE := Lib.hid (show settL n h k = decide ((runL n h k).2 = 0 ∨ (runL n h k).2 = 2) from rfl)
      obtain ⟨wy, hwye⟩ : ∃ z, z = (runL n h k).2 := ⟨_, rfl⟩
      rw [← hwye] at hwy HSE CK
      obtain ⟨ul, hul⟩ : ∃ z, z = code.length := ⟨_, rfl⟩
      rw [← hul] at k2 CK
      have HCK : Hid (∀ (W : World) (iv : Value), Below wr.heap.size wr W → SlR W iv (inpL n h k) → Calls Try.prog 76 #[.agg #[.int .i64 (ni : Int), .int .i64 (no : Int), .slice ua ul uc], iv, .int .i64 3000] W fun e w' => ∃ ov uv, e = .returned (.tuple #[ov, uv, .int .i64 wy, .int .i64 pt]) ∧ OutM W.heap.size w' ov uv (outsL n h k) (runL n h k).1.used ∧ Below W.heap.size W w') := CK
      clear CK hp hoP heta hP hni hno hcode hpt hwye hul ks
      have HBW := Lib.hid ((Below.refl wr.heap.size wr).al (.cells #[.int .i64 (ni : Int), .int .i64 (no : Int), .slice ua ul uc] 86))
      have HNW := Lib.hid (hp1 wr (.cells #[.int .i64 (ni : Int), .int .i64 (no : Int), .slice ua ul uc] 86))
      obtain ⟨n0, n1⟩ := cells2 (blk_in H0.out HBW.out)
      obtain ⟨f0, f1, f2⟩ := cells3 HNW.out
      go_upto_region 5 with fail
      generalize (wr.alloc (.cells #[.int .i64 (ni : Int), .int .i64 (no : Int), .slice ua ul uc] 86)) = wb at HBW HNW n0 n1 f0 f1 f2 ⊢
      have CI1 := Lib.hid (show Calls Try.prog 77 #[.agg #[.slice (some ⟨gb, go, none⟩) m pcap, .slice la ll lcap], u, .int .i64 (k : Int)] wb.drew fun e w' => ∃ iv, e = .returned iv ∧ SlR w' iv (inpL n h k) ∧ Below wr.heap.size wr w' ∧ w'.heap[wr.heap.size]? = some (.cells #[.int .i64 (ni : Int), .int .i64 (no : Int), .slice ua ul uc] 86) from by
        refine (CI.out wb.drew (HB.out.trans (HBW.out.mono HB.out.size)).drew).mono ?_
        rintro e w3 ⟨iv, rfl, hiv, hb3⟩
        exact ⟨iv, rfl, hiv, HBW.out.trans ((show Below wb.heap.size wb w3 from (below_drewN wb 1).trans hb3).mono HBW.out.size), blk_in (show wb.drew.heap[wr.heap.size]? = _ from HNW.out) hb3⟩)
      have CK1 := Lib.hid (show ∀ (W : World) (iv : Value), Below wr.heap.size wr W → W.heap[wr.heap.size]? = some (.cells #[.int .i64 (ni : Int), .int .i64 (no : Int), .slice ua ul uc] 86) → SlR W iv (inpL n h k) → Calls Try.prog 76 #[.agg #[.int .i64 (ni : Int), .int .i64 (no : Int), .slice ua ul uc], iv, .int .i64 3000] W fun e w' => ∃ ov uv, e = .returned (.tuple #[ov, uv, .int .i64 wy, .int .i64 pt]) ∧ OutM wr.heap.size w' ov uv (outsL n h k) (runL n h k).1.used ∧ Below wr.heap.size wr w' ∧ w'.heap[wr.heap.size]? = some (.cells #[.int .i64 (ni : Int), .int .i64 (no : Int), .slice ua ul uc] 86) from by
        intro W iv h1 h2 h3
        refine (HCK.out W iv h1 h3).mono ?_
        rintro e w4 ⟨ov, uv, rfl, ho, hb4⟩
        exact ⟨ov, uv, rfl, outM_mono ho h1.size, h1.trans (hb4.mono h1.size), blk_in h2 hb4⟩)
      clear CI HCK
      go_region_held3 (fun w' => w'.cell? ⟨wr.heap.size, 0, none⟩ = some (.int .i64 (ni : Int)) ∧ w'.cell? ⟨wr.heap.size, 1, none⟩ = some (.int .i64 (no : Int)) ∧ w'.cell? ⟨wr.heap.size, 2, none⟩ = some (.slice ua ul uc) ∧ w'.cell? ⟨w.heap.size, 0, none⟩ = some (.slice (some ⟨gb, go, none⟩) m pcap) ∧ w'.cell? ⟨w.heap.size, 1, none⟩ = some (.slice la ll lcap)) (go_keep) (first | (go_at_call 77; refine CI1.out.mono ?_; rintro e w3 ⟨iv, rfl, hiv, hb3, hn3⟩; have HIV := Lib.hid hiv; have HB3 := Lib.hid hb3; have HN3 := Lib.hid hn3; obtain ⟨p0, p1⟩ := cells2 (blk_in H0.out hb3); obtain ⟨q0, q1, q2⟩ := cells3 hn3; clear hb3 hiv hn3) | (go_at_call 76; refine (CK1.out _ _ HB3.out HN3.out HIV.out).mono ?_; rintro e w4 ⟨ov, uv, rfl, ho, hb4, hn4⟩; have HOM := Lib.hid ho; have HB4 := Lib.hid hb4; obtain ⟨r0, r1⟩ := cells2 (blk_in H0.out hb4); obtain ⟨s0, s1, s2⟩ := cells3 hn4; clear hb4 ho hn4))
      obtain ⟨ous, oB, oc, ocur, hov, _⟩ := HOM.out
      subst hov
      obtain ⟨ol, hol⟩ : ∃ z, z = ous.length := ⟨_, rfl⟩
      rw [← hol] at HOM ⊢
      clear hol
      obtain ⟨L, hL1, hL2⟩ := HO.out
      have HR := Lib.hid (rowT_below hL1 HB4.out)
      have HLL := Lib.hid (show ∀ q y, L[q]? = some y → ∃ uv, OutM (w.heap.size + 1) w4 y uv (outsL n h q) (runL n h q).1.used from fun q y hy => by obtain ⟨uz, z1⟩ := hL2 q y hy; exact ⟨uz, z1.below HB4.out⟩)
      have H4 := Lib.hid (blk_in H0.out HB4.out)
      have HW4 := Lib.hid (HB.out.trans (HB4.out.mono HB.out.size))
      have HS4 : w.heap.size + 1 ≤ w4.heap.size := Nat.le_trans HS.out HB4.out.size
      clear hL1 hL2 HO
      rcases hwy with rfl | rfl | rfl | rfl
      · have hset : settL n h k = true := by rw [HSE.out]; decide
        go_wp2_with (at_builtin; refine wpList_append_own_at _ rfl _ _ 126 rfl (w.heap.size + 1) 26 ig (.slice none 0 0) 1 24 Try.underlying126 hg gz0 gz1 gz2 rfl (by decide) _ _ _ rfl (World.ownsRow.alloc HR.out _) ⟨w4.heap.size, 0, none⟩ 1 1 [.slice (some ⟨oB, 0, none⟩) ol oc] rfl rfl (lit_g _ _) ?c1 ?c3 ?c4 ?c5 ?_)
        case c1 => first | rfl | (intro u hu; simp at hu; subst hu; rfl)
        case c3 => unfold maxLen; omega
        case c4 => omega
        case c5 => first | omega | (simp; omega)
        intro o' w5 hown hgrow _ _
        have HO5 := Lib.hid (WroteR.step HR.out HLL.out (outM_mono HOM.out HS.out) hown hgrow)
        have HB5 := Lib.hid ((HW4.out.al (.cells #[.slice (some ⟨oB, 0, none⟩) ol oc] 26)).grown hgrow (by have := HW4.out.size; simp; omega) (fun q e => by have := (HR.out.lt q e).1; omega))
        have H5 := Lib.hid (grown_at HR.out hgrow H4.out (by omega))
        have S5 := Lib.hid (show w.heap.size + 1 ≤ w5.heap.size by have := hgrow.size; simp at *; omega)
        clear hown hgrow
        go_wp2_with fail
        go_roundw
        case rel => exact ⟨k + 1, by omega, by go_num, HO5, Lib.hid (upN_step HUP.out hset), H5, HB5, S5⟩
        case measure => simp [intOf]; omega
      · have hset : settL n h k = false := by rw [HSE.out]; decide
        obtain rfl : ok = false := by rw [OKR.out, upN_no hlt hset]; rfl
        go_wp2_with fail
        go_ret2
        exact ⟨_, rfl, rowsH_nil _ _, HW4.out⟩
      · have hset : settL n h k = true := by rw [HSE.out]; decide
        go_wp2_with (at_builtin; refine wpList_append_own_at _ rfl _ _ 126 rfl (w.heap.size + 1) 26 ig (.slice none 0 0) 1 24 Try.underlying126 hg gz0 gz1 gz2 rfl (by decide) _ _ _ rfl (World.ownsRow.alloc HR.out _) ⟨w4.heap.size, 0, none⟩ 1 1 [.slice (some ⟨oB, 0, none⟩) ol oc] rfl rfl (lit_g _ _) ?c1 ?c3 ?c4 ?c5 ?_)
        case c1 => first | rfl | (intro u hu; simp at hu; subst hu; rfl)
        case c3 => unfold maxLen; omega
        case c4 => omega
        case c5 => first | omega | (simp; omega)
        intro o' w5 hown hgrow _ _
        have HO5 := Lib.hid (WroteR.step HR.out HLL.out (outM_mono HOM.out HS.out) hown hgrow)
        have HB5 := Lib.hid ((HW4.out.al (.cells #[.slice (some ⟨oB, 0, none⟩) ol oc] 26)).grown hgrow (by have := HW4.out.size; simp; omega) (fun q e => by have := (HR.out.lt q e).1; omega))
        have H5 := Lib.hid (grown_at HR.out hgrow H4.out (by omega))
        have S5 := Lib.hid (show w.heap.size + 1 ≤ w5.heap.size by have := hgrow.size; simp at *; omega)
        clear hown hgrow
        go_wp2_with fail
        go_roundw
        case rel => exact ⟨k + 1, by omega, by go_num, HO5, Lib.hid (upN_step HUP.out hset), H5, HB5, S5⟩
        case measure => simp [intOf]; omega
      · have hset : settL n h k = false := by rw [HSE.out]; decide
        obtain rfl : ok = false := by rw [OKR.out, upN_no hlt hset]; rfl
        go_wp2_with fail
        go_ret2
        exact ⟨_, rfl, rowsH_nil _ _, HW4.out⟩
    case neg =>
      obtain rfl : k = m := by omega
      obtain ⟨W1, hW1⟩ : ∃ z, z = wr := ⟨_, rfl⟩
      subst hW1
      obtain ⟨n0, n1⟩ := cells2 H0.out
      have nl := lt_of H0.out
      obtain ⟨wa, wc, rfl⟩ := HO.out.shape
      go_wp2_with fail
      have HQ1 := Lib.hid (show Below W1.heap.size W1 (W1.alloc (.cells #[] 46)) from (Below.refl _ _).al _)
      have HQ2 := Lib.hid (show GrowR W1.heap.size 0 (W1.alloc (.cells #[] 46)) (.slice (some ⟨W1.heap.size, 0, none⟩) 0 0) (roundL n h) from ⟨[], ⟨rfl, .inr ⟨W1.heap.size, 0, #[], rfl, Nat.le_refl _, hp1 W1 _, Nat.le_refl _, Nat.zero_le _, rfl, rfl⟩⟩, ⟨rfl, fun i u xs q1 q2 => by simp at q1, fun i j u u' q1 q2 q3 => by simp at q1⟩⟩)
      generalize (W1.alloc (.cells #[] 46)) = w2 at HQ1 HQ2 ⊢
      go_loopw [13, 52] (fun o i wr => ∃ j : Nat, j ≤ ll ∧ i = .int .i64 j ∧ Hid (GrowR W1.heap.size j wr o (roundL n h)) ∧ Hid ((n.links.take j).all (fun l => isS (madeL n h l)) = true) ∧ Hid (Below W1.heap.size W1 wr)) (fun _ i _ => ll - (intOf i).toNat)
      case atStart => exact ⟨0, Nat.zero_le _, rfl, HQ2, Lib.hid rfl, HQ1⟩
      case round =>
        clear HQ1 HQ2
        obtain ⟨j, hj, rfl, HM, HA, HC⟩ := hrel
        have HW := Lib.hid (HB.out.trans (HC.out.mono HB.out.size))
        by_cases hjl : j < ll
        case pos =>
          obtain ⟨x, hx⟩ : ∃ x, n.links[j]? = some x := ⟨_, List.getElem?_eq_getElem (by rw [← NL.out]; exact hjl)⟩
          have HX := Lib.hid hx
          have XM := Lib.hid (List.mem_of_getElem? hx)
          obtain ⟨lb, lo, d, hla, hlb, e0, e1, e2, e3, e4, es⟩ := (HL.out.below HW.out).atb hx
          subst hla
          have TS := Lib.hid es
          obtain ⟨va, vc, rfl⟩ := es.shape
          have HRW := Lib.hid (show (roundL n h)[j]? = some (x.tok ++ writL n h x) by unfold roundL; rw [List.getElem?_map, hx]; rfl)
          have HMS := Lib.hid (show isS (madeL n h x) = isS (x.tok ++ writL n h x) from rfl)
          have HFR := Lib.hid (G.out.from XM.out)
          have HNI := Lib.hid (show x.src = outE → writL n h x = [] from fun e => by unfold writL; rw [if_pos e])
          have HYS := Lib.hid (show isS (madeL n h x) = true → ((n.links.take (j + 1)).all (fun l => isS (madeL n h l)) = true) from fun e => lall_step hx HA.out e)
          have HNO := Lib.hid (show isS (madeL n h x) = false → ok = false from fun e => by rw [OKR.out, lall_no (p := fun l => isS (madeL n h l)) hx e, Bool.and_false])
          have HT4 := Lib.hid (isS_len (G.out.tok XM.out))
          have HT5 := Lib.hid (isS_len (G.out.writ XM.out))
          obtain ⟨wl, hwl⟩ : ∃ z, z = writL n h x := ⟨_, rfl⟩
          obtain ⟨ms, hms⟩ : ∃ z, z = isS (madeL n h x) := ⟨_, rfl⟩
          rw [← hwl] at HRW HMS HFR HNI HT5
          rw [← hms] at HMS HYS HNO
          obtain ⟨xf, xo, xt, xi, xk⟩ := x
          obtain ⟨kl, hkl⟩ : ∃ z, z = xk.length := ⟨_, rfl⟩
          simp only [] at e0 e1 e2 e3 e4 TS HRW HMS HFR HNI HT4
          rw [← hkl] at TS e4
          have HBW := Lib.hid ((Below.refl wr.heap.size wr).al (.cells #[.int .i64 xf, .int .i64 xo, .int .i64 xt, .int .i64 xi, .slice va kl vc] 82))
          have HNEW := Lib.hid (hp1 wr (.cells #[.int .i64 xf, .int .i64 xo, .int .i64 xt, .int .i64 xi, .slice va kl vc] 82))
          have CC := Lib.hid (fun (W : World) (hw : Below wr.heap.size wr W) => l1copy_any (.slice va kl vc) xk W (TS.out.below hw) (by have := HT4.out; omega))
          obtain ⟨us, hU1, hU2⟩ := HM.out
          have HU1 := Lib.hid hU1
          have HU2 := Lib.hid hU2
          have HUB := Lib.hid (show ∀ u q, u ∈ us → u.ownBlock = some q → q < wr.heap.size from fun u q hu he => fam_hi hU2 u hu q he)
          have HWS := Lib.hid (HC.out.size)
          clear es hx hwl hms hkl hU1 hU2
          by_cases hsx : (⟨xf, xo, xt, xi, xk⟩ : Lnk).src = outE
          case pos =>
            obtain rfl := HNI.out hsx
            obtain ⟨rfl, rfl⟩ : xf = -1 ∧ xo = 0 := by simpa [Lnk.src, outE] using hsx
            rw [List.append_nil] at HRW HMS
            have CS := Lib.hid (fun (W : World) (r : Value) (hr : Sl W r xk) => sstream_any r xk W hr)
            rw [← HMS.out] at CS
            cases ms with
            | true =>
              go_wp2_with (first | (go_at_call 112; with_reducible refine (CC.out _ HBW.out).mono ?_; rintro e w3 ⟨r, rfl, ho, hb3⟩; have B3 := blk_in HNEW.out hb3; obtain ⟨f0, f1, f2, f3, f4⟩ := cells5 B3; have f5 := lt_of B3; have HB3 := Lib.hid (HBW.out.trans (hb3.mono HBW.out.size)); have HR3 := Lib.hid (ho.mono HBW.out.size); obtain ⟨ra, rc, hre⟩ := HR3.out.sl.shape; subst hre; clear ho hb3 B3) | (go_at_call 89; with_reducible refine (CS.out _ _ HR3.out.sl).mono ?_; rintro e w4 ⟨rfl, rfl⟩) | (at_builtin; refine wpList_append_own_at _ rfl _ _ 26 rfl W1.heap.size 46 is (.slice none 0 0) 1 24 Try.underlying26 hs sz0 sz1 sz2 rfl (by decide) _ _ _ rfl (World.ownsRow.alloc (rowT_below HU1.out HB3.out) _) ⟨_, 0, none⟩ 1 1 [.slice ra xk.length rc] rfl rfl (lit_s _ _) ?c1 ?c3 ?c4 ?c5 ?_))
              case c1 => first | rfl | (intro u hu; simp at hu; subst hu; rfl)
              case c3 => unfold maxLen; omega
              case c4 => omega
              case c5 => have q1 := HWS.out; have q2 := (HB3.out).size; first | omega | (simp; omega)
              intro o' w5 hown hgrow _ _
              have HO5 := Lib.hid (GrowR.step (rowT_below HU1.out HB3.out) (HU2.out.below HB3.out) HR3.out HUB.out HWS.out HRW.out hown hgrow)
              have HB5 := Lib.hid (((HC.out.trans ((HB3.out).mono HC.out.size)).al (.cells #[.slice ra xk.length rc] 46)).grown hgrow (by have q1 := HWS.out; have q2 := (HB3.out).size; simp; omega) (fun q e => (HU1.out.lt q e).1))
              clear hown hgrow
              go_wp2_with fail
              go_roundw
              case rel => exact ⟨j + 1, by omega, by go_num, HO5, Lib.hid (HYS.out (by simp)), HB5⟩
              case measure => simp [intOf]; omega
            | false =>
              obtain rfl := HNO.out rfl
              go_wp2_with (first | (go_at_call 112; with_reducible refine (CC.out _ HBW.out).mono ?_; rintro e w3 ⟨r, rfl, ho, hb3⟩; have B3 := blk_in HNEW.out hb3; obtain ⟨f0, f1, f2, f3, f4⟩ := cells5 B3; have f5 := lt_of B3; have HB3 := Lib.hid (HBW.out.trans (hb3.mono HBW.out.size)); have HR3 := Lib.hid (ho.mono HBW.out.size); obtain ⟨ra, rc, hre⟩ := HR3.out.sl.shape; subst hre; clear ho hb3 B3) | (go_at_call 89; with_reducible refine (CS.out _ _ HR3.out.sl).mono ?_; rintro e w4 ⟨rfl, rfl⟩))
              go_ret2
              exact ⟨_, rfl, rowsH_nil _ _, HW.out.trans (HB3.out.mono HW.out.size)⟩
          case neg =>
            obtain ⟨i, o, f1, f2, hi, hrow, _⟩ := HFR.out hsx
            subst f1 f2
            have hi' : i < k := by rw [NP.out]; exact hi
            have hol := (List.getElem?_eq_some_iff.1 hrow).1
            obtain ⟨pb, pc, B, bc, y, bl, hxe, hpb, hcy, hbl, hB, hcz, hy⟩ := HO.out.at hi' hrow
            simp only [Value.slice.injEq] at hxe
            obtain ⟨rfl, _, rfl⟩ := hxe
            rw [← hbl] at hol
            obtain ⟨ya, yc, rfl⟩ := hy.sl.shape
            have HY := Lib.hid hy.sl
            have HCY := Lib.hid (fun (W : World) (hw : Below wr.heap.size wr W) => ((HC.out.trans (hw.mono HC.out.size)).cell (p := ⟨pb, i, none⟩) hpb).trans hcy)
            have HCZ := Lib.hid (fun (W : World) (hw : Below wr.heap.size wr W) => ((HC.out.trans (hw.mono HC.out.size)).cell (p := ⟨B, o, none⟩) hB).trans hcz)
            have hge : (0 : Int) ≤ (i : Int) := by omega
            have hpw : pb < wr.heap.size := Nat.lt_of_lt_of_le hpb HC.out.size
            have hBw : B < wr.heap.size := Nat.lt_of_lt_of_le hB HC.out.size
            have CS := Lib.hid (fun (W : World) (r : Value) (hr : Sl W r (xk ++ wl)) => sstream_any r (xk ++ wl) W hr)
            rw [← HMS.out] at CS
            clear hcy hcz hy hrow hbl hi
            go_upto_region 16 with (go_at_call 112; with_reducible refine (CC.out _ HBW.out).mono ?_; rintro e w3 ⟨r, rfl, ho, hb3⟩; have B3 := blk_in HNEW.out hb3; obtain ⟨f0, f1, f2, f3, f4⟩ := cells5 B3; have f5 := lt_of B3; have HB3 := Lib.hid (HBW.out.trans (hb3.mono HBW.out.size)); have HR3 := Lib.hid (ho.mono HBW.out.size); obtain ⟨ra, rc, hre⟩ := HR3.out.sl.shape; subst hre; clear ho hb3 B3)
            have HB3D := Lib.hid (show Below wr.heap.size wr w3.drew from HB3.out.drew)
            have c0 := HCY.out _ HB3.out
            have c1 := HCZ.out _ HB3.out
            have c2 := Nat.lt_of_lt_of_le hpw HB3.out.size
            have c3 := Nat.lt_of_lt_of_le hBw HB3.out.size
            refine wp_open' ?_
            intro K9 hK9
            go_cut [16] from 62 to 72 (fun s16 wz => ∃ (za : Option Addr) (zc : Nat), s16 = .slice za (xk ++ wl).length zc ∧ Hid (Own wr.heap.size wz (.slice za (xk ++ wl).length zc) (xk ++ wl)) ∧ Hid (Below wr.heap.size wr wz))
            case first =>
              go_region_law (refine step_app_sl rfl (.tmp 62) (.tmp 71) rfl rfl (lo := wr.heap.size) (v := .slice ra xk.length rc) (u := .slice ya wl.length yc) (xs := xk) (ys := wl) (by simp [Go.Act.eval]) (by simp [Go.Act.eval]) (show Own wr.heap.size w3.drew _ _ from HR3.out) (HY.out.below (HC.out.trans (HB3D.out.mono HC.out.size))) (by have := HT4.out; have := HT5.out; omega) (show wr.heap.size ≤ w3.drew.heap.size from HB3D.out.size) ?_; intro v' w5 hown hgrow _; have HOZ := Lib.hid hown; have HBZ := Lib.hid (HB3D.out.grown hgrow (show wr.heap.size ≤ w3.drew.heap.size from HB3D.out.size) (fun q e => (HR3.out.lt q e).1)); clear hown hgrow)
              all_goals (
                go_wp2_with fail
                go_meet
                case rel =>
                  obtain ⟨za, zc, rfl⟩ := HOZ.out.sl.shape
                  exact ⟨za, zc, rfl, HOZ, HBZ⟩)
            case rest =>
              obtain ⟨za, zc, rfl, HOZ, HBZ⟩ := hcut
              obtain ⟨zl, hzl⟩ : ∃ z, z = (xk ++ wl).length := ⟨_, rfl⟩
              rw [← hzl] at HOZ ⊢
              clear hzl
              refine hK9 _ _ ?_
              cases ms with
              | true =>
                go_wp2_with (first | (go_at_call 89; with_reducible refine (CS.out _ _ HOZ.out.sl).mono ?_; rintro e w4 ⟨rfl, rfl⟩) | (at_builtin; refine wpList_append_own_at _ rfl _ _ 26 rfl W1.heap.size 46 is (.slice none 0 0) 1 24 Try.underlying26 hs sz0 sz1 sz2 rfl (by decide) _ _ _ rfl (World.ownsRow.alloc (rowT_below HU1.out HBZ.out) _) ⟨_, 0, none⟩ 1 1 [.slice za zl zc] rfl rfl (lit_s _ _) ?c1 ?c3 ?c4 ?c5 ?_))
                case c1 => first | rfl | (intro u hu; simp at hu; subst hu; rfl)
                case c3 => unfold maxLen; omega
                case c4 => omega
                case c5 => have q1 := HWS.out; have q2 := (HBZ.out).size; first | omega | (simp; omega)
                intro o' w5 hown hgrow _ _
                have HO5 := Lib.hid (GrowR.step (rowT_below HU1.out HBZ.out) (HU2.out.below HBZ.out) HOZ.out HUB.out HWS.out HRW.out hown hgrow)
                have HB5 := Lib.hid (((HC.out.trans ((HBZ.out).mono HC.out.size)).al (.cells #[.slice za zl zc] 46)).grown hgrow (by have q1 := HWS.out; have q2 := (HBZ.out).size; simp; omega) (fun q e => (HU1.out.lt q e).1))
                clear hown hgrow
                go_wp2_with fail
                go_roundw
                case rel => exact ⟨j + 1, by omega, by go_num, HO5, Lib.hid (HYS.out (by simp)), HB5⟩
                case measure => simp [intOf]; omega
              | false =>
                obtain rfl := HNO.out rfl
                go_wp2_with (go_at_call 89; with_reducible refine (CS.out _ _ HOZ.out.sl).mono ?_; rintro e w4 ⟨rfl, rfl⟩)
                go_ret2
                exact ⟨_, rfl, rowsH_nil _ _, HW.out.trans (HBZ.out.mono HW.out.size)⟩
        case neg =>
          obtain rfl : j = ll := by omega
          obtain rfl : ok = true := (by rw [OKR.out, HUP.out]; rw [List.take_of_length_le (by rw [← NL.out]; exact Nat.le_refl _)] at HA; rw [HA.out]; rfl)
          obtain ⟨oa, ocp, rfl⟩ := HM.out.shape
          go_wp2_with fail
          go_ret2
          exact ⟨_, rfl, OutH.mono (HM.out.rows (by unfold roundL; rw [List.length_map]; exact NL.out.symm)) HB.out.size (Nat.le_refl _), HW.out⟩

set_option maxRecDepth 100000 in
set_option maxHeartbeats 4000000 in
theorem srnd_any (v u : Value) (n : Net) (h : List (List Int)) (w : World) (hv : NetV w v n) (hu : SlR w u h) :
    Calls Try.prog 17 #[v, u] w fun e w' => ∃ r, e = .returned (.tuple #[r, .bool (roundOfR1 n h)]) ∧ RowsH w.heap.size w'.heap.size w' r (roundOfR0 n h) ∧ Below w.heap.size w w' := by
  obtain ⟨pv, lv, rfl, hps, hls⟩ := hv
  have HV := Lib.hid (show NetV w (.agg #[pv, lv]) n from ⟨pv, lv, rfl, hps, hls⟩)
  have HU := Lib.hid hu
  obtain ⟨pa, pcap, rfl⟩ := hps.shape
  obtain ⟨la, lcap, rfl⟩ := hls.shape
  obtain ⟨m, hm⟩ : ∃ z, z = n.progs.length := ⟨_, rfl⟩
  obtain ⟨ll, hll⟩ : ∃ z, z = n.links.length := ⟨_, rfl⟩
  rw [← hm, ← hll] at HV ⊢
  clear hps hls hu hm hll
  have h0 := Lib.hid (hp1 w (.cells #[.slice pa m pcap, .slice la ll lcap] 34))
  have hb0 := Lib.hid ((Below.refl w.heap.size w).al (.cells #[.slice pa m pcap, .slice la ll lcap] 34))
  have CH := Lib.hid (fun (W : World) (hw : Below w.heap.size w W) => shist_any (.agg #[.slice pa m pcap, .slice la ll lcap]) u n h W (HV.out.below hw) (HU.out.below hw))
  cases hh : areHistoriesR0 n h with
  | false =>
    have e1 : roundOfR1 n h = false := by unfold roundOfR1; rw [hh]; rfl
    have e0 : roundOfR0 n h = [] := by unfold roundOfR0; rw [e1]; rfl
    rw [e0, e1]
    rw [hh] at CH
    go_enter Try.func17, Try.ntmps17
    go_wp2_with (go_at_call 59; with_reducible refine (CH.out _ hb0.out).mono ?_; rintro e w1 ⟨rfl, hb1⟩; have HB1 := Lib.hid (hb0.out.trans (hb1.mono hb0.out.size)); clear hb1)
    go_ret2
    exact ⟨_, rfl, rowsH_nil _ _, HB1.out⟩
  | true =>
    have G := hist_good hh
    have CM := Lib.hid (fun (W : World) (hw : Below w.heap.size w W) => sround_any (.agg #[.slice pa m pcap, .slice la ll lcap]) u n h W (HV.out.below hw) (HU.out.below hw) G)
    have e1 : roundOfR1 n h = okR n h := by unfold roundOfR1; rw [hh]; rfl
    have e0 : roundOfR0 n h = madeR n h := by unfold roundOfR0 madeR; rw [e1]
    rw [e0, e1]
    obtain ⟨ok, hok⟩ : ∃ z, z = okR n h := ⟨_, rfl⟩
    obtain ⟨mr, hmr⟩ : ∃ z, z = madeR n h := ⟨_, rfl⟩
    rw [← hok, ← hmr] at CM ⊢
    rw [hh] at CH
    clear hh e0 e1 hok hmr G
    go_enter Try.func17, Try.ntmps17
    go_wp2_with (first | (go_at_call 59; with_reducible refine (CH.out _ hb0.out).mono ?_; rintro e w1 ⟨rfl, hb1⟩; have HB1 := Lib.hid (hb0.out.trans (hb1.mono hb0.out.size)); have H1 := blk_in h0.out hb1; obtain ⟨f0, f1⟩ := cells2 H1; have f2 := lt_of H1; clear hb1 H1) | (go_at_call 60; with_reducible refine (CM.out _ HB1.out).mono ?_; rintro e w2 ⟨r, rfl, hr, hb2⟩; have HR := Lib.hid hr; have HB2 := Lib.hid (HB1.out.trans (hb2.mono HB1.out.size)); clear hr hb2))
    go_ret2
    exact ⟨_, rfl, OutH.mono HR.out HB1.out.size (Nat.le_refl _), HB2.out⟩
theorem irnd_w (v : Value) (n : Net) (u : Value) (h : List (List Int)) (w : World) (hv : NetV w v n) (hu : SlR w u h) :
    Calls Try.prog 20 #[v, u] w fun e w' => ∃ r, e = .returned (.tuple #[r, .bool (roundOfR1 n h)]) ∧ RowsH w.heap.size w'.heap.size w' r (roundOfR0 n h) ∧ Below w.heap.size w w' := irnd_any v u n h w hv hu
theorem srnd_w (v : Value) (n : Net) (u : Value) (h : List (List Int)) (w : World) (hv : NetV w v n) (hu : SlR w u h) :
    Calls Try.prog 17 #[v, u] w fun e w' => ∃ r, e = .returned (.tuple #[r, .bool (roundOfR1 n h)]) ∧ RowsH w.heap.size w'.heap.size w' r (roundOfR0 n h) ∧ Below w.heap.size w w' := srnd_any v u n h w hv hu
end Go.Proofs.Ytjphamgkigekkaa
