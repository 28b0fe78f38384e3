/-
  What the model's l4Inputs leaves: the histories that lead to a process. No statement of the seat is proved here.
  Words for the model's rounds: an append of a whole row, rows that grow. No statement of the seat is proved here.
  What the model's l4Round and RoundOf leave. No statement of the seat is proved here.
  What RoundOf of the model answers; both as the law wants them. No statement of the seat is proved here.
  Whether a round gives the histories again: IsFixed of the model and of the program. No statement of the seat is proved here.
  The least streams: LeastStreams of the model and of the program. No statement of the seat is proved here.
  For which link each process waits at the least streams: WaitsOf of the program and of the model. No statement of the seat is proved here.
  What an observer sees: ObserveNetwork of the program and of the model. No statement of the seat is proved here.
-/
import Derived.Test.YtjphamgkigekkaaRndP
import Derived.Test.YtjphamgkigekkaaSNet
import Derived.Deep.AppendLies
import Derived.Test.YtjphamgkigekkaaSame
import Derived.Test.YtjphamgkigekkaaInOut
namespace Go.Proofs.Ytjphamgkigekkaa
open Go.RowKit

def inpV (f : Nat → Value) (ix : Nat → Nat) (j : Nat) : List Value := (List.range j).map fun q => f (ix q)
theorem inpV_len (f : Nat → Value) (ix : Nat → Nat) (j : Nat) : (inpV f ix j).length = j := by unfold inpV; simp
theorem inpV_step (f : Nat → Value) (ix : Nat → Nat) (j : Nat) : inpV f ix (j + 1) = inpV f ix j ++ [f (ix j)] := by unfold inpV; rw [List.range_succ, List.map_append]; rfl
theorem inpV_at {f : Nat → Value} {ix : Nat → Nat} {j q : Nat} {y : Value} (h : (inpV f ix j)[q]? = some y) : q < j ∧ y = f (ix q) := by
  unfold inpV at h
  rw [List.getElem?_map] at h
  obtain ⟨z, hz, rfl⟩ := Option.map_eq_some_iff.1 h
  have hq : q < j := by have := (List.getElem?_eq_some_iff.1 hz).1; simpa using this
  rw [List.getElem?_range hq] at hz
  obtain rfl := Option.some.inj hz
  exact ⟨hq, rfl⟩
theorem rows_slR {lo m : Nat} {w : World} {v : Value} {L : List Value} {xss : List (List Int)} (h : w.ownsRow lo 46 1 v m L) (hl : xss.length = m) (hs : ∀ (q : Nat) (y : Value) (x : List Int), L[q]? = some y → xss[q]? = some x → Sl w y x) : SlR w v xss := by
  have hL := h.1
  rcases h.2 with ⟨rfl, rfl⟩ | ⟨g, cap, cur, rfl, _, hg, h1, h2, _, ht⟩
  · have e : xss = [] := List.length_eq_zero_iff.1 hl
    subst e
    exact ⟨none, 0, rfl, Nat.le_refl _, Nat.zero_le _, fun _ => rfl, .inl rfl⟩
  · refine ⟨some ⟨g, 0, none⟩, cap, by rw [hl], by omega, h2, (fun e => by cases e), ?_⟩
    right
    refine ⟨g, 0, rfl, lt_of hg, fun q x hx => ?_⟩
    have hq : q < m := by rw [← hl]; exact (List.getElem?_eq_some_iff.1 hx).1
    obtain ⟨y, hy⟩ : ∃ y, L[q]? = some y := ⟨_, List.getElem?_eq_getElem (by omega)⟩
    refine ⟨y, ?_, hs q y x hy hx⟩
    rw [Nat.zero_add, cell_of hg]
    rw [← ht, List.getElem?_take, if_pos (by omega), Array.getElem?_toList] at hy
    exact hy
theorem lit_s (w : World) (y : Value) : ∀ j u, [y][j]? = some u → (w.alloc (.cells #[y] 46)).cell? ((⟨w.heap.size, 0, none⟩ : Addr).add j) = some u := by
  intro j u hj
  rw [Addr.add_lit, Nat.zero_add, cell_of (hp1 w _)]
  rw [← Array.getElem?_toList]; exact hj

set_option maxRecDepth 100000 in
set_option maxHeartbeats 8000000 in
theorem sinp_any (v u : Value) (n : Net) (h : List (List Int)) (k : Nat) (w : World) (hv : NetV w v n) (hu : SlR w u h) (g : GoodH n h) (hk : k < n.progs.length) :
    Calls Try.prog 77 #[v, u, .int .i64 (k : Int)] w fun e w' => ∃ r, e = .returned r ∧ SlR w' r (inpL n h k) ∧ Below w.heap.size w w' := by
  obtain ⟨hp, hoP⟩ := g.prg hk
  have hP := okP_parts hoP
  have CT := Lib.hid (fun (W : World) (j : Nat) (hw : Below w.heap.size w W) => sto_any v n (k : Int) (j : Int) W (hv.below hw))
  obtain ⟨pv, lv, rfl, hps, hls⟩ := hv
  have HU := Lib.hid hu
  have LP := hps.len
  have LH := slR_len hu
  obtain ⟨pa, pcap, rfl⟩ := hps.shape
  obtain ⟨la, lcap, rfl⟩ := hls.shape
  obtain ⟨ha, hcap, rfl⟩ := slR_shape hu
  obtain ⟨gb, go, c, hpa, hgb, k0, k1, k2, ks⟩ := hps.atb hp
  subst hpa
  obtain ⟨hb0, ho0, hvf, hvs⟩ := slR_hv hu
  have HVS := Lib.hid hvs
  obtain ⟨i0, hi, hz0, hz1, hz2⟩ := infoS_parts
  obtain ⟨ni, hni⟩ : ∃ z : Nat, z = (prgK n k).ins.toNat := ⟨_, rfl⟩
  rw [show (prgK n k).ins = (ni : Int) by rw [hni]; omega] at k0
  have hni3 : ni ≤ 3 := by omega
  have HIN := Lib.hid (show inpL n h k = (List.range ni).map fun j => h.getD (ixT n k j) [] by unfold inpL; rw [← hni])
  have HIX := Lib.hid (show ∀ j, j < ni → ixT n k j < h.length ∧ atE Lnk.tgt n.links ((k : Int), (j : Int)) = (ixT n k j : Int) from fun j hj => by
    obtain ⟨a, b, c, d⟩ := ix_at g.ok hp (show (j : Int) < (prgK n k).ins by omega)
    exact ⟨by rw [g.len]; exact b, d⟩)
  obtain ⟨kx, hkx⟩ := ks.shape
  obtain ⟨kc, hkc⟩ := hkx
  subst hkc
  obtain ⟨pl, hpl⟩ : ∃ z, z = n.progs.length := ⟨_, rfl⟩
  obtain ⟨ll, hll⟩ : ∃ z, z = n.links.length := ⟨_, rfl⟩
  obtain ⟨hl, hhl⟩ : ∃ z, z = h.length := ⟨_, rfl⟩
  rw [← hpl] at hk LP CT ⊢
  rw [← hll] at CT ⊢
  rw [← hhl] at LH HU HIX ⊢
  have NH := Lib.hid hhl
  clear hp hoP hP hps hls hu hvs hni g hpl hll ks k1 k2 hhl
  have h0 := Lib.hid (hp1 w (.cells #[.slice (some ⟨gb, go, none⟩) pl pcap, .slice la ll lcap] 34))
  have hb := Lib.hid ((Below.refl w.heap.size w).al (.cells #[.slice (some ⟨gb, go, none⟩) pl pcap, .slice la ll lcap] 34))
  go_enter Try.func77, Try.ntmps77
  go_wp2_with fail
  have HQ1 := Lib.hid (al_keep (o := (.cells #[] 46)) h0.out)
  have HQ2 := Lib.hid (hb.out.al (.cells #[] 46))
  have HQ3 := Lib.hid (show ((w.alloc (.cells #[.slice (some ⟨gb, go, none⟩) pl pcap, .slice la ll lcap] 34)).alloc (.cells #[] 46)).ownsRow (w.heap.size + 1) 46 1 (.slice (some ⟨w.heap.size + 1, 0, none⟩) 0 0) 0 (inpV hvf (ixT n k) 0) from ⟨rfl, .inr ⟨w.heap.size + 1, 0, #[], rfl, Nat.le_refl _, hp2 w _ _, Nat.le_refl _, Nat.zero_le _, rfl, rfl⟩⟩)
  have HQ4 : w.heap.size + 1 ≤ ((w.alloc (.cells #[.slice (some ⟨gb, go, none⟩) pl pcap, .slice la ll lcap] 34)).alloc (.cells #[] 46)).heap.size := by simp
  generalize ((w.alloc (.cells #[.slice (some ⟨gb, go, none⟩) pl pcap, .slice la ll lcap] 34)).alloc (.cells #[] 46)) = w1 at HQ1 HQ2 HQ3 HQ4 ⊢
  go_loopw [7, 8] (fun o i wr => ∃ j : Nat, j ≤ ni ∧ i = .int .i64 j ∧ Hid (wr.ownsRow (w.heap.size + 1) 46 1 o j (inpV hvf (ixT n k) j)) ∧ Hid (wr.heap[w.heap.size]? = some (.cells #[.slice (some ⟨gb, go, none⟩) pl pcap, .slice la ll lcap] 34)) ∧ Hid (Below w.heap.size w wr) ∧ Hid (w.heap.size + 1 ≤ wr.heap.size)) (fun _ i _ => ni - (intOf i).toNat)
  case atStart => exact ⟨0, Nat.zero_le _, rfl, HQ3, HQ1, HQ2, Lib.hid HQ4⟩
  case round =>
    clear HQ1 HQ2 HQ3 HQ4 h0 hb
    obtain ⟨j, hj, rfl, HO, H0, HB, HS⟩ := hrel
    have c0 := (HB.out.cell (p := ⟨gb, go + k * 3, none⟩) hgb).trans k0
    have gl := Nat.lt_of_lt_of_le hgb HB.out.size
    obtain ⟨b0, b1⟩ := cells2 H0.out
    have bl := lt_of H0.out
    by_cases hlt : j < ni
    case pos =>
      obtain ⟨xl, xe⟩ := HIX.out j hlt
      obtain ⟨y, hy⟩ : ∃ y, h[ixT n k j]? = some y := ⟨_, List.getElem?_eq_getElem (by rw [← NH.out]; exact xl)⟩
      obtain ⟨hha, hhb, hc0, hs0⟩ := HVS.out _ y hy
      subst hha
      have CL := Lib.hid (CT.out wr j HB.out)
      rw [xe] at CL
      obtain ⟨xn, hxn⟩ : ∃ z, z = ixT n k j := ⟨_, rfl⟩
      have HST := Lib.hid (inpV_step hvf (ixT n k) j)
      rw [← hxn] at CL xl hc0 HST
      obtain ⟨ya, yc, hye⟩ := hs0.shape
      rw [← hxn] at hye
      rw [hye] at hc0 HST
      clear hs0 hy xe hxn
      go_wp2_with (first | (go_at_call 78; with_reducible refine CL.out.mono ?_; rintro e w2 ⟨rfl, hb2⟩; have HB2 := Lib.hid hb2; have HW2 := Lib.hid (HB.out.trans (hb2.mono HB.out.size)); have g0 := (HW2.out.cell (p := ⟨hb0, ho0 + xn, none⟩) hhb).trans hc0; have g1 := Nat.lt_of_lt_of_le hhb HW2.out.size; clear hb2) | (at_builtin; (refine wpList_append_own_at _ rfl _ _ 26 rfl (w.heap.size + 1) 46 i0 (.slice none 0 0) 1 24 Try.underlying26 hi hz0 hz1 hz2 rfl (by decide) _ _ _ rfl (World.ownsRow.alloc (rowT_below HO.out HB2.out) _) ⟨w2.heap.size, 0, none⟩ 1 1 [.slice ya y.length yc] rfl rfl (lit_s _ _) ?c1 ?c3 ?c4 ?c5 ?_)))
      case c1 => intro u hu; simp at hu; subst hu; rfl
      case c3 => unfold maxLen; omega
      case c4 => omega
      case c5 => have := HS.out; have := HB2.out.size; simp; omega
      intro o' w3 hown hgrow _ hat
      have HO3 := Lib.hid (show w3.ownsRow (w.heap.size + 1) 46 1 o' (j + 1) (inpV hvf (ixT n k) (j + 1)) by rw [HST.out]; exact hown)
      have HB3 := Lib.hid ((HW2.out.al (.cells #[.slice ya y.length yc] 46)).grown hgrow (by have := HW2.out.size; simp; omega) (fun q e => by have := (HO.out.lt q e).1; omega))
      have H3 := Lib.hid (grown_at (rowT_below HO.out HB2.out) hgrow (blk_in H0.out HB2.out) (by omega))
      have S3 := Lib.hid (show w.heap.size + 1 ≤ w3.heap.size by have := hgrow.size; have := HB2.out.size; have := HS.out; simp at *; omega)
      clear hown hgrow hat
      go_wp2_with fail
      go_roundw
      case rel => exact ⟨j + 1, by omega, by go_num, HO3, H3, HB3, S3⟩
      case measure => simp [intOf]; omega
    case neg =>
      obtain rfl : j = ni := by omega
      go_wp2_with fail
      go_ret
      refine ⟨_, rfl, ?_, HB.out⟩
      rw [HIN.out]
      refine rows_slR HO.out (by simp) (fun q y x hy hx => ?_)
      obtain ⟨q1, rfl⟩ := inpV_at hy
      rw [List.getElem?_map, List.getElem?_range q1] at hx
      obtain rfl := Option.some.inj hx
      have q2 := (HIX.out q q1).1
      have hq : h[ixT n k q]? = some h[ixT n k q] := List.getElem?_eq_getElem (by rw [← NH.out]; exact q2)
      obtain ⟨_, _, _, hs0⟩ := HVS.out _ _ hq
      show Sl wr (hvf (ixT n k q)) (h.getD (ixT n k q) [])
      rw [getD_some hq]
      exact hs0.below HB.out

theorem run_app_sl {lo : Nat} {w : World} {v u : Value} {xs ys : List Int} (hv : Own lo w v xs) (hu : Sl w u ys) (hl : xs.length + ys.length ≤ 100000) (hlo : lo ≤ w.heap.size) :
    ∃ v' w', (Builtin.append_ #[46, 46] 46 #[v, u]).run Try.prog w = .ok v' w' ∧ Own lo w' v' (xs ++ ys) ∧ w.grownBy w' v.ownBlock ∧ (v'.ownBlock = v.ownBlock ∨ v'.ownBlock = some w.heap.size) := by
  obtain ⟨i0, hi, hz0, hz1, hz2⟩ := info_parts info
  obtain ⟨a, cap, rfl, _, _, hn, hr⟩ := hu
  cases a with
  | none =>
    have hys : ys = [] := by
      rcases hr with h | ⟨b, off, h, _⟩
      · exact h
      · cases h
    have hc := hn rfl
    subst hys hc
    refine ⟨v, w, ?_, by rw [List.append_nil]; exact hv, World.grownBy.refl w _, .inl rfl⟩
    rcases hv.2 with ⟨rfl, _⟩ | ⟨g, cap, cur, rfl, _, _, hnc, _⟩
    · simp [Builtin.append_, run_underlying Try.underlying46, sizeOf, typeInfo, hi, Builtin.lenOf, Builtin.firstCells]
    · simp [Builtin.append_, run_underlying Try.underlying46, sizeOf, typeInfo, hi, Builtin.lenOf, Builtin.firstCells, hnc, storeCells]
  | some ad =>
    have hcells : ∀ j y, (vals ys)[j]? = some y → w.cell? (ad.add j) = some y := by
      intro j y hy
      rcases hr with h | ⟨b, off, h, _, hc⟩
      · subst h; simp [vals] at hy
      · obtain rfl := Option.some.inj h
        have hj : j < ys.length := by have := (List.getElem?_eq_some_iff.1 hy).1; rwa [vals_len] at this
        rw [Addr.add_lit, hc j hj]
        unfold vals at hy
        rw [List.getElem?_map] at hy
        obtain ⟨z, hz, rfl⟩ := Option.map_eq_some_iff.1 hy
        rw [List.getD_eq_getElem?_getD, hz]; rfl
    obtain ⟨v', w', hrun, h2, h3, _, h5⟩ := run_append_own_at (P := Try.prog) w lo 46 46 3 i0 (.int .i64 0) 1 8 Try.underlying46 hi hz0 hz1 hz2 rfl (by decide) v xs.length (vals xs) hv ad ys.length cap (vals ys) (by rw [vals_len, Nat.mul_one]) hcells (vals_one ys) (by unfold maxLen; omega) (by omega) hlo
    refine ⟨v', w', hrun, ?_, h3, h5⟩
    unfold Own
    rw [List.length_append, show vals (xs ++ ys) = vals xs ++ vals ys by simp [vals]]
    exact h2
theorem step_app_sl {ops : Array Oper} {o : Oper} {a : Go.Act} {w : World} {K : Go.Act → World → Prop} {Q : Exit → Go.Act → World → Prop} {E : Prop} (hg : o.guard = none) (s x : Operand)
    (hop : o.op = Op.call { callee := Callee.builtin Builtin.append, args := #[s, x], argTypes := #[46, 46] }) (hty : o.type = 46) {lo : Nat} {v u : Value} {xs ys : List Int} (hs : a.eval s = v) (hx : a.eval x = u)
    (hv : Own lo w v xs) (hu : Sl w u ys) (hl : xs.length + ys.length ≤ 100000) (hlo : lo ≤ w.heap.size)
    (h : ∀ v' w', Own lo w' v' (xs ++ ys) → w.grownBy w' v.ownBlock → (v'.ownBlock = v.ownBlock ∨ v'.ownBlock = some w.heap.size) → K (a.put o.dst v') w') :
    if Region.wanted o (yielded ops a.tmps) = true then Oper.wp Try.prog o a w K Q else E := by
  have hw : Region.wanted o (yielded ops a.tmps) = true := by simp [Region.wanted, hg]
  rw [if_pos hw]
  obtain ⟨v', w', hrun, h2, h3, h4⟩ := run_app_sl hv hu hl hlo
  unfold Oper.wp execOp
  simp only [hop, hty, resolve, invoke, builtin, Sem.run_bind, Sem.run_pure, Result.andThen_ok, List.map_toArray, List.map_cons, List.map_nil, hs, hx, hrun]
  exact h v' w' h2 h3 h4

theorem own_far {lo g T : Nat} {w w' : World} {v : Value} {xs : List Int} {cs : Array Value} (h : Own lo w v xs) (hg : w.heap[g]? = some (.cells cs T)) (h2 : T ≠ 3) (hb : ∀ k, k < w.heap.size → k ≠ g → w'.heap[k]? = w.heap[k]?) : Own lo w' v xs := by
  refine ⟨h.1, ?_⟩
  rcases h.2 with hn | ⟨q, cap, cur, rfl, hbb, hq, rest⟩
  · exact .inl hn
  · refine .inr ⟨q, cap, cur, rfl, hbb, ?_, rest⟩
    rw [hb q (lt_of hq) (fun e => by subst e; rw [hq] at hg; simp at hg; exact h2 hg.2.symm)]
    exact hq
/-- What a growth of a row of another type leaves of a row of ints. -/
theorem own_grown {lo lo2 T m : Nat} {w w' : World} {v o : Value} {xs : List Int} {L : List Value} {A : Obj} (h : Own lo w v xs) (hr : w.ownsRow lo2 T 1 o m L) (hT : T ≠ 3) (hg : (w.alloc A).grownBy w' o.ownBlock) : Own lo w' v xs := by
  have h1 := h.below ((Below.refl w.heap.size w).al A)
  rcases hr.2 with ⟨rfl, _⟩ | ⟨r, cap, cur, rfl, hbb, hq, rest⟩
  · refine ⟨h1.1, ?_⟩
    rcases h1.2 with hn | ⟨q, cap, cur, rfl, hb, hq, rest⟩
    · exact .inl hn
    · exact .inr ⟨q, cap, cur, rfl, hb, by rw [hg.block q (lt_of hq) (by simp [Value.ownBlock])]; exact hq, rest⟩
  · exact own_far h1 (blk_in hq ((Below.refl w.heap.size w).al A)) hT (fun k hk hne => hg.block k hk (by simp only [Value.ownBlock, ne_eq, Option.some.injEq]; exact hne))
/-- Streams that have been made so far, in a slice that grows. -/
def GrowR (lo k : Nat) (w : World) (o : Value) (xss : List (List Int)) : Prop := ∃ us, w.ownsRow lo 46 1 o k us ∧ Fam lo w us (xss.take k)
theorem GrowR.shape {lo k : Nat} {w : World} {o : Value} {xss : List (List Int)} (h : GrowR lo k w o xss) : ∃ a c, o = .slice a k c := by
  obtain ⟨us, h1, _⟩ := h
  rcases h1.2 with ⟨rfl, rfl⟩ | ⟨g, cap, cur, rfl, _⟩
  · exact ⟨_, _, rfl⟩
  · exact ⟨_, _, rfl⟩
theorem GrowR.below {lo k : Nat} {w w' : World} {o : Value} {xss : List (List Int)} (h : GrowR lo k w o xss) (hb : Below w.heap.size w w') : GrowR lo k w' o xss := by
  obtain ⟨us, h1, h2⟩ := h
  exact ⟨us, rowT_below h1 hb, h2.below hb⟩
theorem GrowR.step {lo k b : Nat} {w3 w4 : World} {o o' x : Value} {xss : List (List Int)} {row : List Int} {us : List Value} (h1 : w3.ownsRow lo 46 1 o k us) (hF : Fam lo w3 us (xss.take k)) (hx : Own b w3 x row) (hb : ∀ u q, u ∈ us → u.ownBlock = some q → q < b) (hlo : lo ≤ b) (hrow : xss[k]? = some row)
    (hown : w4.ownsRow lo 46 1 o' (k + 1) (us ++ [x])) (hg : (w3.alloc (.cells #[x] 46)).grownBy w4 o.ownBlock) : GrowR lo (k + 1) w4 o' xss := by
  have hq := (List.getElem?_eq_some_iff.1 hrow)
  have e : xss.take (k + 1) = xss.take k ++ [row] := by rw [List.take_succ_eq_append_getElem hq.1, hq.2]
  refine ⟨us ++ [x], hown, ?_⟩
  rw [e]
  refine hF.snoc (fun u ys q => own_grown q h1 (by decide) hg) (own_grown (hx.mono hlo) h1 (by decide) hg) (fun u ys q hu => ?_)
  cases q1 : u.ownBlock with
  | none => exact .inl q1
  | some c =>
    right
    rw [q1]
    intro q2
    have := hb u c hu q1
    have := (hx.lt c q2.symm).1
    omega
theorem GrowR.rows {lo ll : Nat} {w : World} {o : Value} {xss : List (List Int)} (h : GrowR lo ll w o xss) (hx : xss.length = ll) : RowsH lo w.heap.size w o xss := by
  obtain ⟨us, h1, h3⟩ := h
  rw [List.take_of_length_le (by omega)] at h3
  have hF := h3.snoc (w1 := w) (x := .slice none 0 0) (xs := []) (fun u ys q => q) ⟨rfl, .inl ⟨rfl, rfl⟩⟩ (fun u ys q _ => by
      cases q1 : u.ownBlock with
      | none => exact .inl q1
      | some c => right; rw [q1]; simp [Value.ownBlock])
  refine ⟨us, ?_, hF, fam_hi hF⟩
  have hl := h1.1
  rw [Nat.mul_one] at hl
  rcases h1.2 with ⟨rfl, h0⟩ | ⟨g, cap, cur, rfl, hbb, hg, h2, h4, h5, h6⟩
  · exact .inl ⟨rfl, List.length_eq_zero_iff.1 (by omega)⟩
  · exact .inr ⟨g, cap, cur, by rw [hl], hbb, lt_of hg, by omega, h4, hg, by rw [hl]; rw [Nat.mul_one] at h6; exact h6⟩
/-- What the first k processes wrote. -/
def WroteR (lo k : Nat) (w : World) (o : Value) (n : Net) (h : List (List Int)) : Prop := ∃ L : List Value, w.ownsRow lo 26 1 o k L ∧ ∀ q y, L[q]? = some y → ∃ uv, OutM lo w y uv (outsL n h q) (runL n h q).1.used
theorem WroteR.below {lo k : Nat} {w w' : World} {o : Value} {n : Net} {h : List (List Int)} (hs : WroteR lo k w o n h) (hb : Below w.heap.size w w') : WroteR lo k w' o n h := by
  obtain ⟨L, h1, h2⟩ := hs
  refine ⟨L, rowT_below h1 hb, fun q y hy => ?_⟩
  obtain ⟨uv, h3⟩ := h2 q y hy
  exact ⟨uv, h3.below hb⟩
theorem WroteR.shape {lo k : Nat} {w : World} {o : Value} {n : Net} {h : List (List Int)} (hs : WroteR lo k w o n h) : ∃ a c, o = .slice a k c := by
  obtain ⟨us, h1, _⟩ := hs
  rcases h1.2 with ⟨rfl, rfl⟩ | ⟨g, cap, cur, rfl, _⟩
  · exact ⟨_, _, rfl⟩
  · exact ⟨_, _, rfl⟩
theorem outM_mono {lo lo' : Nat} {w : World} {v u : Value} {outs : List (List Int)} {used : List Int} (h : OutM lo w v u outs used) (hl : lo' ≤ lo) : OutM lo' w v u outs used := by
  obtain ⟨us, B, cap, cur, h1, h2, h3, h4, h5, h6, h7⟩ := h
  exact ⟨us, B, cap, cur, h1, by omega, h3, h4, h5, h6, h7.mono hl⟩
theorem outM_grown {lo lo2 T m : Nat} {w w' : World} {v u o : Value} {outs : List (List Int)} {used : List Int} {L : List Value} {A : Obj} (h : OutM lo w v u outs used) (hr : w.ownsRow lo2 T 1 o m L) (hT : T ≠ 3) (hT2 : T ≠ 46) (hg : (w.alloc A).grownBy w' o.ownBlock) : OutM lo w' v u outs used := by
  obtain ⟨us, B, cap, cur, h1, h2, h3, h4, h5, h6, h7⟩ := h
  refine ⟨us, B, cap, cur, h1, h2, h3, h4, ?_, h6, h7.len, fun i u xs q1 q2 => own_grown (h7.own i u xs q1 q2) hr hT hg, h7.apart⟩
  have b1 := blk_in h5 ((Below.refl w.heap.size w).al A)
  rw [hg.block B (lt_of b1) ?_]
  · exact b1
  · intro e
    rcases hr.2 with ⟨rfl, _⟩ | ⟨r, _, _, rfl, _, hq, _⟩
    · simp [Value.ownBlock] at e
    · simp only [Value.ownBlock, Option.some.injEq] at e
      subst e
      rw [h5] at hq
      simp at hq
      exact hT2 hq.2.symm
theorem WroteR.step {lo k : Nat} {w3 w4 : World} {o o' y uv : Value} {n : Net} {h : List (List Int)} {L : List Value} (h1 : w3.ownsRow lo 26 1 o k L) (h2 : ∀ q y, L[q]? = some y → ∃ uv, OutM lo w3 y uv (outsL n h q) (runL n h q).1.used) (hy : OutM lo w3 y uv (outsL n h k) (runL n h k).1.used)
    (hown : w4.ownsRow lo 26 1 o' (k + 1) (L ++ [y])) (hg : (w3.alloc (.cells #[y] 26)).grownBy w4 o.ownBlock) : WroteR lo (k + 1) w4 o' n h := by
  have hl := h1.1
  refine ⟨L ++ [y], hown, fun q z hz => ?_⟩
  rcases Nat.lt_trichotomy q k with e | e | e
  · rw [List.getElem?_append_left (by omega)] at hz
    obtain ⟨uz, h3⟩ := h2 q z hz
    exact ⟨uz, outM_grown h3 h1 (by decide) (by decide) hg⟩
  · rw [List.getElem?_append_right (by omega), show q - L.length = 0 by omega] at hz
    obtain rfl := Option.some.inj hz
    subst e
    exact ⟨uv, outM_grown hy h1 (by decide) (by decide) hg⟩
  · rw [List.getElem?_eq_none (by simp; omega)] at hz
    cases hz
theorem WroteR.at {lo m k o : Nat} {w : World} {x : Value} {n : Net} {h : List (List Int)} {row : List Int} (hs : WroteR lo m w x n h) (hk : k < m) (hrow : (outsL n h k)[o]? = some row) :
    ∃ b c B cap y l, x = .slice (some ⟨b, 0, none⟩) m c ∧ b < w.heap.size ∧ w.cell? ⟨b, k, none⟩ = some (.slice (some ⟨B, 0, none⟩) l cap) ∧ l = (outsL n h k).length ∧ B < w.heap.size ∧ w.cell? ⟨B, o, none⟩ = some y ∧ Own lo w y row := by
  obtain ⟨L, h1, h2⟩ := hs
  have hl := h1.1
  obtain ⟨y, hy⟩ : ∃ y, L[k]? = some y := ⟨_, List.getElem?_eq_getElem (by omega)⟩
  obtain ⟨uv, us, B, cap, cur, rfl, k1, k2, k3, k4, k5, k6⟩ := h2 k y hy
  have hlen := k6.len
  simp only [List.length_append, List.length_cons, List.length_nil] at hlen
  have hol := (List.getElem?_eq_some_iff.1 hrow).1
  obtain ⟨z, hz⟩ : ∃ z, us[o]? = some z := ⟨_, List.getElem?_eq_getElem (by omega)⟩
  have hO := k6.own o z row (by rw [List.getElem?_append_left (by omega)]; exact hz) (by rw [List.getElem?_append_left (by omega)]; exact hrow)
  rcases h1.2 with ⟨_, h0⟩ | ⟨g, cap2, cur2, rfl, _, hg, _, _, _, ht⟩
  · omega
  · refine ⟨g, cap2, B, cap, z, us.length, rfl, lt_of hg, ?_, by omega, lt_of k4, ?_, hO⟩
    · rw [cell_of hg]
      rw [← ht, List.getElem?_take, if_pos (by omega), Array.getElem?_toList] at hy
      rw [← hy]
    · rw [cell_of k4]
      rw [← k5, List.getElem?_take, if_pos (by omega), Array.getElem?_toList] at hz
      rw [← hz]
theorem infoG : (Try.prog.info? 26).map (fun i => (i.zero, i.size, i.bytes)) = some (some (.slice none 0 0), 1, 24) := by kernel_rfl
theorem infoG_parts : ∃ i0, Try.prog.info? 26 = some i0 ∧ i0.zero = some (.slice none 0 0) ∧ i0.size = 1 ∧ i0.bytes = 24 := by
  have h := infoG
  cases e : Try.prog.info? 26 with
  | none => rw [e] at h; cases h
  | some i =>
    rw [e] at h
    simp only [Option.map_some, Option.some.injEq, Prod.mk.injEq] at h
    exact ⟨i, rfl, h.1, h.2.1, h.2.2⟩
theorem lit_g (w : World) (y : Value) : ∀ j u, [y][j]? = some u → (w.alloc (.cells #[y] 26)).cell? ((⟨w.heap.size, 0, none⟩ : Addr).add j) = some u := by
  intro j u hj
  rw [Addr.add_lit, Nat.zero_add, cell_of (hp1 w _)]
  rw [← Array.getElem?_toList]; exact hj

set_option maxRecDepth 100000 in
set_option maxHeartbeats 16000000 in
theorem sround_any (v u : Value) (n : Net) (h : List (List Int)) (w : World) (hv : NetV w v n) (hu : SlR w u h) (g : GoodH n h) :
    Calls Try.prog 60 #[v, u] w fun e w' => ∃ r, e = .returned (.tuple #[r, .bool (okR n h)]) ∧ RowsH w.heap.size w'.heap.size w' r (madeR n h) ∧ Below w.heap.size w w' := by
  obtain ⟨pv, lv, rfl, hps, hls⟩ := hv
  have HV := Lib.hid (show NetV w (.agg #[pv, lv]) n from ⟨pv, lv, rfl, hps, hls⟩)
  have HU := Lib.hid hu
  have HP := Lib.hid hps
  have HL := Lib.hid hls
  have LP := hps.len
  have LL := hls.len
  obtain ⟨pa, pcap, rfl⟩ := hps.shape
  obtain ⟨la, lcap, rfl⟩ := hls.shape
  obtain ⟨ig, hg, gz0, gz1, gz2⟩ := infoG_parts
  obtain ⟨is, hs, sz0, sz1, sz2⟩ := infoS_parts
  have G := Lib.hid g
  obtain ⟨m, hm⟩ : ∃ z, z = n.progs.length := ⟨_, rfl⟩
  obtain ⟨ll, hll⟩ : ∃ z, z = n.links.length := ⟨_, rfl⟩
  have NP := Lib.hid hm
  have NL := Lib.hid hll
  have hm30 : m ≤ 30 := by rw [hm]; have := okN_len g.ok; omega
  have hl30 : ll ≤ 30 := by rw [hll]; have := okN_len g.ok; omega
  have OKR := Lib.hid (show okR n h = (upN (settL n h) m && n.links.all fun l => isS (madeL n h l)) by unfold okR; rw [hm])
  rw [← hm] at HV HP LP
  rw [← hll] at HV HL LL
  rw [← hm, ← hll]
  obtain ⟨ok, hok⟩ : ∃ z, z = okR n h := ⟨_, rfl⟩
  rw [← hok] at OKR
  have HMR := Lib.hid (show madeR n h = if ok then roundL n h else [] by rw [hok]; rfl)
  rw [HMR.out, ← hok]
  clear hps hls hu g hm hll hok HMR
  have h0 := Lib.hid (al_keep (o := (.cells #[] 26)) (hp1 w (.cells #[.slice pa m pcap, .slice la ll lcap] 34)))
  have hb0 := Lib.hid (((Below.refl w.heap.size w).al (.cells #[.slice pa m pcap, .slice la ll lcap] 34)).al (.cells #[] 26))
  have hw0 := Lib.hid (show WroteR (w.heap.size + 1) 0 ((w.alloc (.cells #[.slice pa m pcap, .slice la ll lcap] 34)).alloc (.cells #[] 26)) (.slice (some ⟨w.heap.size + 1, 0, none⟩) 0 0) n h from ⟨[], ⟨rfl, .inr ⟨w.heap.size + 1, 0, #[], rfl, Nat.le_refl _, hp2 w _ _, Nat.le_refl _, Nat.zero_le _, rfl, rfl⟩⟩, fun q y hy => by simp at hy⟩)
  have hs0 : w.heap.size + 1 ≤ ((w.alloc (.cells #[.slice pa m pcap, .slice la ll lcap] 34)).alloc (.cells #[] 26)).heap.size := by simp
  go_enter Try.func60, Try.ntmps60
  go_wp2_with fail
  generalize ((w.alloc (.cells #[.slice pa m pcap, .slice la ll lcap] 34)).alloc (.cells #[] 26)) = w1 at h0 hb0 hw0 hs0 ⊢
  go_loopw [6, 21] (fun o i wr => ∃ k : Nat, k ≤ m ∧ i = .int .i64 k ∧ Hid (WroteR (w.heap.size + 1) k wr o n h) ∧ Hid (upN (settL n h) k = true) ∧ Hid (wr.heap[w.heap.size]? = some (.cells #[.slice pa m pcap, .slice la ll lcap] 34)) ∧ Hid (Below w.heap.size w wr) ∧ Hid (w.heap.size + 1 ≤ wr.heap.size)) (fun _ i _ => m - (intOf i).toNat)
  case atStart => exact ⟨0, Nat.zero_le _, rfl, hw0, Lib.hid rfl, h0, hb0, Lib.hid hs0⟩
  case round =>
    clear h0 hb0 hw0 hs0
    obtain ⟨k, hk, rfl, HO, HUP, H0, HB, HS⟩ := hrel
    by_cases hlt : k < m
    case pos =>
      obtain ⟨hp, hoP⟩ := G.out.prg (show k < n.progs.length by rw [← NP.out]; exact hlt)
      have heta := prg_eta hoP
      have hP := (okP_parts hoP).1
      obtain ⟨gb, go, c, hpa, hgb, k0, k1, k2, ks⟩ := (HP.out.below HB.out).atb hp
      subst hpa
      obtain ⟨ni, hni⟩ : ∃ z : Nat, z = (prgK n k).ins.toNat := ⟨_, rfl⟩
      obtain ⟨no, hno⟩ : ∃ z : Nat, z = (prgK n k).outs.toNat := ⟨_, rfl⟩
      obtain ⟨code, hcode⟩ : ∃ z, z = (prgK n k).code := ⟨_, rfl⟩
      rw [show (prgK n k).ins = (ni : Int) by rw [hni]; omega] at k0
      rw [show (prgK n k).outs = (no : Int) by rw [hno]; omega] at k1
      have HEQ := Lib.hid (show prgK n k = ⟨(ni : Int), (no : Int), code⟩ by rw [hni, hno, hcode]; exact heta)
      have HOP := Lib.hid (show okP ⟨(ni : Int), (no : Int), code⟩ = true by rw [← HEQ.out]; exact hoP)
      have HAS := Lib.hid (show areS (inpL n h k) (ni : Int) = true by rw [hni]; exact G.out.areS k)
      have HRL := Lib.hid (show runL n h k = runS code (inpL n h k) 3000 (startS ni no) by unfold runL; rw [← hcode, ← hni, ← hno])
      rw [← hcode] at ks
      obtain ⟨ua, uc, rfl⟩ := ks.shape
      have KS := Lib.hid ks
      have CI := Lib.hid (fun (W : World) (hw : Below w.heap.size w W) => sinp_any (.agg #[.slice (some ⟨gb, go, none⟩) m pcap, .slice la ll lcap]) u n h k W (HV.out.below hw) (HU.out.below hw) G.out (show k < n.progs.length by rw [← NP.out]; exact hlt))
      have CK := Lib.hid (fun (W : World) (iv : Value) (hw : Below wr.heap.size wr W) (hiv : SlR W iv (inpL n h k)) => srunl_good (.agg #[.int .i64 (ni : Int), .int .i64 (no : Int), .slice ua code.length uc]) iv ni no code (inpL n h k) 3000 W ⟨_, rfl, KS.out.below hw⟩ hiv HOP.out HAS.out (Nat.le_refl _))
      rw [← HRL.out, show ((3000 : Nat) : Int) = 3000 from rfl] at CK
      obtain ⟨pt, hpt⟩ : ∃ z, z = portR code (runL n h k) := ⟨_, rfl⟩
      rw [← hpt] at CK
      have hwy := why_in (code := code) (inp := inpL n h k) 3000 (startS ni no)
      rw [← HRL.out] at hwy
      have HSE := Lib.hid (show settL n h k = decide ((runL n h k).2 = 0 ∨ (runL n h k).2 = 2) from rfl)
      obtain ⟨wy, hwye⟩ : ∃ z, z = (runL n h k).2 := ⟨_, rfl⟩
      rw [← hwye] at hwy HSE CK
      obtain ⟨ul, hul⟩ : ∃ z, z = code.length := ⟨_, rfl⟩
      rw [← hul] at k2 CK
      have HCK : Hid (∀ (W : World) (iv : Value), Below wr.heap.size wr W → SlR W iv (inpL n h k) → Calls Try.prog 76 #[.agg #[.int .i64 (ni : Int), .int .i64 (no : Int), .slice ua ul uc], iv, .int .i64 3000] W fun e w' => ∃ ov uv, e = .returned (.tuple #[ov, uv, .int .i64 wy, .int .i64 pt]) ∧ OutM W.heap.size w' ov uv (outsL n h k) (runL n h k).1.used ∧ Below W.heap.size W w') := CK
      clear CK hp hoP heta hP hni hno hcode hpt hwye hul ks
      have HBW := Lib.hid ((Below.refl wr.heap.size wr).al (.cells #[.int .i64 (ni : Int), .int .i64 (no : Int), .slice ua ul uc] 86))
      have HNW := Lib.hid (hp1 wr (.cells #[.int .i64 (ni : Int), .int .i64 (no : Int), .slice ua ul uc] 86))
      obtain ⟨n0, n1⟩ := cells2 (blk_in H0.out HBW.out)
      obtain ⟨f0, f1, f2⟩ := cells3 HNW.out
      go_upto_region 5 with fail
      generalize (wr.alloc (.cells #[.int .i64 (ni : Int), .int .i64 (no : Int), .slice ua ul uc] 86)) = wb at HBW HNW n0 n1 f0 f1 f2 ⊢
      have CI1 := Lib.hid (show Calls Try.prog 77 #[.agg #[.slice (some ⟨gb, go, none⟩) m pcap, .slice la ll lcap], u, .int .i64 (k : Int)] wb.drew fun e w' => ∃ iv, e = .returned iv ∧ SlR w' iv (inpL n h k) ∧ Below wr.heap.size wr w' ∧ w'.heap[wr.heap.size]? = some (.cells #[.int .i64 (ni : Int), .int .i64 (no : Int), .slice ua ul uc] 86) from by
        refine (CI.out wb.drew (HB.out.trans (HBW.out.mono HB.out.size)).drew).mono ?_
        rintro e w3 ⟨iv, rfl, hiv, hb3⟩
        exact ⟨iv, rfl, hiv, HBW.out.trans ((show Below wb.heap.size wb w3 from (below_drewN wb 1).trans hb3).mono HBW.out.size), blk_in (show wb.drew.heap[wr.heap.size]? = _ from HNW.out) hb3⟩)
      have CK1 := Lib.hid (show ∀ (W : World) (iv : Value), Below wr.heap.size wr W → W.heap[wr.heap.size]? = some (.cells #[.int .i64 (ni : Int), .int .i64 (no : Int), .slice ua ul uc] 86) → SlR W iv (inpL n h k) → Calls Try.prog 76 #[.agg #[.int .i64 (ni : Int), .int .i64 (no : Int), .slice ua ul uc], iv, .int .i64 3000] W fun e w' => ∃ ov uv, e = .returned (.tuple #[ov, uv, .int .i64 wy, .int .i64 pt]) ∧ OutM wr.heap.size w' ov uv (outsL n h k) (runL n h k).1.used ∧ Below wr.heap.size wr w' ∧ w'.heap[wr.heap.size]? = some (.cells #[.int .i64 (ni : Int), .int .i64 (no : Int), .slice ua ul uc] 86) from by
        intro W iv h1 h2 h3
        refine (HCK.out W iv h1 h3).mono ?_
        rintro e w4 ⟨ov, uv, rfl, ho, hb4⟩
        exact ⟨ov, uv, rfl, outM_mono ho h1.size, h1.trans (hb4.mono h1.size), blk_in h2 hb4⟩)
      clear CI HCK
      go_region_held3 (fun w' => w'.cell? ⟨wr.heap.size, 0, none⟩ = some (.int .i64 (ni : Int)) ∧ w'.cell? ⟨wr.heap.size, 1, none⟩ = some (.int .i64 (no : Int)) ∧ w'.cell? ⟨wr.heap.size, 2, none⟩ = some (.slice ua ul uc) ∧ w'.cell? ⟨w.heap.size, 0, none⟩ = some (.slice (some ⟨gb, go, none⟩) m pcap) ∧ w'.cell? ⟨w.heap.size, 1, none⟩ = some (.slice la ll lcap)) (go_keep) (first | (go_at_call 77; refine CI1.out.mono ?_; rintro e w3 ⟨iv, rfl, hiv, hb3, hn3⟩; have HIV := Lib.hid hiv; have HB3 := Lib.hid hb3; have HN3 := Lib.hid hn3; obtain ⟨p0, p1⟩ := cells2 (blk_in H0.out hb3); obtain ⟨q0, q1, q2⟩ := cells3 hn3; clear hb3 hiv hn3) | (go_at_call 76; refine (CK1.out _ _ HB3.out HN3.out HIV.out).mono ?_; rintro e w4 ⟨ov, uv, rfl, ho, hb4, hn4⟩; have HOM := Lib.hid ho; have HB4 := Lib.hid hb4; obtain ⟨r0, r1⟩ := cells2 (blk_in H0.out hb4); obtain ⟨s0, s1, s2⟩ := cells3 hn4; clear hb4 ho hn4))
      obtain ⟨ous, oB, oc, ocur, hov, _⟩ := HOM.out
      subst hov
      obtain ⟨ol, hol⟩ : ∃ z, z = ous.length := ⟨_, rfl⟩
      rw [← hol] at HOM ⊢
      clear hol
      obtain ⟨L, hL1, hL2⟩ := HO.out
      have HR := Lib.hid (rowT_below hL1 HB4.out)
      have HLL := Lib.hid (show ∀ q y, L[q]? = some y → ∃ uv, OutM (w.heap.size + 1) w4 y uv (outsL n h q) (runL n h q).1.used from fun q y hy => by obtain ⟨uz, z1⟩ := hL2 q y hy; exact ⟨uz, z1.below HB4.out⟩)
      have H4 := Lib.hid (blk_in H0.out HB4.out)
      have HW4 := Lib.hid (HB.out.trans (HB4.out.mono HB.out.size))
      have HS4 : w.heap.size + 1 ≤ w4.heap.size := Nat.le_trans HS.out HB4.out.size
      clear hL1 hL2 HO
      rcases hwy with rfl | rfl | rfl | rfl
      · have hset : settL n h k = true := by rw [HSE.out]; decide
        go_wp2_with (at_builtin; refine wpList_append_own_at _ rfl _ _ 126 rfl (w.heap.size + 1) 26 ig (.slice none 0 0) 1 24 Try.underlying126 hg gz0 gz1 gz2 rfl (by decide) _ _ _ rfl (World.ownsRow.alloc HR.out _) ⟨w4.heap.size, 0, none⟩ 1 1 [.slice (some ⟨oB, 0, none⟩) ol oc] rfl rfl (lit_g _ _) ?c1 ?c3 ?c4 ?c5 ?_)
        case c1 => first | rfl | (intro u hu; simp at hu; subst hu; rfl)
        case c3 => unfold maxLen; omega
        case c4 => omega
        case c5 => first | omega | (simp; omega)
        intro o' w5 hown hgrow _ _
        have HO5 := Lib.hid (WroteR.step HR.out HLL.out (outM_mono HOM.out HS.out) hown hgrow)
        have HB5 := Lib.hid ((HW4.out.al (.cells #[.slice (some ⟨oB, 0, none⟩) ol oc] 26)).grown hgrow (by have := HW4.out.size; simp; omega) (fun q e => by have := (HR.out.lt q e).1; omega))
        have H5 := Lib.hid (grown_at HR.out hgrow H4.out (by omega))
        have S5 := Lib.hid (show w.heap.size + 1 ≤ w5.heap.size by have := hgrow.size; simp at *; omega)
        clear hown hgrow
        go_wp2_with fail
        go_roundw
        case rel => exact ⟨k + 1, by omega, by go_num, HO5, Lib.hid (upN_step HUP.out hset), H5, HB5, S5⟩
        case measure => simp [intOf]; omega
      · have hset : settL n h k = false := by rw [HSE.out]; decide
        obtain rfl : ok = false := by rw [OKR.out, upN_no hlt hset]; rfl
        go_wp2_with fail
        go_ret2
        exact ⟨_, rfl, rowsH_nil _ _, HW4.out⟩
      · have hset : settL n h k = true := by rw [HSE.out]; decide
        go_wp2_with (at_builtin; refine wpList_append_own_at _ rfl _ _ 126 rfl (w.heap.size + 1) 26 ig (.slice none 0 0) 1 24 Try.underlying126 hg gz0 gz1 gz2 rfl (by decide) _ _ _ rfl (World.ownsRow.alloc HR.out _) ⟨w4.heap.size, 0, none⟩ 1 1 [.slice (some ⟨oB, 0, none⟩) ol oc] rfl rfl (lit_g _ _) ?c1 ?c3 ?c4 ?c5 ?_)
        case c1 => first | rfl | (intro u hu; simp at hu; subst hu; rfl)
        case c3 => unfold maxLen; omega
        case c4 => omega
        case c5 => first | omega | (simp; omega)
        intro o' w5 hown hgrow _ _
        have HO5 := Lib.hid (WroteR.step HR.out HLL.out (outM_mono HOM.out HS.out) hown hgrow)
        have HB5 := Lib.hid ((HW4.out.al (.cells #[.slice (some ⟨oB, 0, none⟩) ol oc] 26)).grown hgrow (by have := HW4.out.size; simp; omega) (fun q e => by have := (HR.out.lt q e).1; omega))
        have H5 := Lib.hid (grown_at HR.out hgrow H4.out (by omega))
        have S5 := Lib.hid (show w.heap.size + 1 ≤ w5.heap.size by have := hgrow.size; simp at *; omega)
        clear hown hgrow
        go_wp2_with fail
        go_roundw
        case rel => exact ⟨k + 1, by omega, by go_num, HO5, Lib.hid (upN_step HUP.out hset), H5, HB5, S5⟩
        case measure => simp [intOf]; omega
      · have hset : settL n h k = false := by rw [HSE.out]; decide
        obtain rfl : ok = false := by rw [OKR.out, upN_no hlt hset]; rfl
        go_wp2_with fail
        go_ret2
        exact ⟨_, rfl, rowsH_nil _ _, HW4.out⟩
    case neg =>
      obtain rfl : k = m := by omega
      obtain ⟨W1, hW1⟩ : ∃ z, z = wr := ⟨_, rfl⟩
      subst hW1
      obtain ⟨n0, n1⟩ := cells2 H0.out
      have nl := lt_of H0.out
      obtain ⟨wa, wc, rfl⟩ := HO.out.shape
      go_wp2_with fail
      have HQ1 := Lib.hid (show Below W1.heap.size W1 (W1.alloc (.cells #[] 46)) from (Below.refl _ _).al _)
      have HQ2 := Lib.hid (show GrowR W1.heap.size 0 (W1.alloc (.cells #[] 46)) (.slice (some ⟨W1.heap.size, 0, none⟩) 0 0) (roundL n h) from ⟨[], ⟨rfl, .inr ⟨W1.heap.size, 0, #[], rfl, Nat.le_refl _, hp1 W1 _, Nat.le_refl _, Nat.zero_le _, rfl, rfl⟩⟩, ⟨rfl, fun i u xs q1 q2 => by simp at q1, fun i j u u' q1 q2 q3 => by simp at q1⟩⟩)
      generalize (W1.alloc (.cells #[] 46)) = w2 at HQ1 HQ2 ⊢
      go_loopw [13, 52] (fun o i wr => ∃ j : Nat, j ≤ ll ∧ i = .int .i64 j ∧ Hid (GrowR W1.heap.size j wr o (roundL n h)) ∧ Hid ((n.links.take j).all (fun l => isS (madeL n h l)) = true) ∧ Hid (Below W1.heap.size W1 wr)) (fun _ i _ => ll - (intOf i).toNat)
      case atStart => exact ⟨0, Nat.zero_le _, rfl, HQ2, Lib.hid rfl, HQ1⟩
      case round =>
        clear HQ1 HQ2
        obtain ⟨j, hj, rfl, HM, HA, HC⟩ := hrel
        have HW := Lib.hid (HB.out.trans (HC.out.mono HB.out.size))
        by_cases hjl : j < ll
        case pos =>
          obtain ⟨x, hx⟩ : ∃ x, n.links[j]? = some x := ⟨_, List.getElem?_eq_getElem (by rw [← NL.out]; exact hjl)⟩
          have HX := Lib.hid hx
          have XM := Lib.hid (List.mem_of_getElem? hx)
          obtain ⟨lb, lo, d, hla, hlb, e0, e1, e2, e3, e4, es⟩ := (HL.out.below HW.out).atb hx
          subst hla
          have TS := Lib.hid es
          obtain ⟨va, vc, rfl⟩ := es.shape
          have HRW := Lib.hid (show (roundL n h)[j]? = some (x.tok ++ writL n h x) by unfold roundL; rw [List.getElem?_map, hx]; rfl)
          have HMS := Lib.hid (show isS (madeL n h x) = isS (x.tok ++ writL n h x) from rfl)
          have HFR := Lib.hid (G.out.from XM.out)
          have HNI := Lib.hid (show x.src = outE → writL n h x = [] from fun e => by unfold writL; rw [if_pos e])
          have HYS := Lib.hid (show isS (madeL n h x) = true → ((n.links.take (j + 1)).all (fun l => isS (madeL n h l)) = true) from fun e => lall_step hx HA.out e)
          have HNO := Lib.hid (show isS (madeL n h x) = false → ok = false from fun e => by rw [OKR.out, lall_no (p := fun l => isS (madeL n h l)) hx e, Bool.and_false])
          have HT4 := Lib.hid (isS_len (G.out.tok XM.out))
          have HT5 := Lib.hid (isS_len (G.out.writ XM.out))
          obtain ⟨wl, hwl⟩ : ∃ z, z = writL n h x := ⟨_, rfl⟩
          obtain ⟨ms, hms⟩ : ∃ z, z = isS (madeL n h x) := ⟨_, rfl⟩
          rw [← hwl] at HRW HMS HFR HNI HT5
          rw [← hms] at HMS HYS HNO
          obtain ⟨xf, xo, xt, xi, xk⟩ := x
          obtain ⟨kl, hkl⟩ : ∃ z, z = xk.length := ⟨_, rfl⟩
          simp only [] at e0 e1 e2 e3 e4 TS HRW HMS HFR HNI HT4
          rw [← hkl] at TS e4
          have HBW := Lib.hid ((Below.refl wr.heap.size wr).al (.cells #[.int .i64 xf, .int .i64 xo, .int .i64 xt, .int .i64 xi, .slice va kl vc] 82))
          have HNEW := Lib.hid (hp1 wr (.cells #[.int .i64 xf, .int .i64 xo, .int .i64 xt, .int .i64 xi, .slice va kl vc] 82))
          have CC := Lib.hid (fun (W : World) (hw : Below wr.heap.size wr W) => l1copy_any (.slice va kl vc) xk W (TS.out.below hw) (by have := HT4.out; omega))
          obtain ⟨us, hU1, hU2⟩ := HM.out
          have HU1 := Lib.hid hU1
          have HU2 := Lib.hid hU2
          have HUB := Lib.hid (show ∀ u q, u ∈ us → u.ownBlock = some q → q < wr.heap.size from fun u q hu he => fam_hi hU2 u hu q he)
          have HWS := Lib.hid (HC.out.size)
          clear es hx hwl hms hkl hU1 hU2
          by_cases hsx : (⟨xf, xo, xt, xi, xk⟩ : Lnk).src = outE
          case pos =>
            obtain rfl := HNI.out hsx
            obtain ⟨rfl, rfl⟩ : xf = -1 ∧ xo = 0 := by simpa [Lnk.src, outE] using hsx
            rw [List.append_nil] at HRW HMS
            have CS := Lib.hid (fun (W : World) (r : Value) (hr : Sl W r xk) => sstream_any r xk W hr)
            rw [← HMS.out] at CS
            cases ms with
            | true =>
              go_wp2_with (first | (go_at_call 112; with_reducible refine (CC.out _ HBW.out).mono ?_; rintro e w3 ⟨r, rfl, ho, hb3⟩; have B3 := blk_in HNEW.out hb3; obtain ⟨f0, f1, f2, f3, f4⟩ := cells5 B3; have f5 := lt_of B3; have HB3 := Lib.hid (HBW.out.trans (hb3.mono HBW.out.size)); have HR3 := Lib.hid (ho.mono HBW.out.size); obtain ⟨ra, rc, hre⟩ := HR3.out.sl.shape; subst hre; clear ho hb3 B3) | (go_at_call 89; with_reducible refine (CS.out _ _ HR3.out.sl).mono ?_; rintro e w4 ⟨rfl, rfl⟩) | (at_builtin; refine wpList_append_own_at _ rfl _ _ 26 rfl W1.heap.size 46 is (.slice none 0 0) 1 24 Try.underlying26 hs sz0 sz1 sz2 rfl (by decide) _ _ _ rfl (World.ownsRow.alloc (rowT_below HU1.out HB3.out) _) ⟨_, 0, none⟩ 1 1 [.slice ra xk.length rc] rfl rfl (lit_s _ _) ?c1 ?c3 ?c4 ?c5 ?_))
              case c1 => first | rfl | (intro u hu; simp at hu; subst hu; rfl)
              case c3 => unfold maxLen; omega
              case c4 => omega
              case c5 => have q1 := HWS.out; have q2 := (HB3.out).size; first | omega | (simp; omega)
              intro o' w5 hown hgrow _ _
              have HO5 := Lib.hid (GrowR.step (rowT_below HU1.out HB3.out) (HU2.out.below HB3.out) HR3.out HUB.out HWS.out HRW.out hown hgrow)
              have HB5 := Lib.hid (((HC.out.trans ((HB3.out).mono HC.out.size)).al (.cells #[.slice ra xk.length rc] 46)).grown hgrow (by have q1 := HWS.out; have q2 := (HB3.out).size; simp; omega) (fun q e => (HU1.out.lt q e).1))
              clear hown hgrow
              go_wp2_with fail
              go_roundw
              case rel => exact ⟨j + 1, by omega, by go_num, HO5, Lib.hid (HYS.out (by simp)), HB5⟩
              case measure => simp [intOf]; omega
            | false =>
              obtain rfl := HNO.out rfl
              go_wp2_with (first | (go_at_call 112; with_reducible refine (CC.out _ HBW.out).mono ?_; rintro e w3 ⟨r, rfl, ho, hb3⟩; have B3 := blk_in HNEW.out hb3; obtain ⟨f0, f1, f2, f3, f4⟩ := cells5 B3; have f5 := lt_of B3; have HB3 := Lib.hid (HBW.out.trans (hb3.mono HBW.out.size)); have HR3 := Lib.hid (ho.mono HBW.out.size); obtain ⟨ra, rc, hre⟩ := HR3.out.sl.shape; subst hre; clear ho hb3 B3) | (go_at_call 89; with_reducible refine (CS.out _ _ HR3.out.sl).mono ?_; rintro e w4 ⟨rfl, rfl⟩))
              go_ret2
              exact ⟨_, rfl, rowsH_nil _ _, HW.out.trans (HB3.out.mono HW.out.size)⟩
          case neg =>
            obtain ⟨i, o, f1, f2, hi, hrow, _⟩ := HFR.out hsx
            subst f1 f2
            have hi' : i < k := by rw [NP.out]; exact hi
            have hol := (List.getElem?_eq_some_iff.1 hrow).1
            obtain ⟨pb, pc, B, bc, y, bl, hxe, hpb, hcy, hbl, hB, hcz, hy⟩ := HO.out.at hi' hrow
            simp only [Value.slice.injEq] at hxe
            obtain ⟨rfl, _, rfl⟩ := hxe
            rw [← hbl] at hol
            obtain ⟨ya, yc, rfl⟩ := hy.sl.shape
            have HY := Lib.hid hy.sl
            have HCY := Lib.hid (fun (W : World) (hw : Below wr.heap.size wr W) => ((HC.out.trans (hw.mono HC.out.size)).cell (p := ⟨pb, i, none⟩) hpb).trans hcy)
            have HCZ := Lib.hid (fun (W : World) (hw : Below wr.heap.size wr W) => ((HC.out.trans (hw.mono HC.out.size)).cell (p := ⟨B, o, none⟩) hB).trans hcz)
            have hge : (0 : Int) ≤ (i : Int) := by omega
            have hpw : pb < wr.heap.size := Nat.lt_of_lt_of_le hpb HC.out.size
            have hBw : B < wr.heap.size := Nat.lt_of_lt_of_le hB HC.out.size
            have CS := Lib.hid (fun (W : World) (r : Value) (hr : Sl W r (xk ++ wl)) => sstream_any r (xk ++ wl) W hr)
            rw [← HMS.out] at CS
            clear hcy hcz hy hrow hbl hi
            go_upto_region 16 with (go_at_call 112; with_reducible refine (CC.out _ HBW.out).mono ?_; rintro e w3 ⟨r, rfl, ho, hb3⟩; have B3 := blk_in HNEW.out hb3; obtain ⟨f0, f1, f2, f3, f4⟩ := cells5 B3; have f5 := lt_of B3; have HB3 := Lib.hid (HBW.out.trans (hb3.mono HBW.out.size)); have HR3 := Lib.hid (ho.mono HBW.out.size); obtain ⟨ra, rc, hre⟩ := HR3.out.sl.shape; subst hre; clear ho hb3 B3)
            have HB3D := Lib.hid (show Below wr.heap.size wr w3.drew from HB3.out.drew)
            have c0 := HCY.out _ HB3.out
            have c1 := HCZ.out _ HB3.out
            have c2 := Nat.lt_of_lt_of_le hpw HB3.out.size
            have c3 := Nat.lt_of_lt_of_le hBw HB3.out.size
            refine wp_open' ?_
            intro K9 hK9
            go_cut [16] from 62 to 72 (fun s16 wz => ∃ (za : Option Addr) (zc : Nat), s16 = .slice za (xk ++ wl).length zc ∧ Hid (Own wr.heap.size wz (.slice za (xk ++ wl).length zc) (xk ++ wl)) ∧ Hid (Below wr.heap.size wr wz))
            case first =>
              go_region_law (refine step_app_sl rfl (.tmp 62) (.tmp 71) rfl rfl (lo := wr.heap.size) (v := .slice ra xk.length rc) (u := .slice ya wl.length yc) (xs := xk) (ys := wl) (by simp [Go.Act.eval]) (by simp [Go.Act.eval]) (show Own wr.heap.size w3.drew _ _ from HR3.out) (HY.out.below (HC.out.trans (HB3D.out.mono HC.out.size))) (by have := HT4.out; have := HT5.out; omega) (show wr.heap.size ≤ w3.drew.heap.size from HB3D.out.size) ?_; intro v' w5 hown hgrow _; have HOZ := Lib.hid hown; have HBZ := Lib.hid (HB3D.out.grown hgrow (show wr.heap.size ≤ w3.drew.heap.size from HB3D.out.size) (fun q e => (HR3.out.lt q e).1)); clear hown hgrow)
              all_goals (
                go_wp2_with fail
                go_meet
                case rel =>
                  obtain ⟨za, zc, rfl⟩ := HOZ.out.sl.shape
                  exact ⟨za, zc, rfl, HOZ, HBZ⟩)
            case rest =>
              obtain ⟨za, zc, rfl, HOZ, HBZ⟩ := hcut
              obtain ⟨zl, hzl⟩ : ∃ z, z = (xk ++ wl).length := ⟨_, rfl⟩
              rw [← hzl] at HOZ ⊢
              clear hzl
              refine hK9 _ _ ?_
              cases ms with
              | true =>
                go_wp2_with (first | (go_at_call 89; with_reducible refine (CS.out _ _ HOZ.out.sl).mono ?_; rintro e w4 ⟨rfl, rfl⟩) | (at_builtin; refine wpList_append_own_at _ rfl _ _ 26 rfl W1.heap.size 46 is (.slice none 0 0) 1 24 Try.underlying26 hs sz0 sz1 sz2 rfl (by decide) _ _ _ rfl (World.ownsRow.alloc (rowT_below HU1.out HBZ.out) _) ⟨_, 0, none⟩ 1 1 [.slice za zl zc] rfl rfl (lit_s _ _) ?c1 ?c3 ?c4 ?c5 ?_))
                case c1 => first | rfl | (intro u hu; simp at hu; subst hu; rfl)
                case c3 => unfold maxLen; omega
                case c4 => omega
                case c5 => have q1 := HWS.out; have q2 := (HBZ.out).size; first | omega | (simp; omega)
                intro o' w5 hown hgrow _ _
                have HO5 := Lib.hid (GrowR.step (rowT_below HU1.out HBZ.out) (HU2.out.below HBZ.out) HOZ.out HUB.out HWS.out HRW.out hown hgrow)
                have HB5 := Lib.hid (((HC.out.trans ((HBZ.out).mono HC.out.size)).al (.cells #[.slice za zl zc] 46)).grown hgrow (by have q1 := HWS.out; have q2 := (HBZ.out).size; simp; omega) (fun q e => (HU1.out.lt q e).1))
                clear hown hgrow
                go_wp2_with fail
                go_roundw
                case rel => exact ⟨j + 1, by omega, by go_num, HO5, Lib.hid (HYS.out (by simp)), HB5⟩
                case measure => simp [intOf]; omega
              | false =>
                obtain rfl := HNO.out rfl
                go_wp2_with (go_at_call 89; with_reducible refine (CS.out _ _ HOZ.out.sl).mono ?_; rintro e w4 ⟨rfl, rfl⟩)
                go_ret2
                exact ⟨_, rfl, rowsH_nil _ _, HW.out.trans (HBZ.out.mono HW.out.size)⟩
        case neg =>
          obtain rfl : j = ll := by omega
          obtain rfl : ok = true := (by rw [OKR.out, HUP.out]; rw [List.take_of_length_le (by rw [← NL.out]; exact Nat.le_refl _)] at HA; rw [HA.out]; rfl)
          obtain ⟨oa, ocp, rfl⟩ := HM.out.shape
          go_wp2_with fail
          go_ret2
          exact ⟨_, rfl, OutH.mono (HM.out.rows (by unfold roundL; rw [List.length_map]; exact NL.out.symm)) HB.out.size (Nat.le_refl _), HW.out⟩

set_option maxRecDepth 100000 in
set_option maxHeartbeats 4000000 in
theorem srnd_any (v u : Value) (n : Net) (h : List (List Int)) (w : World) (hv : NetV w v n) (hu : SlR w u h) :
    Calls Try.prog 17 #[v, u] w fun e w' => ∃ r, e = .returned (.tuple #[r, .bool (roundOfR1 n h)]) ∧ RowsH w.heap.size w'.heap.size w' r (roundOfR0 n h) ∧ Below w.heap.size w w' := by
  obtain ⟨pv, lv, rfl, hps, hls⟩ := hv
  have HV := Lib.hid (show NetV w (.agg #[pv, lv]) n from ⟨pv, lv, rfl, hps, hls⟩)
  have HU := Lib.hid hu
  obtain ⟨pa, pcap, rfl⟩ := hps.shape
  obtain ⟨la, lcap, rfl⟩ := hls.shape
  obtain ⟨m, hm⟩ : ∃ z, z = n.progs.length := ⟨_, rfl⟩
  obtain ⟨ll, hll⟩ : ∃ z, z = n.links.length := ⟨_, rfl⟩
  rw [← hm, ← hll] at HV ⊢
  clear hps hls hu hm hll
  have h0 := Lib.hid (hp1 w (.cells #[.slice pa m pcap, .slice la ll lcap] 34))
  have hb0 := Lib.hid ((Below.refl w.heap.size w).al (.cells #[.slice pa m pcap, .slice la ll lcap] 34))
  have CH := Lib.hid (fun (W : World) (hw : Below w.heap.size w W) => shist_any (.agg #[.slice pa m pcap, .slice la ll lcap]) u n h W (HV.out.below hw) (HU.out.below hw))
  cases hh : areHistoriesR0 n h with
  | false =>
    have e1 : roundOfR1 n h = false := by unfold roundOfR1; rw [hh]; rfl
    have e0 : roundOfR0 n h = [] := by unfold roundOfR0; rw [e1]; rfl
    rw [e0, e1]
    rw [hh] at CH
    go_enter Try.func17, Try.ntmps17
    go_wp2_with (go_at_call 59; with_reducible refine (CH.out _ hb0.out).mono ?_; rintro e w1 ⟨rfl, hb1⟩; have HB1 := Lib.hid (hb0.out.trans (hb1.mono hb0.out.size)); clear hb1)
    go_ret2
    exact ⟨_, rfl, rowsH_nil _ _, HB1.out⟩
  | true =>
    have G := hist_good hh
    have CM := Lib.hid (fun (W : World) (hw : Below w.heap.size w W) => sround_any (.agg #[.slice pa m pcap, .slice la ll lcap]) u n h W (HV.out.below hw) (HU.out.below hw) G)
    have e1 : roundOfR1 n h = okR n h := by unfold roundOfR1; rw [hh]; rfl
    have e0 : roundOfR0 n h = madeR n h := by unfold roundOfR0 madeR; rw [e1]
    rw [e0, e1]
    obtain ⟨ok, hok⟩ : ∃ z, z = okR n h := ⟨_, rfl⟩
    obtain ⟨mr, hmr⟩ : ∃ z, z = madeR n h := ⟨_, rfl⟩
    rw [← hok, ← hmr] at CM ⊢
    rw [hh] at CH
    clear hh e0 e1 hok hmr G
    go_enter Try.func17, Try.ntmps17
    go_wp2_with (first | (go_at_call 59; with_reducible refine (CH.out _ hb0.out).mono ?_; rintro e w1 ⟨rfl, hb1⟩; have HB1 := Lib.hid (hb0.out.trans (hb1.mono hb0.out.size)); have H1 := blk_in h0.out hb1; obtain ⟨f0, f1⟩ := cells2 H1; have f2 := lt_of H1; clear hb1 H1) | (go_at_call 60; with_reducible refine (CM.out _ HB1.out).mono ?_; rintro e w2 ⟨r, rfl, hr, hb2⟩; have HR := Lib.hid hr; have HB2 := Lib.hid (HB1.out.trans (hb2.mono HB1.out.size)); clear hr hb2))
    go_ret2
    exact ⟨_, rfl, OutH.mono HR.out HB1.out.size (Nat.le_refl _), HB2.out⟩
theorem irnd_w (v : Value) (n : Net) (u : Value) (h : List (List Int)) (w : World) (hv : NetV w v n) (hu : SlR w u h) :
    Calls Try.prog 20 #[v, u] w fun e w' => ∃ r, e = .returned (.tuple #[r, .bool (roundOfR1 n h)]) ∧ RowsH w.heap.size w'.heap.size w' r (roundOfR0 n h) ∧ Below w.heap.size w w' := irnd_any v u n h w hv hu
theorem srnd_w (v : Value) (n : Net) (u : Value) (h : List (List Int)) (w : World) (hv : NetV w v n) (hu : SlR w u h) :
    Calls Try.prog 17 #[v, u] w fun e w' => ∃ r, e = .returned (.tuple #[r, .bool (roundOfR1 n h)]) ∧ RowsH w.heap.size w'.heap.size w' r (roundOfR0 n h) ∧ Below w.heap.size w w' := srnd_any v u n h w hv hu

def isFixedR0 (n : Net) (h : List (List Int)) : Bool := roundOfR1 n h && decide (roundOfR0 n h = h)

set_option maxRecDepth 100000 in
set_option maxHeartbeats 4000000 in
theorem ifix_w (v : Value) (n : Net) (u : Value) (h : List (List Int)) (w : World) (hv : NetV w v n) (hu : SlR w u h) :
    Calls Try.prog 29 #[v, u] w fun e w' => e = .returned (.bool (isFixedR0 n h)) ∧ Below w.heap.size w w' := by
  obtain ⟨pv, lv, rfl, hps, hls⟩ := hv
  have HV := Lib.hid (show NetV w (.agg #[pv, lv]) n from ⟨pv, lv, rfl, hps, hls⟩)
  have HU := Lib.hid hu
  obtain ⟨pa, pcap, rfl⟩ := hps.shape
  obtain ⟨la, lcap, rfl⟩ := hls.shape
  obtain ⟨m, hm⟩ : ∃ z, z = n.progs.length := ⟨_, rfl⟩
  obtain ⟨ll, hll⟩ : ∃ z, z = n.links.length := ⟨_, rfl⟩
  rw [← hm, ← hll] at HV ⊢
  clear hps hls hu hm hll
  have h0 := Lib.hid (hp1 w (.cells #[.slice pa m pcap, .slice la ll lcap] 34))
  have hb0 := Lib.hid ((Below.refl w.heap.size w).al (.cells #[.slice pa m pcap, .slice la ll lcap] 34))
  have CR := Lib.hid (fun (W : World) (hw : Below w.heap.size w W) => irnd_any (.agg #[.slice pa m pcap, .slice la ll lcap]) u n h W (HV.out.below hw) (HU.out.below hw))
  obtain ⟨xs, hxs⟩ : ∃ z, z = roundOfR0 n h := ⟨_, rfl⟩
  have HF := Lib.hid (show isFixedR0 n h = (roundOfR1 n h && decide (roundOfR0 n h = h)) from rfl)
  obtain ⟨r1, hr1⟩ : ∃ z, z = roundOfR1 n h := ⟨_, rfl⟩
  obtain ⟨rr, hrr⟩ : ∃ z, z = isFixedR0 n h := ⟨_, rfl⟩
  rw [← hxs, ← hr1, ← hrr] at HF
  rw [← hxs, ← hr1] at CR
  rw [← hrr]
  clear hxs hr1 hrr
  cases r1 with
  | false =>
    obtain rfl : rr = false := HF.out
    go_enter Try.func29, Try.ntmps29
    go_wp2_with (go_at_call 20; with_reducible refine (CR.out _ hb0.out).mono ?_; rintro e w1 ⟨x, rfl, hx, hb1⟩; have HB1 := Lib.hid (hb0.out.trans (hb1.mono hb0.out.size)); clear hb1 hx)
    go_ret
    exact ⟨rfl, HB1.out⟩
  | true =>
    have HF2 := Lib.hid (show rr = decide (xs = h) by rw [HF.out]; rfl)
    have CE := Lib.hid (fun (W : World) (x : Value) (hx : SlR W x xs) (hw : Below w.heap.size w W) => iareq_any x u xs h W hx (HU.out.below hw))
    rw [← HF2.out] at CE
    go_enter Try.func29, Try.ntmps29
    go_wp2_with (first | (go_at_call 20; with_reducible refine (CR.out _ hb0.out).mono ?_; rintro e w1 ⟨x, rfl, hx, hb1⟩; have HX := Lib.hid hx.v; have HB1 := Lib.hid (hb0.out.trans (hb1.mono hb0.out.size)); clear hb1 hx) | (go_at_call 74; with_reducible refine (CE.out _ _ HX.out HB1.out).mono ?_; rintro e w2 ⟨rfl, hb2⟩; have HB2 := Lib.hid (HB1.out.trans (hb2.mono HB1.out.size)); clear hb2))
    go_ret
    exact ⟨rfl, HB2.out⟩

set_option maxRecDepth 100000 in
set_option maxHeartbeats 4000000 in
theorem sfix_w (v : Value) (n : Net) (u : Value) (h : List (List Int)) (w : World) (hv : NetV w v n) (hu : SlR w u h) :
    Calls Try.prog 28 #[v, u] w fun e w' => e = .returned (.bool (isFixedR0 n h)) ∧ Below w.heap.size w w' := by
  obtain ⟨pv, lv, rfl, hps, hls⟩ := hv
  have HV := Lib.hid (show NetV w (.agg #[pv, lv]) n from ⟨pv, lv, rfl, hps, hls⟩)
  have HU := Lib.hid hu
  obtain ⟨pa, pcap, rfl⟩ := hps.shape
  obtain ⟨la, lcap, rfl⟩ := hls.shape
  obtain ⟨m, hm⟩ : ∃ z, z = n.progs.length := ⟨_, rfl⟩
  obtain ⟨ll, hll⟩ : ∃ z, z = n.links.length := ⟨_, rfl⟩
  rw [← hm, ← hll] at HV ⊢
  clear hps hls hu hm hll
  have h0 := Lib.hid (hp1 w (.cells #[.slice pa m pcap, .slice la ll lcap] 34))
  have hb0 := Lib.hid ((Below.refl w.heap.size w).al (.cells #[.slice pa m pcap, .slice la ll lcap] 34))
  have CR := Lib.hid (fun (W : World) (hw : Below w.heap.size w W) => srnd_any (.agg #[.slice pa m pcap, .slice la ll lcap]) u n h W (HV.out.below hw) (HU.out.below hw))
  obtain ⟨xs, hxs⟩ : ∃ z, z = roundOfR0 n h := ⟨_, rfl⟩
  have HF := Lib.hid (show isFixedR0 n h = (roundOfR1 n h && decide (roundOfR0 n h = h)) from rfl)
  obtain ⟨r1, hr1⟩ : ∃ z, z = roundOfR1 n h := ⟨_, rfl⟩
  obtain ⟨rr, hrr⟩ : ∃ z, z = isFixedR0 n h := ⟨_, rfl⟩
  rw [← hxs, ← hr1, ← hrr] at HF
  rw [← hxs, ← hr1] at CR
  rw [← hrr]
  clear hxs hr1 hrr
  cases r1 with
  | false =>
    obtain rfl : rr = false := HF.out
    go_enter Try.func28, Try.ntmps28
    go_wp2_with (go_at_call 17; with_reducible refine (CR.out _ hb0.out).mono ?_; rintro e w1 ⟨x, rfl, hx, hb1⟩; have HB1 := Lib.hid (hb0.out.trans (hb1.mono hb0.out.size)); clear hb1 hx)
    go_ret
    exact ⟨rfl, HB1.out⟩
  | true =>
    have HF2 := Lib.hid (show rr = decide (xs = h) by rw [HF.out]; rfl)
    have CE := Lib.hid (fun (W : World) (x : Value) (hx : SlR W x xs) (hw : Below w.heap.size w W) => same_any x u xs h W hx (HU.out.below hw))
    rw [← HF2.out] at CE
    go_enter Try.func28, Try.ntmps28
    go_wp2_with (first | (go_at_call 17; with_reducible refine (CR.out _ hb0.out).mono ?_; rintro e w1 ⟨x, rfl, hx, hb1⟩; have HX := Lib.hid hx.v; have HB1 := Lib.hid (hb0.out.trans (hb1.mono hb0.out.size)); clear hb1 hx) | (go_at_call 72; with_reducible refine (CE.out _ _ HX.out HB1.out).mono ?_; rintro e w2 ⟨rfl, rfl⟩; have HB2 := HB1))
    go_ret
    exact ⟨rfl, HB2.out⟩

theorem rowsH_mono {lo hi lo' hi' : Nat} {w : World} {v : Value} {xs : List (List Int)} (h : RowsH lo hi w v xs) (h1 : lo' ≤ lo) (h2 : hi ≤ hi') : RowsH lo' hi' w v xs := OutH.mono h h1 h2
def leastG (n : Net) : Nat → List (List Int) → Int → List (List Int) × Int × Bool
  | 0, _, _ => ([], 0, false)
  | f + 1, h, r => if okR n h then (if roundL n h = h then (h, r, true) else leastG n f (roundL n h) (r + 1)) else ([], 0, false)
def toksL (n : Net) : List (List Int) := n.links.map Lnk.tok
def leastR (n : Net) : List (List Int) × Int × Bool := if okN n then leastG n 300 (toksL n) 1 else ([], 0, false)
def leastStreamsR0 (n : Net) : List (List Int) := (leastR n).1
def leastStreamsR1 (n : Net) : Int := (leastR n).2.1
def leastStreamsR2 (n : Net) : Bool := (leastR n).2.2
theorem toks_good {n : Net} (ho : okN n = true) : GoodH n (toksL n) := by
  refine ⟨ho, by unfold toksL; simp, fun xs hx => ?_⟩
  unfold toksL at hx
  obtain ⟨l, hl, rfl⟩ := List.mem_map.1 hx
  have := (((okN_iff n).1 ho).2.1 l hl).1
  unfold linkL at this
  rw [Bool.and_eq_true] at this
  exact this.1
theorem leastG_good {n : Net} : ∀ (f : Nat) (h : List (List Int)) (r : Int), GoodH n h → (leastG n f h r).1 = [] ∨ GoodH n (leastG n f h r).1
  | 0, _, _, _ => .inl rfl
  | f + 1, h, r, g => by
    unfold leastG
    cases e : okR n h with
    | false => exact .inl rfl
    | true =>
      rw [if_pos rfl]
      by_cases q : roundL n h = h
      · rw [if_pos q]; exact .inr g
      · rw [if_neg q]; exact leastG_good f _ _ (roundL_good g e)
theorem least_bd (n : Net) : (leastStreamsR0 n).length ≤ 30 ∧ sumT (leastStreamsR0 n) ≤ 12000 ∧ sumR (leastStreamsR0 n) ≤ 12030 := by
  unfold leastStreamsR0 leastR
  cases e : okN n with
  | false => simp [sumT, sumR]
  | true =>
    rw [if_pos rfl]
    rcases leastG_good 300 (toksL n) 1 (toks_good e) with q | q
    · rw [q]; simp [sumT, sumR]
    · exact good_bd q
theorem leastG_no {n : Net} {f : Nat} {h : List (List Int)} {r : Int} (e : okR n h = false) : leastG n (f + 1) h r = ([], 0, false) := by
  unfold leastG; rw [e]; rfl
theorem leastG_yes {n : Net} {f : Nat} {h : List (List Int)} {r : Int} (e : okR n h = true) (q : roundL n h = h) : leastG n (f + 1) h r = (h, r, true) := by
  unfold leastG; rw [e, if_pos rfl, if_pos q]
theorem leastG_on {n : Net} {f : Nat} {h : List (List Int)} {r : Int} (e : okR n h = true) (q : ¬ roundL n h = h) : leastG n (f + 1) h r = leastG n f (roundL n h) (r + 1) := by
  conv => lhs; unfold leastG
  rw [e, if_pos rfl, if_neg q]
/-- The slice that is filled with the tokens' own headers. -/
def ToksR (w0 : World) (B ll k : Nat) (w : World) (ls : List Lnk) : Prop :=
  ∃ us : List Value, us.length = k ∧ w.heap[B]? = some (.cells (us ++ List.replicate (ll - k) (Value.slice none 0 0)).toArray 46) ∧ ∀ (q : Nat) (y : Value) (x : Lnk), us[q]? = some y → ls[q]? = some x → Sl w0 y x.tok
theorem ToksR.step {w0 : World} {B ll k : Nat} {w w1 : World} {ls : List Lnk} {y : Value} {x : Lnk} (h : ToksR w0 B ll k w ls) (hb : Below w.heap.size w w1) (hk : k < ll) (hx : ls[k]? = some x) (hy : Sl w0 y x.tok) : ToksR w0 B ll (k + 1) (w1.setCell ⟨B, k, none⟩ y) ls := by
  obtain ⟨us, h1, h2, h3⟩ := h
  refine ⟨us ++ [y], by simp [h1], by rw [set_row (blk_in h2 hb), fill_set h1 hk], fun q z x' hz hx' => ?_⟩
  rcases Nat.lt_trichotomy q k with e | e | e
  · rw [List.getElem?_append_left (by omega)] at hz
    exact h3 q z x' hz hx'
  · rw [List.getElem?_append_right (by omega), show q - us.length = 0 by omega] at hz
    obtain rfl := Option.some.inj hz
    subst e
    rw [hx] at hx'
    obtain rfl := Option.some.inj hx'
    exact hy
  · rw [List.getElem?_eq_none (by simp; omega)] at hz
    cases hz
theorem ToksR.cell {w0 : World} {B ll k : Nat} {w w1 : World} {ls : List Lnk} (h : ToksR w0 B ll k w ls) (hk : k < ll) (hb : Below w.heap.size w w1) : w1.cell? ⟨B, k, none⟩ = some (.slice none 0 0) ∧ w1.frozen? ⟨B, k, none⟩ = false ∧ B < w1.heap.size := by
  obtain ⟨us, h1, h2, _⟩ := h
  have b1 := blk_in h2 hb
  refine ⟨row_cell b1 ?_, fr_of b1 k, lt_of b1⟩
  rw [List.getElem?_append_right (by omega), List.getElem?_replicate, if_pos (by omega)]
theorem ToksR.slR {w0 : World} {B ll : Nat} {w : World} {ls : List Lnk} (h : ToksR w0 B ll ll w ls) (hl : ls.length = ll) (hb : Below w0.heap.size w0 w) (hm : ll ≤ 1000) : SlR w (.slice (some ⟨B, 0, none⟩) ll ll) (ls.map Lnk.tok) := by
  obtain ⟨us, h1, h2, h3⟩ := h
  rw [Nat.sub_self, List.replicate_zero, List.append_nil] at h2
  refine ⟨some ⟨B, 0, none⟩, ll, by rw [List.length_map, hl], by rw [List.length_map]; omega, by unfold maxLen; omega, (fun e => by cases e), .inr ⟨B, 0, rfl, lt_of h2, fun q xs hx => ?_⟩⟩
  rw [List.getElem?_map] at hx
  obtain ⟨x, hx1, rfl⟩ := Option.map_eq_some_iff.1 hx
  have hq := (List.getElem?_eq_some_iff.1 hx1).1
  obtain ⟨y, hy⟩ : ∃ y, us[q]? = some y := ⟨_, List.getElem?_eq_getElem (by omega)⟩
  exact ⟨y, by rw [Nat.zero_add]; exact row_cell h2 hy, (h3 q y x hy hx1).below hb⟩

set_option maxRecDepth 100000 in
set_option maxHeartbeats 8000000 in
theorem ilst_w (v : Value) (n : Net) (w : World) (hv : NetV w v n) :
    Calls Try.prog 27 #[v] w fun e w' => ∃ r, e = .returned (.tuple #[r, .int .i64 (leastStreamsR1 n), .bool (leastStreamsR2 n)]) ∧ RowsH w.heap.size w'.heap.size w' r (leastStreamsR0 n) ∧ Below w.heap.size w w' := by
  obtain ⟨pv, lv, rfl, hps, hls⟩ := hv
  have HV := Lib.hid (show NetV w (.agg #[pv, lv]) n from ⟨pv, lv, rfl, hps, hls⟩)
  have HL := Lib.hid hls
  have LL := hls.len
  obtain ⟨pa, pcap, rfl⟩ := hps.shape
  obtain ⟨la, lcap, rfl⟩ := hls.shape
  obtain ⟨m, hm⟩ : ∃ z, z = n.progs.length := ⟨_, rfl⟩
  obtain ⟨ll, hll⟩ : ∃ z, z = n.links.length := ⟨_, rfl⟩
  have NL := Lib.hid hll
  rw [← hm, ← hll] at HV ⊢
  rw [← hll] at HL LL
  obtain ⟨x0, x1, x2, hx⟩ : ∃ x0 x1 x2, leastR n = (x0, x1, x2) := ⟨_, _, _, rfl⟩
  have HR := Lib.hid hx
  rw [show leastStreamsR0 n = x0 by unfold leastStreamsR0; rw [hx], show leastStreamsR1 n = x1 by unfold leastStreamsR1; rw [hx], show leastStreamsR2 n = x2 by unfold leastStreamsR2; rw [hx]]
  clear hps hls hm hx
  have h0 := Lib.hid (hp1 w (.cells #[.slice pa m pcap, .slice la ll lcap] 34))
  have hb0 := Lib.hid ((Below.refl w.heap.size w).al (.cells #[.slice pa m pcap, .slice la ll lcap] 34))
  have CN := Lib.hid (fun (W : World) (hw : Below w.heap.size w W) => iisnet_any (.agg #[.slice pa m pcap, .slice la ll lcap]) n W (HV.out.below hw))
  cases ho : okN n with
  | false =>
    rw [ho] at CN
    obtain ⟨rfl, rfl, rfl⟩ : x0 = [] ∧ x1 = 0 ∧ x2 = false := by
      have q := HR.out
      unfold leastR at q
      rw [ho] at q
      simp at q
      exact ⟨q.1, q.2.1.symm, q.2.2⟩
    clear hll
    go_enter Try.func27, Try.ntmps27
    go_wp2_with (go_at_call 73; with_reducible refine (CN.out _ hb0.out).mono ?_; rintro e w1 ⟨rfl, hb1⟩; have HB1 := Lib.hid (hb0.out.trans (hb1.mono hb0.out.size)); clear hb1)
    go_ret3
    exact ⟨_, rfl, rowsH_nil _ _, HB1.out⟩
  | true =>
    rw [ho] at CN
    have hl30 : ll ≤ 30 := by rw [hll]; have := okN_len ho; omega
    have HG0 := Lib.hid (toks_good ho)
    have HR1 := Lib.hid (show leastG n 300 (toksL n) 1 = (x0, x1, x2) by have q := HR.out; unfold leastR at q; rw [ho, if_pos rfl] at q; exact q)
    have MK := fun (W : World) => mkSB ll (by omega) W
    clear hll HR ho
    go_enter Try.func27, Try.ntmps27
    go_wp2_with (go_at_call 73; with_reducible refine (CN.out _ hb0.out).mono ?_; rintro e w1 ⟨rfl, hb1⟩; have HB1 := Lib.hid (hb0.out.trans (hb1.mono hb0.out.size)); have H1 := Lib.hid (blk_in h0.out hb1); obtain ⟨n0, n1⟩ := cells2 H1.out; have n2 := lt_of H1.out; clear hb1)
    have HQ1 := Lib.hid (show Below w1.heap.size w1 (w1.alloc (.cells (Array.replicate ll (Value.slice none 0 0)) 46)) from (Below.refl _ _).al _)
    have HQ2 := Lib.hid (show ToksR w w1.heap.size ll 0 (w1.alloc (.cells (Array.replicate ll (Value.slice none 0 0)) 46)) n.links from ⟨[], rfl, by rw [hp1, List.nil_append, List.toArray_replicate]; rfl, fun q y x hy => by simp at hy⟩)
    generalize (w1.alloc (.cells (Array.replicate ll (Value.slice none 0 0)) 46)) = w2 at HQ1 HQ2 ⊢
    clear MK
    go_loopw [21] (fun i wr => ∃ k : Nat, k ≤ ll ∧ i = .int .i64 k ∧ Hid (ToksR w w1.heap.size ll k wr n.links) ∧ Hid (Below w1.heap.size w1 wr)) (fun i _ => ll - (intOf i).toNat)
    case atStart => exact ⟨0, Nat.zero_le _, rfl, HQ2, HQ1⟩
    case round =>
      clear HQ1 HQ2
      obtain ⟨k, hk, rfl, HM, HB⟩ := hrel
      have HW := Lib.hid (HB1.out.trans (HB.out.mono HB1.out.size))
      by_cases hlt : k < ll
      case pos =>
        obtain ⟨x, hx⟩ : ∃ x, n.links[k]? = some x := ⟨_, List.getElem?_eq_getElem (by rw [← NL.out]; exact hlt)⟩
        obtain ⟨lb, lo, d, hla, hlb, e0, e1, e2, e3, e4, es⟩ := HL.out.atb hx
        subst hla
        have HX := Lib.hid hx
        have TS := Lib.hid es
        obtain ⟨va, vc, rfl⟩ := es.shape
        obtain ⟨kl, hkl⟩ : ∃ z, z = x.tok.length := ⟨_, rfl⟩
        rw [← hkl] at TS e4
        have c0 := (HW.out.cell (p := ⟨lb, lo + k * 5, none⟩) hlb).trans e0
        have c1 := (HW.out.cell (p := ⟨lb, lo + k * 5 + 1, none⟩) hlb).trans e1
        have c2 := (HW.out.cell (p := ⟨lb, lo + k * 5 + 2, none⟩) hlb).trans e2
        have c3 := (HW.out.cell (p := ⟨lb, lo + k * 5 + 3, none⟩) hlb).trans e3
        have c4 := (HW.out.cell (p := ⟨lb, lo + k * 5 + 4, none⟩) hlb).trans e4
        have c5 := Nat.lt_of_lt_of_le hlb HW.out.size
        clear es hx hkl e0 e1 e2 e3 e4
        obtain ⟨xf, xo, xt, xi, xk⟩ := x
        simp only [] at c0 c1 c2 c3 TS
        have HBW := Lib.hid ((Below.refl wr.heap.size wr).al (.cells #[.int .i64 xf, .int .i64 xo, .int .i64 xt, .int .i64 xi, .slice va kl vc] 82))
        obtain ⟨q0, q1, q2⟩ := HM.out.cell hlt HBW.out
        go_wp2_with fail
        go_roundw
        case rel => exact ⟨k + 1, by omega, by go_num, Lib.hid (HM.out.step HBW.out hlt HX.out TS.out), Lib.hid ((HB.out.trans (HBW.out.mono HB.out.size)).setCell (Nat.le_refl _) _)⟩
        case measure => simp [intOf]; omega
      case neg =>
        obtain rfl : k = ll := by omega
        have HS := Lib.hid (HM.out.slR NL.out.symm HW.out (by omega))
        have HTL := Lib.hid (show n.links.map Lnk.tok = toksL n from rfl)
        rw [HTL.out] at HS
        have H2 := Lib.hid (blk_in H1.out HB.out)
        obtain ⟨W1, hW1⟩ : ∃ z, z = wr := ⟨_, rfl⟩
        subst hW1
        clear HM HB HTL n0 n1 n2
        go_wp2_with fail
        go_loopw [5, 8] (fun o i wr => ∃ (hs : List (List Int)) (r : Nat), 1 ≤ r ∧ r ≤ 301 ∧ i = .int .i64 r ∧ Hid (SlR wr o hs) ∧ Hid (GoodH n hs) ∧ Hid (leastG n (301 - r) hs r = (x0, x1, x2)) ∧ Hid (wr.heap[w.heap.size]? = some (.cells #[.slice pa m pcap, .slice la k lcap] 34)) ∧ Hid (Below w.heap.size w wr)) (fun _ i _ => 301 - (intOf i).toNat)
        case atStart => exact ⟨toksL n, 1, by omega, by omega, rfl, HS, HG0, HR1, H2, HW⟩
        case round =>
          clear HS HG0 HR1 H2 HW
          obtain ⟨hs, r, hr1, hr2, rfl, HS, HG, HR, H2, HW⟩ := hrel
          obtain ⟨n0, n1⟩ := cells2 H2.out
          have n2 := lt_of H2.out
          obtain ⟨sa, sc, hse⟩ := slR_shape HS.out
          subst hse
          by_cases hr : r ≤ 300
          case pos =>
            have CM := Lib.hid (imade_any (.agg #[.slice pa m pcap, .slice la k lcap]) (.slice sa hs.length sc) n hs wr (HV.out.below HW.out) HS.out HG.out)
            cases hok : okR n hs with
            | false =>
              obtain ⟨rfl, rfl, rfl⟩ : x0 = [] ∧ x1 = 0 ∧ x2 = false := by
                have q := HR.out
                rw [show 301 - r = (300 - r) + 1 by omega, leastG_no hok] at q
                simp at q
                exact ⟨q.1, q.2.1.symm, q.2.2⟩
              rw [hok] at CM
              go_wp2_with (go_at_call 65; with_reducible refine CM.out.mono ?_; rintro e w4 ⟨rv, rfl, _, hb4⟩; have HB4 := Lib.hid (HW.out.trans (hb4.mono HW.out.size)); clear hb4)
              go_ret3
              exact ⟨_, rfl, rowsH_nil _ _, HB4.out⟩
            | true =>
              have hmr : madeR n hs = roundL n hs := by unfold madeR; rw [hok]; rfl
              rw [hok, hmr] at CM
              have CE := Lib.hid (fun (W : World) (y : Value) (hy : SlR W y (roundL n hs)) (hw : Below wr.heap.size wr W) => iareq_any y (.slice sa hs.length sc) (roundL n hs) hs W hy (HS.out.below hw))
              by_cases heq : roundL n hs = hs
              case pos =>
                obtain ⟨rfl, rfl, rfl⟩ : x0 = hs ∧ x1 = (r : Int) ∧ x2 = true := by
                  have q := HR.out
                  rw [show 301 - r = (300 - r) + 1 by omega, leastG_yes hok heq] at q
                  simp at q
                  exact ⟨q.1.symm, q.2.1.symm, q.2.2⟩
                rw [decide_eq_true heq] at CE
                have HEQ := Lib.hid heq
                obtain ⟨sl, hsl⟩ : ∃ z, z = x0.length := ⟨_, rfl⟩
                rw [← hsl] at CM CE ⊢
                clear heq hmr hok hsl
                go_wp2_with (first | (go_at_call 65; with_reducible refine CM.out.mono ?_; rintro e w4 ⟨rv, rfl, hrv, hb4⟩; have HRV := Lib.hid hrv; have HC4 := Lib.hid hb4; have HB4 := Lib.hid (HW.out.trans (hb4.mono HW.out.size)); clear hb4 hrv) | (go_at_call 74; with_reducible refine (CE.out _ _ HRV.out.v HC4.out).mono ?_; rintro e w5 ⟨rfl, hb5⟩; have HB5 := Lib.hid (HB4.out.trans (hb5.mono HB4.out.size)); have HR5 := Lib.hid (HRV.out.below hb5); have HS5 := Lib.hid hb5.size; clear hb5))
                go_ret3
                rw [HEQ.out] at HR5
                exact ⟨_, rfl, OutH.mono HR5.out HW.out.size HS5.out, HB5.out⟩
              case neg =>
                have HRN := Lib.hid (show leastG n (301 - (r + 1)) (roundL n hs) ((r + 1 : Nat) : Int) = (x0, x1, x2) by
                  have q := HR.out
                  rw [show 301 - r = (301 - (r + 1)) + 1 by omega, leastG_on hok heq] at q
                  rw [← q]; congr 1)
                have HGN := Lib.hid (roundL_good HG.out hok)
                rw [decide_eq_false heq] at CE
                obtain ⟨sl, hsl⟩ : ∃ z, z = hs.length := ⟨_, rfl⟩
                rw [← hsl] at CM CE ⊢
                clear heq hmr hok hsl
                go_wp2_with (first | (go_at_call 65; with_reducible refine CM.out.mono ?_; rintro e w4 ⟨rv, rfl, hrv, hb4⟩; have HRV := Lib.hid hrv; have HC4 := Lib.hid hb4; have HB4 := Lib.hid (HW.out.trans (hb4.mono HW.out.size)); clear hb4 hrv) | (go_at_call 74; with_reducible refine (CE.out _ _ HRV.out.v HC4.out).mono ?_; rintro e w5 ⟨rfl, hb5⟩; have HB5 := Lib.hid (HB4.out.trans (hb5.mono HB4.out.size)); have HR5 := Lib.hid (HRV.out.v.below hb5); have HH5 := Lib.hid (blk_in (blk_in H2.out HC4.out) hb5); clear hb5))
                go_roundw
                case rel => exact ⟨roundL n hs, r + 1, by omega, by omega, by go_num, HR5, HGN, HRN, HH5, HB5⟩
                case measure => simp [intOf]; omega
          case neg =>
            obtain ⟨rfl, rfl, rfl⟩ : x0 = [] ∧ x1 = 0 ∧ x2 = false := by
              have q := HR.out
              rw [show 301 - r = 0 by omega] at q
              unfold leastG at q
              simp at q
              exact ⟨q.1, q.2.1.symm, q.2.2⟩
            go_wp2_with fail
            go_ret3
            exact ⟨_, rfl, rowsH_nil _ _, HW.out⟩

set_option maxRecDepth 100000 in
set_option maxHeartbeats 8000000 in
theorem stoks_any (v : Value) (n : Net) (w : World) (hv : NetV w v n) (ho : okN n = true) :
    Calls Try.prog 71 #[v] w fun e w' => ∃ r, e = .returned r ∧ RowsH w.heap.size w'.heap.size w' r (toksL n) ∧ Below w.heap.size w w' := by
  have G := Lib.hid (toks_good ho)
  have hl30 := (okN_len ho).2.1
  obtain ⟨pv, lv, rfl, hps, hls⟩ := hv
  have HL := Lib.hid hls
  have LL := hls.len
  obtain ⟨pa, pcap, rfl⟩ := hps.shape
  obtain ⟨la, lcap, rfl⟩ := hls.shape
  obtain ⟨is, hs, sz0, sz1, sz2⟩ := infoS_parts
  obtain ⟨m, hm⟩ : ∃ z, z = n.progs.length := ⟨_, rfl⟩
  obtain ⟨ll, hll⟩ : ∃ z, z = n.links.length := ⟨_, rfl⟩
  have NL := Lib.hid hll
  rw [← hm]
  rw [← hll] at HL LL hl30 ⊢
  clear hps hls hm hll ho
  have h0 := Lib.hid (al_keep (o := (.cells #[] 46)) (hp1 w (.cells #[.slice pa m pcap, .slice la ll lcap] 34)))
  have HQ1 := Lib.hid (((Below.refl w.heap.size w).al (.cells #[.slice pa m pcap, .slice la ll lcap] 34)).al (.cells #[] 46))
  have HQ2 := Lib.hid (show GrowR (w.heap.size + 1) 0 ((w.alloc (.cells #[.slice pa m pcap, .slice la ll lcap] 34)).alloc (.cells #[] 46)) (.slice (some ⟨w.heap.size + 1, 0, none⟩) 0 0) (toksL n) from ⟨[], ⟨rfl, .inr ⟨w.heap.size + 1, 0, #[], rfl, Nat.le_refl _, hp2 w _ _, Nat.le_refl _, Nat.zero_le _, rfl, rfl⟩⟩, ⟨rfl, fun i u xs q1 q2 => by simp at q1, fun i j u u' q1 q2 q3 => by simp at q1⟩⟩)
  have HQ3 : w.heap.size + 1 ≤ ((w.alloc (.cells #[.slice pa m pcap, .slice la ll lcap] 34)).alloc (.cells #[] 46)).heap.size := by simp
  obtain ⟨n0, n1⟩ := cells2 h0.out
  have n2 := lt_of h0.out
  go_enter Try.func71, Try.ntmps71
  go_wp2_with fail
  generalize ((w.alloc (.cells #[.slice pa m pcap, .slice la ll lcap] 34)).alloc (.cells #[] 46)) = w1 at HQ1 HQ2 HQ3 h0 n0 n1 n2 ⊢
  go_loopw [3, 10] (fun o i wr => ∃ j : Nat, j ≤ ll ∧ i = .int .i64 j ∧ Hid (GrowR (w.heap.size + 1) j wr o (toksL n)) ∧ Hid (Below w.heap.size w wr) ∧ Hid (w.heap.size + 1 ≤ wr.heap.size)) (fun _ i _ => ll - (intOf i).toNat)
  case atStart => exact ⟨0, Nat.zero_le _, rfl, HQ2, HQ1, Lib.hid HQ3⟩
  case round =>
    clear HQ1 HQ2 HQ3 h0 n0 n1 n2
    obtain ⟨j, hj, rfl, HM, HW, HWS⟩ := hrel
    by_cases hjl : j < ll
    case pos =>
      obtain ⟨x, hx⟩ : ∃ x, n.links[j]? = some x := ⟨_, List.getElem?_eq_getElem (by rw [← NL.out]; exact hjl)⟩
      obtain ⟨lb, lo, d, hla, hlb, e0, e1, e2, e3, e4, es⟩ := (HL.out.below HW.out).atb hx
      subst hla
      have TS := Lib.hid es
      obtain ⟨va, vc, rfl⟩ := es.shape
      have HRW := Lib.hid (show (toksL n)[j]? = some x.tok by unfold toksL; rw [List.getElem?_map, hx]; rfl)
      have HT4 := Lib.hid (isS_len (G.out.tok (List.mem_of_getElem? hx)))
      obtain ⟨xf, xo, xt, xi, xk⟩ := x
      obtain ⟨kl, hkl⟩ : ∃ z, z = xk.length := ⟨_, rfl⟩
      simp only [] at e0 e1 e2 e3 e4 TS HRW HT4
      rw [← hkl] at TS e4
      have HBW := Lib.hid ((Below.refl wr.heap.size wr).al (.cells #[.int .i64 xf, .int .i64 xo, .int .i64 xt, .int .i64 xi, .slice va kl vc] 82))
      have CC := Lib.hid (fun (W : World) (hw : Below wr.heap.size wr W) => l1copy_any (.slice va kl vc) xk W (TS.out.below hw) (by have := HT4.out; omega))
      obtain ⟨us, hU1, hU2⟩ := HM.out
      have HU1 := Lib.hid hU1
      have HU2 := Lib.hid hU2
      have HUB := Lib.hid (show ∀ u q, u ∈ us → u.ownBlock = some q → q < wr.heap.size from fun u q hu he => fam_hi hU2 u hu q he)
      clear es hx hkl hU1 hU2
      go_wp2_with (first | (go_at_call 112; with_reducible refine (CC.out _ HBW.out).mono ?_; rintro e w3 ⟨r, rfl, ho, hb3⟩; have HB3 := Lib.hid (HBW.out.trans (hb3.mono HBW.out.size)); have HR3 := Lib.hid (ho.mono HBW.out.size); obtain ⟨ra, rc, hre⟩ := HR3.out.sl.shape; subst hre; clear ho hb3) | (at_builtin; refine wpList_append_own_at _ rfl _ _ 26 rfl (w.heap.size + 1) 46 is (.slice none 0 0) 1 24 Try.underlying26 hs sz0 sz1 sz2 rfl (by decide) _ _ _ rfl (World.ownsRow.alloc (rowT_below HU1.out HB3.out) _) ⟨_, 0, none⟩ 1 1 [.slice ra xk.length rc] rfl rfl (lit_s _ _) ?c1 ?c3 ?c4 ?c5 ?_))
      case c1 => first | rfl | (intro u hu; simp at hu; subst hu; rfl)
      case c3 => unfold maxLen; omega
      case c4 => omega
      case c5 => have q1 := HWS.out; have q2 := HB3.out.size; first | omega | (simp; omega)
      intro o' w5 hown hgrow _ _
      have HO5 := Lib.hid (GrowR.step (rowT_below HU1.out HB3.out) (HU2.out.below HB3.out) HR3.out HUB.out HWS.out HRW.out hown hgrow)
      have HB5 := Lib.hid (((HW.out.trans (HB3.out.mono HW.out.size)).al (.cells #[.slice ra xk.length rc] 46)).grown hgrow (by have q1 := HWS.out; have q2 := HB3.out.size; simp; omega) (fun q e => by have := (HU1.out.lt q e).1; omega))
      have S5 := Lib.hid (show w.heap.size + 1 ≤ w5.heap.size by have q1 := HWS.out; have q2 := HB3.out.size; have := hgrow.size; simp at *; omega)
      clear hown hgrow
      go_wp2_with fail
      go_roundw
      case rel => exact ⟨j + 1, by omega, by go_num, HO5, HB5, S5⟩
      case measure => simp [intOf]; omega
    case neg =>
      obtain rfl : j = ll := by omega
      obtain ⟨oa, ocp, rfl⟩ := HM.out.shape
      go_wp2_with fail
      go_ret
      exact ⟨_, rfl, OutH.mono (HM.out.rows (by unfold toksL; rw [List.length_map]; exact NL.out.symm)) (by omega) (Nat.le_refl _), HW.out⟩

set_option maxRecDepth 100000 in
set_option maxHeartbeats 8000000 in
theorem slst_w (v : Value) (n : Net) (w : World) (hv : NetV w v n) :
    Calls Try.prog 26 #[v] w fun e w' => ∃ r, e = .returned (.tuple #[r, .int .i64 (leastStreamsR1 n), .bool (leastStreamsR2 n)]) ∧ RowsH w.heap.size w'.heap.size w' r (leastStreamsR0 n) ∧ Below w.heap.size w w' := by
  obtain ⟨pv, lv, rfl, hps, hls⟩ := hv
  have HV := Lib.hid (show NetV w (.agg #[pv, lv]) n from ⟨pv, lv, rfl, hps, hls⟩)
  obtain ⟨pa, pcap, rfl⟩ := hps.shape
  obtain ⟨la, lcap, rfl⟩ := hls.shape
  obtain ⟨m, hm⟩ : ∃ z, z = n.progs.length := ⟨_, rfl⟩
  obtain ⟨ll, hll⟩ : ∃ z, z = n.links.length := ⟨_, rfl⟩
  rw [← hm, ← hll] at HV ⊢
  obtain ⟨x0, x1, x2, hx⟩ : ∃ x0 x1 x2, leastR n = (x0, x1, x2) := ⟨_, _, _, rfl⟩
  have HR := Lib.hid hx
  rw [show leastStreamsR0 n = x0 by unfold leastStreamsR0; rw [hx], show leastStreamsR1 n = x1 by unfold leastStreamsR1; rw [hx], show leastStreamsR2 n = x2 by unfold leastStreamsR2; rw [hx]]
  clear hps hls hm hll hx
  have h0 := Lib.hid (hp1 w (.cells #[.slice pa m pcap, .slice la ll lcap] 34))
  have hb0 := Lib.hid ((Below.refl w.heap.size w).al (.cells #[.slice pa m pcap, .slice la ll lcap] 34))
  have CN := Lib.hid (fun (W : World) (hw : Below w.heap.size w W) => sisnet_any (.agg #[.slice pa m pcap, .slice la ll lcap]) n W (HV.out.below hw))
  cases ho : okN n with
  | false =>
    rw [ho] at CN
    obtain ⟨rfl, rfl, rfl⟩ : x0 = [] ∧ x1 = 0 ∧ x2 = false := by
      have q := HR.out
      unfold leastR at q
      rw [ho] at q
      simp at q
      exact ⟨q.1, q.2.1.symm, q.2.2⟩
    go_enter Try.func26, Try.ntmps26
    go_wp2_with (go_at_call 70; with_reducible refine (CN.out _ hb0.out).mono ?_; rintro e w1 ⟨rfl, hb1⟩; have HB1 := Lib.hid (hb0.out.trans (hb1.mono hb0.out.size)); clear hb1)
    go_ret3
    exact ⟨_, rfl, rowsH_nil _ _, HB1.out⟩
  | true =>
    rw [ho] at CN
    have HG0 := Lib.hid (toks_good ho)
    have HR1 := Lib.hid (show leastG n 300 (toksL n) 1 = (x0, x1, x2) by have q := HR.out; unfold leastR at q; rw [ho, if_pos rfl] at q; exact q)
    have CT := Lib.hid (fun (W : World) (hw : Below w.heap.size w W) => stoks_any (.agg #[.slice pa m pcap, .slice la ll lcap]) n W (HV.out.below hw) ho)
    clear HR ho
    go_enter Try.func26, Try.ntmps26
    go_wp2_with (first | (go_at_call 70; with_reducible refine (CN.out _ hb0.out).mono ?_; rintro e w1 ⟨rfl, hb1⟩; have HB1 := Lib.hid (hb0.out.trans (hb1.mono hb0.out.size)); have H1 := Lib.hid (blk_in h0.out hb1); obtain ⟨n0, n1⟩ := cells2 H1.out; have n2 := lt_of H1.out; clear hb1) | (go_at_call 71; with_reducible refine (CT.out _ HB1.out).mono ?_; rintro e w2 ⟨tv, rfl, htv, hb2⟩; have HTV := Lib.hid (rowsH_mono htv HB1.out.size (Nat.le_refl _)); have HW2 := Lib.hid (HB1.out.trans (hb2.mono HB1.out.size)); have H2 := Lib.hid (blk_in H1.out hb2); clear htv hb2))
    go_loopw [5, 6] (fun o i wr => ∃ (hs : List (List Int)) (r : Nat), 1 ≤ r ∧ r ≤ 301 ∧ i = .int .i64 r ∧ Hid (RowsH w.heap.size wr.heap.size wr o hs) ∧ Hid (GoodH n hs) ∧ Hid (leastG n (301 - r) hs r = (x0, x1, x2)) ∧ Hid (wr.heap[w.heap.size]? = some (.cells #[.slice pa m pcap, .slice la ll lcap] 34)) ∧ Hid (Below w.heap.size w wr)) (fun _ i _ => 301 - (intOf i).toNat)
    case atStart => exact ⟨toksL n, 1, by omega, by omega, rfl, HTV, HG0, HR1, H2, HW2⟩
    case round =>
      clear HTV HG0 HR1 H2 HW2 H1 n0 n1 n2
      obtain ⟨hs, r, hr1, hr2, rfl, HS, HG, HR, H2, HW⟩ := hrel
      obtain ⟨n0, n1⟩ := cells2 H2.out
      have n2 := lt_of H2.out
      obtain ⟨sa, sc, hse⟩ := HS.out.shape
      subst hse
      by_cases hr : r ≤ 300
      case pos =>
        have CM := Lib.hid (sround_any (.agg #[.slice pa m pcap, .slice la ll lcap]) (.slice sa hs.length sc) n hs wr (HV.out.below HW.out) HS.out.v HG.out)
        cases hok : okR n hs with
        | false =>
          obtain ⟨rfl, rfl, rfl⟩ : x0 = [] ∧ x1 = 0 ∧ x2 = false := by
            have q := HR.out
            rw [show 301 - r = (300 - r) + 1 by omega, leastG_no hok] at q
            simp at q
            exact ⟨q.1, q.2.1.symm, q.2.2⟩
          rw [hok] at CM
          go_wp2_with (go_at_call 60; with_reducible refine CM.out.mono ?_; rintro e w4 ⟨rv, rfl, _, hb4⟩; have HB4 := Lib.hid (HW.out.trans (hb4.mono HW.out.size)); clear hb4)
          go_ret3
          exact ⟨_, rfl, rowsH_nil _ _, HB4.out⟩
        | true =>
          have hmr : madeR n hs = roundL n hs := by unfold madeR; rw [hok]; rfl
          rw [hok, hmr] at CM
          have CE := Lib.hid (fun (W : World) (y : Value) (hy : SlR W y (roundL n hs)) (hw : Below wr.heap.size wr W) => same_any y (.slice sa hs.length sc) (roundL n hs) hs W hy (HS.out.v.below hw))
          by_cases heq : roundL n hs = hs
          case pos =>
            obtain ⟨rfl, rfl, rfl⟩ : x0 = hs ∧ x1 = (r : Int) ∧ x2 = true := by
              have q := HR.out
              rw [show 301 - r = (300 - r) + 1 by omega, leastG_yes hok heq] at q
              simp at q
              exact ⟨q.1.symm, q.2.1.symm, q.2.2⟩
            rw [decide_eq_true heq] at CE
            obtain ⟨sl, hsl⟩ : ∃ z, z = x0.length := ⟨_, rfl⟩
            rw [← hsl] at CM CE HS ⊢
            clear heq hmr hok hsl
            go_wp2_with (first | (go_at_call 60; with_reducible refine CM.out.mono ?_; rintro e w4 ⟨rv, rfl, hrv, hb4⟩; have HRV := Lib.hid hrv; have HC4 := Lib.hid hb4; have HB4 := Lib.hid (HW.out.trans (hb4.mono HW.out.size)); have HS4 := Lib.hid (rowsH_mono (HS.out.below hb4) (Nat.le_refl _) hb4.size); clear hb4 hrv) | (go_at_call 72; with_reducible refine (CE.out _ _ HRV.out.v HC4.out).mono ?_; rintro e w5 ⟨rfl, rfl⟩))
            go_ret3
            exact ⟨_, rfl, HS4.out, HB4.out⟩
          case neg =>
            have HRN := Lib.hid (show leastG n (301 - (r + 1)) (roundL n hs) ((r + 1 : Nat) : Int) = (x0, x1, x2) by
              have q := HR.out
              rw [show 301 - r = (301 - (r + 1)) + 1 by omega, leastG_on hok heq] at q
              rw [← q]; congr 1)
            have HGN := Lib.hid (roundL_good HG.out hok)
            rw [decide_eq_false heq] at CE
            obtain ⟨sl, hsl⟩ : ∃ z, z = hs.length := ⟨_, rfl⟩
            rw [← hsl] at CM CE ⊢
            clear heq hmr hok hsl
            go_wp2_with (first | (go_at_call 60; with_reducible refine CM.out.mono ?_; rintro e w4 ⟨rv, rfl, hrv, hb4⟩; have HRV := Lib.hid hrv; have HC4 := Lib.hid hb4; have HB4 := Lib.hid (HW.out.trans (hb4.mono HW.out.size)); have HH4 := Lib.hid (blk_in H2.out hb4); have HRW := Lib.hid (rowsH_mono hrv HW.out.size (Nat.le_refl _)); clear hb4 hrv) | (go_at_call 72; with_reducible refine (CE.out _ _ HRV.out.v HC4.out).mono ?_; rintro e w5 ⟨rfl, rfl⟩))
            go_roundw
            case rel => exact ⟨roundL n hs, r + 1, by omega, by omega, by go_num, HRW, HGN, HRN, HH4, HB4⟩
            case measure => simp [intOf]; omega
      case neg =>
        obtain ⟨rfl, rfl, rfl⟩ : x0 = [] ∧ x1 = 0 ∧ x2 = false := by
          have q := HR.out
          rw [show 301 - r = 0 by omega] at q
          unfold leastG at q
          simp at q
          exact ⟨q.1, q.2.1.symm, q.2.2⟩
        go_wp2_with fail
        go_ret3
        exact ⟨_, rfl, rowsH_nil _ _, HW.out⟩

def waitsL (n : Net) (h : List (List Int)) : List Int := (List.range n.progs.length).map (waitL n h)
def waitsOfR1 (n : Net) : Bool := leastStreamsR2 n
def waitsOfR0 (n : Net) : List Int := if leastStreamsR2 n then waitsL n (leastStreamsR0 n) else []
theorem leastG_fix {n : Net} : ∀ (f : Nat) (h : List (List Int)) (r : Int), GoodH n h → (leastG n f h r).2.2 = true → GoodH n (leastG n f h r).1 ∧ okR n (leastG n f h r).1 = true
  | 0, _, _, _, e => by cases e
  | f + 1, h, r, g, e => by
    cases ho : okR n h with
    | false => rw [leastG_no ho] at e; cases e
    | true =>
      by_cases q : roundL n h = h
      · rw [leastG_yes ho q]; exact ⟨g, ho⟩
      · rw [leastG_on ho q] at e ⊢; exact leastG_fix f _ _ (roundL_good g ho) e
theorem least_fix {n : Net} (h : leastStreamsR2 n = true) : GoodH n (leastStreamsR0 n) ∧ okR n (leastStreamsR0 n) = true := by
  unfold leastStreamsR2 leastR at h
  unfold leastStreamsR0 leastR
  cases e : okN n with
  | false => rw [e] at h; cases h
  | true => rw [e] at h; rw [if_pos rfl] at h ⊢; exact leastG_fix 300 _ 1 (toks_good e) h
theorem waitsOf_len (n : Net) : (waitsOfR0 n).length ≤ 30 := by
  unfold waitsOfR0
  cases e : leastStreamsR2 n with
  | false => simp
  | true =>
    rw [if_pos rfl]
    unfold waitsL
    have := okN_len (least_fix e).1.ok
    simp
    omega
theorem mkIB (n : Nat) (h : n ≤ 1000) (W : World) : (Instr.makeSlice 46 (.int .i64 (n : Int)) (.int .i64 (n : Int))).run Try.prog W = .ok (.slice (some ⟨W.heap.size, 0, none⟩) n n) (W.alloc (.cells (Array.replicate n (Value.int .i64 0)) 3)) := by
  obtain ⟨ii, hi0, hz0, hz1, hz2⟩ := info_parts info
  have q := run_make (P := Try.prog) W 46 3 ii (.int .i64 0) Try.underlying46 hi0 hz0 .i64 .i64 n n (by omega) (Int.le_refl _) (by rw [hz2]; omega) (by omega)
  rw [q, hz1]
  simp only [Int.toNat_natCast]
  rw [Nat.mul_one, show madeCells (Value.int .i64 0).cells n = Array.replicate n (Value.int .i64 0) from by rw [← List.toArray_replicate, ← toList_madeCells_one (Value.int .i64 0) n]; simp [Value.cells]]
theorem whalt_any (a : Option Addr) (l c : Nat) (w : World) : Calls Try.prog 183 #[.agg #[.slice a l c]] w fun e w' => e = .returned (.int .i64 (-1)) ∧ Below w.heap.size w w' := by
  have hb := Lib.hid ((Below.refl w.heap.size w).al (.cells #[.slice a l c] 171))
  go_enter Try.func183, Try.ntmps183
  go_wp2_with fail
  go_ret
  exact ⟨rfl, hb.out⟩
theorem wwait_any (a : Option Addr) (l c : Nat) (x : Int) (w : World) : Calls Try.prog 184 #[.agg #[.slice a l c, .int .i64 x]] w fun e w' => e = .returned (.int .i64 x) ∧ Below w.heap.size w w' := by
  have hb := Lib.hid ((Below.refl w.heap.size w).al (.cells #[.slice a l c, .int .i64 x] 173))
  go_enter Try.func184, Try.ntmps184
  go_wp2_with fail
  go_ret
  exact ⟨rfl, hb.out⟩
/-- What a settled process answers when it is asked what it waits for. -/
theorem proc_waits {lo : Nat} {w : World} {y : Value} {n : Net} {h : List (List Int)} {k : Nat} (hp : PV lo w y n h k) (hs : settL n h k = true) :
    ∃ T a f b, y = .iface T a ∧ (∀ W, (method (200 + 101) T a "loop.example/g03224/impl.waitsFor").run Try.prog W = .ok (f, b) W) ∧ ((f = 183 ∧ ∃ p l c, b = .agg #[.slice p l c] ∧ waitL n h k = -1) ∨ (f = 184 ∧ ∃ p l c, b = .agg #[.slice p l c, .int .i64 (waitL n h k)])) := by
  obtain ⟨ov, uv, ⟨us, B, rfl, _⟩, hy⟩ := hp
  unfold settL at hs
  unfold procV at hy
  rcases of_decide_eq_true hs with e | e
  · rw [if_pos e] at hy
    exact ⟨_, _, 183, .agg #[.slice (some ⟨B, 0, none⟩) us.length us.length], hy, fun W => by kernel_rfl, .inl ⟨rfl, some ⟨B, 0, none⟩, us.length, us.length, rfl, by unfold waitL; rw [if_neg (by omega)]⟩⟩
  · rw [if_neg (by omega), if_pos e] at hy
    exact ⟨_, _, 184, .agg #[.slice (some ⟨B, 0, none⟩) us.length us.length, .int .i64 (waitL n h k)], hy, fun W => by kernel_rfl, .inr ⟨rfl, some ⟨B, 0, none⟩, us.length, us.length, rfl⟩⟩

set_option maxRecDepth 100000 in
set_option maxHeartbeats 8000000 in
theorem iwts_w (v : Value) (n : Net) (w : World) (hv : NetV w v n) :
    Calls Try.prog 33 #[v] w fun e w' => ∃ r, e = .returned (.tuple #[r, .bool (waitsOfR1 n)]) ∧ OwnH w.heap.size w'.heap.size w' r (waitsOfR0 n) ∧ Below w.heap.size w w' := by
  obtain ⟨pv, lv, rfl, hps, hls⟩ := hv
  have HV := Lib.hid (show NetV w (.agg #[pv, lv]) n from ⟨pv, lv, rfl, hps, hls⟩)
  obtain ⟨pa, pcap, rfl⟩ := hps.shape
  obtain ⟨la, lcap, rfl⟩ := hls.shape
  obtain ⟨m, hm⟩ : ∃ z, z = n.progs.length := ⟨_, rfl⟩
  obtain ⟨ll, hll⟩ : ∃ z, z = n.links.length := ⟨_, rfl⟩
  have NP := Lib.hid hm
  rw [← hm, ← hll] at HV ⊢
  clear hps hls hm hll
  have h0 := Lib.hid (hp1 w (.cells #[.slice pa m pcap, .slice la ll lcap] 34))
  have hb0 := Lib.hid ((Below.refl w.heap.size w).al (.cells #[.slice pa m pcap, .slice la ll lcap] 34))
  have CL := Lib.hid (fun (W : World) (hw : Below w.heap.size w W) => ilst_w (.agg #[.slice pa m pcap, .slice la ll lcap]) n W (HV.out.below hw))
  cases hok : leastStreamsR2 n with
  | false =>
    rw [hok] at CL
    have e0 : waitsOfR0 n = [] := by unfold waitsOfR0; rw [hok]; rfl
    have e1 : waitsOfR1 n = false := hok
    rw [e0, e1]
    go_enter Try.func33, Try.ntmps33
    go_wp2_with (go_at_call 27; with_reducible refine (CL.out _ hb0.out).mono ?_; rintro e w1 ⟨hx, rfl, _, hb1⟩; have HB1 := Lib.hid (hb0.out.trans (hb1.mono hb0.out.size)); clear hb1)
    go_ret2
    exact ⟨_, rfl, OwnH.of (own_nil _ _), HB1.out⟩
  | true =>
    rw [hok] at CL
    obtain ⟨g, hokr⟩ := least_fix hok
    have e1 : waitsOfR1 n = true := hok
    obtain ⟨h, hh⟩ : ∃ z, z = leastStreamsR0 n := ⟨_, rfl⟩
    have e0 : waitsOfR0 n = waitsL n h := by unfold waitsOfR0; rw [hok, if_pos rfl, hh]
    rw [← hh] at g hokr CL
    rw [e0, e1]
    have HUP := Lib.hid (show upN (settL n h) n.progs.length = true by unfold okR at hokr; rw [Bool.and_eq_true] at hokr; exact hokr.1)
    have G := Lib.hid g
    have hm30 : m ≤ 30 := by have := okN_len g.ok; rw [NP.out]; omega
    have HWL := Lib.hid (show waitsL n h = (List.range m).map (waitL n h) by unfold waitsL; rw [NP.out])
    have CS := Lib.hid (fun (W : World) (hv : Value) (hw : Below w.heap.size w W) (hs : SlR W hv h) => iset_any (.agg #[.slice pa m pcap, .slice la ll lcap]) hv n h W (HV.out.below hw) hs G.out)
    rw [← NP.out] at HUP CS
    rw [HUP.out] at CS
    have MK := fun (W : World) => mkIB m (by omega) W
    clear hok g hokr e0 e1 hh
    go_enter Try.func33, Try.ntmps33
    go_wp2_with (first | (go_at_call 27; with_reducible refine (CL.out _ hb0.out).mono ?_; rintro e w1 ⟨hx, rfl, hr, hb1⟩; have HX := Lib.hid hr.v; have HB1 := Lib.hid (hb0.out.trans (hb1.mono hb0.out.size)); have H1 := blk_in h0.out hb1; obtain ⟨f0, f1⟩ := cells2 H1; have f2 := lt_of H1; clear hr hb1 H1) | (go_at_call 79; with_reducible refine (CS.out _ _ HB1.out HX.out).mono ?_; rintro e w2 ⟨px, rfl, hso, hb2⟩; have HSO := Lib.hid (hso (by simp)); obtain ⟨qa, qc, hqe⟩ := HSO.out.shape; subst hqe; have HB2 := Lib.hid (HB1.out.trans (hb2.mono HB1.out.size)); clear hso hb2))
    have HQ1 := Lib.hid (show Below w2.heap.size w2 (w2.alloc (.cells (Array.replicate m (Value.int .i64 0)) 3)) from (Below.refl _ _).al _)
    have HQ2 := Lib.hid (show (w2.alloc (.cells (Array.replicate m (Value.int .i64 0)) 3)).heap[w2.heap.size]? = some (.cells (fillA (fun q => .int .i64 (waitL n h q)) (.int .i64 0) id m 0).toArray 3) by rw [fillA_zero, List.toArray_replicate]; exact hp1 _ _)
    generalize (w2.alloc (.cells (Array.replicate m (Value.int .i64 0)) 3)) = w3 at HQ1 HQ2 ⊢
    clear MK
    go_loopw [32] (fun i wr => ∃ k : Nat, k ≤ m ∧ i = .int .i64 k ∧ Hid (wr.heap[w2.heap.size]? = some (.cells (fillA (fun q => .int .i64 (waitL n h q)) (.int .i64 0) id m k).toArray 3)) ∧ Hid (Below w2.heap.size w2 wr)) (fun i _ => m - (intOf i).toNat)
    case atStart => exact ⟨0, Nat.zero_le _, rfl, HQ2, HQ1⟩
    case round =>
      clear HQ1 HQ2
      obtain ⟨k, hk, rfl, HM, HB⟩ := hrel
      by_cases hlt : k < m
      case pos =>
        obtain ⟨pb, pc, y, hxe, hpb, hcy, hpv⟩ := HSO.out.at hlt
        simp only [Value.slice.injEq] at hxe
        obtain ⟨rfl, _, rfl⟩ := hxe
        obtain ⟨T, ia, f, b, rfl, hm, hcase⟩ := proc_waits hpv (upN_at HUP.out hlt)
        simp only [Nat.reduceAdd] at hm
        have c0 := (HB.out.cell (p := ⟨pb, k, none⟩) hpb).trans hcy
        have c1 := Nat.lt_of_lt_of_le hpb HB.out.size
        obtain ⟨wl, hwl⟩ : ∃ z, z = waitL n h k := ⟨_, rfl⟩
        rw [← hwl] at hcase
        have HWE := Lib.hid hwl
        have HMC := Lib.hid (fun (W : World) (hw : Below wr.heap.size wr W) => blk_in HM.out hw)
        have HFH := Lib.hid (show (fillA (fun q => .int .i64 (waitL n h q)) (.int .i64 0) id m k).set k (.int .i64 wl) = fillA (fun q => .int .i64 (waitL n h q)) (.int .i64 0) id m (k + 1) by rw [hwl]; exact fillA_hit (f := fun q => .int .i64 (waitL n h q)) hlt rfl (fun j' _ hne => hne))
        have HFA := Lib.hid (fillA_at (f := fun q => .int .i64 (waitL n h q)) (z := .int .i64 0) (ix := id) (i := k) hlt)
        clear hpv hcy hwl
        rcases hcase with ⟨rfl, p, l, c, rfl, rfl⟩ | ⟨rfl, p, l, c, rfl⟩
        · have C := Lib.hid (fun (W : World) => whalt_any p l c W)
          go_wp2_with (go_at_call 183; with_reducible refine (C.out _).mono ?_; rintro e w4 ⟨rfl, hb4⟩; have HB4 := Lib.hid hb4; have M4 := HMC.out _ hb4; have d0 := row_cell M4 HFA.out; have d1 := fr_of M4 k; have d2 := lt_of M4; have HM4 := Lib.hid M4; clear hb4 M4)
          go_roundw
          case rel => exact ⟨k + 1, by omega, by go_num, Lib.hid (by rw [← HFH.out]; exact set_row HM4.out _), Lib.hid ((HB.out.trans (HB4.out.mono HB.out.size)).setCell (Nat.le_refl _) _)⟩
          case measure => simp [intOf]; omega
        · have C := Lib.hid (fun (W : World) => wwait_any p l c wl W)
          go_wp2_with (go_at_call 184; with_reducible refine (C.out _).mono ?_; rintro e w4 ⟨rfl, hb4⟩; have HB4 := Lib.hid hb4; have M4 := HMC.out _ hb4; have d0 := row_cell M4 HFA.out; have d1 := fr_of M4 k; have d2 := lt_of M4; have HM4 := Lib.hid M4; clear hb4 M4)
          go_roundw
          case rel => exact ⟨k + 1, by omega, by go_num, Lib.hid (by rw [← HFH.out]; exact set_row HM4.out _), Lib.hid ((HB.out.trans (HB4.out.mono HB.out.size)).setCell (Nat.le_refl _) _)⟩
          case measure => simp [intOf]; omega
      case neg =>
        obtain rfl : k = m := by omega
        have HO := Lib.hid (show Own w2.heap.size wr (.slice (some ⟨w2.heap.size, 0, none⟩) k k) (waitsL n h) by
          rw [HWL.out]
          refine ⟨by rw [vals_len, Nat.mul_one], .inr ⟨w2.heap.size, k, _, by simp, Nat.le_refl _, HM.out, by simp, by unfold maxLen; omega, by simp [fillA_len], ?_⟩⟩
          rw [List.length_map, List.length_range, Nat.mul_one, List.take_of_length_le (by simp [fillA_len])]
          unfold fillA vals
          rw [List.map_map]
          refine List.map_congr_left (fun q hq => ?_)
          rw [if_pos (show id q < k from List.mem_range.1 hq)]
          rfl)
        go_wp2_with fail
        go_ret2
        exact ⟨_, rfl, OwnH.of (HO.out.mono HB2.out.size), HB2.out.trans (HB.out.mono HB2.out.size)⟩

theorem waits_step (n : Net) (h : List (List Int)) (k : Nat) : (List.range (k + 1)).map (waitL n h) = (List.range k).map (waitL n h) ++ [waitL n h k] := by rw [List.range_succ, List.map_append]; rfl

set_option maxRecDepth 100000 in
set_option maxHeartbeats 8000000 in
theorem swts_w (v : Value) (n : Net) (w : World) (hv : NetV w v n) :
    Calls Try.prog 32 #[v] w fun e w' => ∃ r, e = .returned (.tuple #[r, .bool (waitsOfR1 n)]) ∧ OwnH w.heap.size w'.heap.size w' r (waitsOfR0 n) ∧ Below w.heap.size w w' := by
  obtain ⟨pv, lv, rfl, hps, hls⟩ := hv
  have HV := Lib.hid (show NetV w (.agg #[pv, lv]) n from ⟨pv, lv, rfl, hps, hls⟩)
  have HP := Lib.hid hps
  have LP := hps.len
  obtain ⟨pa, pcap, rfl⟩ := hps.shape
  obtain ⟨la, lcap, rfl⟩ := hls.shape
  obtain ⟨m, hm⟩ : ∃ z, z = n.progs.length := ⟨_, rfl⟩
  obtain ⟨ll, hll⟩ : ∃ z, z = n.links.length := ⟨_, rfl⟩
  have NP := Lib.hid hm
  rw [← hm] at HP LP
  rw [← hm, ← hll] at HV ⊢
  clear hps hls hm hll
  have h0 := Lib.hid (hp1 w (.cells #[.slice pa m pcap, .slice la ll lcap] 34))
  have hb0 := Lib.hid ((Below.refl w.heap.size w).al (.cells #[.slice pa m pcap, .slice la ll lcap] 34))
  have CL := Lib.hid (fun (W : World) (hw : Below w.heap.size w W) => slst_w (.agg #[.slice pa m pcap, .slice la ll lcap]) n W (HV.out.below hw))
  have CT := Lib.hid (fun (W : World) (p q : Int) (hw : Below w.heap.size w W) => sto_any (.agg #[.slice pa m pcap, .slice la ll lcap]) n p q W (HV.out.below hw))
  obtain ⟨ii, hi, hz0, hz1, hz2⟩ := info_parts info
  cases hok : leastStreamsR2 n with
  | false =>
    rw [hok] at CL
    have e0 : waitsOfR0 n = [] := by unfold waitsOfR0; rw [hok]; rfl
    have e1 : waitsOfR1 n = false := hok
    rw [e0, e1]
    go_enter Try.func32, Try.ntmps32
    go_wp2_with (go_at_call 26; with_reducible refine (CL.out _ hb0.out).mono ?_; rintro e w1 ⟨hx, rfl, _, hb1⟩; have HB1 := Lib.hid (hb0.out.trans (hb1.mono hb0.out.size)); clear hb1)
    go_ret2
    exact ⟨_, rfl, OwnH.of (own_nil _ _), HB1.out⟩
  | true =>
    rw [hok] at CL
    obtain ⟨g, hokr⟩ := least_fix hok
    have e1 : waitsOfR1 n = true := hok
    obtain ⟨h, hh⟩ : ∃ z, z = leastStreamsR0 n := ⟨_, rfl⟩
    have e0 : waitsOfR0 n = waitsL n h := by unfold waitsOfR0; rw [hok, if_pos rfl, hh]
    rw [← hh] at g hokr CL
    rw [e0, e1]
    have HUP := Lib.hid (show upN (settL n h) n.progs.length = true by unfold okR at hokr; rw [Bool.and_eq_true] at hokr; exact hokr.1)
    have G := Lib.hid g
    have hm30 : m ≤ 30 := by have := okN_len g.ok; rw [NP.out]; omega
    have HWL := Lib.hid (show waitsL n h = (List.range m).map (waitL n h) by unfold waitsL; rw [NP.out])
    rw [← NP.out] at HUP
    clear hok g hokr e0 e1 hh
    go_enter Try.func32, Try.ntmps32
    go_wp2_with (go_at_call 26; with_reducible refine (CL.out _ hb0.out).mono ?_; rintro e w1 ⟨hx, rfl, hr, hb1⟩; have HX := Lib.hid hr.v; have HB1 := Lib.hid (hb0.out.trans (hb1.mono hb0.out.size)); have H1 := Lib.hid (blk_in h0.out hb1); obtain ⟨f0, f1⟩ := cells2 H1.out; have f2 := lt_of H1.out; clear hr hb1)
    have HQ1 := Lib.hid (show Below w1.heap.size w1 (w1.alloc (.cells #[] 3)) from (Below.refl _ _).al _)
    have HQ2 := Lib.hid (show Own w1.heap.size (w1.alloc (.cells #[] 3)) (.slice (some ⟨w1.heap.size, 0, none⟩) 0 0) ((List.range 0).map (waitL n h)) from ⟨rfl, .inr ⟨w1.heap.size, 0, #[], rfl, Nat.le_refl _, hp1 w1 _, Nat.le_refl _, Nat.zero_le _, rfl, rfl⟩⟩)
    generalize (w1.alloc (.cells #[] 3)) = w2 at HQ1 HQ2 ⊢
    go_loopw [7, 26] (fun o i wr => ∃ k : Nat, k ≤ m ∧ i = .int .i64 k ∧ Hid (Own w1.heap.size wr o ((List.range k).map (waitL n h))) ∧ Hid (Below w1.heap.size w1 wr)) (fun _ i _ => m - (intOf i).toNat)
    case atStart => exact ⟨0, Nat.zero_le _, rfl, HQ2, HQ1⟩
    case round =>
      clear HQ1 HQ2 f0 f1 f2
      obtain ⟨k, hk, rfl, HO, HB⟩ := hrel
      have HW := Lib.hid (HB1.out.trans (HB.out.mono HB1.out.size))
      have H0 := Lib.hid (blk_in H1.out HB.out)
      by_cases hlt : k < m
      case pos =>
        obtain ⟨hp, hoP⟩ := G.out.prg (show k < n.progs.length by rw [← NP.out]; exact hlt)
        have heta := prg_eta hoP
        have hP := (okP_parts hoP).1
        obtain ⟨gb, go, c, hpa, hgb, k0, k1, k2, ks⟩ := (HP.out.below HW.out).atb hp
        subst hpa
        obtain ⟨ni, hni⟩ : ∃ z : Nat, z = (prgK n k).ins.toNat := ⟨_, rfl⟩
        obtain ⟨no, hno⟩ : ∃ z : Nat, z = (prgK n k).outs.toNat := ⟨_, rfl⟩
        obtain ⟨code, hcode⟩ : ∃ z, z = (prgK n k).code := ⟨_, rfl⟩
        rw [show (prgK n k).ins = (ni : Int) by rw [hni]; omega] at k0
        rw [show (prgK n k).outs = (no : Int) by rw [hno]; omega] at k1
        have HEQ := Lib.hid (show prgK n k = ⟨(ni : Int), (no : Int), code⟩ by rw [hni, hno, hcode]; exact heta)
        have HOP := Lib.hid (show okP ⟨(ni : Int), (no : Int), code⟩ = true by rw [← HEQ.out]; exact hoP)
        have HAS := Lib.hid (show areS (inpL n h k) (ni : Int) = true by rw [hni]; exact G.out.areS k)
        have HRL := Lib.hid (show runL n h k = runS code (inpL n h k) 3000 (startS ni no) by unfold runL; rw [← hcode, ← hni, ← hno])
        rw [← hcode] at ks
        obtain ⟨ua, uc, rfl⟩ := ks.shape
        have KS := Lib.hid ks
        have CI := Lib.hid (fun (W : World) (hw : Below wr.heap.size wr W) => sinp_any (.agg #[.slice (some ⟨gb, go, none⟩) m pcap, .slice la ll lcap]) hx n h k W (HV.out.below (HW.out.trans (hw.mono HW.out.size))) (HX.out.below (HB.out.trans (hw.mono HB.out.size))) G.out (show k < n.progs.length by rw [← NP.out]; exact hlt))
        have CK := Lib.hid (fun (W : World) (iv : Value) (hw : Below wr.heap.size wr W) (hiv : SlR W iv (inpL n h k)) => srunl_good (.agg #[.int .i64 (ni : Int), .int .i64 (no : Int), .slice ua code.length uc]) iv ni no code (inpL n h k) 3000 W ⟨_, rfl, KS.out.below hw⟩ hiv HOP.out HAS.out (Nat.le_refl _))
        rw [← HRL.out, show ((3000 : Nat) : Int) = 3000 from rfl] at CK
        obtain ⟨pt, hpt⟩ : ∃ z, z = portR code (runL n h k) := ⟨_, rfl⟩
        have HPT := Lib.hid (show portL n h k = pt by unfold portL; rw [← hcode, hpt])
        rw [← hpt] at CK
        have HWT := Lib.hid (show (runL n h k).2 = 2 → atE Lnk.tgt n.links ((k : Int), pt) = waitL n h k from fun e => by
          obtain ⟨j, a, b, c⟩ := G.out.wait (show k < n.progs.length by rw [← NP.out]; exact hlt) e
          rw [← HPT.out, a, c]
          exact (ix_at G.out.ok hp b).2.2.2)
        have HWN := Lib.hid (show ¬ (runL n h k).2 = 2 → waitL n h k = -1 from fun e => by unfold waitL; rw [if_neg e])
        have hset := upN_at HUP.out hlt
        unfold settL at hset
        have hwy := of_decide_eq_true hset
        obtain ⟨wy, hwye⟩ : ∃ z, z = (runL n h k).2 := ⟨_, rfl⟩
        rw [← hwye] at hwy CK HWT HWN
        have HST := Lib.hid (waits_step n h k)
        obtain ⟨wl, hwl⟩ : ∃ z, z = waitL n h k := ⟨_, rfl⟩
        rw [← hwl] at HWT HWN HST
        obtain ⟨ul, hul⟩ : ∃ z, z = code.length := ⟨_, rfl⟩
        rw [← hul] at k2 CK
        have HCK : Hid (∀ (W : World) (iv : Value), Below wr.heap.size wr W → SlR W iv (inpL n h k) → Calls Try.prog 76 #[.agg #[.int .i64 (ni : Int), .int .i64 (no : Int), .slice ua ul uc], iv, .int .i64 3000] W fun e w' => ∃ ov uv, e = .returned (.tuple #[ov, uv, .int .i64 wy, .int .i64 pt]) ∧ OutM W.heap.size w' ov uv (outsL n h k) (runL n h k).1.used ∧ Below W.heap.size W w') := CK
        clear CK hp hoP heta hP hni hno hcode hpt hwye hul ks hset hwl
        have HBW := Lib.hid ((Below.refl wr.heap.size wr).al (.cells #[.int .i64 (ni : Int), .int .i64 (no : Int), .slice ua ul uc] 86))
        have HNW := Lib.hid (hp1 wr (.cells #[.int .i64 (ni : Int), .int .i64 (no : Int), .slice ua ul uc] 86))
        obtain ⟨n0, n1⟩ := cells2 (blk_in H0.out HBW.out)
        obtain ⟨f0, f1, f2⟩ := cells3 HNW.out
        go_upto_region 8 with fail
        generalize (wr.alloc (.cells #[.int .i64 (ni : Int), .int .i64 (no : Int), .slice ua ul uc] 86)) = wb at HBW HNW n0 n1 f0 f1 f2 ⊢
        have CI1 := Lib.hid (show Calls Try.prog 77 #[.agg #[.slice (some ⟨gb, go, none⟩) m pcap, .slice la ll lcap], hx, .int .i64 (k : Int)] wb.drew fun e w' => ∃ iv, e = .returned iv ∧ SlR w' iv (inpL n h k) ∧ Below wr.heap.size wr w' ∧ w'.heap[wr.heap.size]? = some (.cells #[.int .i64 (ni : Int), .int .i64 (no : Int), .slice ua ul uc] 86) from by
          refine (CI.out wb.drew HBW.out.drew).mono ?_
          rintro e w3 ⟨iv, rfl, hiv, hb3⟩
          exact ⟨iv, rfl, hiv, HBW.out.trans ((show Below wb.heap.size wb w3 from (below_drewN wb 1).trans hb3).mono HBW.out.size), blk_in (show wb.drew.heap[wr.heap.size]? = _ from HNW.out) hb3⟩)
        have CK1 := Lib.hid (show ∀ (W : World) (iv : Value), Below wr.heap.size wr W → W.heap[wr.heap.size]? = some (.cells #[.int .i64 (ni : Int), .int .i64 (no : Int), .slice ua ul uc] 86) → SlR W iv (inpL n h k) → Calls Try.prog 76 #[.agg #[.int .i64 (ni : Int), .int .i64 (no : Int), .slice ua ul uc], iv, .int .i64 3000] W fun e w' => ∃ ov uv, e = .returned (.tuple #[ov, uv, .int .i64 wy, .int .i64 pt]) ∧ Below wr.heap.size wr w' ∧ w'.heap[wr.heap.size]? = some (.cells #[.int .i64 (ni : Int), .int .i64 (no : Int), .slice ua ul uc] 86) from by
          intro W iv h1 h2 h3
          refine (HCK.out W iv h1 h3).mono ?_
          rintro e w4 ⟨ov, uv, rfl, _, hb4⟩
          exact ⟨ov, uv, rfl, h1.trans (hb4.mono h1.size), blk_in h2 hb4⟩)
        clear CI HCK
        go_region_held3 (fun w' => w'.cell? ⟨wr.heap.size, 0, none⟩ = some (.int .i64 (ni : Int)) ∧ w'.cell? ⟨wr.heap.size, 1, none⟩ = some (.int .i64 (no : Int)) ∧ w'.cell? ⟨wr.heap.size, 2, none⟩ = some (.slice ua ul uc) ∧ w'.cell? ⟨w.heap.size, 0, none⟩ = some (.slice (some ⟨gb, go, none⟩) m pcap) ∧ w'.cell? ⟨w.heap.size, 1, none⟩ = some (.slice la ll lcap)) (go_keep) (first | (go_at_call 77; refine CI1.out.mono ?_; rintro e w3 ⟨iv, rfl, hiv, hb3, hn3⟩; have HIV := Lib.hid hiv; have HB3 := Lib.hid hb3; have HN3 := Lib.hid hn3; obtain ⟨p0, p1⟩ := cells2 (blk_in H0.out hb3); obtain ⟨q0, q1, q2⟩ := cells3 hn3; clear hb3 hiv hn3) | (go_at_call 76; refine (CK1.out _ _ HB3.out HN3.out HIV.out).mono ?_; rintro e w4 ⟨ov, uv, rfl, hb4, hn4⟩; have HB4 := Lib.hid hb4; have H4 := Lib.hid (blk_in H0.out hb4); obtain ⟨r0, r1⟩ := cells2 H4.out; obtain ⟨s0, s1, s2⟩ := cells3 hn4; have r2 := lt_of H4.out; clear hb4 hn4))
        have HO4 := Lib.hid (HO.out.below HB4.out)
        have HW4 := Lib.hid (HW.out.trans (HB4.out.mono HW.out.size))
        have HC4 := Lib.hid (HB.out.trans (HB4.out.mono HB.out.size))
        rcases hwy with rfl | rfl
        · have e1 := HWN.out (by decide)
          subst e1
          go_wp2_with (at_builtin; refine wpList_append_own_at _ rfl _ _ 46 rfl w1.heap.size 3 ii (.int .i64 0) 1 8 Try.underlying46 hi hz0 hz1 hz2 rfl (by decide) _ _ _ rfl (World.ownsRow.alloc HO4.out _) ⟨w4.heap.size, 0, none⟩ 1 1 [.int .i64 (-1)] rfl rfl (one_src _ _) (one_one _) ?c3 ?c4 ?c5 ?_)
          case c3 => unfold maxLen; first | omega | (simp; omega)
          case c4 => first | omega | (simp; omega)
          case c5 => have := HC4.out.size; first | omega | (simp; omega)
          intro o' w5 hown hgrow _ _
          have HO5 := Lib.hid (show Own w1.heap.size w5 o' ((List.range (k + 1)).map (waitL n h)) by rw [HST.out]; unfold Own; rw [List.length_append, List.length_map, List.length_range, show vals ((List.range k).map (waitL n h) ++ [-1]) = vals ((List.range k).map (waitL n h)) ++ [.int .i64 (-1)] by simp [vals]]; exact hown)
          have HB5 := Lib.hid ((HC4.out.al (.cells #[.int .i64 (-1)] 3)).grown hgrow (by have := HC4.out.size; simp; omega) (fun q e => (HO4.out.lt q e).1))
          clear hown hgrow
          go_wp2_with fail
          go_roundw
          case rel => exact ⟨k + 1, by omega, by go_num, HO5, HB5⟩
          case measure => simp [intOf]; omega
        · have e1 := HWT.out rfl
          have CT4 := Lib.hid (CT.out w4 (k : Int) pt HW4.out)
          rw [e1] at CT4
          go_wp2_with (first | (go_at_call 78; with_reducible refine CT4.out.mono ?_; rintro e w5 ⟨rfl, hb5⟩; have HB5 := Lib.hid hb5; have HC5 := Lib.hid (HC4.out.trans (hb5.mono HC4.out.size)); clear hb5) | (at_builtin; refine wpList_append_own_at _ rfl _ _ 46 rfl w1.heap.size 3 ii (.int .i64 0) 1 8 Try.underlying46 hi hz0 hz1 hz2 rfl (by decide) _ _ _ rfl (World.ownsRow.alloc (HO4.out.below HB5.out) _) ⟨_, 0, none⟩ 1 1 [.int .i64 wl] rfl rfl (one_src _ _) (one_one _) ?c3 ?c4 ?c5 ?_))
          case c3 => unfold maxLen; first | omega | (simp; omega)
          case c4 => first | omega | (simp; omega)
          case c5 => have := HC5.out.size; first | omega | (simp; omega)
          intro o' w6 hown hgrow _ _
          have HO6 := Lib.hid (show Own w1.heap.size w6 o' ((List.range (k + 1)).map (waitL n h)) by rw [HST.out]; unfold Own; rw [List.length_append, List.length_map, List.length_range, show vals ((List.range k).map (waitL n h) ++ [wl]) = vals ((List.range k).map (waitL n h)) ++ [.int .i64 wl] by simp [vals]]; exact hown)
          have HB6 := Lib.hid ((HC5.out.al (.cells #[.int .i64 wl] 3)).grown hgrow (by have := HC5.out.size; simp; omega) (fun q e => (HO4.out.lt q e).1))
          clear hown hgrow
          go_wp2_with fail
          go_roundw
          case rel => exact ⟨k + 1, by omega, by go_num, HO6, HB6⟩
          case measure => simp [intOf]; omega
      case neg =>
        obtain rfl : k = m := by omega
        have HO9 := Lib.hid (show Own w1.heap.size wr _ (waitsL n h) by rw [HWL.out]; exact HO.out)
        go_wp2_with fail
        go_ret2
        exact ⟨_, rfl, OwnH.of (HO9.out.mono HB1.out.size), HW.out⟩

def pickL (hs : List (List Int)) (idx : List Int) : List (List Int) := idx.map fun i => hs.getD i.toNat []
def picks (us : List Value) (idx : List Int) : List Value := idx.map fun i => us.getD i.toNat (.slice none 0 0)
def observeNetworkR1 (n : Net) : Bool := leastStreamsR2 n
def observeNetworkR0 (n : Net) : List (List Int) := if leastStreamsR2 n then pickL (leastStreamsR0 n) (idxL outQ 0 n.links) else []
theorem idxL_mem {q : Lnk → Bool} : ∀ (s : Nat) (xs : List Lnk) (i : Int), i ∈ idxL q s xs → ∃ j : Nat, j < xs.length ∧ i = ((s + j : Nat) : Int)
  | _, [], i, h => by simp [idxL] at h
  | s, x :: xs, i, h => by
    have tail : i ∈ idxL q (s + 1) xs → ∃ j : Nat, j < (x :: xs).length ∧ i = ((s + j : Nat) : Int) := fun h => by
      obtain ⟨j, h1, h2⟩ := idxL_mem (s + 1) xs i h
      exact ⟨j + 1, by simp; omega, by omega⟩
    unfold idxL at h
    split at h
    · rcases List.mem_cons.1 h with e | e
      · exact ⟨0, by simp, by omega⟩
      · exact tail e
    · exact tail h
theorem idxL_inc {q : Lnk → Bool} : ∀ (s : Nat) (xs : List Lnk), (idxL q s xs).Pairwise (· < ·)
  | _, [] => by simp [idxL]
  | s, x :: xs => by
    unfold idxL
    split
    · refine List.pairwise_cons.2 ⟨fun i h => ?_, idxL_inc (s + 1) xs⟩
      obtain ⟨j, _, e⟩ := idxL_mem (s + 1) xs i h
      omega
    · exact idxL_inc (s + 1) xs
theorem observe_bd (n : Net) : (observeNetworkR0 n).length ≤ 30 ∧ sumT (observeNetworkR0 n) ≤ 12000 ∧ sumR (observeNetworkR0 n) ≤ 12030 := by
  unfold observeNetworkR0
  cases e : leastStreamsR2 n with
  | false => simp [sumT, sumR]
  | true =>
    rw [if_pos rfl]
    obtain ⟨g, _⟩ := least_fix e
    have h0 := idxL_le outQ 0 n.links
    have h1 := (okN_len g.ok).2.1
    have h2 : ∀ xs ∈ pickL (leastStreamsR0 n) (idxL outQ 0 n.links), xs.length ≤ 400 := by
      intro xs hx
      unfold pickL at hx
      obtain ⟨i, _, rfl⟩ := List.mem_map.1 hx
      rcases Nat.lt_or_ge i.toNat (leastStreamsR0 n).length with q | q
      · rw [List.getD_eq_getElem?_getD, List.getElem?_eq_getElem q]
        exact isS_len (g.all _ (List.getElem_mem q))
      · rw [List.getD_eq_getElem?_getD, List.getElem?_eq_none q]
        simp
    have h3 := sumT_le (c := 400) _ h2
    have h4 := sumT_R (pickL (leastStreamsR0 n) (idxL outQ 0 n.links))
    have h5 : (pickL (leastStreamsR0 n) (idxL outQ 0 n.links)).length = (idxL outQ 0 n.links).length := by unfold pickL; simp
    have h6 : 400 * (pickL (leastStreamsR0 n) (idxL outQ 0 n.links)).length ≤ 12000 := by omega
    exact ⟨by omega, by omega, by omega⟩
theorem pick_rows {lo lo2 : Nat} {w : World} {o u : Value} {us : List Value} {hs : List (List Int)} {used idx : List Int} (hF : Fam lo w (us ++ [u]) (hs ++ [used])) (ho : w.ownsRow lo2 46 1 o idx.length (picks us idx)) (hl : lo ≤ lo2)
    (hi : ∀ i ∈ idx, ∃ k : Nat, k < hs.length ∧ i = (k : Int)) (hp : idx.Pairwise (· < ·)) : RowsH lo w.heap.size w o (pickL hs idx) := by
  have hlen := hF.len
  simp only [List.length_append, List.length_cons, List.length_nil] at hlen
  have at_ : ∀ (i : Nat) (y : Value), (picks us idx)[i]? = some y → ∃ k : Nat, k < hs.length ∧ idx[i]? = some (k : Int) ∧ (us ++ [u])[k]? = some y := by
    intro i y hy
    unfold picks at hy
    rw [List.getElem?_map] at hy
    obtain ⟨z, hz, rfl⟩ := Option.map_eq_some_iff.1 hy
    obtain ⟨k, hk, rfl⟩ := hi z (List.mem_of_getElem? hz)
    refine ⟨k, hk, hz, ?_⟩
    rw [Int.toNat_natCast, List.getElem?_append_left (by omega), List.getD_eq_getElem?_getD, List.getElem?_eq_getElem (by omega)]
    rfl
  have hF2 : Fam lo w (picks us idx) (pickL hs idx) := by
    refine ⟨by simp [picks, pickL], fun i y xs h1 h2 => ?_, fun i j y y' h1 h2 hij => ?_⟩
    · obtain ⟨k, k1, k2, k3⟩ := at_ i y h1
      unfold pickL at h2
      rw [List.getElem?_map, k2] at h2
      obtain rfl := Option.some.inj h2
      refine hF.own k y _ k3 ?_
      show _ = some (hs.getD (k : Int).toNat [])
      rw [Int.toNat_natCast, List.getElem?_append_left k1, List.getD_eq_getElem?_getD, List.getElem?_eq_getElem k1]
      rfl
    · obtain ⟨k, k1, k2, k3⟩ := at_ i y h1
      obtain ⟨k', k1', k2', k3'⟩ := at_ j y' h2
      refine hF.apart k k' y y' k3 k3' (fun e => ?_)
      obtain ⟨i1, e1⟩ := List.getElem?_eq_some_iff.1 k2
      obtain ⟨j1, e2⟩ := List.getElem?_eq_some_iff.1 k2'
      rw [List.pairwise_iff_getElem] at hp
      rcases Nat.lt_or_gt_of_ne hij with q | q
      · have := hp i j i1 j1 q; omega
      · have := hp j i j1 i1 q; omega
  have hF3 := hF2.snoc (w1 := w) (x := .slice none 0 0) (xs := []) (fun u ys q => q) ⟨rfl, .inl ⟨rfl, rfl⟩⟩ (fun u ys q _ => by
      cases q1 : u.ownBlock with
      | none => exact .inl q1
      | some c => right; rw [q1]; simp [Value.ownBlock])
  refine ⟨picks us idx, ?_, hF3, fam_hi hF3⟩
  have hpl : (picks us idx).length = idx.length := by simp [picks]
  rcases ho.2 with ⟨rfl, h0⟩ | ⟨g, cap, cur, rfl, hbb, hg, h2, h4, h5, h6⟩
  · exact .inl ⟨rfl, List.length_eq_zero_iff.1 (by omega)⟩
  · exact .inr ⟨g, cap, cur, by rw [hpl], by omega, lt_of hg, by omega, h4, hg, by rw [hpl]; rw [Nat.mul_one] at h6; exact h6⟩
theorem picks_snoc {us : List Value} {idx : List Int} {k : Nat} {y : Value} (hy : us[k]? = some y) : picks us (idx ++ [(k : Int)]) = picks us idx ++ [y] := by
  unfold picks
  rw [List.map_append]
  simp [List.getD_eq_getElem?_getD, hy]
theorem ownsRow_shape {lo T m : Nat} {w : World} {o : Value} {L : List Value} (h : w.ownsRow lo T 1 o m L) : ∃ a c, o = .slice a m c := by
  rcases h.2 with ⟨rfl, rfl⟩ | ⟨g, cap, cur, rfl, _⟩
  · exact ⟨_, _, rfl⟩
  · exact ⟨_, _, rfl⟩
/-- The rows of a result, by index. -/
theorem outH_at {lo hi : Nat} {w : World} {v u : Value} {hs : List (List Int)} {used : List Int} (h : OutH lo hi w v u hs used) : ∃ (us : List Value) (a : Option Addr) (c : Nat), v = .slice a hs.length c ∧ us.length = hs.length ∧ Fam lo w (us ++ [u]) (hs ++ [used]) ∧
    ∀ k, k < hs.length → ∃ (B : Nat) (p : Option Addr) (l q : Nat), a = some ⟨B, 0, none⟩ ∧ B < w.heap.size ∧ us[k]? = some (.slice p l q) ∧ w.cell? ⟨B, k, none⟩ = some (.slice p l q) := by
  obtain ⟨us, hv, hF, _⟩ := h
  have hlen := hF.len
  simp only [List.length_append, List.length_cons, List.length_nil] at hlen
  rcases hv with ⟨rfl, rfl⟩ | ⟨B, cap, cur, rfl, _, _, _, _, hB, ht⟩
  · have hz : hs = [] := List.length_eq_zero_iff.1 (by simp at hlen; simp [hlen])
    subst hz
    exact ⟨[], none, 0, rfl, rfl, hF, fun k hk => by simp at hk⟩
  · refine ⟨us, some ⟨B, 0, none⟩, cap, by rw [show us.length = hs.length by omega], by omega, hF, fun k hk => ?_⟩
    have hy : us[k]? = some us[k] := List.getElem?_eq_getElem (by omega)
    have hO := hF.own k us[k] hs[k] (by rw [List.getElem?_append_left (by omega)]; exact hy) (by rw [List.getElem?_append_left hk]; exact List.getElem?_eq_getElem hk)
    obtain ⟨p, q, hs'⟩ := hO.sl.shape
    rw [hs'] at hy
    refine ⟨B, p, _, q, rfl, lt_of hB, hy, ?_⟩
    rw [cell_of hB]
    rw [← ht, List.getElem?_take, if_pos (by omega), Array.getElem?_toList] at hy
    exact hy

set_option maxRecDepth 100000 in
set_option maxHeartbeats 8000000 in
theorem iobs_w (v : Value) (n : Net) (w : World) (hv : NetV w v n) :
    Calls Try.prog 31 #[v] w fun e w' => ∃ r, e = .returned (.tuple #[r, .bool (observeNetworkR1 n)]) ∧ RowsH w.heap.size w'.heap.size w' r (observeNetworkR0 n) ∧ Below w.heap.size w w' := by
  have CO := Lib.hid (fun (W : World) (hw : Below w.heap.size w W) => ioutputsOf_any v n W (hv.below hw))
  obtain ⟨pv, lv, rfl, hps, hls⟩ := hv
  have HV := Lib.hid (show NetV w (.agg #[pv, lv]) n from ⟨pv, lv, rfl, hps, hls⟩)
  obtain ⟨pa, pcap, rfl⟩ := hps.shape
  obtain ⟨la, lcap, rfl⟩ := hls.shape
  obtain ⟨m, hm⟩ : ∃ z, z = n.progs.length := ⟨_, rfl⟩
  obtain ⟨ll, hll⟩ : ∃ z, z = n.links.length := ⟨_, rfl⟩
  have NL := Lib.hid hll
  rw [← hm, ← hll] at HV CO ⊢
  clear hps hls hm hll
  obtain ⟨is, hs, sz0, sz1, sz2⟩ := infoS_parts
  have h0 := Lib.hid (hp1 w (.cells #[.slice pa m pcap, .slice la ll lcap] 34))
  have hb0 := Lib.hid ((Below.refl w.heap.size w).al (.cells #[.slice pa m pcap, .slice la ll lcap] 34))
  have CL := Lib.hid (fun (W : World) (hw : Below w.heap.size w W) => ilst_w (.agg #[.slice pa m pcap, .slice la ll lcap]) n W (HV.out.below hw))
  cases hok : leastStreamsR2 n with
  | false =>
    rw [hok] at CL
    have e0 : observeNetworkR0 n = [] := by unfold observeNetworkR0; rw [hok]; rfl
    have e1 : observeNetworkR1 n = false := hok
    rw [e0, e1]
    go_enter Try.func31, Try.ntmps31
    go_wp2_with (go_at_call 27; with_reducible refine (CL.out _ hb0.out).mono ?_; rintro e w1 ⟨hx, rfl, _, hb1⟩; have HB1 := Lib.hid (hb0.out.trans (hb1.mono hb0.out.size)); clear hb1)
    go_ret2
    exact ⟨_, rfl, rowsH_nil _ _, HB1.out⟩
  | true =>
    rw [hok] at CL
    obtain ⟨g, _⟩ := least_fix hok
    have e1 : observeNetworkR1 n = true := hok
    obtain ⟨h, hh⟩ : ∃ z, z = leastStreamsR0 n := ⟨_, rfl⟩
    have e0 : observeNetworkR0 n = pickL h (idxL outQ 0 n.links) := by unfold observeNetworkR0; rw [hok, if_pos rfl, hh]
    rw [← hh] at g CL
    rw [e0, e1]
    have hl30 : ll ≤ 30 := by rw [NL.out]; have := okN_len g.ok; omega
    have HLEN := Lib.hid (show h.length = ll by rw [NL.out]; exact g.len)
    obtain ⟨hn, hhn⟩ : ∃ z, z = h.length := ⟨_, rfl⟩
    have HN := Lib.hid hhn
    have HOI := Lib.hid (show outputsOfR0 n = idxL outQ 0 n.links by unfold outputsOfR0; rw [g.ok]; rfl)
    rw [HOI.out] at CO
    obtain ⟨idx, hidx⟩ : ∃ z, z = idxL outQ 0 n.links := ⟨_, rfl⟩
    rw [← hidx] at CO ⊢
    have HIM := Lib.hid (show ∀ i ∈ idx, ∃ k : Nat, k < h.length ∧ i = (k : Int) from fun i hi => by
      rw [hidx] at hi
      obtain ⟨j, h1, h2⟩ := idxL_mem 0 n.links i hi
      exact ⟨j, by rw [HLEN.out, NL.out]; exact h1, by omega⟩)
    have HIP := Lib.hid (show idx.Pairwise (· < ·) by rw [hidx]; exact idxL_inc 0 n.links)
    have HIL := Lib.hid (show idx.length ≤ 30 by rw [hidx]; have := idxL_le outQ 0 n.links; rw [← NL.out] at this; omega)
    clear hok g e0 e1 hh hhn hidx HOI
    go_enter Try.func31, Try.ntmps31
    go_wp2_with (first | (go_at_call 27; with_reducible refine (CL.out _ hb0.out).mono ?_; rintro e w1 ⟨hx, rfl, hr, hb1⟩; have HX := Lib.hid hr; have HB1 := Lib.hid (hb0.out.trans (hb1.mono hb0.out.size)); have H1 := blk_in h0.out hb1; obtain ⟨f0, f1⟩ := cells2 H1; have f2 := lt_of H1; clear hr hb1 H1) | (go_at_call 75; with_reducible refine (CO.out _ HB1.out).mono ?_; rintro e w2 ⟨ox, rfl, ho, hb2⟩; have HO := Lib.hid ho; obtain ⟨oa, oc, hoe⟩ := HO.out.sl.shape; subst hoe; have HX2 := Lib.hid (HX.out.below hb2); have HB2 := Lib.hid (HB1.out.trans (hb2.mono HB1.out.size)); clear ho hb2))
    obtain ⟨us, ha, hc, hxe, hul, hF, hat⟩ := outH_at HX2.out
    subst hxe
    rw [← HN.out]
    obtain ⟨ol, hol⟩ : ∃ z, z = idx.length := ⟨_, rfl⟩
    have HOL := Lib.hid hol
    have HOS := Lib.hid HO.out.sl
    rw [← hol] at HOS ⊢
    have hol30 : ol ≤ 30 := by rw [hol]; exact HIL.out
    have HF := Lib.hid hF
    have HAT := Lib.hid hat
    clear hol hF hat hul
    go_loopw [7, 21] (fun o i wr => ∃ j : Nat, j ≤ ol ∧ i = .int .i64 j ∧ Hid (wr.ownsRow w2.heap.size 46 1 o j (picks us (idx.take j))) ∧ Hid (Below w2.heap.size w2 wr)) (fun _ i _ => ol - (intOf i).toNat)
    case atStart => exact ⟨0, Nat.zero_le _, rfl, Lib.hid ⟨rfl, .inl ⟨rfl, rfl⟩⟩, Lib.hid (Below.refl _ _)⟩
    case round =>
      obtain ⟨j, hj, rfl, HR, HB⟩ := hrel
      by_cases hlt : j < ol
      case pos =>
        obtain ⟨x, hx⟩ : ∃ x, idx[j]? = some x := ⟨_, List.getElem?_eq_getElem (by rw [← HOL.out]; exact hlt)⟩
        obtain ⟨k, hk, rfl⟩ := HIM.out x (List.mem_of_getElem? hx)
        obtain ⟨B, p, l, q, rfl, hB, hy, hc0⟩ := HAT.out k hk
        have HST := Lib.hid (show picks us (idx.take (j + 1)) = picks us (idx.take j) ++ [.slice p l q] by
          have hq := List.getElem?_eq_some_iff.1 hx
          rw [List.take_succ_eq_append_getElem hq.1, hq.2]; exact picks_snoc hy)
        rw [← HN.out] at hk
        obtain ⟨oa', oc', hoe, _, _, _, hcs⟩ := HOS.out
        simp only [Value.slice.injEq] at hoe
        obtain ⟨rfl, hq9, rfl⟩ := hoe
        clear hq9
        rcases hcs with hcs | ⟨ob, oo, rfl, hob, hoc⟩
        · rw [hcs] at hx; simp at hx
        · have d0 := hoc j (by rw [← HOL.out]; exact hlt)
          rw [List.getD_eq_getElem?_getD, hx] at d0
          have d1 := (HB.out.cell (p := ⟨ob, oo + j, none⟩) hob).trans d0
          have d2 := Nat.lt_of_lt_of_le hob HB.out.size
          have c1 := (HB.out.cell (p := ⟨B, k, none⟩) hB).trans hc0
          have c2 := Nat.lt_of_lt_of_le hB HB.out.size
          simp only [Option.getD_some] at d1
          have hn30 : hn ≤ 9223372036854775807 := by rw [HN.out, HLEN.out]; omega
          clear hx hy hc0 d0 hoc
          go_wp2_with (at_builtin; refine wpList_append_own_at _ rfl _ _ 26 rfl w2.heap.size 46 is (.slice none 0 0) 1 24 Try.underlying26 hs sz0 sz1 sz2 rfl (by decide) _ _ _ rfl (World.ownsRow.alloc HR.out _) ⟨wr.heap.size, 0, none⟩ 1 1 [.slice p l q] rfl rfl (lit_s _ _) ?c1 ?c3 ?c4 ?c5 ?_)
          case c1 => first | rfl | (intro u hu; simp at hu; subst hu; rfl)
          case c3 => unfold maxLen; omega
          case c4 => omega
          case c5 => have := HB.out.size; first | omega | (simp; omega)
          intro o' w5 hown hgrow _ _
          have HR5 := Lib.hid (show w5.ownsRow w2.heap.size 46 1 o' (j + 1) (picks us (idx.take (j + 1))) by rw [HST.out]; exact hown)
          have HB5 := Lib.hid ((HB.out.al (.cells #[.slice p l q] 46)).grown hgrow (by have := HB.out.size; simp; omega) (fun z e => (HR.out.lt z e).1))
          clear hown hgrow
          go_wp2_with fail
          go_roundw
          case rel => exact ⟨j + 1, by omega, by go_num, HR5, HB5⟩
          case measure => simp [intOf]; omega
      case neg =>
        obtain rfl : j = ol := by omega
        have HRR := Lib.hid (show RowsH w.heap.size wr.heap.size wr _ (pickL h idx) from pick_rows (lo := w.heap.size) ((HF.out.below HB.out).mono hb0.out.size) (by have := HR.out; rw [List.take_of_length_le (by rw [← HOL.out]; exact Nat.le_refl _), HOL.out] at this; exact this) HB2.out.size HIM.out HIP.out)
        obtain ⟨za, zc, rfl⟩ := ownsRow_shape HR.out
        go_wp2_with fail
        go_ret2
        exact ⟨_, rfl, HRR.out, HB2.out.trans (HB.out.mono HB2.out.size)⟩

set_option maxRecDepth 100000 in
set_option maxHeartbeats 8000000 in
theorem sobs_w (v : Value) (n : Net) (w : World) (hv : NetV w v n) :
    Calls Try.prog 30 #[v] w fun e w' => ∃ r, e = .returned (.tuple #[r, .bool (observeNetworkR1 n)]) ∧ RowsH w.heap.size w'.heap.size w' r (observeNetworkR0 n) ∧ Below w.heap.size w w' := by
  obtain ⟨pv, lv, rfl, hps, hls⟩ := hv
  have HV := Lib.hid (show NetV w (.agg #[pv, lv]) n from ⟨pv, lv, rfl, hps, hls⟩)
  have HL := Lib.hid hls
  have LL := hls.len
  obtain ⟨pa, pcap, rfl⟩ := hps.shape
  obtain ⟨la, lcap, rfl⟩ := hls.shape
  obtain ⟨m, hm⟩ : ∃ z, z = n.progs.length := ⟨_, rfl⟩
  obtain ⟨ll, hll⟩ : ∃ z, z = n.links.length := ⟨_, rfl⟩
  have NL := Lib.hid hll
  rw [← hll] at HL LL
  rw [← hm, ← hll] at HV ⊢
  clear hps hls hm hll
  obtain ⟨is, hs, sz0, sz1, sz2⟩ := infoS_parts
  have h0 := Lib.hid (hp1 w (.cells #[.slice pa m pcap, .slice la ll lcap] 34))
  have hb0 := Lib.hid ((Below.refl w.heap.size w).al (.cells #[.slice pa m pcap, .slice la ll lcap] 34))
  have CL := Lib.hid (fun (W : World) (hw : Below w.heap.size w W) => slst_w (.agg #[.slice pa m pcap, .slice la ll lcap]) n W (HV.out.below hw))
  cases hok : leastStreamsR2 n with
  | false =>
    rw [hok] at CL
    have e0 : observeNetworkR0 n = [] := by unfold observeNetworkR0; rw [hok]; rfl
    have e1 : observeNetworkR1 n = false := hok
    rw [e0, e1]
    go_enter Try.func30, Try.ntmps30
    go_wp2_with (go_at_call 26; with_reducible refine (CL.out _ hb0.out).mono ?_; rintro e w1 ⟨hx, rfl, _, hb1⟩; have HB1 := Lib.hid (hb0.out.trans (hb1.mono hb0.out.size)); clear hb1)
    go_ret2
    exact ⟨_, rfl, rowsH_nil _ _, HB1.out⟩
  | true =>
    rw [hok] at CL
    obtain ⟨g, _⟩ := least_fix hok
    have e1 : observeNetworkR1 n = true := hok
    obtain ⟨h, hh⟩ : ∃ z, z = leastStreamsR0 n := ⟨_, rfl⟩
    have e0 : observeNetworkR0 n = pickL h (idxL outQ 0 n.links) := by unfold observeNetworkR0; rw [hok, if_pos rfl, hh]
    rw [← hh] at g CL
    rw [e0, e1]
    have hl30 : ll ≤ 30 := by rw [NL.out]; have := okN_len g.ok; omega
    have HLEN := Lib.hid (show h.length = ll by rw [NL.out]; exact g.len)
    obtain ⟨hn, hhn⟩ : ∃ z, z = h.length := ⟨_, rfl⟩
    have HN := Lib.hid hhn
    have HOE := Lib.hid (show idxL outQ 0 n.links = idxL outF 0 n.links from idxL_congr 0 n.links (outQ_eq g.ok))
    rw [HOE.out]
    have HIM := Lib.hid (show ∀ i ∈ idxL outF 0 n.links, ∃ k : Nat, k < h.length ∧ i = (k : Int) from fun i hi => by
      obtain ⟨j, h1, h2⟩ := idxL_mem 0 n.links i hi
      exact ⟨j, by rw [HLEN.out, NL.out]; exact h1, by omega⟩)
    have HIP := Lib.hid (show (idxL outF 0 n.links).Pairwise (· < ·) from idxL_inc 0 n.links)
    clear hok g e0 e1 hh hhn HOE
    go_enter Try.func30, Try.ntmps30
    go_wp2_with (go_at_call 26; with_reducible refine (CL.out _ hb0.out).mono ?_; rintro e w1 ⟨hx, rfl, hr, hb1⟩; have HX := Lib.hid hr; have HB1 := Lib.hid (hb0.out.trans (hb1.mono hb0.out.size)); have H1 := blk_in h0.out hb1; obtain ⟨f0, f1⟩ := cells2 H1; have f2 := lt_of H1; clear hr hb1 H1)
    obtain ⟨us, ha, hc, hxe, hul, hF, hat⟩ := outH_at HX.out
    subst hxe
    rw [← HN.out]
    have HF := Lib.hid hF
    have HAT := Lib.hid hat
    clear hF hat hul
    have HQ1 := Lib.hid (show Below w1.heap.size w1 (w1.alloc (.cells #[] 46)) from (Below.refl _ _).al _)
    have HQ2 := Lib.hid (show (w1.alloc (.cells #[] 46)).ownsRow w1.heap.size 46 1 (.slice (some ⟨w1.heap.size, 0, none⟩) 0 0) 0 (picks us (idxL outF 0 (n.links.take 0))) from ⟨rfl, .inr ⟨w1.heap.size, 0, #[], rfl, Nat.le_refl _, hp1 w1 _, Nat.le_refl _, Nat.zero_le _, rfl, rfl⟩⟩)
    generalize (w1.alloc (.cells #[] 46)) = w2 at HQ1 HQ2 ⊢
    go_loopw [7, 22] (fun o i wr => ∃ j : Nat, j ≤ ll ∧ i = .int .i64 j ∧ Hid (wr.ownsRow w1.heap.size 46 1 o (idxL outF 0 (n.links.take j)).length (picks us (idxL outF 0 (n.links.take j)))) ∧ Hid (Below w1.heap.size w1 wr)) (fun _ i _ => ll - (intOf i).toNat)
    case atStart => exact ⟨0, Nat.zero_le _, rfl, HQ2, HQ1⟩
    case round =>
      clear HQ1 HQ2 f0 f1 f2
      obtain ⟨j, hj, rfl, HR, HB⟩ := hrel
      have HW := Lib.hid (HB1.out.trans (HB.out.mono HB1.out.size))
      by_cases hlt : j < ll
      case pos =>
        obtain ⟨x, hx⟩ : ∃ x, n.links[j]? = some x := ⟨_, List.getElem?_eq_getElem (by rw [← NL.out]; exact hlt)⟩
        obtain ⟨lb, lo, d, hla, hlb, e0, e1, e2, e3, e4, es⟩ := (HL.out.below HW.out).atb hx
        subst hla
        obtain ⟨va, vc, rfl⟩ := es.shape
        obtain ⟨B, p, l, q, rfl, hB, hy, hc0⟩ := HAT.out j (by rw [HLEN.out]; exact hlt)
        have HYE := Lib.hid (fun (e : outF x = true) => idxL_yes hx e)
        have HNE := Lib.hid (fun (e : outF x = false) => idxL_no hx e)
        have hjn : j < hn := by rw [HN.out, HLEN.out]; exact hlt
        have hn30 : hn ≤ 9223372036854775807 := by rw [HN.out, HLEN.out]; omega
        have HSN := Lib.hid (picks_snoc (idx := idxL outF 0 (n.links.take j)) hy)
        have HPL := Lib.hid (idxL_take_le outF n.links j)
        obtain ⟨ix, hix⟩ : ∃ z, z = idxL outF 0 (n.links.take j) := ⟨_, rfl⟩
        obtain ⟨iy, hiy⟩ : ∃ z, z = idxL outF 0 (n.links.take (j + 1)) := ⟨_, rfl⟩
        have HIY := Lib.hid hiy
        rw [← hix] at HR HSN HPL HYE HNE
        rw [← hiy] at HYE HNE
        obtain ⟨xf, xo, xt, xi, xk⟩ := x
        obtain ⟨kl, hkl⟩ : ∃ z, z = xk.length := ⟨_, rfl⟩
        simp only [] at e0 e1 e2 e3 e4
        rw [← hkl] at e4
        have c1 := (HB.out.cell (p := ⟨B, j, none⟩) hB).trans hc0
        have c2 := Nat.lt_of_lt_of_le hB HB.out.size
        have HBW := Lib.hid ((Below.refl wr.heap.size wr).al (.cells #[.int .i64 xf, .int .i64 xo, .int .i64 xt, .int .i64 xi, .slice va kl vc] 82))
        have HLIT := Lib.hid (show ∀ z y, [Value.slice p l q][z]? = some y → ((wr.alloc (.cells #[.int .i64 xf, .int .i64 xo, .int .i64 xt, .int .i64 xi, .slice va kl vc] 82)).alloc (.cells #[.slice p l q] 46)).cell? ((⟨wr.heap.size + 1, 0, none⟩ : Addr).add z) = some y from fun z y hz => by
          rw [Addr.add_lit, Nat.zero_add, cell_of (hp2 wr _ _)]
          rw [← Array.getElem?_toList]; exact hz)
        clear es hx hy hc0 hix hiy hkl
        by_cases ht : xt = -1
        case pos =>
          have HE := Lib.hid (HYE.out (decide_eq_true ht))
          subst ht
          obtain ⟨sl, hsl⟩ : ∃ z, z = ix.length := ⟨_, rfl⟩
          have HSL := Lib.hid hsl
          rw [← hsl] at HR HPL
          clear hsl
          have hsl30 : sl ≤ 30 := by have := HPL.out; omega
          go_wp2_with (at_builtin; refine wpList_append_own_at _ rfl _ _ 26 rfl w1.heap.size 46 is (.slice none 0 0) 1 24 Try.underlying26 hs sz0 sz1 sz2 rfl (by decide) _ _ _ rfl (World.ownsRow.alloc (rowT_below HR.out HBW.out) _) ⟨wr.heap.size + 1, 0, none⟩ 1 1 [.slice p l q] rfl rfl HLIT.out ?c1 ?c3 ?c4 ?c5 ?_)
          case c1 => first | rfl | (intro u hu; simp at hu; subst hu; rfl)
          case c3 => unfold maxLen; omega
          case c4 => omega
          case c5 => have := HB.out.size; first | omega | (simp; omega)
          intro o' w5 hown hgrow _ _
          have HR5 := Lib.hid (show w5.ownsRow w1.heap.size 46 1 o' iy.length (picks us iy) by rw [HE.out, HSN.out, List.length_append, ← HSL.out]; exact hown)
          have HB5 := Lib.hid (((HB.out.trans (HBW.out.mono HB.out.size)).al (.cells #[.slice p l q] 46)).grown hgrow (by have := HB.out.size; simp; omega) (fun z e => (HR.out.lt z e).1))
          clear hown hgrow
          go_wp2_with fail
          go_roundw
          case rel => exact ⟨j + 1, by omega, by go_num, Lib.hid (by rw [← HIY.out]; exact HR5.out), HB5⟩
          case measure => simp [intOf]; omega
        case neg =>
          have HE := Lib.hid (HNE.out (decide_eq_false ht))
          have hd : (xt == -1) = false := by simpa using ht
          clear ht
          go_wp2_with fail
          go_roundw
          case rel => exact ⟨j + 1, by omega, by go_num, Lib.hid (by rw [← HIY.out, HE.out]; exact rowT_below HR.out HBW.out), Lib.hid (HB.out.trans (HBW.out.mono HB.out.size))⟩
          case measure => simp [intOf]; omega
      case neg =>
        obtain rfl : j = ll := by omega
        have HRR := Lib.hid (show RowsH w.heap.size wr.heap.size wr _ (pickL h (idxL outF 0 n.links)) from pick_rows (lo := w.heap.size) ((HF.out.below HB.out).mono hb0.out.size) (by have := HR.out; rw [List.take_of_length_le (by rw [← NL.out]; exact Nat.le_refl _)] at this; exact this) HB1.out.size HIM.out HIP.out)
        obtain ⟨za, zc, rfl⟩ := ownsRow_shape HR.out
        go_wp2_with fail
        go_ret2
        exact ⟨_, rfl, HRR.out, HW.out⟩
end Go.Proofs.Ytjphamgkigekkaa
