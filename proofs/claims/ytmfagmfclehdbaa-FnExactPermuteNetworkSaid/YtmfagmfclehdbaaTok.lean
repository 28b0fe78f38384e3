/-
  Words moved together: rows that grow, and the like. No statement of the seat is proved here.
-/
import Derived.Test.YtmfagmfclehdbaaLawKit
import Derived.Test.YtmfagmfclehdbaaMake
import Derived.Test.YtmfagmfclehdbaaLinkM
import Derived.Maps.AppendAt
namespace Go.Proofs.Ytmfagmfclehdbaa
open Go.RowKit

theorem wp_open' {P : Program} {s : Code} {Q : Exit → Go.Act → World → Prop} {a : Go.Act} {w : World} (h : ∀ K' : Go.Act → World → Prop, (∀ a w, Q .normal a w → K' a w) → s.wp P (Exit.then K' Q) a w) : s.wp P Q a w := by
  refine wp_mono (h (fun a w => Q .normal a w) (fun _ _ q => q)) ?_
  intro e a' w' hq
  cases e <;> exact hq
theorem fam_hi {lo : Nat} {w : World} {us : List Value} {xss : List (List Int)} (h : Fam lo w us xss) : ∀ x ∈ us, ∀ q, x.ownBlock = some q → q < w.heap.size := by
  intro x hx q e
  obtain ⟨i, hi⟩ := List.getElem?_of_mem hx
  exact ((h.get hi).lt q e).2
theorem al_keep {w : World} {g : Nat} {o p : Obj} (h : w.heap[g]? = some p) : (w.alloc o).heap[g]? = some p := by
  obtain ⟨hl, _⟩ := Array.getElem?_eq_some_iff.1 h
  exact (Below.heap_alloc _ _ _ hl).trans h
theorem rowT_below {lo T m : Nat} {w w' : World} {x : Value} {L : List Value} (h : w.ownsRow lo T 1 x m L) (hb : Below w.heap.size w w') : w'.ownsRow lo T 1 x m L := by
  refine ⟨h.1, ?_⟩
  rcases h.2 with hn | ⟨g, cap, cur, rfl, hbb, hg, rest⟩
  · exact .inl hn
  · exact .inr ⟨g, cap, cur, rfl, hbb, blk_in hg hb, rest⟩
theorem own_far {lo g T : Nat} {w w' : World} {v : Value} {xs : List Int} {cs : Array Value} (h : Own lo w v xs) (hg : w.heap[g]? = some (.cells cs T)) (h2 : T ≠ 3) (hb : ∀ k, k < w.heap.size → k ≠ g → w'.heap[k]? = w.heap[k]?) : Own lo w' v xs := by
  refine ⟨h.1, ?_⟩
  rcases h.2 with hn | ⟨q, cap, cur, rfl, hbb, hq, rest⟩
  · exact .inl hn
  · refine .inr ⟨q, cap, cur, rfl, hbb, ?_, rest⟩
    rw [hb q (lt_of hq) (fun e => by subst e; rw [hq] at hg; simp at hg; exact h2 hg.2.symm)]
    exact hq
/-- What a growth of a row of another type leaves of a row of ints. -/
theorem own_grown {lo lo2 T m : Nat} {w w' : World} {v o : Value} {xs : List Int} {L : List Value} {A : Obj} (h : Own lo w v xs) (hr : w.ownsRow lo2 T 1 o m L) (hT : T ≠ 3) (hg : (w.alloc A).grownBy w' o.ownBlock) : Own lo w' v xs := by
  have h1 := h.below ((Below.refl w.heap.size w).al A)
  rcases hr.2 with ⟨rfl, _⟩ | ⟨r, cap, cur, rfl, hbb, hq, rest⟩
  · refine ⟨h1.1, ?_⟩
    rcases h1.2 with hn | ⟨q, cap, cur, rfl, hb, hq, rest⟩
    · exact .inl hn
    · exact .inr ⟨q, cap, cur, rfl, hb, by rw [hg.block q (lt_of hq) (by simp [Value.ownBlock])]; exact hq, rest⟩
  · exact own_far h1 (blk_in hq ((Below.refl w.heap.size w).al A)) hT (fun k hk hne => hg.block k hk (by simp only [Value.ownBlock, ne_eq, Option.some.injEq]; exact hne))
theorem lit_s (w : World) (y : Value) : ∀ j u, [y][j]? = some u → (w.alloc (.cells #[y] 42)).cell? ((⟨w.heap.size, 0, none⟩ : Addr).add j) = some u := by
  intro j u hj
  rw [Addr.add_lit, Nat.zero_add, cell_of (hp1 w _)]
  rw [← Array.getElem?_toList]; exact hj
theorem Fam.snoc {lo : Nat} {w w1 : World} {us : List Value} {xss : List (List Int)} {x : Value} {xs : List Int} (h : Fam lo w us xss) (hk : ∀ (u : Value) (ys : List Int), Own lo w u ys → Own lo w1 u ys) (ho : Own lo w1 x xs) (ha : ∀ u ys, Own lo w u ys → u ∈ us → Apart u x) : Fam lo w1 (us ++ [x]) (xss ++ [xs]) := by
  have hl := h.len
  have one : ∀ (α : Type) (l : List α) (y u : α) (i : Nat), (l ++ [y])[i]? = some u → (i < l.length ∧ l[i]? = some u) ∨ (i = l.length ∧ u = y) := by
    intro α l y u i e
    by_cases hi : i < l.length
    · rw [List.getElem?_append_left hi] at e; exact .inl ⟨hi, e⟩
    · rw [List.getElem?_append_right (by omega)] at e
      rcases q : i - l.length with _ | q'
      · rw [q] at e; simp at e; exact .inr ⟨by omega, e.symm⟩
      · rw [q] at e; simp at e
  have get : ∀ i u, us[i]? = some u → Own lo w u (xss.getD i []) ∧ u ∈ us := fun i u e => ⟨h.get e, List.mem_of_getElem? e⟩
  refine ⟨by simp [hl], ?_, ?_⟩
  · intro i u ys h1 h2
    rcases one _ _ _ _ _ h1 with ⟨a, b⟩ | ⟨a, rfl⟩
    · rcases one _ _ _ _ _ h2 with ⟨a', b'⟩ | ⟨a', rfl⟩
      · exact hk u ys (h.own i u ys b b')
      · omega
    · rcases one _ _ _ _ _ h2 with ⟨a', b'⟩ | ⟨a', rfl⟩
      · omega
      · exact ho
  · intro i j u u' h1 h2 hij
    rcases one _ _ _ _ _ h1 with ⟨a, b⟩ | ⟨a, rfl⟩
    · rcases one _ _ _ _ _ h2 with ⟨a', b'⟩ | ⟨a', rfl⟩
      · exact h.apart i j u u' b b' hij
      · have q := get i u b; exact ha u _ q.1 q.2
    · rcases one _ _ _ _ _ h2 with ⟨a', b'⟩ | ⟨a', rfl⟩
      · have q := get j u' b'; exact (ha u' _ q.1 q.2).symm
      · omega
/-- Streams that have been made so far, in a slice that grows. -/
def GrowR (lo k : Nat) (w : World) (o : Value) (xss : List (List Int)) : Prop := ∃ us, w.ownsRow lo 42 1 o k us ∧ Fam lo w us (xss.take k)
theorem GrowR.shape {lo k : Nat} {w : World} {o : Value} {xss : List (List Int)} (h : GrowR lo k w o xss) : ∃ a c, o = .slice a k c := by
  obtain ⟨us, h1, _⟩ := h
  rcases h1.2 with ⟨rfl, rfl⟩ | ⟨g, cap, cur, rfl, _⟩
  · exact ⟨_, _, rfl⟩
  · exact ⟨_, _, rfl⟩
theorem GrowR.below {lo k : Nat} {w w' : World} {o : Value} {xss : List (List Int)} (h : GrowR lo k w o xss) (hb : Below w.heap.size w w') : GrowR lo k w' o xss := by
  obtain ⟨us, h1, h2⟩ := h
  exact ⟨us, rowT_below h1 hb, h2.below hb⟩
theorem GrowR.step {lo k b : Nat} {w3 w4 : World} {o o' x : Value} {xss : List (List Int)} {row : List Int} {us : List Value} (h1 : w3.ownsRow lo 42 1 o k us) (hF : Fam lo w3 us (xss.take k)) (hx : Own b w3 x row) (hb : ∀ u q, u ∈ us → u.ownBlock = some q → q < b) (hlo : lo ≤ b) (hrow : xss[k]? = some row)
    (hown : w4.ownsRow lo 42 1 o' (k + 1) (us ++ [x])) (hg : (w3.alloc (.cells #[x] 42)).grownBy w4 o.ownBlock) : GrowR lo (k + 1) w4 o' xss := by
  have hq := (List.getElem?_eq_some_iff.1 hrow)
  have e : xss.take (k + 1) = xss.take k ++ [row] := by rw [List.take_succ_eq_append_getElem hq.1, hq.2]
  refine ⟨us ++ [x], hown, ?_⟩
  rw [e]
  refine hF.snoc (fun u ys q => own_grown q h1 (by decide) hg) (own_grown (hx.mono hlo) h1 (by decide) hg) (fun u ys q hu => ?_)
  cases q1 : u.ownBlock with
  | none => exact .inl q1
  | some c =>
    right
    rw [q1]
    intro q2
    have := hb u c hu q1
    have := (hx.lt c q2.symm).1
    omega
theorem GrowR.rows {lo ll : Nat} {w : World} {o : Value} {xss : List (List Int)} (h : GrowR lo ll w o xss) (hx : xss.length = ll) : RowsH lo w.heap.size w o xss := by
  obtain ⟨us, h1, h3⟩ := h
  rw [List.take_of_length_le (by omega)] at h3
  have hF := h3.snoc (w1 := w) (x := .slice none 0 0) (xs := []) (fun u ys q => q) ⟨rfl, .inl ⟨rfl, rfl⟩⟩ (fun u ys q _ => by
      cases q1 : u.ownBlock with
      | none => exact .inl q1
      | some c => right; rw [q1]; simp [Value.ownBlock])
  refine ⟨us, ?_, hF, fam_hi hF⟩
  have hl := h1.1
  rw [Nat.mul_one] at hl
  rcases h1.2 with ⟨rfl, h0⟩ | ⟨g, cap, cur, rfl, hbb, hg, h2, h4, h5, h6⟩
  · exact .inl ⟨rfl, List.length_eq_zero_iff.1 (by omega)⟩
  · exact .inr ⟨g, cap, cur, by rw [hl], hbb, lt_of hg, by omega, h4, hg, by rw [hl]; rw [Nat.mul_one] at h6; exact h6⟩
def toksL (n : Net) : List (List Int) := n.links.map Lnk.tok
theorem sumT_le {c : Nat} : ∀ (xss : List (List Int)), (∀ xs ∈ xss, xs.length ≤ c) → sumT xss ≤ c * xss.length
  | [], _ => by simp [sumT]
  | x :: xs, h => by
    have h1 := sumT_le xs (fun y hy => h y (List.mem_cons_of_mem _ hy))
    have h2 := h x (List.mem_cons_self ..)
    unfold sumT at h1 ⊢
    rw [List.map_cons, List.sum_cons, List.length_cons, Nat.mul_add, Nat.mul_one]
    show stR x + _ ≤ _
    unfold stR at h1 ⊢
    omega
theorem tok_isS {n : Net} (h : okN n = true) {l : Lnk} (hl : l ∈ n.links) : isS l.tok = true := by
  have := ((okN_iff n).1 h).2.1 l hl
  have h2 := this.1
  unfold linkL at h2
  rw [Bool.and_eq_true] at h2
  exact h2.1
set_option maxRecDepth 100000 in
set_option maxHeartbeats 8000000 in
theorem stoks_any (v : Value) (n : Net) (w : World) (hv : NetV w v n) (ho : okN n = true) :
    Calls Try.prog 54 #[v] w fun e w' => ∃ r, e = .returned r ∧ RowsH w.heap.size w'.heap.size w' r (toksL n) ∧ Below w.heap.size w w' := by
  have G := Lib.hid (show ∀ l ∈ n.links, isS l.tok = true from fun l hl => tok_isS ho hl)
  have hl30 := (okN_len ho).2.1
  obtain ⟨pv, lv, rfl, hps, hls⟩ := hv
  have HL := Lib.hid hls
  have LL := hls.len
  obtain ⟨pa, pcap, rfl⟩ := hps.shape
  obtain ⟨la, lcap, rfl⟩ := hls.shape
  obtain ⟨is, hs, sz0, sz1, sz2⟩ := infoS_parts
  obtain ⟨m, hm⟩ : ∃ z, z = n.progs.length := ⟨_, rfl⟩
  obtain ⟨ll, hll⟩ : ∃ z, z = n.links.length := ⟨_, rfl⟩
  have NL := Lib.hid hll
  rw [← hm]
  rw [← hll] at HL LL hl30 ⊢
  clear hps hls hm hll ho
  have h0 := Lib.hid (al_keep (o := (.cells #[] 42)) (hp1 w (.cells #[.slice pa m pcap, .slice la ll lcap] 35)))
  have HQ1 := Lib.hid (((Below.refl w.heap.size w).al (.cells #[.slice pa m pcap, .slice la ll lcap] 35)).al (.cells #[] 42))
  have HQ2 := Lib.hid (show GrowR (w.heap.size + 1) 0 ((w.alloc (.cells #[.slice pa m pcap, .slice la ll lcap] 35)).alloc (.cells #[] 42)) (.slice (some ⟨w.heap.size + 1, 0, none⟩) 0 0) (toksL n) from ⟨[], ⟨rfl, .inr ⟨w.heap.size + 1, 0, #[], rfl, Nat.le_refl _, hp2 w _ _, Nat.le_refl _, Nat.zero_le _, rfl, rfl⟩⟩, ⟨rfl, fun i u xs q1 q2 => by simp at q1, fun i j u u' q1 q2 q3 => by simp at q1⟩⟩)
  have HQ3 : w.heap.size + 1 ≤ ((w.alloc (.cells #[.slice pa m pcap, .slice la ll lcap] 35)).alloc (.cells #[] 42)).heap.size := by simp
  obtain ⟨n0, n1⟩ := cells2 h0.out
  have n2 := lt_of h0.out
  go_enter Try.func54, Try.ntmps54
  go_wp2_with fail
  generalize ((w.alloc (.cells #[.slice pa m pcap, .slice la ll lcap] 35)).alloc (.cells #[] 42)) = w1 at HQ1 HQ2 HQ3 h0 n0 n1 n2 ⊢
  go_loopw [3, 10] (fun o i wr => ∃ j : Nat, j ≤ ll ∧ i = .int .i64 j ∧ Hid (GrowR (w.heap.size + 1) j wr o (toksL n)) ∧ Hid (Below w.heap.size w wr) ∧ Hid (w.heap.size + 1 ≤ wr.heap.size)) (fun _ i _ => ll - (intOf i).toNat)
  case atStart => exact ⟨0, Nat.zero_le _, rfl, HQ2, HQ1, Lib.hid HQ3⟩
  case round =>
    clear HQ1 HQ2 HQ3 h0 n0 n1 n2
    obtain ⟨j, hj, rfl, HM, HW, HWS⟩ := hrel
    by_cases hjl : j < ll
    case pos =>
      obtain ⟨x, hx⟩ : ∃ x, n.links[j]? = some x := ⟨_, List.getElem?_eq_getElem (by rw [← NL.out]; exact hjl)⟩
      obtain ⟨lb, lo, d, hla, hlb, e0, e1, e2, e3, e4, es⟩ := (HL.out.below HW.out).atb hx
      subst hla
      have TS := Lib.hid es
      obtain ⟨va, vc, rfl⟩ := es.shape
      have HRW := Lib.hid (show (toksL n)[j]? = some x.tok by unfold toksL; rw [List.getElem?_map, hx]; rfl)
      have HT4 := Lib.hid (isS_len (G.out x (List.mem_of_getElem? hx)))
      obtain ⟨xf, xo, xt, xi, xk⟩ := x
      obtain ⟨kl, hkl⟩ : ∃ z, z = xk.length := ⟨_, rfl⟩
      simp only [] at e0 e1 e2 e3 e4 TS HRW HT4
      rw [← hkl] at TS e4
      have HBW := Lib.hid ((Below.refl wr.heap.size wr).al (.cells #[.int .i64 xf, .int .i64 xo, .int .i64 xt, .int .i64 xi, .slice va kl vc] 86))
      have CC := Lib.hid (fun (W : World) (hw : Below wr.heap.size wr W) => l1copy_any (.slice va kl vc) xk W (TS.out.below hw) (by have := HT4.out; omega))
      obtain ⟨us, hU1, hU2⟩ := HM.out
      have HU1 := Lib.hid hU1
      have HU2 := Lib.hid hU2
      have HUB := Lib.hid (show ∀ u q, u ∈ us → u.ownBlock = some q → q < wr.heap.size from fun u q hu he => fam_hi hU2 u hu q he)
      clear es hx hkl hU1 hU2
      go_wp2_with (first | (go_at_call 77; with_reducible refine (CC.out _ HBW.out).mono ?_; rintro e w3 ⟨r, rfl, ho, hb3⟩; have HB3 := Lib.hid (HBW.out.trans (hb3.mono HBW.out.size)); have HR3 := Lib.hid (ho.mono HBW.out.size); obtain ⟨ra, rc, hre⟩ := HR3.out.sl.shape; subst hre; clear ho hb3) | (at_builtin; refine wpList_append_own_at _ rfl _ _ 28 rfl (w.heap.size + 1) 42 is (.slice none 0 0) 1 24 Try.underlying28 hs sz0 sz1 sz2 rfl (by decide) _ _ _ rfl (World.ownsRow.alloc (rowT_below HU1.out HB3.out) _) ⟨_, 0, none⟩ 1 1 [.slice ra xk.length rc] rfl rfl (lit_s _ _) ?c1 ?c3 ?c4 ?c5 ?_))
      case c1 => first | rfl | (intro u hu; simp at hu; subst hu; rfl)
      case c3 => unfold maxLen; omega
      case c4 => omega
      case c5 => have q1 := HWS.out; have q2 := HB3.out.size; first | omega | (simp; omega)
      intro o' w5 hown hgrow _ _
      have HO5 := Lib.hid (GrowR.step (rowT_below HU1.out HB3.out) (HU2.out.below HB3.out) HR3.out HUB.out HWS.out HRW.out hown hgrow)
      have HB5 := Lib.hid (((HW.out.trans (HB3.out.mono HW.out.size)).al (.cells #[.slice ra xk.length rc] 42)).grown hgrow (by have q1 := HWS.out; have q2 := HB3.out.size; simp; omega) (fun q e => by have := (HU1.out.lt q e).1; omega))
      have S5 := Lib.hid (show w.heap.size + 1 ≤ w5.heap.size by have q1 := HWS.out; have q2 := HB3.out.size; have := hgrow.size; simp at *; omega)
      clear hown hgrow
      go_wp2_with fail
      go_roundw
      case rel => exact ⟨j + 1, by omega, by go_num, HO5, HB5, S5⟩
      case measure => simp [intOf]; omega
    case neg =>
      obtain rfl : j = ll := by omega
      obtain ⟨oa, ocp, rfl⟩ := HM.out.shape
      go_wp2_with fail
      go_ret
      exact ⟨_, rfl, OutH.mono (HM.out.rows (by unfold toksL; rw [List.length_map]; exact NL.out.symm)) (by omega) (Nat.le_refl _), HW.out⟩
end Go.Proofs.Ytmfagmfclehdbaa
