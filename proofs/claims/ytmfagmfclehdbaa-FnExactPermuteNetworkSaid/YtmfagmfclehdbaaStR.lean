/-
  A state as a result: what lies in it (all rows of tokens in blocks of their own), its marks, and the marks read. No statement of the seat is proved here.
-/
import Derived.Test.YtmfagmfclehdbaaStC
namespace Go.Proofs.Ytmfagmfclehdbaa
open Go.RowKit

theorem Fam.rot {lo : Nat} {w : World} {A B : List Value} {X Y : List (List Int)} (h : Fam lo w (A ++ B) (X ++ Y)) (hl : A.length = X.length) : Fam lo w (B ++ A) (Y ++ X) := by
  have hlen := h.len
  simp only [List.length_append] at hlen
  have key : ∀ (i : Nat) (u : Value), (B ++ A)[i]? = some u → ∃ j, (A ++ B)[j]? = some u ∧ (∀ xs : List Int, (Y ++ X)[i]? = some xs → (X ++ Y)[j]? = some xs) ∧ j = if i < B.length then A.length + i else i - B.length := by
    intro i u hu
    by_cases q : i < B.length
    · rw [List.getElem?_append_left q] at hu
      refine ⟨A.length + i, by rw [List.getElem?_append_right (by omega), show A.length + i - A.length = i by omega]; exact hu, fun xs hx => ?_, by rw [if_pos q]⟩
      rw [List.getElem?_append_left (by omega)] at hx
      rw [List.getElem?_append_right (by omega), show A.length + i - X.length = i by omega]
      exact hx
    · have hi := (List.getElem?_eq_some_iff.1 hu).1
      rw [List.length_append] at hi
      rw [List.getElem?_append_right (by omega)] at hu
      refine ⟨i - B.length, by rw [List.getElem?_append_left (by omega)]; exact hu, fun xs hx => ?_, by rw [if_neg q]⟩
      rw [List.getElem?_append_right (by omega)] at hx
      rw [List.getElem?_append_left (by omega), show i - B.length = i - Y.length by omega]
      exact hx
  refine ⟨by simp only [List.length_append]; omega, fun i u xs hu hx => ?_, fun i j u v hu hv hij => ?_⟩
  · obtain ⟨j, h1, h2, _⟩ := key i u hu
    exact h.own j u xs h1 (h2 xs hx)
  · obtain ⟨a, h1, _, ea⟩ := key i u hu
    obtain ⟨b, h3, _, eb⟩ := key j v hv
    refine h.apart a b u v h1 h3 ?_
    have hi := (List.getElem?_eq_some_iff.1 hu).1
    have hj := (List.getElem?_eq_some_iff.1 hv).1
    rw [List.length_append] at hi hj
    split at ea <;> split at eb <;> omega
/-- Two families, the one in blocks before the other's. -/
theorem Fam.app {lo m lo2 : Nat} {w : World} {A B : List Value} {X Y : List (List Int)} (h : Fam lo w A X) (k : Fam m w B Y) (hA : ∀ x ∈ A, ∀ q, x.ownBlock = some q → q < m) (h1 : lo2 ≤ lo) (h2 : lo2 ≤ m) : Fam lo2 w (A ++ B) (X ++ Y) := by
  have hl := h.len
  have kl := k.len
  have ap : ∀ (i j : Nat) (u v : Value), A[i]? = some u → B[j]? = some v → Apart u v := by
    intro i j u v hu hv
    cases e : u.ownBlock with
    | none => exact .inl e
    | some q =>
      right
      rw [e]
      intro e2
      have a1 := hA u (List.mem_of_getElem? hu) q e
      have a2 := ((k.get hv).lt q e2.symm).1
      omega
  refine ⟨by simp only [List.length_append]; omega, fun i u xs hu hx => ?_, fun i j u v hu hv hij => ?_⟩
  · by_cases q : i < A.length
    · rw [List.getElem?_append_left q] at hu
      rw [List.getElem?_append_left (by omega)] at hx
      exact (h.own i u xs hu hx).mono h1
    · rw [List.getElem?_append_right (by omega)] at hu
      rw [List.getElem?_append_right (by omega), ← hl] at hx
      exact (k.own _ u xs hu hx).mono h2
  · by_cases q : i < A.length
    · rw [List.getElem?_append_left q] at hu
      by_cases q2 : j < A.length
      · rw [List.getElem?_append_left q2] at hv
        exact h.apart i j u v hu hv hij
      · rw [List.getElem?_append_right (by omega)] at hv
        exact ap _ _ u v hu hv
    · rw [List.getElem?_append_right (by omega)] at hu
      by_cases q2 : j < A.length
      · rw [List.getElem?_append_left q2] at hv
        exact (ap _ _ v u hv hu).symm
      · rw [List.getElem?_append_right (by omega)] at hv
        exact k.apart _ _ u v hu hv (by omega)
theorem Fam.left {lo : Nat} {w : World} {A B : List Value} {X Y : List (List Int)} (h : Fam lo w (A ++ B) (X ++ Y)) (hl : A.length = X.length) : Fam lo w A X := by
  refine ⟨hl, fun i u xs hu hx => ?_, fun i j u v hu hv hij => ?_⟩
  · exact h.own i u xs (by rw [List.getElem?_append_left (List.getElem?_eq_some_iff.1 hu).1]; exact hu) (by rw [List.getElem?_append_left (List.getElem?_eq_some_iff.1 hx).1]; exact hx)
  · exact h.apart i j u v (by rw [List.getElem?_append_left (List.getElem?_eq_some_iff.1 hu).1]; exact hu) (by rw [List.getElem?_append_left (List.getElem?_eq_some_iff.1 hv).1]; exact hv) hij
theorem Fam.out {lo hi l2 h2 : Nat} {w w' : World} {us : List Value} {xss : List (List Int)} (hF : Fam lo w us xss) (h3 : ∀ x ∈ us, ∀ q, x.ownBlock = some q → q < hi) (ho : Out l2 h2 w w') (hd : hi ≤ l2 ∨ h2 ≤ lo) : Fam lo w' us xss :=
  ⟨hF.len, fun i x xs hx hxs => (hF.own i x xs hx hxs).out (h2 := hi) (h3 x (List.mem_of_getElem? hx)) ho (by omega), hF.apart⟩
theorem VR.slR {lo hi : Nat} {w : World} {v : Value} {us : List Value} {xss : List (List Int)} (hv : VR lo hi w v us) (hF : Fam lo w us xss) : SlR w v xss := by
  have hl2 := hF.len
  rcases hv with ⟨rfl, rfl⟩ | ⟨B, cap, cur, rfl, a2, a3, a4, a5, a6, a7⟩
  · obtain rfl : xss = [] := List.eq_nil_of_length_eq_zero (by simpa using hl2.symm)
    exact ⟨none, 0, rfl, Nat.le_refl _, by simp, fun _ => rfl, .inl rfl⟩
  · refine ⟨_, cap, by rw [hl2], by omega, a5, (fun e => by cases e), .inr ⟨B, 0, rfl, lt_of a6, fun i xs hx => ?_⟩⟩
    have hi : i < xss.length := (List.getElem?_eq_some_iff.1 hx).1
    obtain ⟨x, hxu⟩ : ∃ x, us[i]? = some x := ⟨_, List.getElem?_eq_getElem (by omega)⟩
    refine ⟨x, ?_, (hF.own i x xs hxu hx).sl⟩
    rw [Nat.zero_add, cell_of a6 i, ← Array.getElem?_toList]
    have e : (cur.toList.take us.length)[i]? = some x := by rw [a7]; exact hxu
    rw [List.getElem?_take, if_pos (by omega)] at e
    exact e
theorem VR.mono {lo hi lo' hi' : Nat} {w : World} {v : Value} {us : List Value} (h : VR lo hi w v us) (h1 : lo' ≤ lo) (h2 : hi ≤ hi') : VR lo' hi' w v us := by
  rcases h with h | ⟨B, cap, cur, a1, a2, a3, a4⟩
  · exact .inl h
  · exact .inr ⟨B, cap, cur, a1, by omega, by omega, a4⟩

/-- A state as a result. -/
def StR (lo hi : Nat) (w : World) (v : Value) (s : Stt) : Prop :=
  ∃ a q r u1 u2 u3, v = .agg #[a, q, r, .int .i64 s.steps] ∧ VA lo hi w a u1 (s.acts.map Act.pc) ∧ VR lo hi w q u2 ∧ VR lo hi w r u3 ∧ (u1.length = s.acts.length ∧ u2.length = s.queues.length ∧ u3.length = s.sent.length) ∧
    Fam lo w (u1 ++ (u2 ++ u3)) (s.acts.map Act.regs ++ (s.queues ++ s.sent)) ∧ ∀ x ∈ u1 ++ (u2 ++ u3), ∀ b, x.ownBlock = some b → b < hi
theorem StR.below {lo hi : Nat} {w w' : World} {v : Value} {s : Stt} (h : StR lo hi w v s) (hb : Below w.heap.size w w') : StR lo hi w' v s := by
  obtain ⟨a, q, r, u1, u2, u3, e, h1, h2, h3, hl, hF, h4⟩ := h
  exact ⟨a, q, r, u1, u2, u3, e, h1.keep (fun B cur _ _ q => blk_in q hb), h2.keep (fun B cur _ _ q => blk_in q hb), h3.keep (fun B cur _ _ q => blk_in q hb), hl, hF.below hb, h4⟩
theorem StR.out {lo hi l2 h2 : Nat} {w w' : World} {v : Value} {s : Stt} (h : StR lo hi w v s) (ho : Out l2 h2 w w') (hd : hi ≤ l2 ∨ h2 ≤ lo) : StR lo hi w' v s := by
  obtain ⟨a, q, r, u1, u2, u3, e, h1, k2, h3, hl, hF, h4⟩ := h
  exact ⟨a, q, r, u1, u2, u3, e, h1.keep (fun B cur a b q => ho.blk q (by omega)), k2.keep (fun B cur a b q => ho.blk q (by omega)), h3.keep (fun B cur a b q => ho.blk q (by omega)), hl, hF.out h4 ho hd, h4⟩
theorem StR.mono {lo hi lo' hi' : Nat} {w : World} {v : Value} {s : Stt} (h : StR lo hi w v s) (h1 : lo' ≤ lo) (h2 : hi ≤ hi') : StR lo' hi' w v s := by
  obtain ⟨a, q, r, u1, u2, u3, e, k1, k2, h3, hl, hF, h4⟩ := h
  exact ⟨a, q, r, u1, u2, u3, e, k1.mono h1 h2, k2.mono h1 h2, h3.mono h1 h2, hl, hF.mono h1, fun x hx b e => Nat.lt_of_lt_of_le (h4 x hx b e) h2⟩
theorem StR.v {lo hi : Nat} {w : World} {v : Value} {s : Stt} (h : StR lo hi w v s) : StV w v s := by
  obtain ⟨a, q, r, u1, u2, u3, e, h1, h2, h3, ⟨l1, l2, l3⟩, hF, h4⟩ := h
  have F1 := hF.left (by rw [List.length_map]; exact l1)
  have F23 := (hF.rot (by rw [List.length_map]; exact l1)).left (by simp only [List.length_append]; omega)
  have F2 := F23.left l2
  have F3 := (F23.rot l2).left l3
  exact ⟨a, q, r, e, AcH.v ⟨u1, h1, F1, fun x hx => h4 x (List.mem_append_left _ hx)⟩, h2.slR F2, h3.slR F3⟩
theorem StR.shape {lo hi : Nat} {w : World} {v : Value} {s : Stt} (h : StR lo hi w v s) : ∃ a b c d e f, v = .agg #[.slice a s.acts.length b, .slice c s.queues.length d, .slice e s.sent.length f, .int .i64 s.steps] := h.v.shape
theorem stR_nil (lo hi : Nat) (w : World) (st : Int) : StR lo hi w (.agg #[.slice none 0 0, .slice none 0 0, .slice none 0 0, .int .i64 st]) ⟨[], [], [], st⟩ :=
  ⟨_, _, _, [], [], [], rfl, .inl ⟨rfl, rfl, rfl⟩, .inl ⟨rfl, rfl⟩, .inl ⟨rfl, rfl⟩, ⟨rfl, rfl, rfl⟩, ⟨rfl, fun i u xs h => by simp at h, fun i j u v h => by simp at h⟩, fun x hx => by simp at hx⟩
def mkSt (k : Int) (s : Stt) : Stt := ⟨mkAll stAc mkAc k s.acts, mkAll stR mkR (k + (sumA s.acts : Nat)) s.queues, mkAll stR mkR (k + (sumA s.acts : Nat) + (sumT s.queues : Nat)) s.sent, s.steps⟩

theorem famRow {lo hi j : Nat} {w w' : World} {v x : Value} {us rs : List Value} {outs rest : List (List Int)} {ys : List Int} (hv : VR lo hi w v us) (hle : us.length = outs.length) (hF : Fam lo w (us ++ rs) (outs ++ rest))
    (hx : us[j]? = some x) (hg : w.grownBy w' x.ownBlock) (ho : Own lo w' x ys) : VR lo hi w' v us ∧ Fam lo w' (us ++ rs) (outs.set j ys ++ rest) := by
  have hj := (List.getElem?_eq_some_iff.1 hx).1
  have hx2 : (us ++ rs)[j]? = some x := by rw [List.getElem?_append_left hj]; exact hx
  have hox := hF.get hx2
  refine ⟨hv.keep (fun B cur _ _ q => grown_keep q (by decide) hox hg), ?_⟩
  have F := hF.upd (w' := w') hx2 (fun y ys hy ha => hy.kept hg ha) ho (.inl rfl)
  rw [List.set_append, if_pos hj, List.set_append, if_pos (by omega)] at F
  rwa [show us.set j x = us from by
    apply List.ext_getElem?
    intro i
    rw [List.getElem?_set]
    by_cases e : j = i
    · rw [if_pos e, if_pos hj, ← e, hx]
    · rw [if_neg e]] at F
set_option maxRecDepth 100000 in
set_option maxHeartbeats 1600000 in
theorem markSS_fam (lo hi : Nat) (v : Value) (us rs : List Value) (xss rest : List (List Int)) (k : Int) (w : World) (hv : VR lo hi w v us) (hF : Fam lo w (us ++ rs) (xss ++ rest)) (hl2 : us.length = xss.length) (h3 : ∀ x ∈ us, ∀ q, x.ownBlock = some q → q < hi) (hk0 : 0 ≤ k) (hk : k + (sumT xss : Nat) ≤ 1000000000) (hm : xss.length ≤ 1000000000) :
    Calls Try.prog 64 #[v, .int .i64 k] w fun e w' => e = .returned (.int .i64 (k + (sumT xss : Nat))) ∧ VR lo hi w' v us ∧ Fam lo w' (us ++ rs) (mkAll stR mkR k xss ++ rest) ∧ OutT 3 3 lo hi w w' := by
  obtain ⟨m, hmm⟩ : ∃ m, m = us.length := ⟨_, rfl⟩
  have hm9 : m ≤ 1000000000 := by omega
  obtain ⟨s, hs⟩ : ∃ s : Nat, s = sumT xss := ⟨_, rfl⟩
  rw [← hs] at hk ⊢
  obtain ⟨va, vc, hve⟩ : ∃ a c, v = .slice a m c := by
    rcases hv with ⟨rfl, rfl⟩ | ⟨B, cap, cur, rfl, _⟩
    · exact ⟨none, 0, by rw [hmm]; rfl⟩
    · exact ⟨_, cap, by rw [hmm]⟩
  subst hve
  have HV := Lib.hid hv
  have HF0 := Lib.hid (show Fam lo w (us ++ rs) (mkT stR mkR k xss 0 ++ rest) by rw [mkT_zero]; exact hF)
  have HM := Lib.hid (show us.length = m from hmm.symm)
  have HX := Lib.hid (show xss.length = m by omega)
  have H3 := Lib.hid h3
  have HS := Lib.hid hs
  clear hs hv hF h3 hl2 hmm hm
  go_enter Try.func64, Try.ntmps64
  go_wp2_with fail
  go_loopw [1, 5] (fun t i wr => ∃ (j : Nat) (z : Int), j ≤ m ∧ i = .int .i64 j ∧ t = .int .i64 z ∧ Hid (z = k + (((xss.take j).map stR).sum : Nat)) ∧ Hid (VR lo hi wr (.slice va m vc) us) ∧ Hid (Fam lo wr (us ++ rs) (mkT stR mkR k xss j ++ rest)) ∧ Hid (OutT 3 3 lo hi w wr)) (fun _ i _ => m - (intOf i).toNat)
  case atStart => exact ⟨0, k, Nat.zero_le _, rfl, rfl, Lib.hid (by simp), HV, HF0, Lib.hid (OutT.refl _ _ _ _ _)⟩
  case round =>
    clear HV HF0
    obtain ⟨j, z, hj, rfl, rfl, HZ, HV, HF, HO⟩ := hrel
    by_cases hlt : j < m
    · obtain ⟨xs, hx⟩ : ∃ x, xss[j]? = some x := ⟨_, List.getElem?_eq_getElem (by rw [HX.out]; exact hlt)⟩
      obtain ⟨c, hc⟩ : ∃ c, us[j]? = some c := ⟨_, List.getElem?_eq_getElem (by rw [HM.out]; exact hlt)⟩
      have hst := mk_sum_step (st := stR) hx
      have hle := mk_sum_take_le (st := stR) xss (j + 1)
      rw [hst, show (xss.map stR).sum = s from HS.out.symm] at hle
      obtain ⟨n, hn⟩ : ∃ q, q = xs.length := ⟨_, rfl⟩
      have hzb : 0 ≤ z ∧ z + (n : Int) ≤ 1000000000 := by have := HZ.out; have hh : stR xs = xs.length := rfl; rw [hh, ← hn] at hle; omega
      have ho := HF.out.own j c xs (by rw [List.getElem?_append_left (by rw [HM.out]; exact hlt)]; exact hc) (by rw [List.getElem?_append_left (by rw [mkT_len, HX.out]; exact hlt)]; exact mkT_at hx)
      have HOW := Lib.hid ho
      have HC := Lib.hid hc
      have HXX := Lib.hid hx
      have HST := Lib.hid hst
      have HN := Lib.hid hn
      have hcell : ∃ B, va = some ⟨B, 0, none⟩ ∧ wr.cell? ⟨B, j, none⟩ = some c := by
        rcases HV.out with ⟨e, e2⟩ | ⟨B, cap, cur, e, a2, a3, a4, a5, a6, a7⟩
        · have := HM.out; rw [e2] at this; simp at this; omega
        · simp only [Value.slice.injEq] at e
          refine ⟨B, e.1, ?_⟩
          rw [cell_of a6 j, ← Array.getElem?_toList]
          have e2 : (cur.toList.take us.length)[j]? = some c := by rw [a7]; exact hc
          rw [List.getElem?_take, if_pos (by rw [HM.out]; exact hlt)] at e2
          exact e2
      obtain ⟨B, rfl, hcl⟩ := hcell
      obtain ⟨ca, cc, rfl⟩ := ho.shape
      rw [← hn] at hcl
      clear hc hx ho hst hle hn
      go_wp2_with (go_at_call 26; refine (mark_any lo _ xs z _ (by rw [HN.out]; exact HOW.out) (by omega) (by omega) (by have := HN.out; omega)).mono ?_; rintro e w2 ⟨rfl, ho2, hg2⟩; have HQ := Lib.hid (famRow HV.out (by rw [mkT_len, HX.out, HM.out]) HF.out HC.out (by have q := hg2; rw [HN.out] at q; exact q) (by have q := ho2; rw [HN.out] at q; exact q)); have HG2 := Lib.hid hg2; rw [← HN.out]; clear ho2 hg2)
      go_roundw
      case rel =>
        have hzz := HZ.out
        have hst := HST.out
        refine ⟨j + 1, z + (n : Int), by omega, by go_num, rfl, Lib.hid (by rw [hst, show stR xs = xs.length from rfl, ← HN.out]; omega), Lib.hid HQ.out.1, Lib.hid ?_, Lib.hid ?_⟩
        · have e := mkT_step (st := stR) (mk := mkR) (k := k) HXX.out
          rw [← hzz] at e
          rw [← e]
          exact HQ.out.2
        · exact HO.out.grown HG2.out (fun q e => ⟨(HOW.out.lt q (by rw [← HN.out]; exact e)).1, H3.out _ (List.mem_of_getElem? HC.out) q (by rw [← HN.out]; exact e), row_typed HOW.out q (by rw [← HN.out]; exact e)⟩)
      case measure => simp [intOf]; omega
    · obtain rfl : j = m := by omega
      have hz := HZ.out
      have hp := HF.out
      rw [← HX.out, List.take_length, show (xss.map stR).sum = s from HS.out.symm] at hz
      rw [← HX.out, mkT_all] at hp
      subst hz
      go_wp2_with fail
      go_ret
      exact ⟨rfl, HV.out, hp, HO.out⟩


set_option maxRecDepth 100000 in
set_option maxHeartbeats 4000000 in
theorem markAc_fam (lo hi : Nat) (v : Value) (us rs : List Value) (xs : List Act) (rest : List (List Int)) (k : Int) (w : World) (hv : VA lo hi w v us (xs.map Act.pc)) (hF : Fam lo w (us ++ rs) (xs.map Act.regs ++ rest)) (hl : us.length = xs.length) (h3 : ∀ x ∈ us, ∀ q, x.ownBlock = some q → q < hi) (hk0 : 0 ≤ k) (hk : k + (sumA xs : Nat) ≤ 1000000000) :
    Calls Try.prog 63 #[v, .int .i64 k] w fun e w' => e = .returned (.int .i64 (k + (sumA xs : Nat))) ∧ VA lo hi w' v us ((mkAll stAc mkAc k xs).map Act.pc) ∧ Fam lo w' (us ++ rs) ((mkAll stAc mkAc k xs).map Act.regs ++ rest) ∧ OutT 74 3 lo hi w w' := by
  obtain ⟨m, hmm⟩ : ∃ m, m = us.length := ⟨_, rfl⟩
  obtain ⟨s, hs⟩ : ∃ s : Nat, s = sumA xs := ⟨_, rfl⟩
  have hm9 : m ≤ 1000000000 := by unfold sumA at hk; omega
  rw [← hs] at hk ⊢
  obtain ⟨va, vc, hve⟩ := hv.shape
  rw [← hmm] at hve
  subst hve
  have HV0 := Lib.hid (show VA lo hi w (.slice va m vc) us ((mkT stAc mkAc k xs 0).map Act.pc) by rw [mkT_zero]; exact hv)
  have HF0 := Lib.hid (show Fam lo w (us ++ rs) ((mkT stAc mkAc k xs 0).map Act.regs ++ rest) by rw [mkT_zero]; exact hF)
  have HM := Lib.hid (show us.length = m from hmm.symm)
  have HX := Lib.hid (show xs.length = m by omega)
  have H3 := Lib.hid h3
  have HS := Lib.hid (hs.trans (sum_stAc xs).symm)
  clear hs hv hF h3 hl hmm
  go_enter Try.func63, Try.ntmps63
  go_wp2_with fail
  go_loopw [1, 5] (fun t i wr => ∃ (j : Nat) (z : Int), j ≤ m ∧ i = .int .i64 j ∧ t = .int .i64 z ∧ Hid (z = k + (((xs.take j).map stAc).sum : Nat)) ∧ Hid (VA lo hi wr (.slice va m vc) us ((mkT stAc mkAc k xs j).map Act.pc)) ∧ Hid (Fam lo wr (us ++ rs) ((mkT stAc mkAc k xs j).map Act.regs ++ rest)) ∧ Hid (OutT 74 3 lo hi w wr)) (fun _ i _ => m - (intOf i).toNat)
  case atStart => exact ⟨0, k, Nat.zero_le _, rfl, rfl, Lib.hid (by simp), HV0, HF0, Lib.hid (OutT.refl _ _ _ _ _)⟩
  case round =>
    clear HV0 HF0
    obtain ⟨j, z, hj, rfl, rfl, HZ, HV, HF, HO⟩ := hrel
    by_cases hlt : j < m
    · obtain ⟨x, hx⟩ : ∃ x, xs[j]? = some x := ⟨_, List.getElem?_eq_getElem (by rw [HX.out]; exact hlt)⟩
      obtain ⟨c, hc⟩ : ∃ c, us[j]? = some c := ⟨_, List.getElem?_eq_getElem (by rw [HM.out]; exact hlt)⟩
      have hst := mk_sum_step (st := stAc) hx
      have hle := mk_sum_take_le (st := stAc) xs (j + 1)
      rw [hst, show (xs.map stAc).sum = s from HS.out.symm] at hle
      obtain ⟨n, hn⟩ : ∃ q, q = x.regs.length := ⟨_, rfl⟩
      have hzb : 0 ≤ z ∧ z + 1 + (n : Int) ≤ 1000000000 := by have := HZ.out; have hh : stAc x = 1 + x.regs.length := rfl; rw [hh, ← hn] at hle; omega
      have hat := mkT_at (st := stAc) (mk := mkAc) (k := k) hx
      have hjl := (List.getElem?_eq_some_iff.1 hc).1
      have hc2 : (us ++ rs)[j]? = some c := by rw [List.getElem?_append_left hjl]; exact hc
      have hat2 : ((mkT stAc mkAc k xs j).map Act.regs ++ rest)[j]? = some x.regs := by rw [List.getElem?_append_left (by rw [List.length_map, mkT_len, HX.out]; exact hlt), List.getElem?_map, hat]; rfl
      have ho := HF.out.own j c x.regs hc2 hat2
      obtain ⟨B, vc', hve, hB1, hB2, c0, c1, f0, f1, hBl, cur, hB⟩ := HV.out.at hc (by rw [List.getElem?_map, hat]; rfl)
      rw [HM.out] at hve
      simp only [Value.slice.injEq, true_and] at hve
      obtain ⟨rfl, rfl⟩ := hve
      have HOW := Lib.hid ho
      have HC := Lib.hid hc
      have HXX := Lib.hid hx
      have HST := Lib.hid hst
      have HN := Lib.hid hn
      have HB := Lib.hid hB
      have HBB := Lib.hid (And.intro hB1 hB2)
      have HV2 := Lib.hid (VA.set HV.out (by rw [HM.out]; exact hlt) z)
      have HF2 := Lib.hid (HF.out.setB hB (by decide) (j := j * 2) (.int .i64 z))
      have ho2 := HF2.out.own j c x.regs hc2 hat2
      have HC2 := Lib.hid hc2
      have HOW2 := Lib.hid ho2
      obtain ⟨ca, cc, rfl⟩ := ho.shape
      rw [← hn] at c1
      clear hc hx ho hst hle hn hat hB hB1 hB2 ho2 hc2 hat2 hjl
      go_wp2_with (go_at_call 26; refine (mark_any lo _ x.regs (z + 1) _ (by rw [HN.out]; exact HOW2.out) (by omega) (by omega) (by have := HN.out; omega)).mono ?_; rintro e w2 ⟨rfl, ho2, hg2⟩; have HG2 := Lib.hid hg2; have HO2 := Lib.hid ho2; rw [← HN.out]; clear ho2 hg2)
      go_roundw
      case rel =>
        have hzz := HZ.out
        have hst := HST.out
        have hg2 := HG2.out
        have ho2 := HO2.out
        rw [HN.out] at hg2 ho2
        have q1 := HF2.out.row HC2.out hg2 ho2
        have q2 := HV2.out.keep (w' := w2) (fun B' cur' _ _ q => grown_keep q (by decide) HOW2.out hg2)
        refine ⟨j + 1, z + 1 + (n : Int), by omega, by go_num, rfl, Lib.hid (by rw [hst, show stAc x = 1 + x.regs.length from rfl, ← HN.out]; omega), Lib.hid ?_, Lib.hid ?_, Lib.hid ?_⟩
        · have e := mkT_step (st := stAc) (mk := mkAc) (k := k) HXX.out
          rw [← hzz] at e
          rw [← e, List.map_set]
          exact q2
        · have e := mkT_step (st := stAc) (mk := mkAc) (k := k) HXX.out
          rw [← hzz] at e
          rw [← e, List.map_set, ← List.set_append_left _ _ (by rw [List.length_map, mkT_len, HX.out]; exact hlt)]
          exact q1
        · exact ((HO.out.setC (p := ⟨B, j * 2, none⟩) HBB.out.1 HBB.out.2 ⟨_, _, HB.out⟩ _).grown hg2 (fun q e => ⟨(HOW2.out.lt q e).1, H3.out _ (List.mem_of_getElem? HC.out) q e, row_typed HOW2.out q e⟩))
      case measure => simp [intOf]; omega
    · obtain rfl : j = m := by omega
      have hz := HZ.out
      have hp := HF.out
      have hq := HV.out
      rw [← HX.out, List.take_length, show (xs.map stAc).sum = s from HS.out.symm] at hz
      have e := mkT_all (st := stAc) (mk := mkAc) k xs
      rw [HX.out] at e
      rw [e] at hp hq
      subst hz
      go_wp2_with fail
      go_ret
      exact ⟨rfl, hq, hp, HO.out⟩


set_option maxRecDepth 100000 in
set_option maxHeartbeats 4000000 in
theorem markSt_r (lo hi : Nat) (v : Value) (s : Stt) (k : Int) (w : World) (h : StR lo hi w v s) (hh : hi ≤ w.heap.size) (hk0 : 0 ≤ k) (hk : k + 4 * (szS s : Nat) ≤ 1000000000) :
    Calls Try.prog 18 #[v, .int .i64 k] w fun e w' => e = .returned (.int .i64 (k + (stS s : Nat))) ∧ StR lo hi w' v (mkSt k s) ∧ Out lo hi w w' := by
  obtain ⟨c, d, f, u1, u2, u3, rfl, h1, h2, h3, hl, hF, h4⟩ := h
  obtain ⟨acs, qs, rs, st⟩ := s
  simp only [] at h1 h2 h3 hl hF
  have hs : stS ⟨acs, qs, rs, st⟩ = sumA acs + sumT qs + sumT rs := rfl
  have hz : szS ⟨acs, qs, rs, st⟩ = sumA acs + (sumR qs + sumR rs) := rfl
  rw [hz] at hk
  rw [hs]
  have hmk : mkSt k ⟨acs, qs, rs, st⟩ = ⟨mkAll stAc mkAc k acs, mkAll stR mkR (k + (sumA acs : Nat)) qs, mkAll stR mkR (k + (sumA acs : Nat) + (sumT qs : Nat)) rs, st⟩ := rfl
  rw [hmk]
  have H1 := Lib.hid h1
  have H2 := Lib.hid h2
  have H3 := Lib.hid h3
  have H4 := Lib.hid h4
  have HL := Lib.hid hl
  have HF := Lib.hid hF
  have HH := Lib.hid hh
  have HK := Lib.hid hk
  have HK0 := Lib.hid hk0
  have T1 := Lib.hid (sumT_le_R qs)
  have T2 := Lib.hid (sumT_le_R rs)
  have T3 := Lib.hid (sumT_R qs)
  have T4 := Lib.hid (sumT_R rs)
  obtain ⟨n1, e1⟩ : ∃ z, z = sumA acs := ⟨_, rfl⟩
  obtain ⟨n2, e2⟩ : ∃ z, z = sumT qs := ⟨_, rfl⟩
  obtain ⟨n3, e3⟩ : ∃ z, z = sumT rs := ⟨_, rfl⟩
  rw [← e1, ← e2, ← e3]
  have N1 := Lib.hid e1
  have N2 := Lib.hid e2
  have N3 := Lib.hid e3
  clear h1 h2 h3 h4 hl hF hh hs hz hk hk0 e1 e2 e3 hmk
  have hb := Lib.hid ((Below.refl w.heap.size w).al (.cells #[c, d, f, .int .i64 st] 30))
  have hH := Lib.hid (hp1 w (.cells #[c, d, f, .int .i64 st] 30))
  go_enter Try.func18, Try.ntmps18
  go_wp2_with fail
  go_at_call 63
  refine (markAc_fam lo hi c u1 (u2 ++ u3) acs (qs ++ rs) k _ (H1.out.keep (fun B cur _ _ q => blk_in q hb.out)) (HF.out.below hb.out) HL.out.1 (fun x hx => H4.out x (List.mem_append_left _ hx)) HK0.out (by have := HK.out; omega)).mono ?_
  rintro e w2 ⟨rfl, hv, hF, hO⟩
  rw [← N1.out]
  have HV2 := Lib.hid hv
  have HF2 := Lib.hid (hF.rot (by rw [List.length_map, mkAll_len]; exact HL.out.1))
  have HQ2 := Lib.hid ((H2.out.keep (fun B cur _ _ q => blk_in q hb.out)).keep (w' := w2) (fun B cur _ _ q => (hO.ty B _ ⟨_, _, q⟩ (by decide) (by decide)).trans q))
  have HR2 := Lib.hid ((H3.out.keep (fun B cur _ _ q => blk_in q hb.out)).keep (w' := w2) (fun B cur _ _ q => (hO.ty B _ ⟨_, _, q⟩ (by decide) (by decide)).trans q))
  have G2 := Lib.hid (hO.out.blk hH.out (.inr HH.out))
  have HO2 := Lib.hid (((Out.refl lo hi w).al (.cells #[c, d, f, .int .i64 st] 30)).trans hO.out)
  have HSZ2 := Lib.hid (show hi ≤ w2.heap.size by have := hO.out.size; have := HH.out; simp at *; omega)
  clear hO hv hF
  obtain ⟨c0, c1, c2, c3⟩ := cells4s G2.out
  have lg := lt_of G2.out
  go_wp2_with fail
  go_at_call 64
  refine (markSS_fam lo hi d u2 (u3 ++ u1) qs (rs ++ (mkAll stAc mkAc k acs).map Act.regs) (k + (n1 : Int)) _ HQ2.out (by have := HF2.out; rwa [List.append_assoc, List.append_assoc] at this) HL.out.2.1 (fun x hx => H4.out x (by simp [hx])) (by have := HK0.out; omega) (by have := HK.out; have := N1.out; have := T3.out; omega) (by have := HK.out; have := HK0.out; have := T3.out; omega)).mono ?_
  rintro e w3 ⟨rfl, hv, hF, hO⟩
  rw [← N2.out]
  have HQ3 := Lib.hid hv
  have HF3 := Lib.hid (hF.rot (by rw [mkAll_len]; exact HL.out.2.1))
  have HR3 := Lib.hid (HR2.out.keep (w' := w3) (fun B cur _ _ q => (hO.ty B _ ⟨_, _, q⟩ (by decide) (by decide)).trans q))
  have HV3 := Lib.hid (HV2.out.keep (w' := w3) (fun B cur _ _ q => (hO.ty B _ ⟨_, _, q⟩ (by decide) (by decide)).trans q))
  have G3 := Lib.hid (hO.out.blk G2.out (.inr HH.out))
  have HO3 := Lib.hid (HO2.out.trans hO.out)
  clear hO hv hF c0 c1 c2 c3 lg
  obtain ⟨c0, c1, c2, c3⟩ := cells4s G3.out
  have lg := lt_of G3.out
  go_wp2_with fail
  go_at_call 64
  refine (markSS_fam lo hi f u3 (u1 ++ u2) rs ((mkAll stAc mkAc k acs).map Act.regs ++ mkAll stR mkR (k + (n1 : Int)) qs) (k + (n1 : Int) + (n2 : Int)) _ HR3.out (by have := HF3.out; rwa [List.append_assoc, List.append_assoc] at this) HL.out.2.2 (fun x hx => H4.out x (by simp [hx])) (by have := HK0.out; omega) (by have := HK.out; have := N1.out; have := N2.out; have := T3.out; have := T4.out; omega) (by have := HK.out; have := HK0.out; have := T4.out; omega)).mono ?_
  rintro e w4 ⟨rfl, hv, hF, hO⟩
  rw [← N3.out]
  have HR4 := Lib.hid hv
  have HF4 := Lib.hid (hF.rot (by rw [mkAll_len]; exact HL.out.2.2))
  have HQ4 := Lib.hid (HQ3.out.keep (w' := w4) (fun B cur _ _ q => (hO.ty B _ ⟨_, _, q⟩ (by decide) (by decide)).trans q))
  have HV4 := Lib.hid (HV3.out.keep (w' := w4) (fun B cur _ _ q => (hO.ty B _ ⟨_, _, q⟩ (by decide) (by decide)).trans q))
  have HO4 := Lib.hid (HO3.out.trans hO.out)
  clear hO hv hF c0 c1 c2 c3 lg
  go_wp2_with fail
  go_ret
  refine ⟨?_, ⟨c, d, f, u1, u2, u3, rfl, HV4.out, HQ4.out, HR4.out, ⟨by rw [mkAll_len]; exact HL.out.1, by rw [mkAll_len]; exact HL.out.2.1, by rw [mkAll_len]; exact HL.out.2.2⟩, by have := HF4.out; rwa [List.append_assoc, List.append_assoc] at this, H4.out⟩, HO4.out⟩
  rw [show k + (n1 : Int) + (n2 : Int) + (n3 : Int) = k + ((n1 + n2 + n3 : Nat) : Int) by omega]
  rfl

set_option maxRecDepth 100000 in
set_option maxHeartbeats 4000000 in
theorem heldSt_r (v : Value) (s : Stt) (k : Int) (w : World) (h : StV w v (mkSt k s)) (hk0 : 0 ≤ k) (hk : k + 4 * (szS s : Nat) ≤ 1000000000) :
    Calls Try.prog 19 #[v, .int .i64 k] w fun e w' => e = .returned (.int .i64 (k + (stS s : Nat))) ∧ Below w.heap.size w w' := by
  obtain ⟨c, d, f, rfl, h1, h2, h3⟩ := h
  obtain ⟨acs, qs, rs, st⟩ := s
  replace h1 : SlA w c (mkAll stAc mkAc k acs) := h1
  replace h2 : SlR w d (mkAll stR mkR (k + (sumA acs : Nat)) qs) := h2
  replace h3 : SlR w f (mkAll stR mkR (k + (sumA acs : Nat) + (sumT qs : Nat)) rs) := h3
  have hs : stS ⟨acs, qs, rs, st⟩ = sumA acs + sumT qs + sumT rs := rfl
  have hz : szS ⟨acs, qs, rs, st⟩ = sumA acs + (sumR qs + sumR rs) := rfl
  rw [hz] at hk
  rw [hs]
  show Calls Try.prog _ #[.agg #[c, d, f, .int .i64 st], _] w _
  have H1 := Lib.hid h1
  have H2 := Lib.hid h2
  have H3 := Lib.hid h3
  have HK := Lib.hid hk
  have HK0 := Lib.hid hk0
  have T3 := Lib.hid (sumT_R qs)
  have T4 := Lib.hid (sumT_R rs)
  obtain ⟨ca, cc, e4⟩ := h1.shape
  obtain ⟨da, dc, e5⟩ := h2.shape
  obtain ⟨fa, fc, e6⟩ := h3.shape
  rw [mkAll_len] at e4 e5 e6
  subst e4 e5 e6
  obtain ⟨n1, e1⟩ : ∃ z, z = sumA acs := ⟨_, rfl⟩
  obtain ⟨n2, e2⟩ : ∃ z, z = sumT qs := ⟨_, rfl⟩
  obtain ⟨n3, e3⟩ : ∃ z, z = sumT rs := ⟨_, rfl⟩
  have N1 := Lib.hid e1
  have N2 := Lib.hid e2
  have N3 := Lib.hid e3
  rw [← e1, ← e2, ← e3]
  have C1 := Lib.hid (fun (W : World) (hw : Below w.heap.size w W) => heldAc_any _ acs k W (H1.out.below hw) HK0.out (by have := HK.out; omega))
  have C2 := Lib.hid (fun (W : World) (hw : Below w.heap.size w W) => heldSS_any _ qs (k + (n1 : Int)) W (by rw [N1.out]; exact H2.out.below hw) (by have := HK0.out; omega) (by have := HK.out; have := N1.out; have := T3.out; omega) (by have := HK.out; have := HK0.out; have := T3.out; omega))
  have C3 := Lib.hid (fun (W : World) (hw : Below w.heap.size w W) => heldSS_any _ rs (k + (n1 : Int) + (n2 : Int)) W (by rw [N1.out, N2.out]; exact H3.out.below hw) (by have := HK0.out; omega) (by have := HK.out; have := N1.out; have := N2.out; have := T3.out; have := T4.out; omega) (by have := HK.out; have := HK0.out; have := T4.out; omega))
  rw [← e1] at C1
  rw [← e2] at C2
  rw [← e3] at C3
  clear h1 h2 h3 e1 e2 e3 hs hz H1 H2 H3
  have d1 : decide (k + (n1 : Int) < 0) = false := decide_eq_false (by omega)
  have d2 : decide (k + (n1 : Int) + (n2 : Int) < 0) = false := decide_eq_false (by omega)
  have d3 : decide (k + (n1 : Int) + (n2 : Int) + (n3 : Int) < 0) = false := decide_eq_false (by omega)
  clear hk hk0
  have hb := Lib.hid ((Below.refl w.heap.size w).al (.cells #[.slice ca acs.length cc, .slice da qs.length dc, .slice fa rs.length fc, .int .i64 st] 30))
  go_enter Try.func19, Try.ntmps19
  go_wp2_with (first | (go_at_call 65; with_reducible refine (C1.out _ hb.out).mono ?_; rintro e w2 ⟨rfl, rfl⟩) | (go_at_call 66; first | (with_reducible refine (C2.out _ hb.out).mono ?_; rintro e w3 ⟨rfl, rfl⟩) | (with_reducible refine (C3.out _ hb.out).mono ?_; rintro e w4 ⟨rfl, rfl⟩)))
  go_ret
  refine ⟨?_, hb.out⟩
  rw [show k + (n1 : Int) + (n2 : Int) + (n3 : Int) = k + ((n1 + n2 + n3 : Nat) : Int) by omega]
  rfl
end Go.Proofs.Ytmfagmfclehdbaa
