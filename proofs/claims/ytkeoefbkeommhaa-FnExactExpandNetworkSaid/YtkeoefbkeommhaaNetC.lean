/-
  Networks as results: the network's marks; rows of programs and links that grow; appends of whole slices; slices.Clone. No statement of the seat is proved here.
-/
import Derived.Test.YtkeoefbkeommhaaNetR
import Derived.Test.YtkeoefbkeommhaaLawKit
import Derived.Lib.SliceRun
namespace Go.Proofs.Ytkeoefbkeommhaa
open Go.RowKit

/-- A network as a result. -/
def NetR (lo hi : Nat) (w : World) (v : Value) (n : Net) : Prop := ∃ a b, v = .agg #[a, b] ∧ PrgsR lo hi w a n.progs ∧ LnksR lo hi w b n.links ∧ ∀ l ∈ n.links, wfL l
theorem NetR.below {lo hi : Nat} {w w' : World} {v : Value} {n : Net} (h : NetR lo hi w v n) (hb : Below w.heap.size w w') : NetR lo hi w' v n := by
  obtain ⟨a, b, e, h1, h2, h3⟩ := h; exact ⟨a, b, e, h1.below hb, h2.below hb, h3⟩
theorem NetR.out {lo hi l2 h2 : Nat} {w w' : World} {v : Value} {n : Net} (h : NetR lo hi w v n) (ho : Out l2 h2 w w') (hd : hi ≤ l2 ∨ h2 ≤ lo) : NetR lo hi w' v n := by
  obtain ⟨a, b, e, k1, k2, h3⟩ := h; exact ⟨a, b, e, k1.out ho hd, k2.out ho hd, h3⟩
theorem NetR.mono {lo hi lo' hi' : Nat} {w : World} {v : Value} {n : Net} (h : NetR lo hi w v n) (h1 : lo' ≤ lo) (h2 : hi ≤ hi') : NetR lo' hi' w v n := by
  obtain ⟨a, b, e, k1, k2, h3⟩ := h; exact ⟨a, b, e, k1.mono h1 h2, k2.mono h1 h2, h3⟩
theorem NetR.v {lo hi : Nat} {w : World} {v : Value} {n : Net} (h : NetR lo hi w v n) : NetV w v n := by
  obtain ⟨a, b, e, k1, k2, h3⟩ := h; exact ⟨a, b, e, k1.v, k2.v h3⟩
theorem NetR.shape {lo hi : Nat} {w : World} {v : Value} {n : Net} (h : NetR lo hi w v n) : ∃ a b c d, v = .agg #[.slice a n.progs.length b, .slice c n.links.length d] := by
  obtain ⟨a, b, rfl, k1, k2, h3⟩ := h
  obtain ⟨x, y, rfl⟩ := k1.shape
  obtain ⟨z, u, rfl⟩ := k2.shape
  exact ⟨x, y, z, u, rfl⟩
theorem netR_nil (lo hi : Nat) (w : World) : NetR lo hi w (.agg #[.slice none 0 0, .slice none 0 0]) ⟨[], []⟩ := ⟨_, _, rfl, PrgsR.nil _ _ _, LnksR.nil _ _ _, fun l h => by simp at h⟩
def mkN (k : Int) (n : Net) : Net := ⟨mkAll stP mkP k n.progs, mkAll stL mkL (k + ((n.progs.map stP).sum : Nat)) n.links⟩
theorem wf_mkAll : ∀ (k : Int) (xs : List Lnk), 0 ≤ k → k + ((xs.map stL).sum : Nat) ≤ 1000000000 → ∀ l ∈ mkAll stL mkL k xs, wfL l
  | _, [], _, _, l, h => by simp [mkAll] at h
  | k, x :: xs, h0, h1, l, h => by
    rw [List.map_cons, List.sum_cons] at h1
    have hs : stL x = 4 + x.tok.length := rfl
    unfold mkAll at h
    rcases List.mem_cons.1 h with rfl | h
    · unfold wfL wfE Lnk.src Lnk.tgt mkL wfI
      simp only []
      omega
    · exact wf_mkAll (k + (stL x : Nat)) xs (by omega) (by omega) l h

set_option maxRecDepth 100000 in
set_option maxHeartbeats 4000000 in
theorem markNet_r (lo hi : Nat) (v : Value) (n : Net) (k : Int) (w : World) (h : NetR lo hi w v n) (hh : hi ≤ w.heap.size) (hk0 : 0 ≤ k) (hk : k + 4 * (szN n : Nat) ≤ 1000000000) :
    Calls Try.prog 19 #[v, .int .i64 k] w fun e w' => e = .returned (.int .i64 (k + (stN n : Nat))) ∧ NetR lo hi w' v (mkN k n) ∧ Out lo hi w w' := by
  obtain ⟨c, d, rfl, h1, h2, h3⟩ := h
  obtain ⟨ps, ls⟩ := n
  simp only [] at h1 h2 h3
  have hsz := stN_le ⟨ps, ls⟩
  have hs : stN ⟨ps, ls⟩ = (ps.map stP).sum + (ls.map stL).sum := rfl
  rw [hs] at hsz ⊢
  have hmk : mkN k ⟨ps, ls⟩ = ⟨mkAll stP mkP k ps, mkAll stL mkL (k + ((ps.map stP).sum : Nat)) ls⟩ := rfl
  rw [hmk]
  have HK := Lib.hid (show k + (((ps.map stP).sum + (ls.map stL).sum : Nat) : Int) ≤ 1000000000 by omega)
  have HK0 := Lib.hid hk0
  have H1 := Lib.hid h1
  have H2 := Lib.hid h2
  have HH := Lib.hid hh
  obtain ⟨n1, e1⟩ : ∃ z, z = (ps.map stP).sum := ⟨_, rfl⟩
  obtain ⟨n2, e2⟩ : ∃ z, z = (ls.map stL).sum := ⟨_, rfl⟩
  rw [← e1, ← e2]
  have N1 := Lib.hid e1
  have N2 := Lib.hid e2
  clear h1 h2 h3 hh hs hsz hmk hk hk0 e1 e2
  have hb := Lib.hid ((Below.refl w.heap.size w).al (.cells #[c, d] 31))
  have hH := Lib.hid (hp1 w (.cells #[c, d] 31))
  go_enter Try.func19, Try.ntmps19
  go_wp2_with fail
  go_at_call 56
  refine (markP_r lo hi c ps k _ (H1.out.below hb.out) HK0.out (by have := HK.out; omega)).mono ?_
  rintro e w2 ⟨rfl, hv, hO⟩
  rw [← N1.out]
  have HV2 := Lib.hid hv
  have HL2 := Lib.hid ((H2.out.below hb.out).outT hO (by decide) (by decide) (by decide) (by decide))
  have G2 := Lib.hid (hO.out.blk hH.out (.inr HH.out))
  have HO2 := Lib.hid (((Out.refl lo hi w).al (.cells #[c, d] 31)).trans hO.out)
  clear hO hv
  obtain ⟨c0, c1⟩ := cells2 G2.out
  have lg := lt_of G2.out
  go_wp2_with fail
  go_at_call 57
  refine (markL_r lo hi d ls (k + (n1 : Int)) _ HL2.out (by have := HK0.out; omega) (by have := HK.out; have := N1.out; omega)).mono ?_
  rintro e w3 ⟨rfl, hv, hO⟩
  rw [← N2.out]
  have HL3 := Lib.hid hv
  have HV3 := Lib.hid (HV2.out.outT hO (by decide) (by decide) (by decide) (by decide))
  have HO3 := Lib.hid (HO2.out.trans hO.out)
  clear hO hv c0 c1 lg
  go_wp2_with fail
  go_ret
  refine ⟨?_, ⟨c, d, rfl, HV3.out, HL3.out, wf_mkAll _ _ (by have := HK0.out; omega) (by have := HK.out; have := N1.out; omega)⟩, HO3.out⟩
  rw [show k + (n1 : Int) + (n2 : Int) = k + ((n1 + n2 : Nat) : Int) by omega]
  rfl

set_option maxRecDepth 100000 in
set_option maxHeartbeats 4000000 in
theorem heldNet_r (v : Value) (n : Net) (k : Int) (w : World) (h : NetV w v (mkN k n)) (hk0 : 0 ≤ k) (hk : k + 4 * (szN n : Nat) ≤ 1000000000) :
    Calls Try.prog 21 #[v, .int .i64 k] w fun e w' => e = .returned (.int .i64 (k + (stN n : Nat))) ∧ Below w.heap.size w w' := by
  obtain ⟨c, d, rfl, h1, h2⟩ := h
  obtain ⟨ps, ls⟩ := n
  replace h1 : SlP w c (mkAll stP mkP k ps) := h1
  replace h2 : SlL w d (mkAll stL mkL (k + ((ps.map stP).sum : Nat)) ls) := h2
  have hsz := stN_le ⟨ps, ls⟩
  have hs : stN ⟨ps, ls⟩ = (ps.map stP).sum + (ls.map stL).sum := rfl
  rw [hs] at hsz ⊢
  have HK := Lib.hid (show k + (((ps.map stP).sum + (ls.map stL).sum : Nat) : Int) ≤ 1000000000 by omega)
  have HK0 := Lib.hid hk0
  have H1 := Lib.hid h1
  have H2 := Lib.hid h2
  obtain ⟨ca, cc, e4⟩ := h1.shape
  obtain ⟨da, dc, e5⟩ := h2.shape
  rw [mkAll_len] at e4 e5
  subst e4 e5
  obtain ⟨n1, e1⟩ : ∃ z, z = (ps.map stP).sum := ⟨_, rfl⟩
  obtain ⟨n2, e2⟩ : ∃ z, z = (ls.map stL).sum := ⟨_, rfl⟩
  have N1 := Lib.hid e1
  have N2 := Lib.hid e2
  rw [← e1, ← e2]
  have C1 := Lib.hid (fun (W : World) (hw : Below w.heap.size w W) => heldP_r _ ps k W (H1.out.below hw) HK0.out (by have := HK.out; omega))
  have C2 := Lib.hid (fun (W : World) (hw : Below w.heap.size w W) => heldL_r _ ls (k + (n1 : Int)) W (by rw [N1.out]; exact H2.out.below hw) (by have := HK0.out; omega) (by have := HK.out; have := N1.out; omega))
  rw [← e1] at C1
  rw [← e2] at C2
  have d1 : decide (k + (n1 : Int) < 0) = false := decide_eq_false (by omega)
  have d2 : decide (k + (n1 : Int) + (n2 : Int) < 0) = false := decide_eq_false (by omega)
  clear h1 h2 hs hsz hk hk0 e1 e2 H1 H2
  have hb := Lib.hid ((Below.refl w.heap.size w).al (.cells #[.slice ca ps.length cc, .slice da ls.length dc] 31))
  go_enter Try.func21, Try.ntmps21
  go_wp2_with (first | (go_at_call 58; with_reducible refine (C1.out _ hb.out).mono ?_; rintro e w2 ⟨rfl, rfl⟩) | (go_at_call 59; with_reducible refine (C2.out _ hb.out).mono ?_; rintro e w3 ⟨rfl, rfl⟩))
  go_ret
  refine ⟨?_, hb.out⟩
  rw [show k + (n1 : Int) + (n2 : Int) = k + ((n1 + n2 : Nat) : Int) by omega]
  rfl

/-- append(v, u...), v of the call's own, u any slice of its type, nil too. -/
theorem run_app_src {ST T sz bytes : Nat} {z : Value} {i0 : TypeInfo} (hu : Try.prog.underlying ST = some (.slice T)) (hi : Try.prog.info? T = some i0) (hz0 : i0.zero = some z) (hz1 : i0.size = sz) (hz2 : i0.bytes = bytes) (hzs : z.cells.size = sz) (hsz : 0 < sz)
    {lo n m cap : Nat} {w : World} {v : Value} {a : Option Addr} {L M : List Value} (hv : w.ownsRow lo T sz v n L) (hn : a = none → m = 0 ∧ cap = 0) (hc : ∀ ad, a = some ad → ∀ j y, M[j]? = some y → w.cell? (ad.add j) = some y) (hl : M.length = m * sz) (h1 : ∀ y ∈ M, y.oneCell' = true)
    (hb : n + m ≤ maxLen) (hby : (n + m) * bytes ≤ 140737488355328) (hlo : lo ≤ w.heap.size) :
    ∃ v' w', (Builtin.append_ #[ST, ST] ST #[v, .slice a m cap]).run Try.prog w = .ok v' w' ∧ w'.ownsRow lo T sz v' (n + m) (L ++ M) ∧ w.grownBy w' v.ownBlock ∧ (v'.ownBlock = v.ownBlock ∨ v'.ownBlock = some w.heap.size) := by
  cases a with
  | none =>
    obtain ⟨rfl, rfl⟩ := hn rfl
    obtain rfl : M = [] := List.eq_nil_of_length_eq_zero (by omega)
    refine ⟨v, w, ?_, by rw [List.append_nil]; exact hv, World.grownBy.refl w _, .inl rfl⟩
    rcases hv.2 with ⟨rfl, _⟩ | ⟨g, cap, cur, rfl, _, _, hnc, _⟩
    · simp [Builtin.append_, run_underlying hu, sizeOf, typeInfo, hi, Builtin.lenOf, Builtin.firstCells]
    · simp [Builtin.append_, run_underlying hu, sizeOf, typeInfo, hi, Builtin.lenOf, Builtin.firstCells, hnc, storeCells]
  | some ad =>
    obtain ⟨v', w', hrun, h2, h3, _, h5⟩ := run_append_own_at (P := Try.prog) w lo ST ST T i0 z sz bytes hu hi hz0 hz1 hz2 hzs hsz v n L hv ad m cap M hl (hc ad rfl) h1 hb hby hlo
    exact ⟨v', w', hrun, h2, h3, h5⟩
theorem wp_app_src {ST T sz bytes : Nat} {z : Value} {i0 : TypeInfo} (hu : Try.prog.underlying ST = some (.slice T)) (hi : Try.prog.info? T = some i0) (hz0 : i0.zero = some z) (hz1 : i0.size = sz) (hz2 : i0.bytes = bytes) (hzs : z.cells.size = sz) (hsz : 0 < sz)
    {o : Oper} {act : Go.Act} {K : Go.Act → World → Prop} {Q : Exit → Go.Act → World → Prop} (s x : Operand) (ho : o.op = Op.call { callee := Callee.builtin Builtin.append, args := #[s, x], argTypes := #[ST, ST] }) (hty : o.type = ST)
    {lo n m cap : Nat} {w : World} {v : Value} {a : Option Addr} {L M : List Value} (hs : act.eval s = v) (hx : act.eval x = .slice a m cap) (hv : w.ownsRow lo T sz v n L) (hn : a = none → m = 0 ∧ cap = 0) (hc : ∀ ad, a = some ad → ∀ j y, M[j]? = some y → w.cell? (ad.add j) = some y) (hl : M.length = m * sz) (h1 : ∀ y ∈ M, y.oneCell' = true)
    (hb : n + m ≤ maxLen) (hby : (n + m) * bytes ≤ 140737488355328) (hlo : lo ≤ w.heap.size)
    (h : ∀ v' w', w'.ownsRow lo T sz v' (n + m) (L ++ M) → w.grownBy w' v.ownBlock → (v'.ownBlock = v.ownBlock ∨ v'.ownBlock = some w.heap.size) → K (act.put o.dst v') w') : Oper.wp Try.prog o act w K Q := by
  obtain ⟨v', w', hrun, h2, h3, h4⟩ := run_app_src hu hi hz0 hz1 hz2 hzs hsz hv hn hc hl h1 hb hby hlo
  unfold Oper.wp execOp
  simp only [ho, hty, resolve, invoke, builtin, Sem.run_bind, Sem.run_pure, Result.andThen_ok, List.map_toArray, List.map_cons, List.map_nil, hs, hx, hrun]
  exact h v' w' h2 h3 h4
theorem wpList_app_src {ST T sz bytes : Nat} {z : Value} {i0 : TypeInfo} (hu : Try.prog.underlying ST = some (.slice T)) (hi : Try.prog.info? T = some i0) (hz0 : i0.zero = some z) (hz1 : i0.size = sz) (hz2 : i0.bytes = bytes) (hzs : z.cells.size = sz) (hsz : 0 < sz)
    {ops : Array Oper} {rest : List Oper} {o : Oper} {act : Go.Act} {Q : Exit → Go.Act → World → Prop} (hgd : o.guard = none) (s x : Operand) (ho : o.op = Op.call { callee := Callee.builtin Builtin.append, args := #[s, x], argTypes := #[ST, ST] }) (hty : o.type = ST)
    {lo n m cap : Nat} {w : World} {v : Value} {a : Option Addr} {L M : List Value} (hs : act.eval s = v) (hx : act.eval x = .slice a m cap) (hv : w.ownsRow lo T sz v n L) (hn : a = none → m = 0 ∧ cap = 0) (hc : ∀ ad, a = some ad → ∀ j y, M[j]? = some y → w.cell? (ad.add j) = some y) (hl : M.length = m * sz) (h1 : ∀ y ∈ M, y.oneCell' = true)
    (hb : n + m ≤ maxLen) (hby : (n + m) * bytes ≤ 140737488355328) (hlo : lo ≤ w.heap.size)
    (h : ∀ v' w', w'.ownsRow lo T sz v' (n + m) (L ++ M) → w.grownBy w' v.ownBlock → (v'.ownBlock = v.ownBlock ∨ v'.ownBlock = some w.heap.size) → wpList Try.prog ops Q rest (act.put o.dst v') w') : wpList Try.prog ops Q (o :: rest) act w :=
  wpList_plain hgd fun _ hK => wp_app_src hu hi hz0 hz1 hz2 hzs hsz s x ho hty hs hx hv hn hc hl h1 hb hby hlo fun v' w' h2 h3 h4 => hK _ _ (h v' w' h2 h3 h4)
theorem step_app_src {ST T sz bytes : Nat} {z : Value} {i0 : TypeInfo} (hu : Try.prog.underlying ST = some (.slice T)) (hi : Try.prog.info? T = some i0) (hz0 : i0.zero = some z) (hz1 : i0.size = sz) (hz2 : i0.bytes = bytes) (hzs : z.cells.size = sz) (hsz : 0 < sz)
    {ops : Array Oper} {o : Oper} {act : Go.Act} {K : Go.Act → World → Prop} {Q : Exit → Go.Act → World → Prop} {E : Prop} (hgd : o.guard = none) (s x : Operand) (ho : o.op = Op.call { callee := Callee.builtin Builtin.append, args := #[s, x], argTypes := #[ST, ST] }) (hty : o.type = ST)
    {lo n m cap : Nat} {w : World} {v : Value} {a : Option Addr} {L M : List Value} (hs : act.eval s = v) (hx : act.eval x = .slice a m cap) (hv : w.ownsRow lo T sz v n L) (hn : a = none → m = 0 ∧ cap = 0) (hc : ∀ ad, a = some ad → ∀ j y, M[j]? = some y → w.cell? (ad.add j) = some y) (hl : M.length = m * sz) (h1 : ∀ y ∈ M, y.oneCell' = true)
    (hb : n + m ≤ maxLen) (hby : (n + m) * bytes ≤ 140737488355328) (hlo : lo ≤ w.heap.size)
    (h : ∀ v' w', w'.ownsRow lo T sz v' (n + m) (L ++ M) → w.grownBy w' v.ownBlock → (v'.ownBlock = v.ownBlock ∨ v'.ownBlock = some w.heap.size) → K (act.put o.dst v') w') :
    if Region.wanted o (yielded ops act.tmps) = true then Oper.wp Try.prog o act w K Q else E := by
  have hw : Region.wanted o (yielded ops act.tmps) = true := by simp [Region.wanted, hgd]
  rw [if_pos hw]
  exact wp_app_src hu hi hz0 hz1 hz2 hzs hsz s x ho hty hs hx hv hn hc hl h1 hb hby hlo h
theorem cellsI_inv : ∀ (xs : List Ins) (j : Nat) (y : Value), (cellsI xs)[j]? = some y → ∃ i x, xs[i]? = some x ∧ ((j = i * 4 ∧ y = .int .i64 x.op) ∨ (j = i * 4 + 1 ∧ y = .int .i64 x.a) ∨ (j = i * 4 + 2 ∧ y = .int .i64 x.b) ∨ (j = i * 4 + 3 ∧ y = .int .i64 x.c))
  | [], j, y, h => by simp [cellsI] at h
  | x :: xs, 0, y, h => ⟨0, x, rfl, .inl ⟨rfl, by rw [cellsI_cons] at h; simpa using h.symm⟩⟩
  | x :: xs, 1, y, h => ⟨0, x, rfl, .inr (.inl ⟨rfl, by rw [cellsI_cons] at h; simpa using h.symm⟩)⟩
  | x :: xs, 2, y, h => ⟨0, x, rfl, .inr (.inr (.inl ⟨rfl, by rw [cellsI_cons] at h; simpa using h.symm⟩))⟩
  | x :: xs, 3, y, h => ⟨0, x, rfl, .inr (.inr (.inr ⟨rfl, by rw [cellsI_cons] at h; simpa using h.symm⟩))⟩
  | x :: xs, j + 4, y, h => by
    rw [cellsI_cons] at h
    simp only [List.getElem?_cons_succ] at h
    obtain ⟨i, z, h1, h2⟩ := cellsI_inv xs j y h
    refine ⟨i + 1, z, by rw [List.getElem?_cons_succ]; exact h1, ?_⟩
    rcases h2 with ⟨a, b⟩ | ⟨a, b⟩ | ⟨a, b⟩ | ⟨a, b⟩
    · exact .inl ⟨by omega, b⟩
    · exact .inr (.inl ⟨by omega, b⟩)
    · exact .inr (.inr (.inl ⟨by omega, b⟩))
    · exact .inr (.inr (.inr ⟨by omega, b⟩))
theorem SlI.srcI {w : World} {a : Option Addr} {n cap : Nat} {xs : List Ins} (h : SlI w (.slice a n cap) xs) : n = xs.length ∧ (a = none → n = 0 ∧ cap = 0) ∧ (∀ ad, a = some ad → ∀ j y, (cellsI xs)[j]? = some y → w.cell? (ad.add j) = some y) ∧ (cellsI xs).length = n * 4 ∧ ∀ y ∈ cellsI xs, y.oneCell' = true := by
  obtain ⟨a', cap', hv, h1, h2, h3, hr⟩ := h
  simp only [Value.slice.injEq] at hv
  obtain ⟨rfl, rfl, rfl⟩ := hv
  refine ⟨rfl, fun e => ⟨?_, h3 e⟩, ?_, cellsI_len xs, fun y hy => ?_⟩
  · have := h3 e; omega
  · intro ad e j y hy
    obtain ⟨i, x, hx, hc⟩ := cellsI_inv xs j y hy
    rcases hr with rfl | ⟨b, off, e2, hb, hcc⟩
    · simp at hx
    · rw [e] at e2
      obtain rfl := Option.some.inj e2
      obtain ⟨c0, c1, c2, c3⟩ := hcc i x hx
      rw [Addr.add_lit]
      rcases hc with ⟨rfl, rfl⟩ | ⟨rfl, rfl⟩ | ⟨rfl, rfl⟩ | ⟨rfl, rfl⟩
      · exact c0
      · exact c1
      · exact c2
      · exact c3
  · obtain ⟨j, hj⟩ := List.getElem?_of_mem hy
    obtain ⟨i, x, _, hc⟩ := cellsI_inv xs j y hj
    rcases hc with ⟨_, rfl⟩ | ⟨_, rfl⟩ | ⟨_, rfl⟩ | ⟨_, rfl⟩ <;> rfl

/-- The cells of a row of these. -/
def cellsP : List Prg → List Value → List Value
  | p :: xs, u :: us => .int .i64 p.ins :: .int .i64 p.outs :: u :: cellsP xs us
  | _, _ => []
theorem cellsP_len : ∀ (xs : List Prg) (us : List Value), xs.length = us.length → (cellsP xs us).length = us.length * 3
  | [], [], _ => rfl
  | [], _ :: _, h => by simp at h
  | _ :: _, [], h => by simp at h
  | a :: xs, u :: us, h => by
    simp only [List.length_cons, Nat.add_right_cancel_iff] at h
    simp only [cellsP, List.length_cons, cellsP_len xs us h]
    omega
theorem cellsP_snoc : ∀ (xs : List Prg) (us : List Value) (a : Prg) (u : Value), xs.length = us.length → cellsP (xs ++ [a]) (us ++ [u]) = cellsP xs us ++ [.int .i64 a.ins, .int .i64 a.outs, u]
  | [], [], _, _, _ => rfl
  | [], _ :: _, _, _, h => by simp at h
  | _ :: _, [], _, _, h => by simp at h
  | b :: xs, x :: us, a, u, h => by
    simp only [List.length_cons, Nat.add_right_cancel_iff] at h
    simp only [List.cons_append, cellsP, cellsP_snoc xs us a u h]
theorem cellsP_at : ∀ (xs : List Prg) (us : List Value) (i : Nat) (p : Prg) (u : Value), xs[i]? = some p → us[i]? = some u → (cellsP xs us)[i * 3]? = some (.int .i64 p.ins) ∧ (cellsP xs us)[i * 3 + 1]? = some (.int .i64 p.outs) ∧ (cellsP xs us)[i * 3 + 2]? = some u
  | [], _, _, _, _, h, _ => by simp at h
  | _ :: _, [], _, _, _, _, h => by simp at h
  | b :: xs, x :: us, 0, p, u, h, k => by
    simp at h k; subst h; subst k; exact ⟨rfl, rfl, rfl⟩
  | b :: xs, x :: us, i + 1, p, u, h, k => by
    rw [List.getElem?_cons_succ] at h k
    have e := cellsP_at xs us i p u h k
    rw [show (i + 1) * 3 = i * 3 + 3 by omega]
    simp only [cellsP]
    exact e
theorem cellsP_one : ∀ (xs : List Prg) (us : List Value), (∀ u ∈ us, u.oneCell' = true) → ∀ y ∈ cellsP xs us, y.oneCell' = true
  | [], _, _, y, h => by simp [cellsP] at h
  | _ :: _, [], _, y, h => by simp [cellsP] at h
  | a :: xs, u :: us, h, y, hy => by
    simp only [cellsP, List.mem_cons] at hy
    rcases hy with rfl | rfl | rfl | hy
    · rfl
    · rfl
    · exact h _ (List.mem_cons_self ..)
    · exact cellsP_one xs us (fun u hu => h u (List.mem_cons_of_mem _ hu)) y hy
theorem VP.ofRow {lo m : Nat} {w : World} {v : Value} {us : List Value} {xs : List Prg} (h : w.ownsRow lo 79 3 v m (cellsP xs us)) (h1 : xs.length = m) (h2 : us.length = m) : VP lo w.heap.size w v us xs := by
  rcases h.2 with ⟨rfl, h0⟩ | ⟨g, cap, cur, rfl, hbb, hg, h3, h4, h5, h6⟩
  · exact .inl ⟨rfl, List.length_eq_zero_iff.1 (by omega), List.length_eq_zero_iff.1 (by omega)⟩
  · refine .inr ⟨g, cap, cur, by rw [h2], hbb, lt_of hg, by omega, h4, hg, by omega, fun i u p hu hp => ?_⟩
    have hi := (List.getElem?_eq_some_iff.1 hu).1
    have e := cellsP_at xs us i p u hp hu
    have cc : ∀ j y, j < m * 3 → (cellsP xs us)[j]? = some y → cur[j]? = some y := fun j y hj q => by
      rw [← h6, List.getElem?_take, if_pos hj] at q
      rw [← Array.getElem?_toList]; exact q
    exact ⟨cc _ _ (by omega) e.1, cc _ _ (by omega) e.2.1, cc _ _ (by omega) e.2.2⟩
/-- These, as many as have been made so far, in a slice that grows. -/
def GrowP (lo k : Nat) (w : World) (o : Value) (xs : List Prg) : Prop := ∃ us, us.length = k ∧ (xs.take k).length = k ∧ w.ownsRow lo 79 3 o k (cellsP (xs.take k) us) ∧ FamI lo w us ((xs.take k).map Prg.code)
theorem GrowP.nil (lo : Nat) (w : World) (xs : List Prg) : GrowP lo 0 w (.slice none 0 0) xs := ⟨[], rfl, rfl, World.ownsRow_nil _ _ _ _, ⟨rfl, fun i u x h => by simp at h, fun i j u v h => by simp at h⟩⟩
theorem GrowP.shape {lo k : Nat} {w : World} {o : Value} {xs : List Prg} (h : GrowP lo k w o xs) : ∃ a c, o = .slice a k c := by
  obtain ⟨us, _, _, h1, _⟩ := h
  rcases h1.2 with ⟨rfl, rfl⟩ | ⟨g, cap, cur, rfl, _⟩
  · exact ⟨_, _, rfl⟩
  · exact ⟨_, _, rfl⟩
theorem GrowP.below {lo k : Nat} {w w' : World} {o : Value} {xs : List Prg} (h : GrowP lo k w o xs) (hb : Below w.heap.size w w') : GrowP lo k w' o xs := by
  obtain ⟨us, l1, l2, h1, h2⟩ := h
  exact ⟨us, l1, l2, row_below h1 hb, h2.below hb⟩
theorem GrowP.out {lo k l2 h2 : Nat} {w w' : World} {o : Value} {xs : List Prg} (h : GrowP lo k w o xs) (ho : Out l2 h2 w w') (hd : h2 ≤ lo) : GrowP lo k w' o xs := by
  obtain ⟨us, e1, e2, h1, hF⟩ := h
  exact ⟨us, e1, e2, row_out h1 ho (fun q e => .inr (Nat.le_trans hd (World.ownsRow.lt h1 q e).1)), hF.out (hi := w.heap.size) (fam_hiI hF) ho (.inr hd)⟩
theorem GrowP.step {lo k b : Nat} {w3 w4 : World} {o o' x : Value} {xs : List Prg} {a : Prg} {us : List Value} (l1 : us.length = k) (h1 : w3.ownsRow lo 79 3 o k (cellsP (xs.take k) us)) (hF : FamI lo w3 us ((xs.take k).map Prg.code))
    (hx : OwnI b w3 x a.code) (hb : ∀ u q, u ∈ us → u.ownBlock = some q → q < b) (hlo : lo ≤ b) (hrow : xs[k]? = some a)
    (hown : w4.ownsRow lo 79 3 o' (k + 1) (cellsP (xs.take k) us ++ [.int .i64 a.ins, .int .i64 a.outs, x])) (hg : w3.grownBy w4 o.ownBlock) : GrowP lo (k + 1) w4 o' xs := by
  have hq := (List.getElem?_eq_some_iff.1 hrow)
  have e : xs.take (k + 1) = xs.take k ++ [a] := by rw [List.take_succ_eq_append_getElem hq.1, hq.2]
  have lk : (xs.take k).length = k := by have := hq.1; simp; omega
  refine ⟨us ++ [x], by simp [l1], by rw [e]; simp [lk], ?_, ?_⟩
  · rw [e, cellsP_snoc _ _ _ _ (by rw [lk, l1])]; exact hown
  rw [e, List.map_append]
  refine hF.snoc (fun u ys q => own_grownNI q h1 (by decide) hg) (own_grownNI (hx.mono hlo) h1 (by decide) hg) (fun u ys q hu => ?_)
  cases q1 : u.ownBlock with
  | none => exact .inl q1
  | some c =>
    right
    rw [q1]
    intro q2
    have := hb u c hu q1
    have := (hx.lt c q2.symm).1
    omega
theorem GrowP.done {lo k : Nat} {w : World} {o : Value} {xs : List Prg} (h : GrowP lo k w o xs) (hk : xs.length = k) : PrgsR lo w.heap.size w o xs := by
  obtain ⟨us, l1, l2, h1, hF⟩ := h
  rw [List.take_of_length_le (by omega)] at h1 hF
  exact ⟨us, VP.ofRow h1 hk l1, hF, fam_hiI hF⟩
theorem cellsP_inv : ∀ (xs : List Prg) (us : List Value) (j : Nat) (y : Value), (cellsP xs us)[j]? = some y → ∃ i p u, xs[i]? = some p ∧ us[i]? = some u ∧ ((j = i * 3 ∧ y = .int .i64 p.ins) ∨ (j = i * 3 + 1 ∧ y = .int .i64 p.outs) ∨ (j = i * 3 + 2 ∧ y = u))
  | [], _, j, y, h => by simp [cellsP] at h
  | _ :: _, [], j, y, h => by simp [cellsP] at h
  | x :: xs, u :: us, 0, y, h => ⟨0, x, u, rfl, rfl, .inl ⟨rfl, by simp only [cellsP] at h; simpa using h.symm⟩⟩
  | x :: xs, u :: us, 1, y, h => ⟨0, x, u, rfl, rfl, .inr (.inl ⟨rfl, by simp only [cellsP] at h; simpa using h.symm⟩)⟩
  | x :: xs, u :: us, 2, y, h => ⟨0, x, u, rfl, rfl, .inr (.inr (⟨rfl, by simp only [cellsP] at h; simpa using h.symm⟩))⟩
  | x :: xs, u :: us, j + 3, y, h => by
    simp only [cellsP, List.getElem?_cons_succ] at h
    obtain ⟨i, z, v, h1, h2, h3⟩ := cellsP_inv xs us j y h
    refine ⟨i + 1, z, v, by rw [List.getElem?_cons_succ]; exact h1, by rw [List.getElem?_cons_succ]; exact h2, ?_⟩
    rcases h3 with ⟨a, b⟩ | ⟨a, b⟩ | ⟨a, b⟩
    · exact .inl ⟨by omega, b⟩
    · exact .inr (.inl ⟨by omega, b⟩)
    · exact .inr (.inr (⟨by omega, b⟩))
/-- The cells of one that came in, and what lies in them. -/
theorem SlP.cellsOf {w : World} {a : Option Addr} {n cap : Nat} {xs : List Prg} (h : SlP w (.slice a n cap) xs) : n = xs.length ∧ (a = none → n = 0 ∧ cap = 0) ∧ ∃ us, us.length = xs.length ∧ (∀ (i : Nat) (u : Value) (p : Prg), us[i]? = some u → xs[i]? = some p → SlI w u p.code) ∧ (∀ ad, a = some ad → ∀ j y, (cellsP xs us)[j]? = some y → w.cell? (ad.add j) = some y) ∧ (∀ u ∈ us, u.oneCell' = true) := by
  obtain ⟨a', cap', hv, h1, h2, h3, hr⟩ := h
  simp only [Value.slice.injEq] at hv
  obtain ⟨rfl, rfl, rfl⟩ := hv
  refine ⟨rfl, fun e => ⟨by have := h3 e; omega, h3 e⟩, ?_⟩
  rcases hr with rfl | ⟨b, off, rfl, hb, hc⟩
  · exact ⟨[], rfl, fun i u p h => by simp at h, fun ad e j y h => by simp [cellsP] at h, fun u h => by simp at h⟩
  · have hy : ∀ i, i < xs.length → ∃ c, ∀ p, xs[i]? = some p → w.cell? ⟨b, off + i * 3, none⟩ = some (.int .i64 p.ins) ∧ w.cell? ⟨b, off + i * 3 + 1, none⟩ = some (.int .i64 p.outs) ∧ w.cell? ⟨b, off + i * 3 + 2, none⟩ = some c ∧ SlI w c p.code := by
      intro i hi
      obtain ⟨c, hcc⟩ := hc i xs[i] (List.getElem?_eq_getElem hi)
      refine ⟨c, fun p hp => ?_⟩
      rw [List.getElem?_eq_getElem hi] at hp
      obtain rfl := Option.some.inj hp
      exact ⟨hcc.1, hcc.2.1, hcc.2.2.1, hcc.2.2.2⟩
    obtain ⟨Y, hY⟩ := Go.Deep.choose_lt hy
    have hus : ∀ i u, ((List.range xs.length).map Y)[i]? = some u → i < xs.length ∧ u = Y i := by
      intro i u h
      rw [List.getElem?_map] at h
      obtain ⟨q, hq, rfl⟩ := Option.map_eq_some_iff.1 h
      have hi : i < xs.length := by have := (List.getElem?_eq_some_iff.1 hq).1; simpa using this
      rw [List.getElem?_range hi] at hq
      obtain rfl := Option.some.inj hq
      exact ⟨hi, rfl⟩
    refine ⟨(List.range xs.length).map Y, by simp, fun i u p hu hp => ?_, fun ad e j y h => ?_, fun u hu => ?_⟩
    · obtain ⟨hi, rfl⟩ := hus i u hu
      exact (hY i hi p hp).2.2.2
    · obtain rfl := Option.some.inj e
      obtain ⟨i, p, u, hp, hu, hcs⟩ := cellsP_inv _ _ _ _ h
      obtain ⟨hi, rfl⟩ := hus i u hu
      have z := hY i hi p hp
      rw [Addr.add_lit]
      rcases hcs with ⟨rfl, rfl⟩ | ⟨rfl, rfl⟩ | ⟨rfl, rfl⟩
      · exact z.1
      · exact z.2.1
      · exact z.2.2.1
    · obtain ⟨i, hi⟩ := List.getElem?_of_mem hu
      obtain ⟨hl, rfl⟩ := hus i u hi
      obtain ⟨x, y, e⟩ := ((hY i hl _ (List.getElem?_eq_getElem hl)).2.2.2).shape
      rw [e]; rfl

/-- The cells of a row of these. -/
def cellsL : List Lnk → List Value → List Value
  | p :: xs, u :: us => .int .i64 p.frm :: .int .i64 p.out :: .int .i64 p.to :: .int .i64 p.inn :: u :: cellsL xs us
  | _, _ => []
theorem cellsL_len : ∀ (xs : List Lnk) (us : List Value), xs.length = us.length → (cellsL xs us).length = us.length * 5
  | [], [], _ => rfl
  | [], _ :: _, h => by simp at h
  | _ :: _, [], h => by simp at h
  | a :: xs, u :: us, h => by
    simp only [List.length_cons, Nat.add_right_cancel_iff] at h
    simp only [cellsL, List.length_cons, cellsL_len xs us h]
    omega
theorem cellsL_snoc : ∀ (xs : List Lnk) (us : List Value) (a : Lnk) (u : Value), xs.length = us.length → cellsL (xs ++ [a]) (us ++ [u]) = cellsL xs us ++ [.int .i64 a.frm, .int .i64 a.out, .int .i64 a.to, .int .i64 a.inn, u]
  | [], [], _, _, _ => rfl
  | [], _ :: _, _, _, h => by simp at h
  | _ :: _, [], _, _, h => by simp at h
  | b :: xs, x :: us, a, u, h => by
    simp only [List.length_cons, Nat.add_right_cancel_iff] at h
    simp only [List.cons_append, cellsL, cellsL_snoc xs us a u h]
theorem cellsL_at : ∀ (xs : List Lnk) (us : List Value) (i : Nat) (p : Lnk) (u : Value), xs[i]? = some p → us[i]? = some u → (cellsL xs us)[i * 5]? = some (.int .i64 p.frm) ∧ (cellsL xs us)[i * 5 + 1]? = some (.int .i64 p.out) ∧ (cellsL xs us)[i * 5 + 2]? = some (.int .i64 p.to) ∧ (cellsL xs us)[i * 5 + 3]? = some (.int .i64 p.inn) ∧ (cellsL xs us)[i * 5 + 4]? = some u
  | [], _, _, _, _, h, _ => by simp at h
  | _ :: _, [], _, _, _, _, h => by simp at h
  | b :: xs, x :: us, 0, p, u, h, k => by
    simp at h k; subst h; subst k; exact ⟨rfl, rfl, rfl, rfl, rfl⟩
  | b :: xs, x :: us, i + 1, p, u, h, k => by
    rw [List.getElem?_cons_succ] at h k
    have e := cellsL_at xs us i p u h k
    rw [show (i + 1) * 5 = i * 5 + 5 by omega]
    simp only [cellsL]
    exact e
theorem cellsL_one : ∀ (xs : List Lnk) (us : List Value), (∀ u ∈ us, u.oneCell' = true) → ∀ y ∈ cellsL xs us, y.oneCell' = true
  | [], _, _, y, h => by simp [cellsL] at h
  | _ :: _, [], _, y, h => by simp [cellsL] at h
  | a :: xs, u :: us, h, y, hy => by
    simp only [cellsL, List.mem_cons] at hy
    rcases hy with rfl | rfl | rfl | rfl | rfl | hy
    · rfl
    · rfl
    · rfl
    · rfl
    · exact h _ (List.mem_cons_self ..)
    · exact cellsL_one xs us (fun u hu => h u (List.mem_cons_of_mem _ hu)) y hy
theorem VL.ofRow {lo m : Nat} {w : World} {v : Value} {us : List Value} {xs : List Lnk} (h : w.ownsRow lo 68 5 v m (cellsL xs us)) (h1 : xs.length = m) (h2 : us.length = m) : VL lo w.heap.size w v us xs := by
  rcases h.2 with ⟨rfl, h0⟩ | ⟨g, cap, cur, rfl, hbb, hg, h3, h4, h5, h6⟩
  · exact .inl ⟨rfl, List.length_eq_zero_iff.1 (by omega), List.length_eq_zero_iff.1 (by omega)⟩
  · refine .inr ⟨g, cap, cur, by rw [h2], hbb, lt_of hg, by omega, h4, hg, by omega, fun i u p hu hp => ?_⟩
    have hi := (List.getElem?_eq_some_iff.1 hu).1
    have e := cellsL_at xs us i p u hp hu
    have cc : ∀ j y, j < m * 5 → (cellsL xs us)[j]? = some y → cur[j]? = some y := fun j y hj q => by
      rw [← h6, List.getElem?_take, if_pos hj] at q
      rw [← Array.getElem?_toList]; exact q
    exact ⟨cc _ _ (by omega) e.1, cc _ _ (by omega) e.2.1, cc _ _ (by omega) e.2.2.1, cc _ _ (by omega) e.2.2.2.1, cc _ _ (by omega) e.2.2.2.2⟩
/-- These, as many as have been made so far, in a slice that grows. -/
def GrowL (lo k : Nat) (w : World) (o : Value) (xs : List Lnk) : Prop := ∃ us, us.length = k ∧ (xs.take k).length = k ∧ w.ownsRow lo 68 5 o k (cellsL (xs.take k) us) ∧ Fam lo w us ((xs.take k).map Lnk.tok)
theorem GrowL.nil (lo : Nat) (w : World) (xs : List Lnk) : GrowL lo 0 w (.slice none 0 0) xs := ⟨[], rfl, rfl, World.ownsRow_nil _ _ _ _, ⟨rfl, fun i u x h => by simp at h, fun i j u v h => by simp at h⟩⟩
theorem GrowL.shape {lo k : Nat} {w : World} {o : Value} {xs : List Lnk} (h : GrowL lo k w o xs) : ∃ a c, o = .slice a k c := by
  obtain ⟨us, _, _, h1, _⟩ := h
  rcases h1.2 with ⟨rfl, rfl⟩ | ⟨g, cap, cur, rfl, _⟩
  · exact ⟨_, _, rfl⟩
  · exact ⟨_, _, rfl⟩
theorem GrowL.below {lo k : Nat} {w w' : World} {o : Value} {xs : List Lnk} (h : GrowL lo k w o xs) (hb : Below w.heap.size w w') : GrowL lo k w' o xs := by
  obtain ⟨us, l1, l2, h1, h2⟩ := h
  exact ⟨us, l1, l2, row_below h1 hb, h2.below hb⟩
theorem GrowL.out {lo k l2 h2 : Nat} {w w' : World} {o : Value} {xs : List Lnk} (h : GrowL lo k w o xs) (ho : Out l2 h2 w w') (hd : h2 ≤ lo) : GrowL lo k w' o xs := by
  obtain ⟨us, e1, e2, h1, hF⟩ := h
  exact ⟨us, e1, e2, row_out h1 ho (fun q e => .inr (Nat.le_trans hd (World.ownsRow.lt h1 q e).1)), hF.out (hi := w.heap.size) (fam_hi hF) ho (.inr hd)⟩
theorem GrowL.step {lo k b : Nat} {w3 w4 : World} {o o' x : Value} {xs : List Lnk} {a : Lnk} {us : List Value} (l1 : us.length = k) (h1 : w3.ownsRow lo 68 5 o k (cellsL (xs.take k) us)) (hF : Fam lo w3 us ((xs.take k).map Lnk.tok))
    (hx : Own b w3 x a.tok) (hb : ∀ u q, u ∈ us → u.ownBlock = some q → q < b) (hlo : lo ≤ b) (hrow : xs[k]? = some a)
    (hown : w4.ownsRow lo 68 5 o' (k + 1) (cellsL (xs.take k) us ++ [.int .i64 a.frm, .int .i64 a.out, .int .i64 a.to, .int .i64 a.inn, x])) (hg : w3.grownBy w4 o.ownBlock) : GrowL lo (k + 1) w4 o' xs := by
  have hq := (List.getElem?_eq_some_iff.1 hrow)
  have e : xs.take (k + 1) = xs.take k ++ [a] := by rw [List.take_succ_eq_append_getElem hq.1, hq.2]
  have lk : (xs.take k).length = k := by have := hq.1; simp; omega
  refine ⟨us ++ [x], by simp [l1], by rw [e]; simp [lk], ?_, ?_⟩
  · rw [e, cellsL_snoc _ _ _ _ (by rw [lk, l1])]; exact hown
  rw [e, List.map_append]
  refine hF.snoc (fun u ys q => own_grownN q h1 (by decide) hg) (own_grownN (hx.mono hlo) h1 (by decide) hg) (fun u ys q hu => ?_)
  cases q1 : u.ownBlock with
  | none => exact .inl q1
  | some c =>
    right
    rw [q1]
    intro q2
    have := hb u c hu q1
    have := (hx.lt c q2.symm).1
    omega
theorem GrowL.done {lo k : Nat} {w : World} {o : Value} {xs : List Lnk} (h : GrowL lo k w o xs) (hk : xs.length = k) : LnksR lo w.heap.size w o xs := by
  obtain ⟨us, l1, l2, h1, hF⟩ := h
  rw [List.take_of_length_le (by omega)] at h1 hF
  exact ⟨us, VL.ofRow h1 hk l1, hF, fam_hi hF⟩
theorem cellsL_inv : ∀ (xs : List Lnk) (us : List Value) (j : Nat) (y : Value), (cellsL xs us)[j]? = some y → ∃ i p u, xs[i]? = some p ∧ us[i]? = some u ∧ ((j = i * 5 ∧ y = .int .i64 p.frm) ∨ (j = i * 5 + 1 ∧ y = .int .i64 p.out) ∨ (j = i * 5 + 2 ∧ y = .int .i64 p.to) ∨ (j = i * 5 + 3 ∧ y = .int .i64 p.inn) ∨ (j = i * 5 + 4 ∧ y = u))
  | [], _, j, y, h => by simp [cellsL] at h
  | _ :: _, [], j, y, h => by simp [cellsL] at h
  | x :: xs, u :: us, 0, y, h => ⟨0, x, u, rfl, rfl, .inl ⟨rfl, by simp only [cellsL] at h; simpa using h.symm⟩⟩
  | x :: xs, u :: us, 1, y, h => ⟨0, x, u, rfl, rfl, .inr (.inl ⟨rfl, by simp only [cellsL] at h; simpa using h.symm⟩)⟩
  | x :: xs, u :: us, 2, y, h => ⟨0, x, u, rfl, rfl, .inr (.inr (.inl ⟨rfl, by simp only [cellsL] at h; simpa using h.symm⟩))⟩
  | x :: xs, u :: us, 3, y, h => ⟨0, x, u, rfl, rfl, .inr (.inr (.inr (.inl ⟨rfl, by simp only [cellsL] at h; simpa using h.symm⟩)))⟩
  | x :: xs, u :: us, 4, y, h => ⟨0, x, u, rfl, rfl, .inr (.inr (.inr (.inr (⟨rfl, by simp only [cellsL] at h; simpa using h.symm⟩))))⟩
  | x :: xs, u :: us, j + 5, y, h => by
    simp only [cellsL, List.getElem?_cons_succ] at h
    obtain ⟨i, z, v, h1, h2, h3⟩ := cellsL_inv xs us j y h
    refine ⟨i + 1, z, v, by rw [List.getElem?_cons_succ]; exact h1, by rw [List.getElem?_cons_succ]; exact h2, ?_⟩
    rcases h3 with ⟨a, b⟩ | ⟨a, b⟩ | ⟨a, b⟩ | ⟨a, b⟩ | ⟨a, b⟩
    · exact .inl ⟨by omega, b⟩
    · exact .inr (.inl ⟨by omega, b⟩)
    · exact .inr (.inr (.inl ⟨by omega, b⟩))
    · exact .inr (.inr (.inr (.inl ⟨by omega, b⟩)))
    · exact .inr (.inr (.inr (.inr (⟨by omega, b⟩))))
/-- The cells of one that came in, and what lies in them. -/
theorem SlL.cellsOf {w : World} {a : Option Addr} {n cap : Nat} {xs : List Lnk} (h : SlL w (.slice a n cap) xs) : n = xs.length ∧ (a = none → n = 0 ∧ cap = 0) ∧ ∃ us, us.length = xs.length ∧ (∀ (i : Nat) (u : Value) (p : Lnk), us[i]? = some u → xs[i]? = some p → Sl w u p.tok) ∧ (∀ ad, a = some ad → ∀ j y, (cellsL xs us)[j]? = some y → w.cell? (ad.add j) = some y) ∧ (∀ u ∈ us, u.oneCell' = true) := by
  obtain ⟨a', cap', hv, h1, h2, h3, hr⟩ := h
  simp only [Value.slice.injEq] at hv
  obtain ⟨rfl, rfl, rfl⟩ := hv
  refine ⟨rfl, fun e => ⟨by have := h3 e; omega, h3 e⟩, ?_⟩
  rcases hr with rfl | ⟨b, off, rfl, hb, hc⟩
  · exact ⟨[], rfl, fun i u p h => by simp at h, fun ad e j y h => by simp [cellsL] at h, fun u h => by simp at h⟩
  · have hy : ∀ i, i < xs.length → ∃ c, ∀ p, xs[i]? = some p → w.cell? ⟨b, off + i * 5, none⟩ = some (.int .i64 p.frm) ∧ w.cell? ⟨b, off + i * 5 + 1, none⟩ = some (.int .i64 p.out) ∧ w.cell? ⟨b, off + i * 5 + 2, none⟩ = some (.int .i64 p.to) ∧ w.cell? ⟨b, off + i * 5 + 3, none⟩ = some (.int .i64 p.inn) ∧ w.cell? ⟨b, off + i * 5 + 4, none⟩ = some c ∧ Sl w c p.tok := by
      intro i hi
      obtain ⟨c, hcc⟩ := hc i xs[i] (List.getElem?_eq_getElem hi)
      refine ⟨c, fun p hp => ?_⟩
      rw [List.getElem?_eq_getElem hi] at hp
      obtain rfl := Option.some.inj hp
      exact ⟨hcc.1, hcc.2.1, hcc.2.2.1, hcc.2.2.2.1, hcc.2.2.2.2.1, hcc.2.2.2.2.2.2⟩
    obtain ⟨Y, hY⟩ := Go.Deep.choose_lt hy
    have hus : ∀ i u, ((List.range xs.length).map Y)[i]? = some u → i < xs.length ∧ u = Y i := by
      intro i u h
      rw [List.getElem?_map] at h
      obtain ⟨q, hq, rfl⟩ := Option.map_eq_some_iff.1 h
      have hi : i < xs.length := by have := (List.getElem?_eq_some_iff.1 hq).1; simpa using this
      rw [List.getElem?_range hi] at hq
      obtain rfl := Option.some.inj hq
      exact ⟨hi, rfl⟩
    refine ⟨(List.range xs.length).map Y, by simp, fun i u p hu hp => ?_, fun ad e j y h => ?_, fun u hu => ?_⟩
    · obtain ⟨hi, rfl⟩ := hus i u hu
      exact (hY i hi p hp).2.2.2.2.2
    · obtain rfl := Option.some.inj e
      obtain ⟨i, p, u, hp, hu, hcs⟩ := cellsL_inv _ _ _ _ h
      obtain ⟨hi, rfl⟩ := hus i u hu
      have z := hY i hi p hp
      rw [Addr.add_lit]
      rcases hcs with ⟨rfl, rfl⟩ | ⟨rfl, rfl⟩ | ⟨rfl, rfl⟩ | ⟨rfl, rfl⟩ | ⟨rfl, rfl⟩
      · exact z.1
      · exact z.2.1
      · exact z.2.2.1
      · exact z.2.2.2.1
      · exact z.2.2.2.2.1
    · obtain ⟨i, hi⟩ := List.getElem?_of_mem hu
      obtain ⟨hl, rfl⟩ := hus i u hi
      obtain ⟨x, y, e⟩ := ((hY i hl _ (List.getElem?_eq_getElem hl)).2.2.2.2.2).shape
      rw [e]; rfl

end Go.Proofs.Ytkeoefbkeommhaa
