/-
  Orders; a network whose processes have other numbers; PermuteNetwork of the program. No statement of the seat is proved here.
-/
import Derived.Test.YtmfagmfclehdbaaNetL
import Derived.Test.YtmfagmfclehdbaaNetG
import Derived.Deep.CutRange
namespace Go.Proofs.Ytmfagmfclehdbaa
open Go.RowKit

theorem nodup_sub : ∀ (a b : List Int), a.Nodup → (∀ x ∈ a, x ∈ b) → a.length ≤ b.length
  | [], b, _, _ => by simp
  | x :: a, b, hn, hs => by
    rw [List.nodup_cons] at hn
    have hx := hs x (List.mem_cons_self ..)
    have h := nodup_sub a (b.erase x) hn.2 (fun y hy => (List.mem_erase_of_ne (fun e => hn.1 (by rw [← e]; exact hy))).2 (hs y (List.mem_cons_of_mem _ hy)))
    rw [List.length_erase_of_mem hx] at h
    have := List.length_pos_of_mem hx
    rw [List.length_cons]
    omega
def rngI (n : Nat) : List Int := (List.range n).map fun (k : Nat) => (k : Int)
theorem rngI_len (n : Nat) : (rngI n).length = n := by unfold rngI; simp
theorem rngI_mem {n : Nat} {x : Int} : x ∈ rngI n ↔ 0 ≤ x ∧ x < (n : Int) := by
  unfold rngI
  rw [List.mem_map]
  constructor
  · rintro ⟨k, hk, rfl⟩
    rw [List.mem_range] at hk
    omega
  · intro h
    exact ⟨x.toNat, by rw [List.mem_range]; omega, by omega⟩
theorem rngI_nodup (n : Nat) : (rngI n).Nodup := by
  unfold rngI
  rw [List.nodup_iff_pairwise_ne, List.pairwise_map]
  exact (List.nodup_iff_pairwise_ne.1 List.nodup_range).imp (fun h e => h (by omega))
theorem isOrd_len {m : Nat} {xs : List Int} (h : isOrdB m xs = true) : xs.length = m := by
  unfold isOrdB at h; rw [Bool.and_eq_true] at h; exact of_decide_eq_true h.1
theorem isOrd_all {m : Nat} {xs : List Int} (h : isOrdB m xs = true) : ∀ x ∈ rngI m, x ∈ xs := by
  intro x hx
  have hb := rngI_mem.1 hx
  unfold isOrdB at h
  rw [Bool.and_eq_true] at h
  have q := of_decide_eq_true (upTo_at (p := fun k => decide ((k : Int) ∈ xs)) h.2 (k := x.toNat) (by omega))
  rwa [show ((x.toNat : Nat) : Int) = x by omega] at q
theorem isOrd_rng {m : Nat} {xs : List Int} (h : isOrdB m xs = true) : ∀ x ∈ xs, 0 ≤ x ∧ x < (m : Int) := by
  intro x hx
  by_cases hb : 0 ≤ x ∧ x < (m : Int)
  · exact hb
  · exfalso
    have q := nodup_sub (rngI m) (xs.erase x) (rngI_nodup m) (fun y hy => (List.mem_erase_of_ne (fun e => hb (by subst e; exact rngI_mem.1 hy))).2 (isOrd_all h y hy))
    rw [rngI_len, List.length_erase_of_mem hx, isOrd_len h] at q
    have := List.length_pos_of_mem hx
    have := isOrd_len h
    omega
theorem isOrd_new {m k : Nat} {xs : List Int} {x : Int} (h : isOrdB m xs = true) (hx : xs[k]? = some x) : x ∉ xs.take k := by
  intro hm
  have hk := (List.getElem?_eq_some_iff.1 hx).1
  have q := nodup_sub (rngI m) (xs.take k ++ xs.drop (k + 1)) (rngI_nodup m) (fun y hy => by
    have hy2 := isOrd_all h y hy
    rw [← List.take_append_drop k xs, List.drop_eq_getElem_cons hk, (List.getElem?_eq_some_iff.1 hx).2] at hy2
    rw [List.mem_append] at hy2 ⊢
    rcases hy2 with q | q
    · exact .inl q
    · rcases List.mem_cons.1 q with rfl | q
      · exact .inl hm
      · exact .inr q)
  rw [rngI_len, List.length_append, List.length_take, List.length_drop, isOrd_len h] at q
  have := isOrd_len h
  omega
theorem isOrd_of {m : Nat} {xs : List Int} (hl : xs.length = m) (hn : xs.Nodup) (hr : ∀ x ∈ xs, 0 ≤ x ∧ x < (m : Int)) : isOrdB m xs = true := by
  unfold isOrdB
  rw [decide_eq_true hl, Bool.true_and]
  unfold upTo
  rw [List.all_eq_true]
  intro k hk
  rw [List.mem_range] at hk
  refine decide_eq_true (Decidable.byContradiction fun hno => ?_)
  have q := nodup_sub ((k : Int) :: xs) (rngI m) (List.nodup_cons.2 ⟨hno, hn⟩) (fun y hy => by
    rcases List.mem_cons.1 hy with rfl | hy
    · exact rngI_mem.2 (by omega)
    · exact rngI_mem.2 (hr y hy))
  rw [rngI_len, List.length_cons] at q
  omega
def permP (ps : List Prg) (xs : List Int) : List Prg := xs.map fun i => ps.getD i.toNat prg0
def permN (n : Net) (xs : List Int) : Net := ⟨permP n.progs xs, n.links.map (renL (ixI xs))⟩
def permB (n : Net) (xs : List Int) : Bool := okN n && isOrdB n.progs.length xs
def permuteNetworkR0 (n : Net) (xs : List Int) : Net := if permB n xs then permN n xs else ⟨[], []⟩
theorem perm_no {n : Net} {xs : List Int} (h : permB n xs = false) : permuteNetworkR0 n xs = ⟨[], []⟩ := by unfold permuteNetworkR0; rw [h]; rfl
theorem perm_yes {n : Net} {xs : List Int} (h : permB n xs = true) : permuteNetworkR0 n xs = permN n xs := by unfold permuteNetworkR0; rw [h]; rfl
theorem permP_at {ps : List Prg} {xs : List Int} {k yy : Nat} {x : Prg} (hy : xs[k]? = some ((yy : Nat) : Int)) (hx : ps[yy]? = some x) : (permP ps xs)[k]? = some x := by
  unfold permP
  rw [List.getElem?_map, hy]
  simp [List.getD_eq_getElem?_getD, hx]
theorem perm_small {n : Net} {xs : List Int} (h : okN n = true) (ho : isOrdB n.progs.length xs = true) : SmallN (permN n xs) ∧ szN (permN n xs) ≤ 50000 := by
  have hl := okN_len h
  have hx := isOrd_len ho
  have hp : ∀ p ∈ (permN n xs).progs, p.code.length ≤ 24 := by
    intro p hp
    obtain ⟨i, hi, rfl⟩ := List.mem_map.1 (show p ∈ xs.map _ from hp)
    have hr := isOrd_rng ho i hi
    rw [List.getD_eq_getElem?_getD, List.getElem?_eq_getElem (by omega)]
    have := List.all_eq_true.1 hl.2.2 _ (List.getElem_mem (l := n.progs) (n := i.toNat) (by omega))
    have := (okP_parts this).1
    show (n.progs[i.toNat]).code.length ≤ 24
    omega
  have ht : ∀ l ∈ (permN n xs).links, l.tok.length ≤ 400 := by
    intro l hl
    obtain ⟨l0, h0, rfl⟩ := List.mem_map.1 (show l ∈ n.links.map _ from hl)
    show l0.tok.length ≤ 400
    exact isS_len (tok_isS h h0)
  have l1 : (permN n xs).progs.length = xs.length := by show (xs.map _).length = _; simp
  have l2 : (permN n xs).links.length = n.links.length := by show (n.links.map _).length = _; simp
  refine ⟨⟨by omega, fun p q => by have := hp p q; omega, by omega, fun l q => by have := ht l q; omega⟩, ?_⟩
  have h1 := sum_leN (f := fun p : Prg => p.code.length) (c := 24) (permN n xs).progs hp
  have h2 := sum_leN (f := fun l : Lnk => l.tok.length) (c := 400) (permN n xs).links ht
  unfold szN
  omega
theorem perm_bd (n : Net) (xs : List Int) : szN (permuteNetworkR0 n xs) ≤ 50000 := by
  cases h : permB n xs with
  | false => rw [perm_no h]; simp [szN]
  | true =>
    rw [perm_yes h]
    unfold permB at h
    rw [Bool.and_eq_true] at h
    exact (perm_small h.1 h.2).2
theorem wf_perm {n : Net} {xs : List Int} (hw : ∀ l ∈ n.links, wfL l) (hl : xs.length ≤ 1000) : ∀ l ∈ (permN n xs).links, wfL l := by
  intro l h
  obtain ⟨l0, h0, rfl⟩ := List.mem_map.1 (show l ∈ n.links.map _ from h)
  have q := hw l0 h0
  have e1 := ixI_wf (xs := xs) (x := l0.frm) (by omega)
  have e2 := ixI_wf (xs := xs) (x := l0.to) (by omega)
  unfold wfL wfE Lnk.src Lnk.tgt wfI at q ⊢
  unfold renL
  simp only [] at q ⊢
  refine ⟨⟨?_, q.1.2⟩, ⟨?_, q.2.2⟩⟩
  · split
    · exact q.1.1
    · omega
  · split
    · exact q.2.1
    · omega
/-- A row of programs of the call's own, whose slots hold any slices. -/
theorem SlP.ofRow {lo m : Nat} {w : World} {v : Value} {us : List Value} {xs : List Prg} (h : w.ownsRow lo 65 3 v m (cellsP xs us)) (h1 : xs.length = m) (h2 : us.length = m) (hs : ∀ (i : Nat) (u : Value) (p : Prg), us[i]? = some u → xs[i]? = some p → SlI w u p.code) : SlP w v xs := by
  have hv := VP.ofRow h h1 h2
  have hl := hv.len
  rcases hv with ⟨rfl, rfl, rfl⟩ | ⟨B, cap, cur, rfl, a2, a3, a4, a5, a6, a7, a8⟩
  · exact ⟨none, 0, rfl, Nat.le_refl _, by simp, fun _ => rfl, .inl rfl⟩
  · refine ⟨_, cap, by rw [hl], by omega, a5, (fun e => by cases e), .inr ⟨B, 0, rfl, lt_of a6, fun i x hx => ?_⟩⟩
    have hi := (List.getElem?_eq_some_iff.1 hx).1
    obtain ⟨u, hu⟩ : ∃ u, us[i]? = some u := ⟨_, List.getElem?_eq_getElem (by omega)⟩
    have z := a8 i u x hu hx
    simp only [Nat.zero_add]
    exact ⟨u, (cell_of a6 _).trans z.1, (cell_of a6 _).trans z.2.1, (cell_of a6 _).trans z.2.2, hs i u x hu hx⟩
theorem SlL.ofVL {lo hi : Nat} {w : World} {v : Value} {us : List Value} {xs : List Lnk} (hv : VL lo hi w v us xs) (hs : ∀ (i : Nat) (u : Value) (p : Lnk), us[i]? = some u → xs[i]? = some p → Sl w u p.tok) (hw : ∀ l ∈ xs, wfL l) : SlL w v xs := by
  have hl := hv.len
  rcases hv with ⟨rfl, rfl, rfl⟩ | ⟨B, cap, cur, rfl, a2, a3, a4, a5, a6, a7, a8⟩
  · exact ⟨none, 0, rfl, Nat.le_refl _, by simp, fun _ => rfl, .inl rfl⟩
  · refine ⟨_, cap, by rw [hl], by omega, a5, (fun e => by cases e), .inr ⟨B, 0, rfl, lt_of a6, fun i x hx => ?_⟩⟩
    have hi := (List.getElem?_eq_some_iff.1 hx).1
    obtain ⟨u, hu⟩ : ∃ u, us[i]? = some u := ⟨_, List.getElem?_eq_getElem (by omega)⟩
    have z := a8 i u x hu hx
    simp only [Nat.zero_add]
    exact ⟨u, (cell_of a6 _).trans z.1, (cell_of a6 _).trans z.2.1, (cell_of a6 _).trans z.2.2.1, (cell_of a6 _).trans z.2.2.2.1, (cell_of a6 _).trans z.2.2.2.2, hw x (List.mem_of_getElem? hx), hs i u x hu hx⟩
/-- Programs, as many as have been laid so far, that lay what they hold in the world w0. -/
def GrowV (lo : Nat) (w0 : World) (k : Nat) (w : World) (o : Value) (xs : List Prg) : Prop := ∃ us, us.length = k ∧ (xs.take k).length = k ∧ w.ownsRow lo 65 3 o k (cellsP (xs.take k) us) ∧ ∀ (i : Nat) (u : Value) (p : Prg), us[i]? = some u → (xs.take k)[i]? = some p → SlI w0 u p.code
theorem GrowV.nil (lo : Nat) (w0 w : World) (xs : List Prg) : GrowV lo w0 0 w (.slice none 0 0) xs := ⟨[], rfl, rfl, World.ownsRow_nil _ _ _ _, fun i u p h => by simp at h⟩
theorem GrowV.step {lo k : Nat} {w0 w4 : World} {o' x : Value} {xs : List Prg} {a : Prg} {us : List Value} (l1 : us.length = k) (hs : ∀ (i : Nat) (u : Value) (p : Prg), us[i]? = some u → (xs.take k)[i]? = some p → SlI w0 u p.code) (hrow : xs[k]? = some a) (hx : SlI w0 x a.code)
    (hown : w4.ownsRow lo 65 3 o' (k + 1) (cellsP (xs.take k) us ++ [.int .i64 a.ins, .int .i64 a.outs, x])) : GrowV lo w0 (k + 1) w4 o' xs := by
  have hq := (List.getElem?_eq_some_iff.1 hrow)
  have e : xs.take (k + 1) = xs.take k ++ [a] := by rw [List.take_succ_eq_append_getElem hq.1, hq.2]
  have lk : (xs.take k).length = k := by have := hq.1; simp; omega
  refine ⟨us ++ [x], by simp [l1], by rw [e]; simp [lk], ?_, fun i u p hu hp => ?_⟩
  · rw [e, cellsP_snoc _ _ _ _ (by rw [lk, l1])]; exact hown
  · rw [e] at hp
    by_cases hi : i < k
    · rw [List.getElem?_append_left (by omega)] at hu hp
      exact hs i u p hu hp
    · rw [List.getElem?_append_right (by omega)] at hu hp
      have h0 : i - k = 0 := by
        have := (List.getElem?_eq_some_iff.1 hu).1
        simp at this
        omega
      rw [l1, h0] at hu
      rw [lk, h0] at hp
      simp at hu hp
      subst hu
      subst hp
      exact hx
theorem cellsO {w : World} {g T : Nat} {v : Value} (h : w.heap[g]? = some (.cells #[v] T)) : w.cell? ⟨g, 0, none⟩ = some v := by rw [cell_of h 0]; rfl
theorem Sl.setNot {w : World} {p : Addr} {u x : Value} {tok : List Int} (h : Sl w u tok) (hp : ∀ n, w.cell? p ≠ some (.int .i64 n)) : Sl (w.setCell p x) u tok := by
  obtain ⟨a, cap, hv, h1, h2, h3, hr⟩ := h
  refine ⟨a, cap, hv, h1, h2, h3, ?_⟩
  rcases hr with h0 | ⟨b, off, ha, hb, hc⟩
  · exact .inl h0
  · refine .inr ⟨b, off, ha, by rw [World.size_setCell]; exact hb, fun k hk => ?_⟩
    rw [World.cell?_setCell_other _ _ _ _ (fun e => hp (tok.getD k 0) (by rw [← hc k hk]; congr 1))]
    exact hc k hk
theorem grow_drewA {w w' : World} {A : Obj} {row : Option Nat} (h : ((World.drew w).alloc A).grownBy w' row) : (w.alloc A).grownBy w' row := ⟨h.os, h.tape, h.output, h.size, h.block⟩

set_option maxRecDepth 100000 in
set_option maxHeartbeats 16000000 in
theorem iperm_any (v : Value) (n : Net) (u : Value) (xs : List Int) (w : World) (h : NetV w v n) (hu : Sl w u xs) :
    Calls Try.prog 38 #[v, u] w fun e w' => ∃ r, e = .returned (.tuple #[r, .bool (permB n xs)]) ∧ NetR w.heap.size w'.heap.size w' r (permuteNetworkR0 n xs) ∧ Below w.heap.size w w' := by
  have CN := Lib.hid (fun (W : World) (hw : Below w.heap.size w W) => iisnet_any v n W (h.below hw))
  have HWF := Lib.hid h.wf
  obtain ⟨pv, lv, rfl, hp, hl⟩ := h
  have HP := Lib.hid hp
  have HL := Lib.hid hl
  have HU := Lib.hid hu
  have LP := hp.len
  obtain ⟨la, lcap, rfl⟩ := hl.shape
  obtain ⟨pa, pcap, rfl⟩ := hp.shape
  obtain ⟨oa, oc, rfl⟩ := hu.shape
  have CO := Lib.hid (fun (W : World) (hw : Below w.heap.size w W) => iisOrd_any n.progs.length (.slice oa xs.length oc) xs W (hu.below hw) LP)
  obtain ⟨m, hm⟩ : ∃ m, m = n.progs.length := ⟨_, rfl⟩
  obtain ⟨ll, hll⟩ : ∃ m, m = n.links.length := ⟨_, rfl⟩
  obtain ⟨ol, hol⟩ : ∃ m, m = xs.length := ⟨_, rfl⟩
  rw [← hm, ← hll] at CN ⊢
  rw [← hm, ← hol] at CO
  rw [← hol] at HU ⊢
  rw [← hm] at HP
  rw [← hll] at HL
  have NP := Lib.hid hm
  have NL := Lib.hid hll
  have NO := Lib.hid hol
  clear hp hl hu hm hll hol LP
  obtain ⟨R0, hR0⟩ : ∃ R, R = permuteNetworkR0 n xs := ⟨_, rfl⟩
  obtain ⟨R1, hR1⟩ : ∃ R, R = permB n xs := ⟨_, rfl⟩
  rw [← hR0, ← hR1]
  have HNO := Lib.hid (show permB n xs = false → R1 = false ∧ R0 = ⟨[], []⟩ from fun e => ⟨hR1.trans e, hR0.trans (perm_no e)⟩)
  have HYES := Lib.hid (show permB n xs = true → R1 = true ∧ R0 = permN n xs from fun e => ⟨hR1.trans e, hR0.trans (perm_yes e)⟩)
  clear hR0 hR1
  obtain ⟨i0, hi, hz0, hz1, hz2⟩ := infoP_parts
  go_enter Try.func38, Try.ntmps38
  go_upto_region 1 with fail
  generalize hW : ((w.alloc (.cells #[.slice pa m pcap, .slice la ll lcap] 35)).alloc (.cells #[.slice oa ol oc] 42)).alloc (.cells #[.slice none 0 0, .slice none 0 0] 35) = w2
  have HW2 := Lib.hid (show w.heap.size + 3 = w2.heap.size by rw [← hW]; simp)
  have N2 := Lib.hid (show w2.heap[w.heap.size]? = some (.cells #[.slice pa m pcap, .slice la ll lcap] 35) by rw [← hW]; exact al_keep (hp21 w _ _))
  have O2 := Lib.hid (show w2.heap[w.heap.size + 1]? = some (.cells #[.slice oa ol oc] 42) by rw [← hW]; exact al_keep (hp2 w _ _))
  have J2 := Lib.hid (show w2.heap[w.heap.size + 2]? = some (.cells #[.slice none 0 0, .slice none 0 0] 35) by rw [← hW]; have q := hp1 ((w.alloc (.cells #[.slice pa m pcap, .slice la ll lcap] 35)).alloc (.cells #[.slice oa ol oc] 42)) (.cells #[.slice none 0 0, .slice none 0 0] 35); simpa using q)
  have hb := Lib.hid (show Below w.heap.size w w2 by rw [← hW]; exact ((((Below.refl _ _).al _).al _).al _))
  clear hW
  obtain ⟨k0, k1⟩ := cells2 N2.out
  have gl := lt_of N2.out
  have o0 : w2.cell? ⟨w.heap.size + 1, 0, none⟩ = some (.slice oa ol oc) := by rw [cell_of O2.out 0]; rfl
  have ol' := lt_of O2.out
  cases ho : okN n with
  | false =>
    obtain ⟨rfl, rfl⟩ := HNO.out (by unfold permB; rw [ho]; rfl)
    rw [ho] at CN
    clear ho HNO HYES
    go_wp2_with (go_at_call 57; with_reducible refine (CN.out _ hb.out).mono ?_; rintro e w3 ⟨rfl, hb1⟩; have HB3 := Lib.hid (hb.out.trans (hb1.mono hb.out.size)); have HZ3 := Lib.hid (show w2.heap.size ≤ w3.heap.size from hb1.size); have N3 := Lib.hid (blk_in N2.out hb1); have O3 := Lib.hid (blk_in O2.out hb1); have J3 := Lib.hid (blk_in J2.out hb1); clear k0 k1 gl o0 ol'; obtain ⟨k0, k1⟩ := cells2 N3.out; have gl := lt_of N3.out; have o0 := cellsO O3.out; have ol' := lt_of O3.out; obtain ⟨r0, r1⟩ := cells2 J3.out; have rl := lt_of J3.out; have rz0 := fr_of J3.out 0; have rz1 := fr_of J3.out 1; clear hb1)
    refine bodyPost_ret (v := .tuple #[.agg #[.slice none 0 0, .slice none 0 0], .bool false]) (by simp [results, Try.results38, go_sem, r0, r1]) rfl ⟨_, rfl, netR_nil _ _ _, ?_⟩
    first | exact HB3.out | exact (HB3.out.setCell (by simp; omega) _).setCell (by simp; omega) _
  | true =>
    rw [ho] at CN
    have HOK := Lib.hid ho
    clear ho
    cases hs : isOrdB m xs with
    | false =>
      obtain ⟨rfl, rfl⟩ := HNO.out (by unfold permB; rw [HOK.out, ← NP.out, hs]; rfl)
      rw [hs] at CO
      clear hs
      go_wp2_with (first | (go_at_call 83; with_reducible refine (CO.out _ HB3.out).mono ?_; rintro e w' ⟨rfl, rfl⟩) | (go_at_call 57; with_reducible refine (CN.out _ hb.out).mono ?_; rintro e w3 ⟨rfl, hb1⟩; have HB3 := Lib.hid (hb.out.trans (hb1.mono hb.out.size)); have HZ3 := Lib.hid (show w2.heap.size ≤ w3.heap.size from hb1.size); have N3 := Lib.hid (blk_in N2.out hb1); have O3 := Lib.hid (blk_in O2.out hb1); have J3 := Lib.hid (blk_in J2.out hb1); clear k0 k1 gl o0 ol'; obtain ⟨k0, k1⟩ := cells2 N3.out; have gl := lt_of N3.out; have o0 := cellsO O3.out; have ol' := lt_of O3.out; obtain ⟨r0, r1⟩ := cells2 J3.out; have rl := lt_of J3.out; have rz0 := fr_of J3.out 0; have rz1 := fr_of J3.out 1; clear hb1))
      refine bodyPost_ret (v := .tuple #[.agg #[.slice none 0 0, .slice none 0 0], .bool false]) (by simp [results, Try.results38, go_sem, r0, r1]) rfl ⟨_, rfl, netR_nil _ _ _, ?_⟩
      first | exact HB3.out | exact (HB3.out.setCell (by simp; omega) _).setCell (by simp; omega) _
    | true =>
      obtain ⟨rfl, rfl⟩ := HYES.out (by unfold permB; rw [HOK.out, ← NP.out, hs]; rfl)
      rw [hs] at CO
      have HS0 := Lib.hid hs
      have hlm : m = ol := by rw [NO.out]; exact (isOrd_len hs).symm
      subst hlm
      have HRG := Lib.hid (isOrd_rng hs)
      have hm12 : m ≤ 12 := by rw [NP.out]; exact (okN_len HOK.out).1
      have hll30 : ll ≤ 30 := by rw [NL.out]; exact (okN_len HOK.out).2.1
      clear hs
      go_upto_region 3 with (first | (go_at_call 83; with_reducible refine (CO.out _ HB3.out).mono ?_; rintro e w' ⟨rfl, rfl⟩) | (go_at_call 57; with_reducible refine (CN.out _ hb.out).mono ?_; rintro e w3 ⟨rfl, hb1⟩; have HB3 := Lib.hid (hb.out.trans (hb1.mono hb.out.size)); have HZ3 := Lib.hid (show w2.heap.size ≤ w3.heap.size from hb1.size); have N3 := Lib.hid (blk_in N2.out hb1); have O3 := Lib.hid (blk_in O2.out hb1); have J3 := Lib.hid (blk_in J2.out hb1); clear k0 k1 gl o0 ol'; obtain ⟨k0, k1⟩ := cells2 N3.out; have gl := lt_of N3.out; have o0 := cellsO O3.out; have ol' := lt_of O3.out; obtain ⟨r0, r1⟩ := cells2 J3.out; have rl := lt_of J3.out; have rz0 := fr_of J3.out 0; have rz1 := fr_of J3.out 1; clear hb1))
      clear r0 r1 rl rz0 rz1
      go_wp2_with fail
      generalize hW : w3.alloc (.cells #[.slice none 0 0, .slice none 0 0] 35) = w4
      have HC4 := Lib.hid (show Below w3.heap.size w3 w4 by rw [← hW]; exact (Below.refl _ _).al _)
      obtain ⟨B, hB⟩ : ∃ B, B = w3.heap.size := ⟨_, rfl⟩
      have HS4 := Lib.hid (show w4.heap[B]? = some (.cells #[.slice none 0 0, .slice none 0 0] 35) by rw [← hW, hB]; exact hp1 _ _)
      rw [← hB]
      have HB0 := Lib.hid (show w.heap.size + 3 ≤ B by rw [hB, HW2.out]; exact HZ3.out)
      clear hW hB
      have HB4 := Lib.hid (HB3.out.trans (HC4.out.mono HB3.out.size))
      have N4 := Lib.hid (blk_in N3.out HC4.out)
      have O4 := Lib.hid (blk_in O3.out HC4.out)
      have J4 := Lib.hid (blk_in J3.out HC4.out)
      have HBL := Lib.hid (lt_of HS4.out)
      clear k0 k1 gl o0 ol'
      go_loopw [23] (fun i wr => ∃ (k : Nat) (xa : Option Addr) (xc : Nat), k ≤ m ∧ i = .int .i64 k ∧ Hid (wr.heap[B]? = some (.cells #[.slice xa k xc, .slice none 0 0] 35)) ∧ Hid (GrowV w4.heap.size w k wr (.slice xa k xc) (permP n.progs xs)) ∧ Hid (Out B (B + 1) w4 wr)) (fun i _ => m - (intOf i).toNat)
      case atStart => exact ⟨0, none, 0, Nat.zero_le _, rfl, HS4, Lib.hid (GrowV.nil _ _ _ _), Lib.hid (Out.refl _ _ _)⟩
      case round =>
        obtain ⟨k, xa, xc, hk, rfl, HS, HG, HO⟩ := hrel
        have HBW := Lib.hid (HO.out.below HB4.out HB4.out.size (by have := HB0.out; omega))
        have NW := Lib.hid (HO.out.blk N4.out (.inl (by have := HB0.out; omega)))
        have OW := Lib.hid (HO.out.blk O4.out (.inl (by have := HB0.out; omega)))
        have JW := Lib.hid (HO.out.blk J4.out (.inl (by have := HB0.out; omega)))
        obtain ⟨k0, k1⟩ := cells2 NW.out
        have gl := lt_of NW.out
        have o0 : wr.cell? ⟨w.heap.size + 1, 0, none⟩ = some (.slice oa m oc) := by rw [cell_of OW.out 0]; rfl
        have ol' := lt_of OW.out
        obtain ⟨b0, b1⟩ := cells2 HS.out
        have bl := lt_of HS.out
        have hz1w : w4.heap.size ≤ wr.heap.size := HO.out.size
        by_cases hlt : k < m
        case pos =>
          have bz := fr_of HS.out 0
          obtain ⟨y, hy⟩ : ∃ y, xs[k]? = some y := ⟨_, List.getElem?_eq_getElem (by rw [← NO.out]; exact hlt)⟩
          have hyr := HRG.out y (List.mem_of_getElem? hy)
          obtain ⟨yy, rfl⟩ : ∃ yy : Nat, y = yy := ⟨y.toNat, by omega⟩
          have hyl : yy < m := by omega
          obtain ⟨x, hx⟩ : ∃ x, n.progs[yy]? = some x := ⟨_, List.getElem?_eq_getElem (by rw [← NP.out]; exact hyl)⟩
          have HX := Lib.hid (permP_at hy hx)
          obtain ⟨ob, off, rfl, hob, e0⟩ := (HU.out.below HBW.out).atb hy
          obtain ⟨gb, go, pcv, rfl, hgb, f0, f1, f2, es⟩ := (HP.out.below HBW.out).atb hx
          obtain ⟨gb', go', pcv', hpe, hgb', f0', f1', f2', es'⟩ := HP.out.atb hx
          have HES := Lib.hid (show SlI w pcv x.code by
            simp only [Option.some.injEq, Addr.mk.injEq, and_true] at hpe
            obtain ⟨rfl, rfl⟩ := hpe
            have q := HBW.out.cell (p := ⟨gb, go + yy * 3 + 2, none⟩) hgb'
            rw [f2, f2'] at q
            obtain rfl := Option.some.inj q
            exact es')
          clear hy hx hyr es es' f0' f1' f2' hpe
          obtain ⟨x0, x1, row⟩ := x
          simp only [] at f0 f1 f2 HES
          obtain ⟨ua, uc, rfl⟩ := HES.out.shape
          obtain ⟨ul, hul⟩ : ∃ q, q = row.length := ⟨_, rfl⟩
          rw [← hul] at f2 HES
          clear hul
          obtain ⟨us, lus, ltk, hU1, hU2⟩ := HG.out
          have HU1 := Lib.hid hU1
          have HU2 := Lib.hid hU2
          have HNE := Lib.hid (show some B ≠ (Value.slice xa k xc).ownBlock from fun e => by have := (World.ownsRow.lt HU1.out B e.symm).1; have := HBL.out; omega)
          clear hU1 hU2 ltk
          have iy1 : (0 : Int) ≤ (yy : Int) := by omega
          have iy2 : (yy : Int) < (m : Int) := by omega
          go_upto_region 7 with fail
          refine wp_open' ?_
          intro K9 hK9
          go_cut [23] from 23 to 37 (fun i wz => ∃ (xa' : Option Addr) (xc' : Nat), i = .int .i64 k ∧ Hid (wz.heap[B]? = some (.cells #[.slice xa' (k + 1) xc', .slice none 0 0] 35)) ∧ Hid (GrowV w4.heap.size w (k + 1) wz (.slice xa' (k + 1) xc') (permP n.progs xs)) ∧ Hid (Out B (B + 1) w4 wz))
          case first =>
            go_region_law (refine Go.step_append_lies _ rfl (.tmp 28) (.tmp 34) 32 rfl w4.heap.size 65 i0 (.agg #[.int .i64 0, .int .i64 0, .slice none 0 0]) 3 40 Try.underlying32 hi hz0 hz1 hz2 rfl (by decide) (.slice xa k xc) k (cellsP ((permP n.progs xs).take k) us) rfl (World.ownsRow.alloc (World.ownsRow.drew HU1.out) _) ⟨wr.heap.size, 0, none⟩ 1 1 [.int .i64 x0, .int .i64 x1, .slice ua ul uc] rfl rfl (lit_cells (World.drew wr) #[.int .i64 x0, .int .i64 x1, .slice ua ul uc] 65) (by intro u hu; simp at hu; rcases hu with rfl | rfl | rfl <;> rfl) (by omega) (by unfold maxLen; omega) (by omega) (by have := hz1w; simp; omega) (wr.heap.size + 1) (by simp) ?_; intro g gc w6 hown hgrow hor hglt; have hgrow' := grow_drewA hgrow; have BB := grow_box HS.out hgrow' HNE.out; obtain ⟨d0, d1⟩ := cells2 BB; have dz := fr_of BB 0; have dl := lt_of BB; have HOW := Lib.hid hown; have HGR := Lib.hid hgrow'; have HB6 := Lib.hid BB; clear hown hgrow hgrow' hor hglt BB)
            all_goals (
              go_wp2_with fail
              go_meet
              case rel =>
                refine ⟨some ⟨g, 0, none⟩, gc, rfl, Lib.hid (set2_0 HB6.out _), Lib.hid ?_, Lib.hid ?_⟩
                · have L6 := row_out HOW.out ((Out.refl B (B + 1) w6).setC (p := ⟨B, 0, none⟩) (Nat.le_refl _) (Nat.lt_succ_self _) (.slice (some ⟨g, 0, none⟩) (k + 1) gc)) (fun q e => .inr (by have := (World.ownsRow.lt HOW.out q e).1; have := HBL.out; omega))
                  exact GrowV.step lus HU2.out HX.out HES.out L6
                · exact ((HO.out.al _).grownHi HGR.out (fun q e => (World.ownsRow.lt HU1.out q e).1)).setC (p := ⟨B, 0, none⟩) (Nat.le_refl _) (Nat.lt_succ_self _) _)
          case rest =>
            obtain ⟨xa', xc', rfl, HS', HG', HO'⟩ := hcut
            refine hK9 _ _ ?_
            go_wp2_with fail
            go_roundw
            case rel => exact ⟨k + 1, xa', xc', by omega, by go_num, HS', HG', HO'⟩
            case measure => simp [intOf]; omega
        obtain rfl : m = k := by omega
        have hf : ∀ (W : World) (i : Int), Below wr.heap.size wr W → (∃ l ∈ n.links, (i = l.frm ∧ l.src ≠ outE) ∨ (i = l.to ∧ l.tgt ≠ outE)) → Calls Try.prog 85 #[.int .i64 i, .pointer (some ⟨w.heap.size + 1, 0, none⟩)] W fun e w' => e = .returned (.int .i64 (ixI xs i)) ∧ W = w' :=
          fun W i hw _ => icloP_any (w.heap.size + 1) (.slice oa m oc) xs i W (blk_in OW.out hw) (HU.out.below (HBW.out.trans (hw.mono HBW.out.size)))
        have CR := Lib.hid (irenP_any (w.heap.size + 1) (ixI xs) (.slice la ll lcap) n.links wr (HL.out.below HBW.out) (by rw [← NL.out]; omega) hf)
        clear hf
        obtain ⟨d0, d1⟩ := cells2 HS.out
        have dz := fr_of HS.out 1
        have dl := lt_of HS.out
        go_upto_region 10 with (go_at_call 84; with_reducible refine CR.out.mono ?_; rintro e w7 ⟨c, rfl, ⟨us, hus, hsl, hvl⟩, hb7⟩; have HUS := Lib.hid hus; have HSL := Lib.hid hsl; have HVL := Lib.hid hvl; have HC7 := Lib.hid hb7; obtain ⟨ca, cc, rfl⟩ := hvl.shape; rw [List.length_map, ← NL.out] at HVL ⊢; have B7 := Lib.hid (blk_in HS.out hb7); clear hus hsl hvl hb7 d0 d1 dz dl; obtain ⟨d0, d1⟩ := cells2 B7.out; have dz := fr_of B7.out 1; have dl := lt_of B7.out)
        generalize hW : w7.setCell ⟨B, 1, none⟩ (.slice ca ll cc) = W8
        have hJB : w.heap.size + 2 ≠ B := by have := HB0.out; omega
        have B8 := Lib.hid (show W8.heap[B]? = some (.cells #[.slice xa m xc, .slice ca ll cc] 35) by rw [← hW]; exact set2_1 B7.out _)
        have J8 := Lib.hid (show W8.heap[w.heap.size + 2]? = some (.cells #[.slice none 0 0, .slice none 0 0] 35) by rw [← hW]; exact setR_blkN (blk_in JW.out HC7.out) hJB _)
        have HB8 := Lib.hid (show Below w.heap.size w W8 by rw [← hW]; exact (HBW.out.trans (HC7.out.mono HBW.out.size)).setCell (p := ⟨B, 1, none⟩) (by have := HB0.out; show w.heap.size ≤ B; omega) _)
        obtain ⟨us0, l1, ltk, hrow, hs0⟩ := HG.out
        have hpl : (permP n.progs xs).length = m := by unfold permP; rw [List.length_map]; exact NO.out.symm
        rw [List.take_of_length_le (by omega)] at hrow hs0
        have R8 := Lib.hid (show W8.ownsRow w4.heap.size 65 3 (.slice xa m xc) m (cellsP (permP n.progs xs) us0) by rw [← hW]; exact row_out (row_below hrow HC7.out) ((Out.refl B (B + 1) w7).setC (p := ⟨B, 1, none⟩) (Nat.le_refl _) (Nat.lt_succ_self _) _) (fun q e => .inr (by have := (World.ownsRow.lt hrow q e).1; have := HBL.out; omega)))
        have SP8 := Lib.hid (SlP.ofRow R8.out hpl l1 (fun i u p hu hp => (hs0 i u p hu hp).below HB8.out))
        have SL8 := Lib.hid (show SlL W8 (.slice ca ll cc) (n.links.map (renL (ixI xs))) by
          rw [← hW]
          refine SlL.ofVL (HVL.out.keep (w' := w7.setCell ⟨B, 1, none⟩ (.slice ca ll cc)) (fun B' cur _ _ q => setR_blkN q (fun e => by subst e; rw [B7.out] at q; simp at q) _)) (fun i u p hu hp => ?_) (wf_perm HWF.out (by rw [← NO.out]; omega))
          rw [List.getElem?_map] at hp
          obtain ⟨l, hl, rfl⟩ := Option.map_eq_some_iff.1 hp
          exact ((HSL.out i u l hu hl).below HC7.out).setNot (fun z => by rw [d1]; simp))
        clear hW hrow hs0 l1 ltk hpl d0 d1 dz dl b0 b1 bl k0 k1 gl o0 ol'
        have CC := Lib.hid (fun (W : World) (hw : Below W8.heap.size W8 W) => icopynet_any (.agg #[.slice xa m xc, .slice ca ll cc]) (permN n xs) W ⟨_, _, rfl, SP8.out.below hw, SL8.out.below hw⟩ (perm_small HOK.out (by rw [← NP.out]; exact HS0.out)).1)
        obtain ⟨d0, d1⟩ := cells2 B8.out
        have dl := lt_of B8.out
        go_wp2_with (go_at_call 72; (with_reducible refine (CC.out _ (Below.refl _ _)).mono ?_); rintro e w9 ⟨r, rfl, hN, hb9⟩; have HC9 := Lib.hid hb9; have HB9 := Lib.hid (HB8.out.trans (hb9.mono HB8.out.size)); have J9 := Lib.hid (blk_in J8.out hb9); have HN9 := Lib.hid hN; obtain ⟨ca9, cb9, cc9, cd9, rfl⟩ := hN.shape; clear hb9 hN; obtain ⟨r0, r1⟩ := cells2 J9.out; have rl := lt_of J9.out; have rz0 := fr_of J9.out 0; have rz1 := fr_of J9.out 1)
        have q := set2_all J9.out (.slice ca9 (permN n xs).progs.length cb9) (.slice cc9 (permN n xs).links.length cd9)
        refine bodyPost_ret (v := .tuple #[.agg #[.slice ca9 (permN n xs).progs.length cb9, .slice cc9 (permN n xs).links.length cd9], .bool true]) (by simp [results, Try.results38, go_sem, r0, r1]) rfl ⟨_, rfl, ?_, ?_⟩
        · exact (HN9.out.out q.2 (.inr (by have := lt_of J8.out; omega))).mono HB8.out.size q.2.size
        · exact q.2.below HB9.out HB9.out.size (by omega)
end Go.Proofs.Ytmfagmfclehdbaa
