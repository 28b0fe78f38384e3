/-
  The inputs and outputs of a network. No statement of the seat is proved here.
-/
import Derived.Test.YtjphamgkigekkaaSNet
import Derived.Test.YtjphamgkigekkaaLinkM
import Derived.Maps.AppendAt
namespace Go.Proofs.Ytjphamgkigekkaa
open Go.RowKit

def idxL (q : Lnk → Bool) : Nat → List Lnk → List Int
  | _, [] => []
  | k, l :: ls => if q l then (k : Int) :: idxL q (k + 1) ls else idxL q (k + 1) ls
theorem idxL_app (q : Lnk → Bool) : ∀ (s : Nat) (xs : List Lnk) (x : Lnk), idxL q s (xs ++ [x]) = idxL q s xs ++ if q x then [((s + xs.length : Nat) : Int)] else []
  | s, [], x => by simp [idxL]
  | s, y :: ys, x => by
    rw [List.cons_append, idxL, idxL, idxL_app q (s + 1) ys x, List.length_cons, show s + 1 + ys.length = s + (ys.length + 1) by omega]
    split <;> simp
theorem idxL_yes {q : Lnk → Bool} {ls : List Lnk} {k : Nat} {x : Lnk} (hx : ls[k]? = some x) (hq : q x = true) : idxL q 0 (ls.take (k + 1)) = idxL q 0 (ls.take k) ++ [(k : Int)] := by
  have hk := (List.getElem?_eq_some_iff.1 hx).1
  rw [List.take_succ_eq_append_getElem hk, (List.getElem?_eq_some_iff.1 hx).2, idxL_app, if_pos hq, List.length_take, Nat.zero_add, Nat.min_eq_left (Nat.le_of_lt hk)]
theorem idxL_no {q : Lnk → Bool} {ls : List Lnk} {k : Nat} {x : Lnk} (hx : ls[k]? = some x) (hq : q x = false) : idxL q 0 (ls.take (k + 1)) = idxL q 0 (ls.take k) := by
  have hk := (List.getElem?_eq_some_iff.1 hx).1
  rw [List.take_succ_eq_append_getElem hk, (List.getElem?_eq_some_iff.1 hx).2, idxL_app, if_neg (by rw [hq]; decide), List.append_nil]
theorem idxL_le (q : Lnk → Bool) : ∀ (s : Nat) (xs : List Lnk), (idxL q s xs).length ≤ xs.length
  | _, [] => by simp [idxL]
  | s, x :: xs => by
    have := idxL_le q (s + 1) xs
    unfold idxL
    split <;> simp only [List.length_cons] <;> omega
theorem idxL_take_le (q : Lnk → Bool) (ls : List Lnk) (k : Nat) : (idxL q 0 (ls.take k)).length ≤ k := by
  have := idxL_le q 0 (ls.take k)
  rw [List.length_take] at this
  omega
theorem idxL_congr {q q' : Lnk → Bool} : ∀ (s : Nat) (xs : List Lnk), (∀ l ∈ xs, q l = q' l) → idxL q s xs = idxL q' s xs
  | _, [], _ => rfl
  | s, x :: xs, h => by
    unfold idxL
    rw [h x List.mem_cons_self, idxL_congr (s + 1) xs (fun l hl => h l (List.mem_cons_of_mem _ hl))]
def inQ (l : Lnk) : Bool := decide (l.src = outE)
def outQ (l : Lnk) : Bool := decide (l.tgt = outE)
def inF (l : Lnk) : Bool := decide (l.frm = -1)
def outF (l : Lnk) : Bool := decide (l.to = -1)
theorem inQ_eq {n : Net} (h : okN n = true) : ∀ l ∈ n.links, inQ l = inF l := by
  intro l hl
  obtain ⟨_, h2, _, _⟩ := (okN_iff n).1 h
  unfold inQ inF
  rcases (h2 l hl).2.1 with e | e
  · rw [decide_eq_true e, decide_eq_true (show l.frm = -1 from congrArg Prod.fst e)]
  · obtain ⟨i, p, _, e1, _⟩ := mem_ports.1 e
    rw [decide_eq_false (fun q => out_ports (by rw [← q]; exact e)), decide_eq_false (by intro q; have : l.src.1 = -1 := q; omega)]
theorem outQ_eq {n : Net} (h : okN n = true) : ∀ l ∈ n.links, outQ l = outF l := by
  intro l hl
  obtain ⟨_, h2, _, _⟩ := (okN_iff n).1 h
  unfold outQ outF
  rcases (h2 l hl).2.2 with e | e
  · rw [decide_eq_true e, decide_eq_true (show l.to = -1 from congrArg Prod.fst e)]
  · obtain ⟨i, p, _, e1, _⟩ := mem_ports.1 e
    rw [decide_eq_false (fun q => out_ports (by rw [← q]; exact e)), decide_eq_false (by intro q; have : l.tgt.1 = -1 := q; omega)]
def inputsOfR0 (n : Net) : List Int := if okN n then idxL inQ 0 n.links else []
def outputsOfR0 (n : Net) : List Int := if okN n then idxL outQ 0 n.links else []
theorem inputsOf_len0 (n : Net) : (inputsOfR0 n).length ≤ 1000000 := by
  unfold inputsOfR0
  split
  · rename_i h
    have := idxL_le inQ 0 n.links
    have := (okN_len h).2.1
    omega
  · simp
theorem outputsOf_len0 (n : Net) : (outputsOfR0 n).length ≤ 1000000 := by
  unfold outputsOfR0
  split
  · rename_i h
    have := idxL_le outQ 0 n.links
    have := (okN_len h).2.1
    omega
  · simp

set_option maxRecDepth 100000 in
set_option maxHeartbeats 4000000 in
theorem ilinksinQ_any (v : Value) (n : Net) (w : World) (h : NetV w v n) :
    Calls Try.prog 131 #[v, .func (.func 115) #[] #[]] w fun e w' => ∃ r, e = .returned r ∧ Own w.heap.size w' r (inputsOfR0 n) ∧ Below w.heap.size w w' := by
  have CN := Lib.hid (fun (W : World) (hw : Below w.heap.size w W) => iisnet_any v n W (h.below hw))
  obtain ⟨R, hR⟩ : ∃ R, R = inputsOfR0 n := ⟨_, rfl⟩
  rw [← hR]
  obtain ⟨c, d, rfl, hp, hl⟩ := h
  have HL := Lib.hid hl
  obtain ⟨la, lcap, rfl⟩ := hl.shape
  obtain ⟨pa, pcap, rfl⟩ := hp.shape
  obtain ⟨m, hm⟩ : ∃ m, m = n.progs.length := ⟨_, rfl⟩
  obtain ⟨ll, hll⟩ : ∃ m, m = n.links.length := ⟨_, rfl⟩
  rw [← hm, ← hll] at CN ⊢
  rw [← hll] at HL
  have HM := Lib.hid hll
  clear hp hl hm
  have hb := Lib.hid ((Below.refl w.heap.size w).al (.cells #[.slice pa m pcap, .slice la ll lcap] 34))
  have hH := Lib.hid (hp1 w (.cells #[.slice pa m pcap, .slice la ll lcap] 34))
  obtain ⟨i0, hi, hz0, hz1, hz2⟩ := info_parts info
  cases ho : okN n with
  | false =>
    rw [ho] at CN
    have e1 : R = [] := by rw [hR]; unfold inputsOfR0; rw [ho]; rfl
    subst e1
    clear ho hR hll
    go_enter Try.func131, Try.ntmps131
    go_wp2_with (go_at_call 73; with_reducible refine (CN.out _ hb.out).mono ?_; rintro e w2 ⟨rfl, hb1⟩; have HB1 := Lib.hid (hb.out.trans (hb1.mono hb.out.size)); clear hb1)
    go_ret
    exact ⟨_, rfl, own_nil _ _, HB1.out⟩
  | true =>
    rw [ho] at CN
    have HR := Lib.hid (show R = idxL inQ 0 n.links by rw [hR]; unfold inputsOfR0; rw [ho]; rfl)
    have hl30 : ll ≤ 30 := by rw [hll]; exact (okN_len ho).2.1
    clear ho hR hll
    go_enter Try.func131, Try.ntmps131
    go_wp2_with (go_at_call 73; with_reducible refine (CN.out _ hb.out).mono ?_; rintro e w2 ⟨rfl, hb1⟩; have HB1 := Lib.hid (hb.out.trans (hb1.mono hb.out.size)); have G1 := Lib.hid (blk_in hH.out hb1); obtain ⟨k0, k1⟩ := cells2 G1.out; have gl := lt_of G1.out; clear hb1)
    go_loopw [5, 14] (fun o i wr => ∃ k : Nat, k ≤ ll ∧ i = .int .i64 k ∧ Hid (Own w.heap.size wr o (idxL inQ 0 (n.links.take k))) ∧ Hid (Below w.heap.size w wr)) (fun _ i _ => ll - (intOf i).toNat)
    case atStart => exact ⟨0, Nat.zero_le _, rfl, Lib.hid (own_nil _ _), HB1⟩
    case round =>
      clear k0 k1 gl
      obtain ⟨k, hk, rfl, HO, HB⟩ := hrel
      by_cases hlt : k < ll
      · obtain ⟨x, hx⟩ : ∃ x, n.links[k]? = some x := ⟨_, List.getElem?_eq_getElem (by rw [← HM.out]; exact hlt)⟩
        obtain ⟨lb, off, c, rfl, hbl, e0, e1, e2, e3, e4, e5⟩ := (HL.out.below HB.out).atb hx
        have HX := Lib.hid hx
        obtain ⟨xf, xo, xt, xi, xk⟩ := x
        simp only [] at e0 e1 e2 e3 e4 e5
        obtain ⟨ua, uc, rfl⟩ := e5.shape
        obtain ⟨ul, hul⟩ : ∃ z, z = xk.length := ⟨_, rfl⟩
        rw [← hul] at e4
        clear hul e5 hx
        obtain ⟨L, hL⟩ : ∃ L, L = idxL inQ 0 (n.links.take k) := ⟨_, rfl⟩
        rw [← hL] at HO
        have hLk : L.length ≤ k := by rw [hL]; exact idxL_take_le _ _ _
        have HLE := Lib.hid hL
        clear hL
        have CI := Lib.hid (fun W => iinput_any xf xo xt xi (.slice ua ul uc) W)
        cases hd : decide ((xf, xo) = outE) with
        | true =>
          rw [hd] at CI
          have HQ := Lib.hid (show inQ ⟨xf, xo, xt, xi, xk⟩ = true from hd)
          clear hd
          go_wp2_with (first | (go_at_call 115; with_reducible refine (CI.out _).mono ?_; rintro e W3 ⟨rfl, hb3⟩; have hc3 := cr_1 hb3; have HB3 := Lib.hid (HB.out.trans (hc3.mono HB.out.size)); have HL3 := Lib.hid (HO.out.below hc3); have hs3 := HB3.out.size; clear hb3 hc3) | (at_builtin; refine wpList_append_own_at _ rfl _ _ 46 rfl w.heap.size 3 i0 (.int .i64 0) 1 8 Try.underlying46 hi hz0 hz1 hz2 rfl (by decide) _ _ _ rfl (World.ownsRow.alloc HL3.out _) ⟨W3.heap.size, 0, none⟩ 1 1 [.int .i64 k] rfl rfl (one_src _ _) (one_one _) ?c3 ?c4 ?c5 ?_))
          case c3 => unfold maxLen; omega
          case c4 => omega
          case c5 => simp; omega
          intro v' w1 hown hgrow _ hat
          have HR2 := Lib.hid (app_rel HB3.out hs3 (Nat.le_refl _) HL3.out hown hgrow)
          clear hown hgrow hat
          go_wp2_with fail
          go_roundw
          case rel => exact ⟨k + 1, by omega, by go_num, Lib.hid (by rw [idxL_yes HX.out HQ.out, ← HLE.out]; exact HR2.out.1), Lib.hid HR2.out.2⟩
          case measure => simp [intOf]; omega
        | false =>
          rw [hd] at CI
          have HQ := Lib.hid (show inQ ⟨xf, xo, xt, xi, xk⟩ = false from hd)
          clear hd
          go_wp2_with (go_at_call 115; with_reducible refine (CI.out _).mono ?_; rintro e W3 ⟨rfl, hb3⟩; have hc3 := cr_1 hb3; have HB3 := Lib.hid (HB.out.trans (hc3.mono HB.out.size)); have HL3 := Lib.hid (HO.out.below hc3); clear hb3 hc3)
          go_roundw
          case rel => exact ⟨k + 1, by omega, by go_num, Lib.hid (by rw [idxL_no HX.out HQ.out, ← HLE.out]; exact HL3.out), HB3⟩
          case measure => simp [intOf]; omega
      · have e := Lib.hid (show idxL inQ 0 (n.links.take k) = R by rw [HR.out, List.take_of_length_le (by rw [← HM.out]; omega)])
        go_wp2_with fail
        go_ret
        exact ⟨_, rfl, by rw [← e.out]; exact HO.out, HB.out⟩

set_option maxRecDepth 100000 in
set_option maxHeartbeats 4000000 in
theorem ilinksoutQ_any (v : Value) (n : Net) (w : World) (h : NetV w v n) :
    Calls Try.prog 131 #[v, .func (.func 124) #[] #[]] w fun e w' => ∃ r, e = .returned r ∧ Own w.heap.size w' r (outputsOfR0 n) ∧ Below w.heap.size w w' := by
  have CN := Lib.hid (fun (W : World) (hw : Below w.heap.size w W) => iisnet_any v n W (h.below hw))
  obtain ⟨R, hR⟩ : ∃ R, R = outputsOfR0 n := ⟨_, rfl⟩
  rw [← hR]
  obtain ⟨c, d, rfl, hp, hl⟩ := h
  have HL := Lib.hid hl
  obtain ⟨la, lcap, rfl⟩ := hl.shape
  obtain ⟨pa, pcap, rfl⟩ := hp.shape
  obtain ⟨m, hm⟩ : ∃ m, m = n.progs.length := ⟨_, rfl⟩
  obtain ⟨ll, hll⟩ : ∃ m, m = n.links.length := ⟨_, rfl⟩
  rw [← hm, ← hll] at CN ⊢
  rw [← hll] at HL
  have HM := Lib.hid hll
  clear hp hl hm
  have hb := Lib.hid ((Below.refl w.heap.size w).al (.cells #[.slice pa m pcap, .slice la ll lcap] 34))
  have hH := Lib.hid (hp1 w (.cells #[.slice pa m pcap, .slice la ll lcap] 34))
  obtain ⟨i0, hi, hz0, hz1, hz2⟩ := info_parts info
  cases ho : okN n with
  | false =>
    rw [ho] at CN
    have e1 : R = [] := by rw [hR]; unfold outputsOfR0; rw [ho]; rfl
    subst e1
    clear ho hR hll
    go_enter Try.func131, Try.ntmps131
    go_wp2_with (go_at_call 73; with_reducible refine (CN.out _ hb.out).mono ?_; rintro e w2 ⟨rfl, hb1⟩; have HB1 := Lib.hid (hb.out.trans (hb1.mono hb.out.size)); clear hb1)
    go_ret
    exact ⟨_, rfl, own_nil _ _, HB1.out⟩
  | true =>
    rw [ho] at CN
    have HR := Lib.hid (show R = idxL outQ 0 n.links by rw [hR]; unfold outputsOfR0; rw [ho]; rfl)
    have hl30 : ll ≤ 30 := by rw [hll]; exact (okN_len ho).2.1
    clear ho hR hll
    go_enter Try.func131, Try.ntmps131
    go_wp2_with (go_at_call 73; with_reducible refine (CN.out _ hb.out).mono ?_; rintro e w2 ⟨rfl, hb1⟩; have HB1 := Lib.hid (hb.out.trans (hb1.mono hb.out.size)); have G1 := Lib.hid (blk_in hH.out hb1); obtain ⟨k0, k1⟩ := cells2 G1.out; have gl := lt_of G1.out; clear hb1)
    go_loopw [5, 14] (fun o i wr => ∃ k : Nat, k ≤ ll ∧ i = .int .i64 k ∧ Hid (Own w.heap.size wr o (idxL outQ 0 (n.links.take k))) ∧ Hid (Below w.heap.size w wr)) (fun _ i _ => ll - (intOf i).toNat)
    case atStart => exact ⟨0, Nat.zero_le _, rfl, Lib.hid (own_nil _ _), HB1⟩
    case round =>
      clear k0 k1 gl
      obtain ⟨k, hk, rfl, HO, HB⟩ := hrel
      by_cases hlt : k < ll
      · obtain ⟨x, hx⟩ : ∃ x, n.links[k]? = some x := ⟨_, List.getElem?_eq_getElem (by rw [← HM.out]; exact hlt)⟩
        obtain ⟨lb, off, c, rfl, hbl, e0, e1, e2, e3, e4, e5⟩ := (HL.out.below HB.out).atb hx
        have HX := Lib.hid hx
        obtain ⟨xf, xo, xt, xi, xk⟩ := x
        simp only [] at e0 e1 e2 e3 e4 e5
        obtain ⟨ua, uc, rfl⟩ := e5.shape
        obtain ⟨ul, hul⟩ : ∃ z, z = xk.length := ⟨_, rfl⟩
        rw [← hul] at e4
        clear hul e5 hx
        obtain ⟨L, hL⟩ : ∃ L, L = idxL outQ 0 (n.links.take k) := ⟨_, rfl⟩
        rw [← hL] at HO
        have hLk : L.length ≤ k := by rw [hL]; exact idxL_take_le _ _ _
        have HLE := Lib.hid hL
        clear hL
        have CI := Lib.hid (fun W => ioutput_any xf xo xt xi (.slice ua ul uc) W)
        cases hd : decide ((xt, xi) = outE) with
        | true =>
          rw [hd] at CI
          have HQ := Lib.hid (show outQ ⟨xf, xo, xt, xi, xk⟩ = true from hd)
          clear hd
          go_wp2_with (first | (go_at_call 124; with_reducible refine (CI.out _).mono ?_; rintro e W3 ⟨rfl, hb3⟩; have hc3 := cr_1 hb3; have HB3 := Lib.hid (HB.out.trans (hc3.mono HB.out.size)); have HL3 := Lib.hid (HO.out.below hc3); have hs3 := HB3.out.size; clear hb3 hc3) | (at_builtin; refine wpList_append_own_at _ rfl _ _ 46 rfl w.heap.size 3 i0 (.int .i64 0) 1 8 Try.underlying46 hi hz0 hz1 hz2 rfl (by decide) _ _ _ rfl (World.ownsRow.alloc HL3.out _) ⟨W3.heap.size, 0, none⟩ 1 1 [.int .i64 k] rfl rfl (one_src _ _) (one_one _) ?c3 ?c4 ?c5 ?_))
          case c3 => unfold maxLen; omega
          case c4 => omega
          case c5 => simp; omega
          intro v' w1 hown hgrow _ hat
          have HR2 := Lib.hid (app_rel HB3.out hs3 (Nat.le_refl _) HL3.out hown hgrow)
          clear hown hgrow hat
          go_wp2_with fail
          go_roundw
          case rel => exact ⟨k + 1, by omega, by go_num, Lib.hid (by rw [idxL_yes HX.out HQ.out, ← HLE.out]; exact HR2.out.1), Lib.hid HR2.out.2⟩
          case measure => simp [intOf]; omega
        | false =>
          rw [hd] at CI
          have HQ := Lib.hid (show outQ ⟨xf, xo, xt, xi, xk⟩ = false from hd)
          clear hd
          go_wp2_with (go_at_call 124; with_reducible refine (CI.out _).mono ?_; rintro e W3 ⟨rfl, hb3⟩; have hc3 := cr_1 hb3; have HB3 := Lib.hid (HB.out.trans (hc3.mono HB.out.size)); have HL3 := Lib.hid (HO.out.below hc3); clear hb3 hc3)
          go_roundw
          case rel => exact ⟨k + 1, by omega, by go_num, Lib.hid (by rw [idxL_no HX.out HQ.out, ← HLE.out]; exact HL3.out), HB3⟩
          case measure => simp [intOf]; omega
      · have e := Lib.hid (show idxL outQ 0 (n.links.take k) = R by rw [HR.out, List.take_of_length_le (by rw [← HM.out]; omega)])
        go_wp2_with fail
        go_ret
        exact ⟨_, rfl, by rw [← e.out]; exact HO.out, HB.out⟩

set_option maxHeartbeats 800000 in
theorem ioutputsOf_any (v : Value) (n : Net) (w : World) (h : NetV w v n) :
    Calls Try.prog 75 #[v] w fun e w' => ∃ r, e = .returned r ∧ Own w.heap.size w' r (outputsOfR0 n) ∧ Below w.heap.size w w' := by
  have CA := Lib.hid (fun (W : World) (hw : Below w.heap.size w W) => ilinksoutQ_any v n W (h.below hw))
  obtain ⟨c, d, rfl, hp, hl⟩ := h
  obtain ⟨la, lcap, rfl⟩ := hl.shape
  obtain ⟨pa, pcap, rfl⟩ := hp.shape
  obtain ⟨m, hm⟩ : ∃ m, m = n.progs.length := ⟨_, rfl⟩
  obtain ⟨ll, hll⟩ : ∃ m, m = n.links.length := ⟨_, rfl⟩
  rw [← hm, ← hll] at CA ⊢
  clear hp hl hm hll
  have hb := Lib.hid ((Below.refl w.heap.size w).al (.cells #[.slice pa m pcap, .slice la ll lcap] 34))
  go_enter Try.func75, Try.ntmps75
  go_wp2_with (go_at_call 131; with_reducible refine (CA.out _ hb.out).mono ?_; rintro e w2 ⟨r, rfl, ho1, hb1⟩; have HB1 := Lib.hid (hb.out.trans (hb1.mono hb.out.size)); have HO1 := Lib.hid (Own.mono (lo' := w.heap.size) ho1 hb.out.size); clear hb1 ho1)
  go_ret
  exact ⟨_, rfl, HO1.out, HB1.out⟩

end Go.Proofs.Ytjphamgkigekkaa
