/-
  What portsOf leaves, of both counts. No statement of the seat is proved here.
-/
import Derived.Test.YtjphamgkigekkaaNetW
import Derived.Maps.AppendAt
namespace Go.Proofs.Ytjphamgkigekkaa
open Go.RowKit

def cellsE (es : List End) : List Value := es.flatMap fun e => [.int .i64 e.1, .int .i64 e.2]
theorem cellsE_nil : cellsE [] = [] := rfl
theorem cellsE_cons (x : End) (xs : List End) : cellsE (x :: xs) = .int .i64 x.1 :: .int .i64 x.2 :: cellsE xs := by simp [cellsE]
theorem cellsE_app (xs ys : List End) : cellsE (xs ++ ys) = cellsE xs ++ cellsE ys := by simp [cellsE]
theorem cellsE_one (x : End) : cellsE [x] = [.int .i64 x.1, .int .i64 x.2] := rfl
theorem cellsE_len : ∀ es : List End, (cellsE es).length = es.length * 2
  | [] => rfl
  | x :: xs => by rw [cellsE_cons]; simp [cellsE_len xs]; omega
theorem cellsE_at : ∀ (es : List End) (k : Nat) (x : End), es[k]? = some x → (cellsE es)[k * 2]? = some (.int .i64 x.1) ∧ (cellsE es)[k * 2 + 1]? = some (.int .i64 x.2)
  | [], k, x, h => by simp at h
  | y :: ys, 0, x, h => by
    simp at h; subst h; rw [cellsE_cons]; simp
  | y :: ys, k + 1, x, h => by
    have := cellsE_at ys k x (by simpa using h)
    rw [cellsE_cons, show (k + 1) * 2 = k * 2 + 2 by omega]
    simpa using this
/-- 'v' is a slice of ends of the call's own. -/
def OwnE (lo : Nat) (w : World) (v : Value) (es : List End) : Prop := w.ownsRow lo 119 2 v es.length (cellsE es)
theorem OwnE.below {lo : Nat} {w w' : World} {v : Value} {xs : List End} (h : OwnE lo w v xs) (hb : Below w.heap.size w w') : OwnE lo w' v xs := row_below h hb
theorem OwnE.mono {lo lo' : Nat} {w : World} {v : Value} {xs : List End} (h : OwnE lo w v xs) (hl : lo' ≤ lo) : OwnE lo' w v xs := row_mono h hl
theorem OwnE.kept {lo : Nat} {w w' : World} {v u : Value} {xs : List End} (h : OwnE lo w v xs) (hg : w.grownBy w' u.ownBlock) (ha : Apart v u) : OwnE lo w' v xs := World.ownsRow.kept h hg ha
theorem OwnE.lt {lo : Nat} {w : World} {v : Value} {xs : List End} (h : OwnE lo w v xs) : ∀ k, v.ownBlock = some k → lo ≤ k ∧ k < w.heap.size := World.ownsRow.lt h
theorem ownE_nil (lo : Nat) (w : World) : OwnE lo w (.slice none 0 0) [] := World.ownsRow_nil w lo _ _
theorem OwnE.shape {lo : Nat} {w : World} {v : Value} {xs : List End} (h : OwnE lo w v xs) : ∃ a c, v = .slice a xs.length c := by
  rcases h.2 with ⟨rfl, hn⟩ | ⟨g, cap, cur, rfl, _⟩
  · exact ⟨none, 0, by rw [hn]⟩
  · exact ⟨_, _, rfl⟩
theorem OwnE.at {lo : Nat} {w : World} {v : Value} {xs : List End} (h : OwnE lo w v xs) {k : Nat} {x : End} (hx : xs[k]? = some x) :
    ∃ g cap, v = .slice (some ⟨g, 0, none⟩) xs.length cap ∧ g < w.heap.size ∧ w.cell? ⟨g, k * 2, none⟩ = some (.int .i64 x.1) ∧ w.cell? ⟨g, k * 2 + 1, none⟩ = some (.int .i64 x.2) := by
  have hk := (List.getElem?_eq_some_iff.1 hx).1
  rcases h.2 with ⟨rfl, hn⟩ | ⟨g, cap, cur, rfl, hlo, hg, hnc, hcm, hcs, htake⟩
  · omega
  · have H : w.ownsRow lo 119 2 (.slice (some ⟨g, 0, none⟩) xs.length cap) xs.length (cellsE xs) := h
    obtain ⟨c0, c1⟩ := cellsE_at xs k x hx
    exact ⟨g, cap, rfl, (Array.getElem?_eq_some_iff.1 hg).1, (H.cellAt _ (by omega)).trans c0, (H.cellAt _ (by omega)).trans c1⟩
theorem infoE : (Try.prog.info? 119).map (fun i => (i.zero, i.size, i.bytes)) = some (some (.agg #[.int .i64 0, .int .i64 0]), 2, 16) := by kernel_rfl
theorem infoE_parts : ∃ i0, Try.prog.info? 119 = some i0 ∧ i0.zero = some (.agg #[.int .i64 0, .int .i64 0]) ∧ i0.size = 2 ∧ i0.bytes = 16 := by
  have h := infoE
  cases e : Try.prog.info? 119 with
  | none => rw [e] at h; cases h
  | some i =>
    rw [e] at h
    simp only [Option.map_some, Option.some.injEq, Prod.mk.injEq] at h
    exact ⟨i, rfl, h.1, h.2.1, h.2.2⟩

theorem two_new (w : World) (a b : Value) (T : Nat) : ∀ (q : Nat) (u : Value), [a, b][q]? = some u → (w.alloc (.cells #[a, b] T)).cell? (Addr.add ⟨w.heap.size, 0, none⟩ q) = some u := by
  intro q u hq
  match q with
  | 0 => simp at hq; subst hq; simp [Addr.add]
  | 1 => simp at hq; subst hq; simp [Addr.add]
  | q + 2 => simp at hq
theorem two_one (a b : Int) : ∀ u ∈ [Value.int .i64 a, .int .i64 b], u.oneCell' = true := by
  intro u hu
  simp at hu
  rcases hu with rfl | rfl <;> rfl
theorem ownE_snoc {lo : Nat} {w : World} {v : Value} {L : List End} {e : End} (h : w.ownsRow lo 119 2 v (L.length + 1) (cellsE L ++ [.int .i64 e.1, .int .i64 e.2])) : OwnE lo w v (L ++ [e]) := by
  unfold OwnE
  rw [List.length_append, cellsE_app, cellsE_one]
  exact h
theorem portsFrom_app (f : Prg → Int) : ∀ (s : Nat) (ps : List Prg) (p : Prg), portsFrom f s (ps ++ [p]) = portsFrom f s ps ++ (List.range (f p).toNat).map fun (j : Nat) => (((s + ps.length : Nat) : Int), (j : Int))
  | s, [], p => by simp [portsFrom]
  | s, q :: ps, p => by
    rw [List.cons_append, portsFrom, portsFrom, portsFrom_app f (s + 1) ps p, List.append_assoc, List.length_cons, show s + 1 + ps.length = s + (ps.length + 1) by omega]
theorem portsFrom_step {f : Prg → Int} {ps : List Prg} {k : Nat} {p : Prg} (hx : ps[k]? = some p) : portsFrom f 0 (ps.take (k + 1)) = portsFrom f 0 (ps.take k) ++ (List.range (f p).toNat).map fun (j : Nat) => ((k : Int), (j : Int)) := by
  have hk := (List.getElem?_eq_some_iff.1 hx).1
  rw [List.take_succ_eq_append_getElem hk, (List.getElem?_eq_some_iff.1 hx).2, portsFrom_app, List.length_take, Nat.zero_add, Nat.min_eq_left (Nat.le_of_lt hk)]
theorem portsFrom_len {f : Prg → Int} (hf : ∀ p, okP p = true → f p ≤ 3) : ∀ (s : Nat) (ps : List Prg), ps.all okP = true → (portsFrom f s ps).length ≤ 3 * ps.length
  | _, [], _ => by simp [portsFrom]
  | s, p :: ps, h => by
    rw [List.all_cons, Bool.and_eq_true] at h
    have := portsFrom_len hf (s + 1) ps h.2
    have := hf p h.1
    rw [portsFrom, List.length_append, List.length_map, List.length_range, List.length_cons]
    omega
theorem okP_outs {p : Prg} (h : okP p = true) : 0 ≤ p.outs ∧ p.outs ≤ 3 := (okP_parts h).1.2.1
theorem okP_ins {p : Prg} (h : okP p = true) : 0 ≤ p.ins ∧ p.ins ≤ 3 := (okP_parts h).1.1
theorem headL_parts {n : Net} (h : headL n = true) : n.progs.length ≤ 12 ∧ n.links.length ≤ 30 ∧ n.progs.all okP = true := by
  unfold headL at h
  rw [Bool.and_eq_true] at h
  have := of_decide_eq_true h.1
  exact ⟨this.1, this.2, h.2⟩
theorem all_take {α : Type} {q : α → Bool} {xs : List α} (h : xs.all q = true) (k : Nat) : (xs.take k).all q = true :=
  List.all_eq_true.2 fun x hx => List.all_eq_true.1 h x (List.mem_of_mem_take hx)
theorem all_get {α : Type} {q : α → Bool} {xs : List α} {k : Nat} {x : α} (h : xs.all q = true) (hx : xs[k]? = some x) : q x = true := List.all_eq_true.1 h x (List.mem_of_getElem? hx)
theorem range_step (k j : Nat) : ((List.range (j + 1)).map fun (j : Nat) => ((k : Int), (j : Int))) = ((List.range j).map fun (j : Nat) => ((k : Int), (j : Int))) ++ [((k : Int), (j : Int))] := by
  rw [List.range_succ, List.map_append]; rfl

set_option maxRecDepth 100000 in
set_option maxHeartbeats 4000000 in
theorem iports_outs (v : Value) (n : Net) (w : World) (h : NetV w v n) (hh : headL n = true) :
    Calls Try.prog 126 #[v, .func (.func 127) #[] #[]] w fun e w' => ∃ v', e = .returned v' ∧ OwnE w.heap.size w' v' (ports Prg.outs n.progs) ∧ Below w.heap.size w w' := by
  obtain ⟨c, d, rfl, hp, hl⟩ := h
  obtain ⟨ps, ls⟩ := n
  simp only [] at hp hl ⊢
  obtain ⟨hp12, _, hall⟩ := headL_parts hh
  simp only [] at hp12 hall
  clear hl hh
  have HP := Lib.hid hp
  have HALL := Lib.hid hall
  obtain ⟨pa, pcap, rfl, _, _, _, hrest⟩ := hp
  obtain ⟨m, hm⟩ : ∃ m, m = ps.length := ⟨_, rfl⟩
  rw [← hm] at hp12 ⊢
  have HM := Lib.hid hm
  clear hm hall
  obtain ⟨i0, hi, hz0, hz1, hz2⟩ := infoE_parts
  have hb := Lib.hid ((Below.refl w.heap.size w).al (.cells #[.slice pa m pcap, d] 34))
  go_enter Try.func126, Try.ntmps126
  go_wp2_with fail
  go_loopw [5, 12] (fun o i wr => ∃ k : Nat, k ≤ m ∧ i = .int .i64 k ∧ Hid (OwnE w.heap.size wr o (portsFrom Prg.outs 0 (ps.take k))) ∧ Hid (Below w.heap.size w wr)) (fun _ i _ => m - (intOf i).toNat)
  case atStart => exact ⟨0, Nat.zero_le _, rfl, Lib.hid (ownE_nil _ _), Lib.hid hb.out⟩
  case round =>
    obtain ⟨k, hk, rfl, HO, HB⟩ := hrel
    by_cases hlt : k < m
    · rcases hrest with rfl | ⟨b, off, rfl, hbl, hcell⟩
      · exact absurd hlt (by have := HM.out; simp at this; omega)
      · obtain ⟨x, hx⟩ : ∃ x, ps[k]? = some x := ⟨_, List.getElem?_eq_getElem (by rw [← HM.out]; exact hlt)⟩
        obtain ⟨u, e0, e1, e2, e3⟩ := hcell k x hx
        obtain ⟨ua, uc, e4⟩ := e3.shape
        obtain ⟨ul, hul⟩ : ∃ z, z = x.code.length := ⟨_, rfl⟩
        rw [← hul] at e4
        subst e4
        have c0 := (HB.out.cell (p := ⟨b, off + k * 3, none⟩) hbl).trans e0
        have c1 := (HB.out.cell (p := ⟨b, off + k * 3 + 1, none⟩) hbl).trans e1
        have c2 := (HB.out.cell (p := ⟨b, off + k * 3 + 2, none⟩) hbl).trans e2
        have hbl2 : b < wr.heap.size := Nat.lt_of_lt_of_le hbl HB.out.size
        have hq := okP_outs (all_get HALL.out hx)
        have HX := Lib.hid hx
        have hHB := Lib.hid (Below.refl wr.heap.size wr |>.al (.cells #[.int .i64 x.ins, .int .i64 x.outs, .slice ua ul uc] 86))
        have hlen0 := Lib.hid (portsFrom_len (fun p hp => (okP_outs hp).2) 0 (ps.take k) (all_take HALL.out k))
        clear hx hcell e0 e1 e2 e3 hul
        obtain ⟨pi, po, pc⟩ := x
        simp only [] at c0 c1 c2 hq hHB
        obtain ⟨q, hqq⟩ : ∃ q : Nat, po = q := ⟨(po).toNat, by omega⟩
        subst hqq
        go_wp2_with (go_at_call 127; refine (ioutsOf_any _ _ _ _).mono ?_; rintro e w2 ⟨rfl, hb1⟩; have HB1 := Lib.hid hb1; clear hb1)
        have HO2 := Lib.hid (HO.out.below ((((Below.refl _ _).al _).trans (HB1.out.mono (by simp)))))
        have HB2 := Lib.hid (HB.out.trans (((((Below.refl _ _).al _).trans (HB1.out.mono (by simp)))).mono HB.out.size))
        go_loopw [5, 20] (fun o i wr => ∃ j : Nat, j ≤ q ∧ i = .int .i64 j ∧ Hid (OwnE w.heap.size wr o (portsFrom Prg.outs 0 (ps.take k) ++ (List.range j).map fun (j : Nat) => ((k : Int), (j : Int)))) ∧ Hid (Below w.heap.size w wr)) (fun _ i _ => q - (intOf i).toNat)
        case atStart => exact ⟨0, Nat.zero_le _, rfl, Lib.hid (by simpa using HO2.out), Lib.hid HB2.out⟩
        case round =>
          obtain ⟨j, hj, rfl, HI, HJ⟩ := hrel
          by_cases hjl : j < q
          · obtain ⟨L, hL⟩ : ∃ L, L = portsFrom Prg.outs 0 (ps.take k) ++ (List.range j).map fun (j : Nat) => ((k : Int), (j : Int)) := ⟨_, rfl⟩
            have HL := Lib.hid hL
            rw [← hL] at HI
            have hLl : L.length ≤ 40 := by
              have := hlen0.out
              rw [hL, List.length_append, List.length_map, List.length_range]
              rw [List.length_take] at this
              omega
            clear hL
            go_wp2_with (at_builtin; refine wpList_append_own_at _ rfl _ _ 137 rfl w.heap.size 119 i0 (.agg #[.int .i64 0, .int .i64 0]) 2 16 Try.underlying137 hi hz0 hz1 hz2 rfl (by decide) _ _ _ rfl (World.ownsRow.alloc HI.out _) ⟨_, 0, none⟩ 1 1 [.int .i64 k, .int .i64 j] rfl rfl ?c0 ?c1 ?c3 ?c4 ?c5 ?_)
            case c0 => exact two_new _ _ _ _
            case c1 => exact two_one _ _
            case c3 => unfold maxLen; omega
            case c4 => omega
            case c5 => have := HJ.out.size; simp; omega
            intro v' w4 hown hgrow _ _
            have hB4 := Lib.hid ((HJ.out.al (.cells #[.int .i64 k, .int .i64 j] 119)).grown hgrow (by have := HJ.out.size; simp; omega) (fun q e => (HI.out.lt q e).1))
            have hO4 := Lib.hid (ownE_snoc (e := ((k : Int), (j : Int))) hown)
            clear hown hgrow hLl
            go_wp2_with fail
            go_roundw
            case rel => exact ⟨j + 1, by omega, by go_num, Lib.hid (by have := hO4.out; rwa [HL.out, List.append_assoc, ← range_step] at this), Lib.hid hB4.out⟩
            case measure => simp [intOf]; omega
          · go_wp2_with fail
            go_roundw
            case rel => exact ⟨k + 1, by omega, by go_num, Lib.hid (by
              have := HI.out
              rw [show j = q by omega] at this
              rw [portsFrom_step HX.out]
              simpa using this), Lib.hid HJ.out⟩
            case measure => simp [intOf]; omega
    · go_wp2_with fail
      go_ret
      refine ⟨_, rfl, ?_, HB.out⟩
      have := HO.out
      rwa [List.take_of_length_le (by rw [← HM.out]; omega)] at this

set_option maxRecDepth 100000 in
set_option maxHeartbeats 4000000 in
theorem iports_ins (v : Value) (n : Net) (w : World) (h : NetV w v n) (hh : headL n = true) :
    Calls Try.prog 126 #[v, .func (.func 128) #[] #[]] w fun e w' => ∃ v', e = .returned v' ∧ OwnE w.heap.size w' v' (ports Prg.ins n.progs) ∧ Below w.heap.size w w' := by
  obtain ⟨c, d, rfl, hp, hl⟩ := h
  obtain ⟨ps, ls⟩ := n
  simp only [] at hp hl ⊢
  obtain ⟨hp12, _, hall⟩ := headL_parts hh
  simp only [] at hp12 hall
  clear hl hh
  have HP := Lib.hid hp
  have HALL := Lib.hid hall
  obtain ⟨pa, pcap, rfl, _, _, _, hrest⟩ := hp
  obtain ⟨m, hm⟩ : ∃ m, m = ps.length := ⟨_, rfl⟩
  rw [← hm] at hp12 ⊢
  have HM := Lib.hid hm
  clear hm hall
  obtain ⟨i0, hi, hz0, hz1, hz2⟩ := infoE_parts
  have hb := Lib.hid ((Below.refl w.heap.size w).al (.cells #[.slice pa m pcap, d] 34))
  go_enter Try.func126, Try.ntmps126
  go_wp2_with fail
  go_loopw [5, 12] (fun o i wr => ∃ k : Nat, k ≤ m ∧ i = .int .i64 k ∧ Hid (OwnE w.heap.size wr o (portsFrom Prg.ins 0 (ps.take k))) ∧ Hid (Below w.heap.size w wr)) (fun _ i _ => m - (intOf i).toNat)
  case atStart => exact ⟨0, Nat.zero_le _, rfl, Lib.hid (ownE_nil _ _), Lib.hid hb.out⟩
  case round =>
    obtain ⟨k, hk, rfl, HO, HB⟩ := hrel
    by_cases hlt : k < m
    · rcases hrest with rfl | ⟨b, off, rfl, hbl, hcell⟩
      · exact absurd hlt (by have := HM.out; simp at this; omega)
      · obtain ⟨x, hx⟩ : ∃ x, ps[k]? = some x := ⟨_, List.getElem?_eq_getElem (by rw [← HM.out]; exact hlt)⟩
        obtain ⟨u, e0, e1, e2, e3⟩ := hcell k x hx
        obtain ⟨ua, uc, e4⟩ := e3.shape
        obtain ⟨ul, hul⟩ : ∃ z, z = x.code.length := ⟨_, rfl⟩
        rw [← hul] at e4
        subst e4
        have c0 := (HB.out.cell (p := ⟨b, off + k * 3, none⟩) hbl).trans e0
        have c1 := (HB.out.cell (p := ⟨b, off + k * 3 + 1, none⟩) hbl).trans e1
        have c2 := (HB.out.cell (p := ⟨b, off + k * 3 + 2, none⟩) hbl).trans e2
        have hbl2 : b < wr.heap.size := Nat.lt_of_lt_of_le hbl HB.out.size
        have hq := okP_ins (all_get HALL.out hx)
        have HX := Lib.hid hx
        have hHB := Lib.hid (Below.refl wr.heap.size wr |>.al (.cells #[.int .i64 x.ins, .int .i64 x.outs, .slice ua ul uc] 86))
        have hlen0 := Lib.hid (portsFrom_len (fun p hp => (okP_ins hp).2) 0 (ps.take k) (all_take HALL.out k))
        clear hx hcell e0 e1 e2 e3 hul
        obtain ⟨pi, po, pc⟩ := x
        simp only [] at c0 c1 c2 hq hHB
        obtain ⟨q, hqq⟩ : ∃ q : Nat, pi = q := ⟨(pi).toNat, by omega⟩
        subst hqq
        go_wp2_with (go_at_call 128; refine (iinsOf_any _ _ _ _).mono ?_; rintro e w2 ⟨rfl, hb1⟩; have HB1 := Lib.hid hb1; clear hb1)
        have HO2 := Lib.hid (HO.out.below ((((Below.refl _ _).al _).trans (HB1.out.mono (by simp)))))
        have HB2 := Lib.hid (HB.out.trans (((((Below.refl _ _).al _).trans (HB1.out.mono (by simp)))).mono HB.out.size))
        go_loopw [5, 20] (fun o i wr => ∃ j : Nat, j ≤ q ∧ i = .int .i64 j ∧ Hid (OwnE w.heap.size wr o (portsFrom Prg.ins 0 (ps.take k) ++ (List.range j).map fun (j : Nat) => ((k : Int), (j : Int)))) ∧ Hid (Below w.heap.size w wr)) (fun _ i _ => q - (intOf i).toNat)
        case atStart => exact ⟨0, Nat.zero_le _, rfl, Lib.hid (by simpa using HO2.out), Lib.hid HB2.out⟩
        case round =>
          obtain ⟨j, hj, rfl, HI, HJ⟩ := hrel
          by_cases hjl : j < q
          · obtain ⟨L, hL⟩ : ∃ L, L = portsFrom Prg.ins 0 (ps.take k) ++ (List.range j).map fun (j : Nat) => ((k : Int), (j : Int)) := ⟨_, rfl⟩
            have HL := Lib.hid hL
            rw [← hL] at HI
            have hLl : L.length ≤ 40 := by
              have := hlen0.out
              rw [hL, List.length_append, List.length_map, List.length_range]
              rw [List.length_take] at this
              omega
            clear hL
            go_wp2_with (at_builtin; refine wpList_append_own_at _ rfl _ _ 137 rfl w.heap.size 119 i0 (.agg #[.int .i64 0, .int .i64 0]) 2 16 Try.underlying137 hi hz0 hz1 hz2 rfl (by decide) _ _ _ rfl (World.ownsRow.alloc HI.out _) ⟨_, 0, none⟩ 1 1 [.int .i64 k, .int .i64 j] rfl rfl ?c0 ?c1 ?c3 ?c4 ?c5 ?_)
            case c0 => exact two_new _ _ _ _
            case c1 => exact two_one _ _
            case c3 => unfold maxLen; omega
            case c4 => omega
            case c5 => have := HJ.out.size; simp; omega
            intro v' w4 hown hgrow _ _
            have hB4 := Lib.hid ((HJ.out.al (.cells #[.int .i64 k, .int .i64 j] 119)).grown hgrow (by have := HJ.out.size; simp; omega) (fun q e => (HI.out.lt q e).1))
            have hO4 := Lib.hid (ownE_snoc (e := ((k : Int), (j : Int))) hown)
            clear hown hgrow hLl
            go_wp2_with fail
            go_roundw
            case rel => exact ⟨j + 1, by omega, by go_num, Lib.hid (by have := hO4.out; rwa [HL.out, List.append_assoc, ← range_step] at this), Lib.hid hB4.out⟩
            case measure => simp [intOf]; omega
          · go_wp2_with fail
            go_roundw
            case rel => exact ⟨k + 1, by omega, by go_num, Lib.hid (by
              have := HI.out
              rw [show j = q by omega] at this
              rw [portsFrom_step HX.out]
              simpa using this), Lib.hid HJ.out⟩
            case measure => simp [intOf]; omega
    · go_wp2_with fail
      go_ret
      refine ⟨_, rfl, ?_, HB.out⟩
      have := HO.out
      rwa [List.take_of_length_le (by rw [← HM.out]; omega)] at this
end Go.Proofs.Ytjphamgkigekkaa
