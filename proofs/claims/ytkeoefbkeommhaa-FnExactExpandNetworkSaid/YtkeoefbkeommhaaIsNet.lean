/-
  What portsOf leaves, of both counts. No statement of the seat is proved here.
  What eachOnce answers. No statement of the seat is proved here.
  What the program's IsNetwork answers. No statement of the seat is proved here.
-/
import Derived.Test.YtkeoefbkeommhaaNetA
import Derived.Maps.AppendAt
import Derived.Carry
namespace Go.Proofs.Ytkeoefbkeommhaa
open Go.RowKit

def cellsE (es : List End) : List Value := es.flatMap fun e => [.int .i64 e.1, .int .i64 e.2]
theorem cellsE_nil : cellsE [] = [] := rfl
theorem cellsE_cons (x : End) (xs : List End) : cellsE (x :: xs) = .int .i64 x.1 :: .int .i64 x.2 :: cellsE xs := by simp [cellsE]
theorem cellsE_app (xs ys : List End) : cellsE (xs ++ ys) = cellsE xs ++ cellsE ys := by simp [cellsE]
theorem cellsE_one (x : End) : cellsE [x] = [.int .i64 x.1, .int .i64 x.2] := rfl
theorem cellsE_len : ∀ es : List End, (cellsE es).length = es.length * 2
  | [] => rfl
  | x :: xs => by rw [cellsE_cons]; simp [cellsE_len xs]; omega
theorem cellsE_at : ∀ (es : List End) (k : Nat) (x : End), es[k]? = some x → (cellsE es)[k * 2]? = some (.int .i64 x.1) ∧ (cellsE es)[k * 2 + 1]? = some (.int .i64 x.2)
  | [], k, x, h => by simp at h
  | y :: ys, 0, x, h => by
    simp at h; subst h; rw [cellsE_cons]; simp
  | y :: ys, k + 1, x, h => by
    have := cellsE_at ys k x (by simpa using h)
    rw [cellsE_cons, show (k + 1) * 2 = k * 2 + 2 by omega]
    simpa using this
/-- 'v' is a slice of ends of the call's own. -/
def OwnE (lo : Nat) (w : World) (v : Value) (es : List End) : Prop := w.ownsRow lo 133 2 v es.length (cellsE es)
theorem OwnE.below {lo : Nat} {w w' : World} {v : Value} {xs : List End} (h : OwnE lo w v xs) (hb : Below w.heap.size w w') : OwnE lo w' v xs := row_below h hb
theorem OwnE.mono {lo lo' : Nat} {w : World} {v : Value} {xs : List End} (h : OwnE lo w v xs) (hl : lo' ≤ lo) : OwnE lo' w v xs := row_mono h hl
theorem OwnE.kept {lo : Nat} {w w' : World} {v u : Value} {xs : List End} (h : OwnE lo w v xs) (hg : w.grownBy w' u.ownBlock) (ha : Apart v u) : OwnE lo w' v xs := World.ownsRow.kept h hg ha
theorem OwnE.lt {lo : Nat} {w : World} {v : Value} {xs : List End} (h : OwnE lo w v xs) : ∀ k, v.ownBlock = some k → lo ≤ k ∧ k < w.heap.size := World.ownsRow.lt h
theorem ownE_nil (lo : Nat) (w : World) : OwnE lo w (.slice none 0 0) [] := World.ownsRow_nil w lo _ _
theorem OwnE.shape {lo : Nat} {w : World} {v : Value} {xs : List End} (h : OwnE lo w v xs) : ∃ a c, v = .slice a xs.length c := by
  rcases h.2 with ⟨rfl, hn⟩ | ⟨g, cap, cur, rfl, _⟩
  · exact ⟨none, 0, by rw [hn]⟩
  · exact ⟨_, _, rfl⟩
theorem OwnE.at {lo : Nat} {w : World} {v : Value} {xs : List End} (h : OwnE lo w v xs) {k : Nat} {x : End} (hx : xs[k]? = some x) :
    ∃ g cap, v = .slice (some ⟨g, 0, none⟩) xs.length cap ∧ g < w.heap.size ∧ w.cell? ⟨g, k * 2, none⟩ = some (.int .i64 x.1) ∧ w.cell? ⟨g, k * 2 + 1, none⟩ = some (.int .i64 x.2) := by
  have hk := (List.getElem?_eq_some_iff.1 hx).1
  rcases h.2 with ⟨rfl, hn⟩ | ⟨g, cap, cur, rfl, hlo, hg, hnc, hcm, hcs, htake⟩
  · omega
  · have H : w.ownsRow lo 133 2 (.slice (some ⟨g, 0, none⟩) xs.length cap) xs.length (cellsE xs) := h
    obtain ⟨c0, c1⟩ := cellsE_at xs k x hx
    exact ⟨g, cap, rfl, (Array.getElem?_eq_some_iff.1 hg).1, (H.cellAt _ (by omega)).trans c0, (H.cellAt _ (by omega)).trans c1⟩
theorem infoE : (Try.prog.info? 133).map (fun i => (i.zero, i.size, i.bytes)) = some (some (.agg #[.int .i64 0, .int .i64 0]), 2, 16) := by kernel_rfl
theorem infoE_parts : ∃ i0, Try.prog.info? 133 = some i0 ∧ i0.zero = some (.agg #[.int .i64 0, .int .i64 0]) ∧ i0.size = 2 ∧ i0.bytes = 16 := by
  have h := infoE
  cases e : Try.prog.info? 133 with
  | none => rw [e] at h; cases h
  | some i =>
    rw [e] at h
    simp only [Option.map_some, Option.some.injEq, Prod.mk.injEq] at h
    exact ⟨i, rfl, h.1, h.2.1, h.2.2⟩

theorem two_new (w : World) (a b : Value) (T : Nat) : ∀ (q : Nat) (u : Value), [a, b][q]? = some u → (w.alloc (.cells #[a, b] T)).cell? (Addr.add ⟨w.heap.size, 0, none⟩ q) = some u := by
  intro q u hq
  match q with
  | 0 => simp at hq; subst hq; simp [Addr.add]
  | 1 => simp at hq; subst hq; simp [Addr.add]
  | q + 2 => simp at hq
theorem two_one (a b : Int) : ∀ u ∈ [Value.int .i64 a, .int .i64 b], u.oneCell' = true := by
  intro u hu
  simp at hu
  rcases hu with rfl | rfl <;> rfl
theorem ownE_snoc {lo : Nat} {w : World} {v : Value} {L : List End} {e : End} (h : w.ownsRow lo 133 2 v (L.length + 1) (cellsE L ++ [.int .i64 e.1, .int .i64 e.2])) : OwnE lo w v (L ++ [e]) := by
  unfold OwnE
  rw [List.length_append, cellsE_app, cellsE_one]
  exact h
theorem portsFrom_app (f : Prg → Int) : ∀ (s : Nat) (ps : List Prg) (p : Prg), portsFrom f s (ps ++ [p]) = portsFrom f s ps ++ (List.range (f p).toNat).map fun (j : Nat) => (((s + ps.length : Nat) : Int), (j : Int))
  | s, [], p => by simp [portsFrom]
  | s, q :: ps, p => by
    rw [List.cons_append, portsFrom, portsFrom, portsFrom_app f (s + 1) ps p, List.append_assoc, List.length_cons, show s + 1 + ps.length = s + (ps.length + 1) by omega]
theorem portsFrom_step {f : Prg → Int} {ps : List Prg} {k : Nat} {p : Prg} (hx : ps[k]? = some p) : portsFrom f 0 (ps.take (k + 1)) = portsFrom f 0 (ps.take k) ++ (List.range (f p).toNat).map fun (j : Nat) => ((k : Int), (j : Int)) := by
  have hk := (List.getElem?_eq_some_iff.1 hx).1
  rw [List.take_succ_eq_append_getElem hk, (List.getElem?_eq_some_iff.1 hx).2, portsFrom_app, List.length_take, Nat.zero_add, Nat.min_eq_left (Nat.le_of_lt hk)]
theorem portsFrom_len {f : Prg → Int} (hf : ∀ p, okP p = true → f p ≤ 3) : ∀ (s : Nat) (ps : List Prg), ps.all okP = true → (portsFrom f s ps).length ≤ 3 * ps.length
  | _, [], _ => by simp [portsFrom]
  | s, p :: ps, h => by
    rw [List.all_cons, Bool.and_eq_true] at h
    have := portsFrom_len hf (s + 1) ps h.2
    have := hf p h.1
    rw [portsFrom, List.length_append, List.length_map, List.length_range, List.length_cons]
    omega
theorem okP_outs {p : Prg} (h : okP p = true) : 0 ≤ p.outs ∧ p.outs ≤ 3 := (okP_parts h).1.2.1
theorem okP_ins {p : Prg} (h : okP p = true) : 0 ≤ p.ins ∧ p.ins ≤ 3 := (okP_parts h).1.1
theorem headL_parts {n : Net} (h : headL n = true) : n.progs.length ≤ 12 ∧ n.links.length ≤ 30 ∧ n.progs.all okP = true := by
  unfold headL at h
  rw [Bool.and_eq_true] at h
  have := of_decide_eq_true h.1
  exact ⟨this.1, this.2, h.2⟩
theorem all_take {α : Type} {q : α → Bool} {xs : List α} (h : xs.all q = true) (k : Nat) : (xs.take k).all q = true :=
  List.all_eq_true.2 fun x hx => List.all_eq_true.1 h x (List.mem_of_mem_take hx)
theorem all_get {α : Type} {q : α → Bool} {xs : List α} {k : Nat} {x : α} (h : xs.all q = true) (hx : xs[k]? = some x) : q x = true := List.all_eq_true.1 h x (List.mem_of_getElem? hx)
theorem range_step (k j : Nat) : ((List.range (j + 1)).map fun (j : Nat) => ((k : Int), (j : Int))) = ((List.range j).map fun (j : Nat) => ((k : Int), (j : Int))) ++ [((k : Int), (j : Int))] := by
  rw [List.range_succ, List.map_append]; rfl

set_option maxRecDepth 100000 in
set_option maxHeartbeats 4000000 in
theorem iports_outs (v : Value) (n : Net) (w : World) (h : NetV w v n) (hh : headL n = true) :
    Calls Try.prog 115 #[v, .func (.func 116) #[] #[]] w fun e w' => ∃ v', e = .returned v' ∧ OwnE w.heap.size w' v' (ports Prg.outs n.progs) ∧ Below w.heap.size w w' := by
  obtain ⟨c, d, rfl, hp, hl⟩ := h
  obtain ⟨ps, ls⟩ := n
  simp only [] at hp hl ⊢
  obtain ⟨hp12, _, hall⟩ := headL_parts hh
  simp only [] at hp12 hall
  clear hl hh
  have HP := Lib.hid hp
  have HALL := Lib.hid hall
  obtain ⟨pa, pcap, rfl, _, _, _, hrest⟩ := hp
  obtain ⟨m, hm⟩ : ∃ m, m = ps.length := ⟨_, rfl⟩
  rw [← hm] at hp12 ⊢
  have HM := Lib.hid hm
  clear hm hall
  obtain ⟨i0, hi, hz0, hz1, hz2⟩ := infoE_parts
  have hb := Lib.hid ((Below.refl w.heap.size w).al (.cells #[.slice pa m pcap, d] 31))
  go_enter Try.func115, Try.ntmps115
  go_wp2_with fail
  go_loopw [5, 12] (fun o i wr => ∃ k : Nat, k ≤ m ∧ i = .int .i64 k ∧ Hid (OwnE w.heap.size wr o (portsFrom Prg.outs 0 (ps.take k))) ∧ Hid (Below w.heap.size w wr)) (fun _ i _ => m - (intOf i).toNat)
  case atStart => exact ⟨0, Nat.zero_le _, rfl, Lib.hid (ownE_nil _ _), Lib.hid hb.out⟩
  case round =>
    obtain ⟨k, hk, rfl, HO, HB⟩ := hrel
    by_cases hlt : k < m
    · rcases hrest with rfl | ⟨b, off, rfl, hbl, hcell⟩
      · exact absurd hlt (by have := HM.out; simp at this; omega)
      · obtain ⟨x, hx⟩ : ∃ x, ps[k]? = some x := ⟨_, List.getElem?_eq_getElem (by rw [← HM.out]; exact hlt)⟩
        obtain ⟨u, e0, e1, e2, e3⟩ := hcell k x hx
        obtain ⟨ua, uc, e4⟩ := e3.shape
        obtain ⟨ul, hul⟩ : ∃ z, z = x.code.length := ⟨_, rfl⟩
        rw [← hul] at e4
        subst e4
        have c0 := (HB.out.cell (p := ⟨b, off + k * 3, none⟩) hbl).trans e0
        have c1 := (HB.out.cell (p := ⟨b, off + k * 3 + 1, none⟩) hbl).trans e1
        have c2 := (HB.out.cell (p := ⟨b, off + k * 3 + 2, none⟩) hbl).trans e2
        have hbl2 : b < wr.heap.size := Nat.lt_of_lt_of_le hbl HB.out.size
        have hq := okP_outs (all_get HALL.out hx)
        have HX := Lib.hid hx
        have hHB := Lib.hid (Below.refl wr.heap.size wr |>.al (.cells #[.int .i64 x.ins, .int .i64 x.outs, .slice ua ul uc] 79))
        have hlen0 := Lib.hid (portsFrom_len (fun p hp => (okP_outs hp).2) 0 (ps.take k) (all_take HALL.out k))
        clear hx hcell e0 e1 e2 e3 hul
        obtain ⟨pi, po, pc⟩ := x
        simp only [] at c0 c1 c2 hq hHB
        obtain ⟨q, hqq⟩ : ∃ q : Nat, po = q := ⟨(po).toNat, by omega⟩
        subst hqq
        go_wp2_with (go_at_call 116; refine (ioutsOf_any _ _ _ _).mono ?_; rintro e w2 ⟨rfl, hb1⟩; have HB1 := Lib.hid hb1; clear hb1)
        have HO2 := Lib.hid (HO.out.below ((((Below.refl _ _).al _).trans (HB1.out.mono (by simp)))))
        have HB2 := Lib.hid (HB.out.trans (((((Below.refl _ _).al _).trans (HB1.out.mono (by simp)))).mono HB.out.size))
        go_loopw [5, 20] (fun o i wr => ∃ j : Nat, j ≤ q ∧ i = .int .i64 j ∧ Hid (OwnE w.heap.size wr o (portsFrom Prg.outs 0 (ps.take k) ++ (List.range j).map fun (j : Nat) => ((k : Int), (j : Int)))) ∧ Hid (Below w.heap.size w wr)) (fun _ i _ => q - (intOf i).toNat)
        case atStart => exact ⟨0, Nat.zero_le _, rfl, Lib.hid (by simpa using HO2.out), Lib.hid HB2.out⟩
        case round =>
          obtain ⟨j, hj, rfl, HI, HJ⟩ := hrel
          by_cases hjl : j < q
          · obtain ⟨L, hL⟩ : ∃ L, L = portsFrom Prg.outs 0 (ps.take k) ++ (List.range j).map fun (j : Nat) => ((k : Int), (j : Int)) := ⟨_, rfl⟩
            have HL := Lib.hid hL
            rw [← hL] at HI
            have hLl : L.length ≤ 40 := by
              have := hlen0.out
              rw [hL, List.length_append, List.length_map, List.length_range]
              rw [List.length_take] at this
              omega
            clear hL
            go_wp2_with (at_builtin; refine wpList_append_own_at _ rfl _ _ 131 rfl w.heap.size 133 i0 (.agg #[.int .i64 0, .int .i64 0]) 2 16 Try.underlying131 hi hz0 hz1 hz2 rfl (by decide) _ _ _ rfl (World.ownsRow.alloc HI.out _) ⟨_, 0, none⟩ 1 1 [.int .i64 k, .int .i64 j] rfl rfl ?c0 ?c1 ?c3 ?c4 ?c5 ?_)
            case c0 => exact two_new _ _ _ _
            case c1 => exact two_one _ _
            case c3 => unfold maxLen; omega
            case c4 => omega
            case c5 => have := HJ.out.size; simp; omega
            intro v' w4 hown hgrow _ _
            have hB4 := Lib.hid ((HJ.out.al (.cells #[.int .i64 k, .int .i64 j] 133)).grown hgrow (by have := HJ.out.size; simp; omega) (fun q e => (HI.out.lt q e).1))
            have hO4 := Lib.hid (ownE_snoc (e := ((k : Int), (j : Int))) hown)
            clear hown hgrow hLl
            go_wp2_with fail
            go_roundw
            case rel => exact ⟨j + 1, by omega, by go_num, Lib.hid (by have := hO4.out; rwa [HL.out, List.append_assoc, ← range_step] at this), Lib.hid hB4.out⟩
            case measure => simp [intOf]; omega
          · go_wp2_with fail
            go_roundw
            case rel => exact ⟨k + 1, by omega, by go_num, Lib.hid (by
              have := HI.out
              rw [show j = q by omega] at this
              rw [portsFrom_step HX.out]
              simpa using this), Lib.hid HJ.out⟩
            case measure => simp [intOf]; omega
    · go_wp2_with fail
      go_ret
      refine ⟨_, rfl, ?_, HB.out⟩
      have := HO.out
      rwa [List.take_of_length_le (by rw [← HM.out]; omega)] at this

set_option maxRecDepth 100000 in
set_option maxHeartbeats 4000000 in
theorem iports_ins (v : Value) (n : Net) (w : World) (h : NetV w v n) (hh : headL n = true) :
    Calls Try.prog 115 #[v, .func (.func 117) #[] #[]] w fun e w' => ∃ v', e = .returned v' ∧ OwnE w.heap.size w' v' (ports Prg.ins n.progs) ∧ Below w.heap.size w w' := by
  obtain ⟨c, d, rfl, hp, hl⟩ := h
  obtain ⟨ps, ls⟩ := n
  simp only [] at hp hl ⊢
  obtain ⟨hp12, _, hall⟩ := headL_parts hh
  simp only [] at hp12 hall
  clear hl hh
  have HP := Lib.hid hp
  have HALL := Lib.hid hall
  obtain ⟨pa, pcap, rfl, _, _, _, hrest⟩ := hp
  obtain ⟨m, hm⟩ : ∃ m, m = ps.length := ⟨_, rfl⟩
  rw [← hm] at hp12 ⊢
  have HM := Lib.hid hm
  clear hm hall
  obtain ⟨i0, hi, hz0, hz1, hz2⟩ := infoE_parts
  have hb := Lib.hid ((Below.refl w.heap.size w).al (.cells #[.slice pa m pcap, d] 31))
  go_enter Try.func115, Try.ntmps115
  go_wp2_with fail
  go_loopw [5, 12] (fun o i wr => ∃ k : Nat, k ≤ m ∧ i = .int .i64 k ∧ Hid (OwnE w.heap.size wr o (portsFrom Prg.ins 0 (ps.take k))) ∧ Hid (Below w.heap.size w wr)) (fun _ i _ => m - (intOf i).toNat)
  case atStart => exact ⟨0, Nat.zero_le _, rfl, Lib.hid (ownE_nil _ _), Lib.hid hb.out⟩
  case round =>
    obtain ⟨k, hk, rfl, HO, HB⟩ := hrel
    by_cases hlt : k < m
    · rcases hrest with rfl | ⟨b, off, rfl, hbl, hcell⟩
      · exact absurd hlt (by have := HM.out; simp at this; omega)
      · obtain ⟨x, hx⟩ : ∃ x, ps[k]? = some x := ⟨_, List.getElem?_eq_getElem (by rw [← HM.out]; exact hlt)⟩
        obtain ⟨u, e0, e1, e2, e3⟩ := hcell k x hx
        obtain ⟨ua, uc, e4⟩ := e3.shape
        obtain ⟨ul, hul⟩ : ∃ z, z = x.code.length := ⟨_, rfl⟩
        rw [← hul] at e4
        subst e4
        have c0 := (HB.out.cell (p := ⟨b, off + k * 3, none⟩) hbl).trans e0
        have c1 := (HB.out.cell (p := ⟨b, off + k * 3 + 1, none⟩) hbl).trans e1
        have c2 := (HB.out.cell (p := ⟨b, off + k * 3 + 2, none⟩) hbl).trans e2
        have hbl2 : b < wr.heap.size := Nat.lt_of_lt_of_le hbl HB.out.size
        have hq := okP_ins (all_get HALL.out hx)
        have HX := Lib.hid hx
        have hHB := Lib.hid (Below.refl wr.heap.size wr |>.al (.cells #[.int .i64 x.ins, .int .i64 x.outs, .slice ua ul uc] 79))
        have hlen0 := Lib.hid (portsFrom_len (fun p hp => (okP_ins hp).2) 0 (ps.take k) (all_take HALL.out k))
        clear hx hcell e0 e1 e2 e3 hul
        obtain ⟨pi, po, pc⟩ := x
        simp only [] at c0 c1 c2 hq hHB
        obtain ⟨q, hqq⟩ : ∃ q : Nat, pi = q := ⟨(pi).toNat, by omega⟩
        subst hqq
        go_wp2_with (go_at_call 117; refine (iinsOf_any _ _ _ _).mono ?_; rintro e w2 ⟨rfl, hb1⟩; have HB1 := Lib.hid hb1; clear hb1)
        have HO2 := Lib.hid (HO.out.below ((((Below.refl _ _).al _).trans (HB1.out.mono (by simp)))))
        have HB2 := Lib.hid (HB.out.trans (((((Below.refl _ _).al _).trans (HB1.out.mono (by simp)))).mono HB.out.size))
        go_loopw [5, 20] (fun o i wr => ∃ j : Nat, j ≤ q ∧ i = .int .i64 j ∧ Hid (OwnE w.heap.size wr o (portsFrom Prg.ins 0 (ps.take k) ++ (List.range j).map fun (j : Nat) => ((k : Int), (j : Int)))) ∧ Hid (Below w.heap.size w wr)) (fun _ i _ => q - (intOf i).toNat)
        case atStart => exact ⟨0, Nat.zero_le _, rfl, Lib.hid (by simpa using HO2.out), Lib.hid HB2.out⟩
        case round =>
          obtain ⟨j, hj, rfl, HI, HJ⟩ := hrel
          by_cases hjl : j < q
          · obtain ⟨L, hL⟩ : ∃ L, L = portsFrom Prg.ins 0 (ps.take k) ++ (List.range j).map fun (j : Nat) => ((k : Int), (j : Int)) := ⟨_, rfl⟩
            have HL := Lib.hid hL
            rw [← hL] at HI
            have hLl : L.length ≤ 40 := by
              have := hlen0.out
              rw [hL, List.length_append, List.length_map, List.length_range]
              rw [List.length_take] at this
              omega
            clear hL
            go_wp2_with (at_builtin; refine wpList_append_own_at _ rfl _ _ 131 rfl w.heap.size 133 i0 (.agg #[.int .i64 0, .int .i64 0]) 2 16 Try.underlying131 hi hz0 hz1 hz2 rfl (by decide) _ _ _ rfl (World.ownsRow.alloc HI.out _) ⟨_, 0, none⟩ 1 1 [.int .i64 k, .int .i64 j] rfl rfl ?c0 ?c1 ?c3 ?c4 ?c5 ?_)
            case c0 => exact two_new _ _ _ _
            case c1 => exact two_one _ _
            case c3 => unfold maxLen; omega
            case c4 => omega
            case c5 => have := HJ.out.size; simp; omega
            intro v' w4 hown hgrow _ _
            have hB4 := Lib.hid ((HJ.out.al (.cells #[.int .i64 k, .int .i64 j] 133)).grown hgrow (by have := HJ.out.size; simp; omega) (fun q e => (HI.out.lt q e).1))
            have hO4 := Lib.hid (ownE_snoc (e := ((k : Int), (j : Int))) hown)
            clear hown hgrow hLl
            go_wp2_with fail
            go_roundw
            case rel => exact ⟨j + 1, by omega, by go_num, Lib.hid (by have := hO4.out; rwa [HL.out, List.append_assoc, ← range_step] at this), Lib.hid hB4.out⟩
            case measure => simp [intOf]; omega
          · go_wp2_with fail
            go_roundw
            case rel => exact ⟨k + 1, by omega, by go_num, Lib.hid (by
              have := HI.out
              rw [show j = q by omega] at this
              rw [portsFrom_step HX.out]
              simpa using this), Lib.hid HJ.out⟩
            case measure => simp [intOf]; omega
    · go_wp2_with fail
      go_ret
      refine ⟨_, rfl, ?_, HB.out⟩
      have := HO.out
      rwa [List.take_of_length_le (by rw [← HM.out]; omega)] at this

theorem mem_take_of {es : List End} {k : Nat} {e : End} (hn : es.Nodup) (hx : es[k]? = some e) : e ∉ es.take k := by
  intro h
  obtain ⟨i, hi, he⟩ := List.getElem_of_mem h
  have hk := (List.getElem?_eq_some_iff.1 hx)
  rw [List.length_take] at hi
  rw [List.getElem_take] at he
  obtain ⟨hk1, hk2⟩ := hk
  have := (List.nodup_iff_pairwise_ne.1 hn)
  rw [List.pairwise_iff_getElem] at this
  exact this i k (by omega) hk1 (by omega) (he.trans hk2.symm)
theorem isEmpty_len (S : List End) : (((S.length : Nat) : Int) == 0) = S.isEmpty := by
  cases S with
  | nil => rfl
  | cons x xs => simp; omega

set_option maxRecDepth 100000 in
set_option maxHeartbeats 4000000 in
theorem ieach_any (lo : Nat) (v u : Value) (op es : List End) (w : World) (hv : OwnE lo w v op) (hu : OwnE lo w u es) (hn : op.Nodup) (hw1 : ∀ e ∈ op, wfE e) (hw2 : ∀ e ∈ es, wfE e) (hl : op.length ≤ 100) (hl2 : es.length ≤ 100) :
    Calls Try.prog 114 #[v, u] w fun e w' => e = .returned (.bool (once op es)) ∧ Below w.heap.size w w' := by
  have HV := Lib.hid hv
  have HU := Lib.hid hu
  obtain ⟨va, vc, rfl⟩ := hv.shape
  obtain ⟨ua, uc, rfl⟩ := hu.shape
  clear hv hu
  obtain ⟨m, hm⟩ : ∃ m, m = op.length := ⟨_, rfl⟩
  obtain ⟨n, hnn⟩ : ∃ n, n = es.length := ⟨_, rfl⟩
  obtain ⟨r, hr⟩ : ∃ r, r = once op es := ⟨_, rfl⟩
  rw [← hr, ← hm, ← hnn]
  rw [← hm] at hl
  rw [← hnn] at hl2
  have HM := Lib.hid hm
  have HN := Lib.hid hnn
  have HR := Lib.hid hr
  have HND := Lib.hid hn
  have HW1 := Lib.hid hw1
  have HW2 := Lib.hid hw2
  clear hm hnn hr hn hw1 hw2
  have hmk := @run_makeMap Try.prog
  have hb := Lib.hid ((Below.refl w.heap.size w).al (.map #[] 0))
  have hM0 := Lib.hid (MapIs.made w)
  go_enter Try.func114, Try.ntmps114
  go_wp2_with fail
  go_loopw [13] (fun i wr => ∃ k : Nat, k ≤ m ∧ i = .int .i64 k ∧ Hid (MapIs wr w.heap.size k (op.take k)) ∧ Hid (Below w.heap.size w wr)) (fun i _ => m - (intOf i).toNat)
  case atStart => exact ⟨0, Nat.zero_le _, rfl, Lib.hid (by simpa using hM0.out), Lib.hid hb.out⟩
  case round =>
    obtain ⟨k, hk, rfl, HP, HB⟩ := hrel
    by_cases hlt : k < m
    · obtain ⟨x, hx⟩ : ∃ x, op[k]? = some x := ⟨_, List.getElem?_eq_getElem (by rw [← HM.out]; exact hlt)⟩
      obtain ⟨g, cap, hva, hgl, c0, c1⟩ := (HV.out.below HB.out).at hx
      rw [← HM.out] at hva
      simp only [Value.slice.injEq, true_and] at hva
      obtain ⟨rfl, rfl⟩ := hva
      have hwx := HW1.out x (List.mem_of_getElem? hx)
      obtain ⟨w3, hput, hM3, ht3⟩ := (HP.out.below ((Below.refl _ _).al (.cells #[.int .i64 x.1, .int .i64 x.2] 133))).put (e := x) (by unfold maxLen; omega) hwx (mem_take_of HND.out hx)
      have hB3 := Lib.hid (mapTurned_below (HB.out.al (.cells #[.int .i64 x.1, .int .i64 x.2] 133)) ht3 (Nat.le_refl _))
      have hM4 := Lib.hid hM3
      have HX := Lib.hid hx
      clear hx hwx ht3 hM3
      obtain ⟨xa, xb⟩ := x
      unfold valE at hput
      simp only [] at c0 c1 hput
      go_wp2_with fail
      go_roundw
      case rel => exact ⟨k + 1, by omega, by go_num, Lib.hid (by
        have hk := (List.getElem?_eq_some_iff.1 HX.out).1
        rw [List.take_succ_eq_append_getElem hk, (List.getElem?_eq_some_iff.1 HX.out).2]
        exact hM4.out), Lib.hid hB3.out⟩
      case measure => simp [intOf]; omega
    · have hM1 : MapIs wr w.heap.size m op := by
        have := HP.out
        rwa [List.take_of_length_le (by rw [← HM.out]; omega), show k = m by omega] at this
      have HM1 := Lib.hid hM1
      clear hM1
      go_wp2_with fail
      go_loopw [22] (fun i wr' => ∃ (k : Nat) (S : List End), k ≤ n ∧ i = .int .i64 k ∧ Hid (MapIs wr' w.heap.size m S) ∧ Hid (once S (es.drop k) = r) ∧ Hid (Below w.heap.size w wr')) (fun i _ => n - (intOf i).toNat)
      case atStart => exact ⟨0, op, Nat.zero_le _, rfl, Lib.hid HM1.out, Lib.hid (by simpa using HR.out.symm), Lib.hid HB.out⟩
      case round =>
        obtain ⟨j, S, hj, rfl, HS, HO, HJ⟩ := hrel
        by_cases hjl : j < n
        · obtain ⟨x, hx⟩ : ∃ x, es[j]? = some x := ⟨_, List.getElem?_eq_getElem (by rw [← HN.out]; exact hjl)⟩
          obtain ⟨g, cap, hua, hgl, c0, c1⟩ := (HU.out.below HJ.out).at hx
          rw [← HN.out] at hua
          simp only [Value.slice.injEq, true_and] at hua
          obtain ⟨rfl, rfl⟩ := hua
          have hwx := HW2.out x (List.mem_of_getElem? hx)
          have HWX := Lib.hid hwx
          have HX := Lib.hid hx
          clear hx hwx
          obtain ⟨xa, xb⟩ := x
          simp only [] at c0 c1
          have HJ1 := Lib.hid (HJ.out.al (.cells #[.int .i64 xa, .int .i64 xb] 133))
          have HS1 := Lib.hid (HS.out.below ((Below.refl _ _).al (.cells #[.int .i64 xa, .int .i64 xb] 133)))
          have hH1 := Lib.hid (hp1 wr (.cells #[.int .i64 xa, .int .i64 xb] 133))
          have C := Lib.hid (iout_any xa xb (wr.alloc (.cells #[.int .i64 xa, .int .i64 xb] 133)))
          by_cases ho : (xa, xb) = outE
          · rw [decide_eq_true ho] at C
            have HE := Lib.hid ho
            clear ho
            go_wp2_with (go_at_call 130; refine C.out.mono ?_; rintro e w2 ⟨rfl, hb1⟩; have HB1 := Lib.hid hb1; clear hb1)
            go_roundw
            case rel => exact ⟨j + 1, S, by omega, by go_num, Lib.hid (HS1.out.below HB1.out), Lib.hid (by rw [← once_out (HE.out ▸ HX.out)]; exact HO.out), Lib.hid (HJ1.out.trans (HB1.out.mono HJ1.out.size))⟩
            case measure => simp [intOf]; omega
          · rw [decide_eq_false ho] at C
            have HE := Lib.hid ho
            clear ho
            by_cases hin : (xa, xb) ∈ S
            · have LK := Lib.hid (fun (W : World) (hW : MapIs W w.heap.size m S) => hW.look HWX.out)
              rw [decide_eq_true hin] at LK
              have HIN := Lib.hid hin
              clear hin
              go_wp2_with (go_at_call 130; refine C.out.mono ?_; rintro e w2 ⟨rfl, hb1⟩; have HB1 := Lib.hid hb1; have HS2 := Lib.hid (HS1.out.below hb1); have hx1 := blk_in hH1.out hb1; obtain ⟨d0, d1⟩ := cells2 hx1; have l1 := lt_of hx1; have lk := LK.out _ HS2.out; unfold valE at lk; simp only [] at lk; obtain ⟨w3, hdr, hM3, ht3⟩ := HS2.out.drop HWX.out HIN.out 0; have hB3 := Lib.hid (mapTurned_below (HJ1.out.trans (hb1.mono HJ1.out.size)) ht3 (Nat.le_refl _)); have HM3 := Lib.hid hM3; unfold valE at hdr; simp only [] at hdr; clear hb1 hx1 ht3 hM3)
              go_roundw
              case rel => exact ⟨j + 1, S.erase (xa, xb), by omega, by go_num, Lib.hid HM3.out, Lib.hid (by rw [← once_take HX.out HE.out HIN.out]; exact HO.out), Lib.hid hB3.out⟩
              case measure => simp [intOf]; omega
            · have LK := Lib.hid (fun (W : World) (hW : MapIs W w.heap.size m S) => hW.look HWX.out)
              rw [decide_eq_false hin] at LK
              have HIN := Lib.hid hin
              clear hin
              go_wp2_with (go_at_call 130; refine C.out.mono ?_; rintro e w2 ⟨rfl, hb1⟩; have HB1 := Lib.hid hb1; have HS2 := Lib.hid (HS1.out.below hb1); have hx1 := blk_in hH1.out hb1; obtain ⟨d0, d1⟩ := cells2 hx1; have l1 := lt_of hx1; have lk := LK.out _ HS2.out; unfold valE at lk; simp only [] at lk; clear hb1 hx1)
              go_ret
              refine ⟨ret_bool ?_, HJ1.out.trans (HB1.out.mono HJ1.out.size)⟩
              rw [← HO.out, once_not HX.out HE.out HIN.out]
        · have LN := Lib.hid (HS.out.len 0)
          have hlen := fun ty => HS.out.len ty
          go_wp2_with fail
          go_ret
          refine ⟨ret_bool ?_, HJ.out⟩
          have := HO.out
          rw [List.drop_of_length_le (by rw [← HN.out]; omega)] at this
          rw [← this, once_all, isEmpty_len]

theorem appE_other {lo : Nat} {w w1 : World} {L : Obj} {v u u' : Value} {xs : List End} (h : OwnE lo w v xs) (ha : Apart v u) (hg : (w.alloc L).grownBy w1 u.ownBlock) (hat : u'.ownBlock = u.ownBlock ∨ u'.ownBlock = some (w.heap.size + 1)) :
    OwnE lo w1 v xs ∧ Apart v u' := by
  refine ⟨OwnE.kept (World.ownsRow.alloc h L) hg ha, ?_⟩
  rcases hat with e | e
  · unfold Apart at ha ⊢; rw [e]; exact ha
  · cases q : v.ownBlock with
    | none => exact .inl q
    | some k =>
      right
      rw [q, e]
      intro z
      have := (h.lt k q).2
      simp at z
      omega
theorem al_size (w : World) (o : Obj) : (w.alloc o).heap.size = w.heap.size + 1 := by simp
theorem each_is {f : Nat} {vs : Array Value} {w : World} {b c : Bool} (h : Calls Try.prog f vs w fun e w' => e = .returned (.bool b) ∧ Below w.heap.size w w') (hb : c = b) : Calls Try.prog f vs w fun e w' => e = .returned (.bool c) ∧ Below w.heap.size w w' := by
  subst hb; exact h
theorem ownE_snoc2 {lo n : Nat} {w : World} {v : Value} {L : List End} {e : End} (hl : L.length = n) (h : w.ownsRow lo 133 2 v (n + 1) (cellsE L ++ [.int .i64 e.1, .int .i64 e.2])) : OwnE lo w v (L ++ [e]) := by
  subst hl; exact ownE_snoc h
theorem keepE {w8 w9 : World} {lo g T : Nat} {u : Value} {xs : List End} {cs : Array Value} {L : Obj} (hou : OwnE lo w8 u xs) (h : w8.heap[g]? = some (.cells cs T)) (hT : T ≠ 133) (hg : (w8.alloc L).grownBy w9 u.ownBlock) : w9.heap[g]? = some (.cells cs T) := by
  have lg := lt_of h
  have ne : some g ≠ u.ownBlock := by
    rcases hou.2 with ⟨rfl, _⟩ | ⟨k, cap, cur, rfl, _, hk, _⟩
    · simp [Value.ownBlock]
    · intro e
      simp [Value.ownBlock] at e
      subst e
      rw [hk] at h
      simp at h
      exact hT h.2.symm
  rw [hg.block g (by simp; omega) ne, Below.heap_alloc _ _ _ lg]
  exact h
theorem ends_step {g : Lnk → End} {ls : List Lnk} {k : Nat} {x : Lnk} (hx : ls[k]? = some x) : (ls.take (k + 1)).map g = (ls.take k).map g ++ [g x] := by
  have hk := (List.getElem?_eq_some_iff.1 hx).1
  rw [List.take_succ_eq_append_getElem hk, (List.getElem?_eq_some_iff.1 hx).2, List.map_append]; rfl
theorem allT_step {α : Type} {q : α → Bool} {xs : List α} {k : Nat} {x : α} (hx : xs[k]? = some x) (ha : (xs.take k).all q = true) (hp : q x = true) : (xs.take (k + 1)).all q = true := by
  have hk := (List.getElem?_eq_some_iff.1 hx).1
  rw [List.take_succ_eq_append_getElem hk, (List.getElem?_eq_some_iff.1 hx).2]; simp at ha ⊢; exact ⟨ha, hp⟩
theorem allT_no {α : Type} {q : α → Bool} {xs : List α} {k : Nat} {x : α} (hx : xs[k]? = some x) (hp : q x = false) : xs.all q = false := by
  rw [List.all_eq_false]
  exact ⟨x, List.mem_of_getElem? hx, by simp [hp]⟩
theorem allT_end {α : Type} {q : α → Bool} {xs : List α} {k : Nat} (h : ¬ k < xs.length) (ha : (xs.take k).all q = true) : xs.all q = true := by
  rwa [List.take_of_length_le (by omega)] at ha
theorem okN_head {n : Net} (h : headL n = false) : okN n = false := by unfold okN; rw [h]; rfl
theorem okN_link {n : Net} (h : n.links.all linkL = false) : okN n = false := by unfold okN; rw [h]; simp
theorem okN_rest {n : Net} (h : headL n = true) (h2 : n.links.all linkL = true) : okN n = (once (ports Prg.outs n.progs) (n.links.map Lnk.src) && once (ports Prg.ins n.progs) (n.links.map Lnk.tgt)) := by unfold okN; rw [h, h2]; rfl
theorem head_no {ps : List Prg} {ls : List Lnk} (h : ¬ (ps.length ≤ 12 ∧ ls.length ≤ 30)) : headL ⟨ps, ls⟩ = false := by unfold headL; simp only []; rw [decide_eq_false h]; rfl
theorem head_prog {ps : List Prg} {ls : List Lnk} (h : ps.all okP = false) : headL ⟨ps, ls⟩ = false := by unfold headL; simp only []; rw [h]; simp
theorem head_yes {ps : List Prg} {ls : List Lnk} (h : ps.length ≤ 12 ∧ ls.length ≤ 30) (h2 : ps.all okP = true) : headL ⟨ps, ls⟩ = true := by unfold headL; simp only []; rw [decide_eq_true h, h2]; rfl
theorem ports_wf {f : Prg → Int} {ps : List Prg} (hf : ∀ p, okP p = true → f p ≤ 3) (hall : ps.all okP = true) (hl : ps.length ≤ 12) : ∀ e ∈ ports f ps, wfE e := by
  intro e he
  obtain ⟨i, p, h1, h2, h3, h4⟩ := mem_ports.1 he
  have := (List.getElem?_eq_some_iff.1 h1).1
  have := hf p (all_get hall h1)
  unfold wfE wfI
  omega

set_option maxRecDepth 100000 in
set_option maxHeartbeats 8000000 in
theorem iisnet_any (v : Value) (n : Net) (w : World) (h : NetV w v n) :
    Calls Try.prog 50 #[v] w fun e w' => e = .returned (.bool (okN n)) ∧ Below w.heap.size w w' := by
  obtain ⟨c, d, rfl, hp, hl⟩ := h
  obtain ⟨ps, ls⟩ := n
  simp only [] at hp hl ⊢
  have HP := Lib.hid hp
  have HL := Lib.hid hl
  have hpl := hp.len
  have hll := hl.len
  obtain ⟨pa, pcap, rfl, _, _, _, hrest⟩ := hp
  obtain ⟨la, lcap, rfl, _, _, _, hrest2⟩ := hl
  obtain ⟨m, hm⟩ : ∃ m, m = ps.length := ⟨_, rfl⟩
  obtain ⟨n, hn⟩ : ∃ n, n = ls.length := ⟨_, rfl⟩
  obtain ⟨r, hr⟩ : ∃ r, r = okN ⟨ps, ls⟩ := ⟨_, rfl⟩
  rw [← hr]
  rw [← hm] at hpl ⊢
  rw [← hn] at hll ⊢
  rw [← hm] at HP
  rw [← hn] at HL
  have HM := Lib.hid hm
  have HN := Lib.hid hn
  have HR := Lib.hid hr
  clear hm hn hr
  obtain ⟨i0, hi, hz0, hz1, hz2⟩ := infoE_parts
  have hb := Lib.hid ((Below.refl w.heap.size w).al (.cells #[.slice pa m pcap, .slice la n lcap] 31))
  have hH := Lib.hid (hp1 w (.cells #[.slice pa m pcap, .slice la n lcap] 31))
  by_cases q0 : m ≤ 12
  case neg =>
    have d0 : decide ((m : Int) > 12) = true := decide_eq_true (by omega)
    have d1 : decide (12 < (m : Int)) = true := decide_eq_true (by omega)
    go_enter Try.func50, Try.ntmps50
    go_wp2_with fail
    go_ret
    exact ⟨ret_bool (HR.out.trans (okN_head (head_no (by have := HM.out; omega)))), hb.out⟩
  have d0 : decide ((m : Int) > 12) = false := decide_eq_false (by omega)
  have d1 : decide (12 < (m : Int)) = false := decide_eq_false (by omega)
  by_cases q1 : n ≤ 30
  case neg =>
    have d2 : decide ((n : Int) > 30) = true := decide_eq_true (by omega)
    have d3 : decide (30 < (n : Int)) = true := decide_eq_true (by omega)
    go_enter Try.func50, Try.ntmps50
    go_wp2_with fail
    go_ret
    exact ⟨ret_bool (HR.out.trans (okN_head (head_no (by have := HN.out; omega)))), hb.out⟩
  have d2 : decide ((n : Int) > 30) = false := decide_eq_false (by omega)
  have d3 : decide (30 < (n : Int)) = false := decide_eq_false (by omega)
  go_enter Try.func50, Try.ntmps50
  go_wp2_with fail
  go_loopw [22] (fun i wr => ∃ k : Nat, k ≤ m ∧ i = .int .i64 k ∧ Hid ((ps.take k).all okP = true) ∧ Hid (Below (w.heap.size + 1) (w.alloc (.cells #[.slice pa m pcap, .slice la n lcap] 31)) wr)) (fun i _ => m - (intOf i).toNat)
  case atStart => exact ⟨0, Nat.zero_le _, rfl, by simp [Hid], Lib.hid (Below.refl _ _)⟩
  case round =>
    obtain ⟨k, hk, rfl, hA, hW⟩ := hrel
    have HB := Lib.hid (hb.out.trans (hW.out.mono (by omega)))
    by_cases hlt : k < m
    · rcases hrest with rfl | ⟨b, off, rfl, hbl, hcell⟩
      · exact absurd hlt (by have := HM.out; simp at this; omega)
      · obtain ⟨x, hx⟩ : ∃ x, ps[k]? = some x := ⟨_, List.getElem?_eq_getElem (by rw [← HM.out]; exact hlt)⟩
        obtain ⟨u, e0, e1, e2, e3⟩ := hcell k x hx
        have HS := Lib.hid (e3.below HB.out)
        obtain ⟨ua, uc, e4⟩ := e3.shape
        have c0 := (HB.out.cell (p := ⟨b, off + k * 3, none⟩) hbl).trans e0
        have c1 := (HB.out.cell (p := ⟨b, off + k * 3 + 1, none⟩) hbl).trans e1
        have c2 := (HB.out.cell (p := ⟨b, off + k * 3 + 2, none⟩) hbl).trans e2
        have hbl2 : b < wr.heap.size := Nat.lt_of_lt_of_le hbl HB.out.size
        have HX := Lib.hid hx
        clear hx hcell e0 e1 e2 e3
        obtain ⟨pi, po, pc⟩ := x
        simp only [] at c0 c1 c2 e4 HS
        obtain ⟨ul, hul⟩ : ∃ z, z = pc.length := ⟨_, rfl⟩
        rw [← hul] at e4
        clear hul
        subst e4
        cases ht : okP ⟨pi, po, pc⟩ with
        | true =>
          go_wp2_with (go_at_call 108; refine (iisp_any _ ⟨pi, po, pc⟩ _ ⟨_, rfl, HS.out.below ((Below.refl _ _).al _)⟩).mono ?_; rintro e w2 ⟨rfl, hb1⟩; have HB1 := Lib.hid hb1; clear hb1; rw [ht])
          go_roundw
          case rel => exact ⟨k + 1, by omega, by go_num, Lib.hid (allT_step HX.out hA.out ht), Lib.hid (hW.out.trans ((((Below.refl _ _).al _).trans (HB1.out.mono (by simp))).mono (by have := hW.out.size; simp at this; omega)))⟩
          case measure => simp [intOf]; omega
        | false =>
          go_wp2_with (go_at_call 108; refine (iisp_any _ ⟨pi, po, pc⟩ _ ⟨_, rfl, HS.out.below ((Below.refl _ _).al _)⟩).mono ?_; rintro e w2 ⟨rfl, hb1⟩; have HB1 := Lib.hid hb1; clear hb1; rw [ht])
          go_ret
          exact ⟨ret_bool (HR.out.trans (okN_head (head_prog (allT_no HX.out ht)))), HB.out.trans ((((Below.refl _ _).al _).trans (HB1.out.mono (by simp))).mono HB.out.size)⟩
    · have HALL := Lib.hid (allT_end (by rw [← HM.out]; exact hlt) hA.out)
      have HHEAD := Lib.hid (head_yes (ps := ps) (ls := ls) (by rw [← HM.out, ← HN.out]; exact ⟨q0, q1⟩) HALL.out)
      have B := blk_in hH.out (hW.out.mono (by simp))
      obtain ⟨t0, t1⟩ := cells2 B
      have tl := lt_of B
      clear B
      go_wp2_with fail
      go_loopw [5, 6, 33] (fun o o2 i wr => ∃ j : Nat, j ≤ n ∧ i = .int .i64 j ∧ Hid ((ls.take j).all linkL = true) ∧ Hid (OwnE (w.heap.size + 1) wr o ((ls.take j).map Lnk.src)) ∧ Hid (OwnE (w.heap.size + 1) wr o2 ((ls.take j).map Lnk.tgt)) ∧ Hid (Apart o o2) ∧ Hid (Below (w.heap.size + 1) (w.alloc (.cells #[.slice pa m pcap, .slice la n lcap] 31)) wr)) (fun _ _ i _ => n - (intOf i).toNat)
      case atStart => exact ⟨0, Nat.zero_le _, rfl, by simp [Hid], Lib.hid (ownE_nil _ _), Lib.hid (ownE_nil _ _), Lib.hid (.inl rfl), hW⟩
      case round =>
        obtain ⟨j, hj, rfl, hL, HO1, HO2, HAP, hV⟩ := hrel
        have HC := Lib.hid (hb.out.trans (hV.out.mono (by omega)))
        by_cases hjl : j < n
        · rcases hrest2 with rfl | ⟨b, off, rfl, hbl, hcell⟩
          · exact absurd hjl (by have := HN.out; simp at this; omega)
          · obtain ⟨x, hx⟩ : ∃ x, ls[j]? = some x := ⟨_, List.getElem?_eq_getElem (by rw [← HN.out]; exact hjl)⟩
            obtain ⟨u, e0, e1, e2, e3, e4, _, e5⟩ := hcell j x hx
            have HS := Lib.hid (e5.below HC.out)
            obtain ⟨ua, uc, e6⟩ := e5.shape
            have c0 := (HC.out.cell (p := ⟨b, off + j * 5, none⟩) hbl).trans e0
            have c1 := (HC.out.cell (p := ⟨b, off + j * 5 + 1, none⟩) hbl).trans e1
            have c2 := (HC.out.cell (p := ⟨b, off + j * 5 + 2, none⟩) hbl).trans e2
            have c3 := (HC.out.cell (p := ⟨b, off + j * 5 + 3, none⟩) hbl).trans e3
            have c4 := (HC.out.cell (p := ⟨b, off + j * 5 + 4, none⟩) hbl).trans e4
            have hbl2 : b < wr.heap.size := Nat.lt_of_lt_of_le hbl HC.out.size
            have HX := Lib.hid hx
            clear hx hcell e0 e1 e2 e3 e4 e5
            obtain ⟨xf, xo, xt, xi, xk⟩ := x
            simp only [] at c0 c1 c2 c3 c4 e6 HS
            obtain ⟨ul, hul⟩ : ∃ z, z = xk.length := ⟨_, rfl⟩
            rw [← hul] at e6
            clear hul
            subst e6
            have hH5 := Lib.hid (hp1 wr (.cells #[.int .i64 xf, .int .i64 xo, .int .i64 xt, .int .i64 xi, .slice ua ul uc] 68))
            have HB5 := Lib.hid ((Below.refl wr.heap.size wr).al (.cells #[.int .i64 xf, .int .i64 xo, .int .i64 xt, .int .i64 xi, .slice ua ul uc] 68))
            have SC := Lib.hid (istream_any (.slice ua ul uc) xk _ (HS.out.below HB5.out))
            have hLs : ((ls.take j).map Lnk.src).length = j := by rw [List.length_map, List.length_take]; have := HN.out; omega
            have hLt : ((ls.take j).map Lnk.tgt).length = j := by rw [List.length_map, List.length_take]; have := HN.out; omega
            obtain ⟨L, hLe⟩ : ∃ L, L = (ls.take j).map Lnk.src := ⟨_, rfl⟩
            obtain ⟨M, hMe⟩ : ∃ M, M = (ls.take j).map Lnk.tgt := ⟨_, rfl⟩
            rw [← hLe] at HO1 hLs
            rw [← hMe] at HO2 hLt
            have HLE := Lib.hid hLe
            have HME := Lib.hid hMe
            clear hLe hMe
            cases hs : isS xk with
            | false =>
              rw [hs] at SC
              go_wp2_with (go_at_call 109; refine SC.out.mono ?_; rintro e w2 ⟨rfl, rfl⟩)
              go_ret
              exact ⟨ret_bool (HR.out.trans (okN_link (allT_no HX.out (by simp [linkL, hs])))), HC.out.trans (HB5.out.mono HC.out.size)⟩
            | true =>
              rw [hs] at SC
              have IC := Lib.hid (fun W => iinput_any xf xo xt xi (.slice ua ul uc) W)
              have OC := Lib.hid (fun W => ioutput_any xf xo xt xi (.slice ua ul uc) W)
              by_cases hin : (xf, xo) = outE
              · rw [decide_eq_true hin] at IC
                by_cases hout : (xt, xi) = outE
                · rw [decide_eq_true hout] at OC
                  have HIN := Lib.hid hin
                  have HOUT := Lib.hid hout
                  clear hin hout
                  go_wp2_with (first | (go_at_call 109; refine SC.out.mono ?_; rintro e w2 ⟨rfl, rfl⟩) | (go_at_call 110; refine (IC.out _).mono ?_; rintro e w6 ⟨rfl, hb6⟩; have HB6 := Lib.hid hb6; have B6 := blk_in hH5.out hb6; obtain ⟨f0, f1, f2, f3, f4⟩ := cells5 B6; have fl := lt_of B6; clear hb6 B6) | (go_at_call 111; refine (OC.out _).mono ?_; rintro e w7 ⟨rfl, hb7⟩; have HB7 := Lib.hid (HB6.out.trans (hb7.mono HB6.out.size)); have B7 := blk_in hH5.out HB7.out; obtain ⟨g0, g1, g2, g3, g4⟩ := cells5 B7; have gl := lt_of B7; clear hb7 B7))
                  go_ret
                  exact ⟨ret_bool (HR.out.trans (okN_link (allT_no HX.out (by simp [linkL, Lnk.src, Lnk.tgt, HIN.out, HOUT.out])))), HC.out.trans ((HB5.out.trans (HB7.out.mono HB5.out.size)).mono HC.out.size)⟩
                · rw [decide_eq_false hout] at OC
                  have HIN := Lib.hid hin
                  have HOUT := Lib.hid hout
                  have HLK := Lib.hid (show linkL ⟨xf, xo, xt, xi, xk⟩ = true by simp [linkL, Lnk.src, Lnk.tgt, hs, hin, hout])
                  clear hin hout
                  go_wp2_with (first | (go_at_call 109; refine SC.out.mono ?_; rintro e w2 ⟨rfl, rfl⟩) | (go_at_call 110; refine (IC.out _).mono ?_; rintro e w6 ⟨rfl, hb6⟩; have HB6 := Lib.hid hb6; have B6 := blk_in hH5.out hb6; obtain ⟨f0, f1, f2, f3, f4⟩ := cells5 B6; have fl := lt_of B6; clear hb6 B6) | (go_at_call 111; refine (OC.out _).mono ?_; rintro e w7 ⟨rfl, hb7⟩; have HB7 := Lib.hid (HB6.out.trans (hb7.mono HB6.out.size)); have B7 := blk_in hH5.out HB7.out; obtain ⟨g0, g1, g2, g3, g4⟩ := cells5 B7; have gl := lt_of B7; clear hb7 B7) | (go_at_call 112; refine (isrc_any xf xo xt xi _ _).mono ?_; rintro e w8 ⟨rfl, hb8⟩; have HB8 := Lib.hid (HB7.out.trans (hb8.mono HB7.out.size)); have B8 := blk_in hH5.out HB8.out; obtain ⟨k0, k1, k2, k3, k4⟩ := cells5 B8; have kl := lt_of B8; have HW8 := Lib.hid (HB5.out.trans (HB8.out.mono (HB5.out.size))); have HQ1 := Lib.hid (HO1.out.below HW8.out); have HQ2 := Lib.hid (HO2.out.below HW8.out); clear hb8 B8) | (at_builtin; refine wpList_append_own_at _ rfl _ _ 131 rfl (w.heap.size + 1) 133 i0 (.agg #[.int .i64 0, .int .i64 0]) 2 16 Try.underlying131 hi hz0 hz1 hz2 rfl (by decide) _ _ _ rfl (World.ownsRow.alloc HQ1.out _) ⟨_, 0, none⟩ 1 1 [.int .i64 xf, .int .i64 xo] rfl rfl ?c0 ?c1 ?c3 ?c4 ?c5 ?_))
                  case c0 => exact two_new _ _ _ _
                  case c1 => exact two_one _ _
                  case c3 => unfold maxLen; omega
                  case c4 => omega
                  case c5 => have h1 := HW8.out.size; have h2 := hV.out.size; rw [al_size] at h2; simp; omega
                  intro v9 w9 hown hgrow _ hat
                  have hV8 := Lib.hid (hV.out.trans (HW8.out.mono (by have h2 := hV.out.size; rw [al_size] at h2; omega)))
                  have hV9 := Lib.hid ((hV8.out.alloc (by have h2 := hV8.out.size; rw [al_size] at h2; simp; omega) (.cells #[.int .i64 xf, .int .i64 xo] 133)).grown hgrow (by have h2 := hV8.out.size; rw [al_size] at h2; simp; omega) (fun q e => (HQ1.out.lt q e).1))
                  have R2 := appE_other HQ2.out HAP.out.symm hgrow hat
                  have hO9 := Lib.hid (ownE_snoc2 (e := ((xf, xo) : End)) hLs hown)
                  have hP9 := Lib.hid R2.1
                  have hA9 := Lib.hid R2.2
                  have h59 := Lib.hid (show w9.heap[wr.heap.size]? = _ from keepE HQ1.out (blk_in hH5.out HB8.out) (by decide) hgrow)
                  obtain ⟨m0, m1, m2, m3, m4⟩ := cells5 h59.out
                  have ml := lt_of h59.out
                  clear hown hgrow hat R2
                  go_wp2_with (first | (go_at_call 113; refine (itgt_any xf xo xt xi _ _).mono ?_; rintro e w10 ⟨rfl, hb10⟩; have HB10 := Lib.hid hb10; have HQ3 := Lib.hid (hO9.out.below hb10); have HQ4 := Lib.hid (hP9.out.below hb10); have hV10 := Lib.hid (hV9.out.trans (hb10.mono (by have h2 := hV9.out.size; rw [al_size] at h2; omega))); clear hb10) | (at_builtin; refine wpList_append_own_at _ rfl _ _ 131 rfl (w.heap.size + 1) 133 i0 (.agg #[.int .i64 0, .int .i64 0]) 2 16 Try.underlying131 hi hz0 hz1 hz2 rfl (by decide) _ _ _ rfl (World.ownsRow.alloc HQ4.out _) ⟨_, 0, none⟩ 1 1 [.int .i64 xt, .int .i64 xi] rfl rfl ?c0 ?c1 ?c3 ?c4 ?c5 ?_))
                  case c0 => exact two_new _ _ _ _
                  case c1 => exact two_one _ _
                  case c3 => unfold maxLen; omega
                  case c4 => omega
                  case c5 => have h2 := hV10.out.size; rw [al_size] at h2; simp; omega
                  intro v11 w11 hown hgrow _ hat
                  have hV11 := Lib.hid ((hV10.out.alloc (by have h2 := hV10.out.size; rw [al_size] at h2; simp; omega) (.cells #[.int .i64 xt, .int .i64 xi] 133)).grown hgrow (by have h2 := hV10.out.size; rw [al_size] at h2; simp; omega) (fun q e => (HQ4.out.lt q e).1))
                  have R2 := appE_other HQ3.out hA9.out.symm hgrow hat
                  have hO11 := Lib.hid (ownE_snoc2 (e := ((xt, xi) : End)) hLt hown)
                  have hP11 := Lib.hid R2.1
                  have hA11 := Lib.hid R2.2
                  clear hown hgrow hat R2
                  go_wp2_with fail
                  go_roundw
                  case rel => exact ⟨j + 1, by omega, by go_num, Lib.hid (allT_step HX.out hL.out HLK.out), Lib.hid (by rw [ends_step HX.out, ← HLE.out]; exact hP11.out), Lib.hid (by rw [ends_step HX.out, ← HME.out]; exact hO11.out), hA11, hV11⟩
                  case measure => simp [intOf]; omega
              · rw [decide_eq_false hin] at IC
                have HIN := Lib.hid hin
                have HLK := Lib.hid (show linkL ⟨xf, xo, xt, xi, xk⟩ = true by simp [linkL, Lnk.src, Lnk.tgt, hs, hin])
                clear hin
                go_wp2_with (first | (go_at_call 109; refine SC.out.mono ?_; rintro e w2 ⟨rfl, rfl⟩) | (go_at_call 110; refine (IC.out _).mono ?_; rintro e w6 ⟨rfl, hb6⟩; have HB6 := Lib.hid hb6; have B6 := blk_in hH5.out hb6; obtain ⟨f0, f1, f2, f3, f4⟩ := cells5 B6; have fl := lt_of B6; clear hb6 B6) | (go_at_call 112; refine (isrc_any xf xo xt xi _ _).mono ?_; rintro e w8 ⟨rfl, hb8⟩; have HB8 := Lib.hid (HB6.out.trans (hb8.mono HB6.out.size)); have B8 := blk_in hH5.out HB8.out; obtain ⟨k0, k1, k2, k3, k4⟩ := cells5 B8; have kl := lt_of B8; have HW8 := Lib.hid (HB5.out.trans (HB8.out.mono (HB5.out.size))); have HQ1 := Lib.hid (HO1.out.below HW8.out); have HQ2 := Lib.hid (HO2.out.below HW8.out); clear hb8 B8) | (at_builtin; refine wpList_append_own_at _ rfl _ _ 131 rfl (w.heap.size + 1) 133 i0 (.agg #[.int .i64 0, .int .i64 0]) 2 16 Try.underlying131 hi hz0 hz1 hz2 rfl (by decide) _ _ _ rfl (World.ownsRow.alloc HQ1.out _) ⟨_, 0, none⟩ 1 1 [.int .i64 xf, .int .i64 xo] rfl rfl ?c0 ?c1 ?c3 ?c4 ?c5 ?_))
                case c0 => exact two_new _ _ _ _
                case c1 => exact two_one _ _
                case c3 => unfold maxLen; omega
                case c4 => omega
                case c5 => have h1 := HW8.out.size; have h2 := hV.out.size; rw [al_size] at h2; simp; omega
                intro v9 w9 hown hgrow _ hat
                have hV8 := Lib.hid (hV.out.trans (HW8.out.mono (by have h2 := hV.out.size; rw [al_size] at h2; omega)))
                have hV9 := Lib.hid ((hV8.out.alloc (by have h2 := hV8.out.size; rw [al_size] at h2; simp; omega) (.cells #[.int .i64 xf, .int .i64 xo] 133)).grown hgrow (by have h2 := hV8.out.size; rw [al_size] at h2; simp; omega) (fun q e => (HQ1.out.lt q e).1))
                have R2 := appE_other HQ2.out HAP.out.symm hgrow hat
                have hO9 := Lib.hid (ownE_snoc2 (e := ((xf, xo) : End)) hLs hown)
                have hP9 := Lib.hid R2.1
                have hA9 := Lib.hid R2.2
                have h59 := Lib.hid (show w9.heap[wr.heap.size]? = _ from keepE HQ1.out (blk_in hH5.out HB8.out) (by decide) hgrow)
                obtain ⟨m0, m1, m2, m3, m4⟩ := cells5 h59.out
                have ml := lt_of h59.out
                clear hown hgrow hat R2
                go_wp2_with (first | (go_at_call 113; refine (itgt_any xf xo xt xi _ _).mono ?_; rintro e w10 ⟨rfl, hb10⟩; have HB10 := Lib.hid hb10; have HQ3 := Lib.hid (hO9.out.below hb10); have HQ4 := Lib.hid (hP9.out.below hb10); have hV10 := Lib.hid (hV9.out.trans (hb10.mono (by have h2 := hV9.out.size; rw [al_size] at h2; omega))); clear hb10) | (at_builtin; refine wpList_append_own_at _ rfl _ _ 131 rfl (w.heap.size + 1) 133 i0 (.agg #[.int .i64 0, .int .i64 0]) 2 16 Try.underlying131 hi hz0 hz1 hz2 rfl (by decide) _ _ _ rfl (World.ownsRow.alloc HQ4.out _) ⟨_, 0, none⟩ 1 1 [.int .i64 xt, .int .i64 xi] rfl rfl ?c0 ?c1 ?c3 ?c4 ?c5 ?_))
                case c0 => exact two_new _ _ _ _
                case c1 => exact two_one _ _
                case c3 => unfold maxLen; omega
                case c4 => omega
                case c5 => have h2 := hV10.out.size; rw [al_size] at h2; simp; omega
                intro v11 w11 hown hgrow _ hat
                have hV11 := Lib.hid ((hV10.out.alloc (by have h2 := hV10.out.size; rw [al_size] at h2; simp; omega) (.cells #[.int .i64 xt, .int .i64 xi] 133)).grown hgrow (by have h2 := hV10.out.size; rw [al_size] at h2; simp; omega) (fun q e => (HQ4.out.lt q e).1))
                have R2 := appE_other HQ3.out hA9.out.symm hgrow hat
                have hO11 := Lib.hid (ownE_snoc2 (e := ((xt, xi) : End)) hLt hown)
                have hP11 := Lib.hid R2.1
                have hA11 := Lib.hid R2.2
                clear hown hgrow hat R2
                go_wp2_with fail
                go_roundw
                case rel => exact ⟨j + 1, by omega, by go_num, Lib.hid (allT_step HX.out hL.out HLK.out), Lib.hid (by rw [ends_step HX.out, ← HLE.out]; exact hP11.out), Lib.hid (by rw [ends_step HX.out, ← HME.out]; exact hO11.out), hA11, hV11⟩
                case measure => simp [intOf]; omega
        · have HLALL := Lib.hid (allT_end (by rw [← HN.out]; exact hjl) hL.out)
          have HO1' := HO1.out
          have HO2' := HO2.out
          rw [List.take_of_length_le (by rw [← HN.out]; omega)] at HO1' HO2'
          replace HO1 := Lib.hid HO1'
          replace HO2 := Lib.hid HO2'
          clear HO1' HO2'
          have hE := Lib.hid (HR.out.trans (okN_rest HHEAD.out HLALL.out))
          have B := blk_in hH.out (hV.out.mono (by simp))
          obtain ⟨t0, t1⟩ := cells2 B
          have tl := lt_of B
          clear B
          have hwf := HL.out.wf
          have NV := Lib.hid (show NetV wr (.agg #[.slice pa m pcap, .slice la n lcap]) ⟨ps, ls⟩ from ⟨_, _, rfl, HP.out.below HC.out, HL.out.below HC.out⟩)
          have HBX := Lib.hid (blk_in hH.out (hV.out.mono (by simp)))
          have hp12 : ps.length ≤ 12 := by rw [← HM.out]; exact q0
          have lo1 := portsFrom_len (fun p hp => (okP_outs hp).2) 0 ps HALL.out
          have lo2 := portsFrom_len (fun p hp => (okP_ins hp).2) 0 ps HALL.out
          have ln30 : ls.length ≤ 30 := by rw [← HN.out]; exact q1
          obtain ⟨b1, hb1⟩ : ∃ b, b = once (ports Prg.outs ps) (ls.map Lnk.src) := ⟨_, rfl⟩
          obtain ⟨b2, hb2⟩ : ∃ b, b = once (ports Prg.ins ps) (ls.map Lnk.tgt) := ⟨_, rfl⟩
          have E1 := Lib.hid (fun (lo : Nat) (v u : Value) (W : World) (hv : OwnE lo W v (ports Prg.outs ps)) (hu : OwnE lo W u (ls.map Lnk.src)) => each_is (ieach_any lo v u _ _ W hv hu (ports_nodup _ _ _) (ports_wf (fun p hp => (okP_outs hp).2) HALL.out hp12) (by intro e he; obtain ⟨l, hl, rfl⟩ := List.mem_map.1 he; exact (hwf l hl).1) (by unfold ports; omega) (by rw [List.length_map]; omega)) hb1)
          have E2 := Lib.hid (fun (lo : Nat) (v u : Value) (W : World) (hv : OwnE lo W v (ports Prg.ins ps)) (hu : OwnE lo W u (ls.map Lnk.tgt)) => each_is (ieach_any lo v u _ _ W hv hu (ports_nodup _ _ _) (ports_wf (fun p hp => (okP_ins hp).2) HALL.out hp12) (by intro e he; obtain ⟨l, hl, rfl⟩ := List.mem_map.1 he; exact (hwf l hl).2) (by unfold ports; omega) (by rw [List.length_map]; omega)) hb2)
          rw [← hb1, ← hb2] at hE
          clear hb1 hb2 hwf lo1 lo2 ln30 hp12
          cases b1 with
          | false =>
            go_wp2_with (first | (go_at_call 115; refine (iports_outs _ ⟨ps, ls⟩ _ NV.out HHEAD.out).mono ?_; rintro e w20 ⟨v20, rfl, ho20, hb20⟩; have HO20 := Lib.hid ho20; have HB20 := Lib.hid hb20; clear ho20 hb20) | (go_at_call 114; refine (E1.out (w.heap.size + 1) _ _ _ (HO20.out.mono (by have h2 := hV.out.size; rw [al_size] at h2; omega)) (HO1.out.below HB20.out)).mono ?_; rintro e w21 ⟨rfl, hb21⟩; have HB21 := Lib.hid (HB20.out.trans (hb21.mono HB20.out.size)); have B21 := blk_in HBX.out HB21.out; obtain ⟨x0, x1⟩ := cells2 B21; have xl := lt_of B21; have NV21 := Lib.hid (NV.out.below HB21.out); clear hb21 B21))
            go_ret
            exact ⟨ret_bool hE.out, HC.out.trans (HB21.out.mono HC.out.size)⟩
          | true =>
            go_wp2_with (first | (go_at_call 115; refine (iports_ins _ ⟨ps, ls⟩ _ NV21.out HHEAD.out).mono ?_; rintro e w22 ⟨v22, rfl, ho22, hb22⟩; have HO22 := Lib.hid ho22; have HB22 := Lib.hid (HB21.out.trans (hb22.mono HB21.out.size)); clear ho22 hb22) | (go_at_call 115; refine (iports_outs _ ⟨ps, ls⟩ _ NV.out HHEAD.out).mono ?_; rintro e w20 ⟨v20, rfl, ho20, hb20⟩; have HO20 := Lib.hid ho20; have HB20 := Lib.hid hb20; clear ho20 hb20) | (go_at_call 114; refine (E2.out (w.heap.size + 1) _ _ _ (HO22.out.mono (by have h1 := HB21.out.size; have h2 := hV.out.size; rw [al_size] at h2; omega)) (HO2.out.below HB22.out)).mono ?_; rintro e w23 ⟨rfl, hb23⟩; have HB23 := Lib.hid (HB22.out.trans (hb23.mono HB22.out.size)); clear hb23) | (go_at_call 114; refine (E1.out (w.heap.size + 1) _ _ _ (HO20.out.mono (by have h2 := hV.out.size; rw [al_size] at h2; omega)) (HO1.out.below HB20.out)).mono ?_; rintro e w21 ⟨rfl, hb21⟩; have HB21 := Lib.hid (HB20.out.trans (hb21.mono HB20.out.size)); have B21 := blk_in HBX.out HB21.out; obtain ⟨x0, x1⟩ := cells2 B21; have xl := lt_of B21; have NV21 := Lib.hid (NV.out.below HB21.out); clear hb21 B21))
            go_ret
            exact ⟨ret_bool hE.out, HC.out.trans (HB23.out.mono HC.out.size)⟩
end Go.Proofs.Ytkeoefbkeommhaa
