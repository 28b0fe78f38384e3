/-
  Marks on a network of the call's own. No statement of the seat is proved here.
-/
import Derived.Test.YtjphamgkigekkaaNetTo
namespace Go.Proofs.Ytjphamgkigekkaa
open Go.RowKit

def mkAll {α : Type} (st : α → Nat) (mk : Int → α → α) : Int → List α → List α
  | _, [] => []
  | k, x :: xs => mk k x :: mkAll st mk (k + (st x : Int)) xs
theorem mkAll_len {α : Type} {st : α → Nat} {mk : Int → α → α} : ∀ (k : Int) (xs : List α), (mkAll st mk k xs).length = xs.length
  | _, [] => rfl
  | k, x :: xs => by rw [mkAll, List.length_cons, mkAll_len, List.length_cons]
theorem mkAll_app {α : Type} {st : α → Nat} {mk : Int → α → α} : ∀ (k : Int) (xs : List α) (x : α), mkAll st mk k (xs ++ [x]) = mkAll st mk k xs ++ [mk (k + ((xs.map st).sum : Nat)) x]
  | k, [], x => by simp [mkAll]
  | k, y :: ys, x => by
    rw [List.cons_append, mkAll, mkAll_app, mkAll, List.cons_append, List.map_cons, List.sum_cons]
    congr 3
    rw [Int.natCast_add]; congr 1; omega
theorem mk_sum_step {α : Type} {st : α → Nat} {xs : List α} {j : Nat} {x : α} (hx : xs[j]? = some x) : ((xs.take (j + 1)).map st).sum = ((xs.take j).map st).sum + st x := by
  have hk := (List.getElem?_eq_some_iff.1 hx).1
  rw [List.take_succ_eq_append_getElem hk, (List.getElem?_eq_some_iff.1 hx).2, List.map_append, List.sum_append]
  simp
theorem len_le_sum {α : Type} {st : α → Nat} (h : ∀ x, 1 ≤ st x) : ∀ xs : List α, xs.length ≤ (xs.map st).sum
  | [] => by simp
  | x :: xs => by rw [List.length_cons, List.map_cons, List.sum_cons]; have := len_le_sum h xs; have := h x; omega
theorem mk_sum_take_le {α : Type} {st : α → Nat} (xs : List α) (j : Nat) : ((xs.take j).map st).sum ≤ (xs.map st).sum := by
  conv => rhs; rw [← List.take_append_drop j xs, List.map_append, List.sum_append]
  omega
/-- The list of which the first j are marked. -/
def mkT {α : Type} (st : α → Nat) (mk : Int → α → α) (k : Int) (xs : List α) (j : Nat) : List α := mkAll st mk k (xs.take j) ++ xs.drop j
theorem mkT_len {α : Type} {st : α → Nat} {mk : Int → α → α} (k : Int) (xs : List α) (j : Nat) : (mkT st mk k xs j).length = xs.length := by
  unfold mkT
  rw [List.length_append, mkAll_len, ← List.length_append, List.take_append_drop]
theorem mkT_zero {α : Type} {st : α → Nat} {mk : Int → α → α} (k : Int) (xs : List α) : mkT st mk k xs 0 = xs := by simp [mkT, mkAll]
theorem mkT_all {α : Type} {st : α → Nat} {mk : Int → α → α} (k : Int) (xs : List α) : mkT st mk k xs xs.length = mkAll st mk k xs := by simp [mkT]
theorem mkT_at {α : Type} {st : α → Nat} {mk : Int → α → α} {k : Int} {xs : List α} {j : Nat} {x : α} (hx : xs[j]? = some x) : (mkT st mk k xs j)[j]? = some x := by
  have hj := (List.getElem?_eq_some_iff.1 hx).1
  unfold mkT
  have hl : (mkAll st mk k (xs.take j)).length = j := by rw [mkAll_len, List.length_take]; omega
  rw [List.getElem?_append_right (by omega), hl, Nat.sub_self, List.getElem?_drop, Nat.add_zero]
  exact hx
theorem mkT_step {α : Type} {st : α → Nat} {mk : Int → α → α} {k : Int} {xs : List α} {j : Nat} {x : α} (hx : xs[j]? = some x) : (mkT st mk k xs j).set j (mk (k + (((xs.take j).map st).sum : Nat)) x) = mkT st mk k xs (j + 1) := by
  have hj := (List.getElem?_eq_some_iff.1 hx).1
  have hv := (List.getElem?_eq_some_iff.1 hx).2
  unfold mkT
  have hl : (mkAll st mk k (xs.take j)).length = j := by rw [mkAll_len, List.length_take]; omega
  rw [List.set_append_right _ _ (by omega), hl, Nat.sub_self, List.drop_eq_getElem_cons hj, List.set_cons_zero, List.take_succ_eq_append_getElem hj, hv, mkAll_app, List.append_assoc]
  rfl
def mkP (k : Int) (p : Prg) : Prg := ⟨k, k + 1, marksI (k + 1 + 1) p.code.length⟩
def stP (p : Prg) : Nat := 2 + 4 * p.code.length
def mkL (k : Int) (l : Lnk) : Lnk := ⟨k, k + 1, k + 1 + 1, k + 1 + 1 + 1, marks (k + 1 + 1 + 1 + 1) l.tok.length⟩
def stL (l : Lnk) : Nat := 4 + l.tok.length
/-- The block g holds cells of the type T. -/
def Typed (w : World) (g T : Nat) : Prop := ∃ cs fr, w.heap[g]? = some (.cells cs T fr)
theorem row_typed {lo T sz n : Nat} {w : World} {v : Value} {cs : List Value} (h : w.ownsRow lo T sz v n cs) : ∀ q, v.ownBlock = some q → Typed w q T := by
  intro q e
  rcases h.2 with ⟨rfl, _⟩ | ⟨g, cap, cur, rfl, _, hg, _⟩
  · simp [Value.ownBlock] at e
  · simp [Value.ownBlock] at e
    subst e
    exact ⟨_, _, hg⟩
theorem Typed.setCell {w : World} {g T : Nat} (h : Typed w g T) (p : Addr) (v : Value) : Typed (w.setCell p v) g T := by
  obtain ⟨cs, fr, h⟩ := h
  by_cases e : g = p.block
  · subst e
    exact ⟨_, fr, by simp only [World.setCell, Array.getElem?_modify, h]; simp; rfl⟩
  · exact ⟨cs, fr, by rw [Below.heap_setCell _ _ _ _ e]; exact h⟩
theorem Typed.at {w w' : World} {g T T' : Nat} (h : Typed w g T) (h' : Typed w' g T') (e : w'.heap[g]? = w.heap[g]?) : T = T' := by
  obtain ⟨_, _, h⟩ := h
  obtain ⟨_, _, h'⟩ := h'
  rw [e, h] at h'
  simp at h'
  exact h'.2.1
theorem Out.refl (lo hi : Nat) (w : World) : Out lo hi w w := ⟨rfl, rfl, rfl, Nat.le_refl _, fun _ _ _ => rfl⟩
theorem Out.mono {lo hi lo' hi' : Nat} {w w' : World} (h : Out lo hi w w') (h1 : lo' ≤ lo) (h2 : hi ≤ hi') : Out lo' hi' w w' := ⟨h.os, h.tape, h.output, h.size, fun k hk ho => h.block k hk (by omega)⟩
theorem Out.setC {lo hi : Nat} {a w : World} (h : Out lo hi a w) {p : Addr} (h1 : lo ≤ p.block) (h2 : p.block < hi) (v : Value) : Out lo hi a (w.setCell p v) :=
  ⟨h.os, h.tape, h.output, by simpa using h.size, fun k hk ho => by rw [Below.heap_setCell _ _ _ _ (by omega)]; exact h.block k hk ho⟩
theorem Out.al {lo hi : Nat} {a w : World} (h : Out lo hi a w) (o : Obj) : Out lo hi a (w.alloc o) :=
  ⟨h.os, h.tape, h.output, by have := h.size; simp; omega, fun k hk ho => by rw [Below.heap_alloc _ _ _ (by have := h.size; omega)]; exact h.block k hk ho⟩
/-- As Out, and nothing changed but blocks of two types. -/
structure OutT (T1 T2 lo hi : Nat) (w w' : World) : Prop where
  out : Out lo hi w w'
  ty : ∀ k T, Typed w k T → T ≠ T1 → T ≠ T2 → w'.heap[k]? = w.heap[k]?
theorem OutT.refl (T1 T2 lo hi : Nat) (w : World) : OutT T1 T2 lo hi w w := ⟨Out.refl _ _ _, fun _ _ _ _ _ => rfl⟩
theorem OutT.setC {T1 T2 lo hi : Nat} {a w : World} (h : OutT T1 T2 lo hi a w) {p : Addr} (h1 : lo ≤ p.block) (h2 : p.block < hi) (ht : Typed w p.block T1) (v : Value) : OutT T1 T2 lo hi a (w.setCell p v) :=
  ⟨h.out.setC h1 h2 v, fun k T hk n1 n2 => by
    have e := h.ty k T hk n1 n2
    have hne : k ≠ p.block := fun q => n1 (hk.at (by rw [q]; exact ht) e)
    rw [Below.heap_setCell _ _ _ _ hne]; exact e⟩
theorem OutT.grown {T1 T2 lo hi : Nat} {a w w' : World} {row : Option Nat} (h : OutT T1 T2 lo hi a w) (hg : w.grownBy w' row) (hr : ∀ q, row = some q → lo ≤ q ∧ q < hi ∧ Typed w q T2) : OutT T1 T2 lo hi a w' :=
  ⟨h.out.trans (Out.of_grown hg fun q e => ⟨(hr q e).1, (hr q e).2.1⟩), fun k T hk n1 n2 => by
    have e := h.ty k T hk n1 n2
    have hk2 : k < w.heap.size := Nat.lt_of_lt_of_le (by obtain ⟨_, _, z⟩ := hk; exact lt_of z) h.out.size
    rw [hg.block k hk2 (fun q => n2 (hk.at (hr k q.symm).2.2 e))]; exact e⟩
theorem OutT.al {T1 T2 lo hi : Nat} {a w : World} (h : OutT T1 T2 lo hi a w) (o : Obj) : OutT T1 T2 lo hi a (w.alloc o) :=
  ⟨h.out.al o, fun k T hk n1 n2 => by
    have hk2 : k < w.heap.size := Nat.lt_of_lt_of_le (by obtain ⟨_, _, z⟩ := hk; exact lt_of z) h.out.size
    rw [Below.heap_alloc _ _ _ hk2]; exact h.ty k T hk n1 n2⟩
theorem row_outT {T1 T2 lo hi l T sz n : Nat} {w w' : World} {v : Value} {cs : List Value} (h : w.ownsRow l T sz v n cs) (ho : OutT T1 T2 lo hi w w') (n1 : T ≠ T1) (n2 : T ≠ T2) : w'.ownsRow l T sz v n cs := by
  have ht := row_typed h
  refine ⟨h.1, ?_⟩
  rcases h.2 with hn | ⟨g, cap, cur, rfl, hbb, hg, rest⟩
  · exact .inl hn
  · exact .inr ⟨g, cap, cur, rfl, hbb, by rw [ho.ty g T (ht g rfl) n1 n2]; exact hg, rest⟩

theorem PrgsO.look {g m j : Nat} {w : World} {xs : List Prg} {x : Prg} (h : PrgsO g m w xs m) (hj : j < m) (hx : xs[j]? = some x) :
    ∃ c, w.cell? ⟨g, j * 3, none⟩ = some (.int .i64 x.ins) ∧ w.cell? ⟨g, j * 3 + 1, none⟩ = some (.int .i64 x.outs) ∧ w.cell? ⟨g, j * 3 + 2, none⟩ = some c ∧ OwnI (g + 1) w c x.code ∧ w.frozen? ⟨g, j * 3, none⟩ = false ∧ w.frozen? ⟨g, j * 3 + 1, none⟩ = false ∧ w.frozen? ⟨g, j * 3 + 2, none⟩ = false ∧ g < w.heap.size := by
  obtain ⟨cs, h1, h2⟩ := h
  have hl := h1.1
  obtain ⟨c, hc⟩ := h2 j x hj hx
  exact ⟨c, (h1.cellAt _ (by omega)).trans (hc.1), (h1.cellAt _ (by omega)).trans (hc.2.1), (h1.cellAt _ (by omega)).trans (hc.2.2.1), hc.2.2.2, h1.frozenAt _, h1.frozenAt _, h1.frozenAt _, (World.ownsRow.lt h1 g rfl).2⟩
theorem PrgsO.outT {T1 T2 lo hi g m k : Nat} {w w' : World} {xs : List Prg} (h : PrgsO g m w xs k) (ho : OutT T1 T2 lo hi w w') (n1 : 86 ≠ T1) (n2 : 86 ≠ T2) (n3 : 156 ≠ T1) (n4 : 156 ≠ T2) : PrgsO g m w' xs k ∧ ∀ hi' k', k' ≤ m → RowA 3 g hi' w k' → RowA 3 g hi' w' k' := by
  obtain ⟨cs, h1, h2⟩ := h
  have hl := h1.1
  have R := row_outT h1 ho n1 n2
  refine ⟨⟨cs, R, fun i x hi hx => ?_⟩, fun hi' k' hk' ha => ha.same fun i hi => by rw [R.cellAt _ (by omega), h1.cellAt _ (by omega)]⟩
  obtain ⟨c, hc⟩ := h2 i x hi hx
  exact ⟨c, hc.1, hc.2.1, hc.2.2.1, row_outT (hc.2.2.2) ho n3 n4⟩
theorem PrgsO.typed {g m k : Nat} {w : World} {xs : List Prg} (h : PrgsO g m w xs k) : Typed w g 86 := by
  obtain ⟨cs, h1, h2⟩ := h
  exact row_typed h1 g rfl
theorem PrgsO.mark {g m j hi : Nat} {w w2 : World} {xs : List Prg} {x : Prg} {c : Value} {a0 a1 : Int} {ys : _} (h : PrgsO g m w xs m) (ha : RowA 3 g hi w m) (hj : j < m) (hm : xs.length = m) (hx : xs[j]? = some x) (hc : w.cell? ⟨g, j * 3 + 2, none⟩ = some c)
    (hg : ((w.setCell ⟨g, j * 3, none⟩ (.int .i64 a0)).setCell ⟨g, j * 3 + 1, none⟩ (.int .i64 a1)).grownBy w2 c.ownBlock) (ho : OwnI (g + 1) w2 c ys) : PrgsO g m w2 (xs.set j ⟨a0, a1, ys⟩) m ∧ RowA 3 g hi w2 m := by
  obtain ⟨cs, h1, h2⟩ := h
  have hl := h1.1
  have b0 := h1.stored (j * 3) (.int .i64 a0)
  have b1 := b0.1.stored (j * 3 + 1) (.int .i64 a1)
  have ap : some g ≠ c.ownBlock := fun e => by have := (OwnI.lt ho g e.symm).1; omega
  have R := World.ownsRow.kept b1.1 hg (.inr ap)
  have hcl : cs[j * 3 + 2]? = some c := (h1.cellAt _ (by omega)).symm.trans hc
  have hsame : ∀ i, i < m → w2.cell? ⟨g, i * 3 + (3 - 1), none⟩ = w.cell? ⟨g, i * 3 + (3 - 1), none⟩ := fun i hi => by
    rw [R.cellAt _ (by omega), h1.cellAt _ (by omega)]
    rw [set_keep _ _ _ _ (by omega), set_keep _ _ _ _ (by omega)]
  refine ⟨⟨_, R, fun i y hi hy => ?_⟩, ha.same hsame⟩
  by_cases e : i = j
  · subst e
    rw [List.getElem?_set_self (by omega)] at hy
    obtain rfl := Option.some.inj hy
    exact ⟨c, (by rw [set_keep _ _ _ _ (by omega)]; exact set_hit _ _ _ (by first | omega | (simp only [List.length_set]; omega))), (by exact set_hit _ _ _ (by first | omega | (simp only [List.length_set]; omega))), (by rw [set_keep _ _ _ _ (by omega), set_keep _ _ _ _ (by omega)]; exact hcl), ho⟩
  · rw [List.getElem?_set_ne (fun q => e q.symm)] at hy
    obtain ⟨u, hu⟩ := h2 i y hi hy
    refine ⟨u, (by rw [set_keep _ _ _ _ (by omega)]; rw [set_keep _ _ _ _ (by omega)]; exact hu.1), (by rw [set_keep _ _ _ _ (by omega)]; rw [set_keep _ _ _ _ (by omega)]; exact hu.2.1), (by rw [set_keep _ _ _ _ (by omega)]; rw [set_keep _ _ _ _ (by omega)]; exact hu.2.2.1), ?_⟩
    have hw1 : OwnI (g + 1) ((w.setCell ⟨g, j * 3, none⟩ (.int .i64 a0)).setCell ⟨g, j * 3 + 1, none⟩ (.int .i64 a1)) u y.code := (((hu.2.2.2).setB (by show g < g + 1; omega) _).setB (by show g < g + 1; omega) _)
    have hcu := (h1.cellAt (i * 3 + 2) (by omega)).trans hu.2.2.1
    have hap : Apart u c := by
      rcases Nat.lt_or_gt_of_ne e with q | q
      · exact ha.ap i j u c q hj hcu hc
      · exact (ha.ap j i c u q hi hc hcu).symm
    exact hw1.kept hg hap

set_option maxRecDepth 100000 in
set_option maxHeartbeats 4000000 in
theorem markProgramS_any (g m hi : Nat) (xs : List Prg) (k : Int) (w : World) (h : PrgsO g m w xs m) (ha : RowA 3 g hi w m) (hm : xs.length = m) (hk0 : 0 ≤ k) (hk : k + ((xs.map stP).sum : Nat) ≤ 1000000000) (hgi : g < hi) :
    Calls Try.prog 68 #[.slice (some ⟨g, 0, none⟩) m m, .int .i64 k] w fun e w' => e = .returned (.int .i64 (k + ((xs.map stP).sum : Nat))) ∧ PrgsO g m w' (mkAll stP mkP k xs) m ∧ RowA 3 g hi w' m ∧ OutT 86 156 g hi w w' := by
  obtain ⟨s, hs⟩ : ∃ s : Nat, s = (xs.map stP).sum := ⟨_, rfl⟩
  rw [← hs] at hk ⊢
  have HS := Lib.hid hs
  have hm9 : m ≤ 1000000000 := by have := len_le_sum (st := stP) (fun x => by unfold stP; omega) xs; omega
  have HP0 := Lib.hid (show PrgsO g m w (mkT stP mkP k xs 0) m by rw [mkT_zero]; exact h)
  have HA0 := Lib.hid ha
  have HM := Lib.hid hm
  have HGI := Lib.hid hgi
  clear hs h ha hm hgi
  go_enter Try.func68, Try.ntmps68
  go_wp2_with fail
  go_loopw [1, 5] (fun t i wr => ∃ (j : Nat) (z : Int), j ≤ m ∧ i = .int .i64 j ∧ t = .int .i64 z ∧ Hid (z = k + (((xs.take j).map stP).sum : Nat)) ∧ Hid (PrgsO g m wr (mkT stP mkP k xs j) m) ∧ Hid (RowA 3 g hi wr m) ∧ Hid (OutT 86 156 g hi w wr)) (fun _ i _ => m - (intOf i).toNat)
  case atStart => exact ⟨0, k, Nat.zero_le _, rfl, rfl, Lib.hid (by simp), HP0, HA0, Lib.hid (OutT.refl _ _ _ _ _)⟩
  case round =>
    obtain ⟨j, z, hj, rfl, rfl, HZ, HP, HA, HO⟩ := hrel
    by_cases hlt : j < m
    · obtain ⟨x, hx⟩ : ∃ x, xs[j]? = some x := ⟨_, List.getElem?_eq_getElem (by rw [HM.out]; exact hlt)⟩
      have HX := Lib.hid hx
      obtain ⟨c, e0, e1, e2, hc, hfr⟩ := HP.out.look hlt (mkT_at hx)
      have HC := Lib.hid hc
      have HCC := Lib.hid e2
      have HIL := Lib.hid hc.lt
      have hst := mk_sum_step (st := stP) hx
      have hle := mk_sum_take_le (st := stP) xs (j + 1)
      rw [hst, ← HS.out] at hle
      obtain ⟨un, hun⟩ : ∃ q, q = x.code.length := ⟨_, rfl⟩
      have hzb : 0 ≤ z ∧ z + 2 + 4 * (un : Int) ≤ 1000000000 := by have := HZ.out; have hh : stP x = 2 + 4 * x.code.length := rfl; rw [hh] at hle; omega
      obtain ⟨ua, uc, rfl⟩ := hc.shape
      obtain ⟨f0, f1, f2, hgl⟩ := hfr
      have HST := Lib.hid hst
      have HUN := Lib.hid hun
      rw [← hun] at e2 HCC HIL HC
      clear hx hc hst hle hun
      go_wp2_with (go_at_call 119; have HC2 := Lib.hid ((HC.out.setB (a := ⟨g, j * 3, none⟩) (by show g < g + 1; omega) (.int .i64 (z))).setB (a := ⟨g, j * 3 + 1, none⟩) (by show g < g + 1; omega) (.int .i64 (z + 1))); refine (markInsS_any (g + 1) (.slice ua un uc) x.code (z + 1 + 1) _ HC2.out (by omega) (by omega) (by have := HUN.out; omega)).mono ?_; rintro e w2 ⟨rfl, ho2, hg2⟩; have HQ := Lib.hid (PrgsO.mark HP.out HA.out hlt (by rw [mkT_len]; exact HM.out) (mkT_at HX.out) HCC.out hg2 ho2); have HG2 := Lib.hid hg2; rw [← HUN.out]; clear ho2 hg2)
      go_roundw
      case rel =>
        have q1 := HQ.out.1
        have hzz := HZ.out
        have hst := HST.out
        have hun := HUN.out
        have hh : stP x = 2 + 4 * x.code.length := rfl
        refine ⟨j + 1, z + 1 + 1 + 4 * (un : Int), by omega, by go_num, rfl, Lib.hid (by rw [hst, hh]; omega), Lib.hid ?_, Lib.hid HQ.out.2, Lib.hid ?_⟩
        · have e := mkT_step (st := stP) (mk := mkP) (k := k) HX.out
          rw [← hzz] at e
          rw [← e]
          unfold mkP
          exact q1
        · exact (((HO.out.setC (p := ⟨g, j * 3, none⟩) (Nat.le_refl _) HGI.out HP.out.typed (.int .i64 (z))).setC (p := ⟨g, j * 3 + 1, none⟩) (Nat.le_refl _) HGI.out (HP.out.typed.setCell _ _) (.int .i64 (z + 1)))).grown HG2.out (fun q e => ⟨by have := (HIL.out q e).1; omega, HA.out.lt j _ hlt HCC.out q e, row_typed HC2.out q e⟩)
      case measure => simp [intOf]; omega
    · obtain rfl : j = m := by omega
      have hz := HZ.out
      have hp := HP.out
      rw [← HM.out] at hz hp
      rw [List.take_length, ← HS.out] at hz
      rw [mkT_all] at hp
      rw [HM.out] at hp
      subst hz
      go_wp2_with fail
      go_ret
      exact ⟨rfl, hp, HA.out, HO.out⟩

theorem LnksO.look {g m j : Nat} {w : World} {xs : List Lnk} {x : Lnk} (h : LnksO g m w xs m) (hj : j < m) (hx : xs[j]? = some x) :
    ∃ c, w.cell? ⟨g, j * 5, none⟩ = some (.int .i64 x.frm) ∧ w.cell? ⟨g, j * 5 + 1, none⟩ = some (.int .i64 x.out) ∧ w.cell? ⟨g, j * 5 + 2, none⟩ = some (.int .i64 x.to) ∧ w.cell? ⟨g, j * 5 + 3, none⟩ = some (.int .i64 x.inn) ∧ w.cell? ⟨g, j * 5 + 4, none⟩ = some c ∧ Own (g + 1) w c x.tok ∧ w.frozen? ⟨g, j * 5, none⟩ = false ∧ w.frozen? ⟨g, j * 5 + 1, none⟩ = false ∧ w.frozen? ⟨g, j * 5 + 2, none⟩ = false ∧ w.frozen? ⟨g, j * 5 + 3, none⟩ = false ∧ w.frozen? ⟨g, j * 5 + 4, none⟩ = false ∧ g < w.heap.size := by
  obtain ⟨cs, h1, h2⟩ := h
  have hl := h1.1
  obtain ⟨c, hc⟩ := h2 j x hj hx
  exact ⟨c, (h1.cellAt _ (by omega)).trans (hc.1), (h1.cellAt _ (by omega)).trans (hc.2.1), (h1.cellAt _ (by omega)).trans (hc.2.2.1), (h1.cellAt _ (by omega)).trans (hc.2.2.2.1), (h1.cellAt _ (by omega)).trans (hc.2.2.2.2.1), hc.2.2.2.2.2, h1.frozenAt _, h1.frozenAt _, h1.frozenAt _, h1.frozenAt _, h1.frozenAt _, (World.ownsRow.lt h1 g rfl).2⟩
theorem LnksO.outT {T1 T2 lo hi g m k : Nat} {w w' : World} {xs : List Lnk} (h : LnksO g m w xs k) (ho : OutT T1 T2 lo hi w w') (n1 : 82 ≠ T1) (n2 : 82 ≠ T2) (n3 : 3 ≠ T1) (n4 : 3 ≠ T2) : LnksO g m w' xs k ∧ ∀ hi' k', k' ≤ m → RowA 5 g hi' w k' → RowA 5 g hi' w' k' := by
  obtain ⟨cs, h1, h2⟩ := h
  have hl := h1.1
  have R := row_outT h1 ho n1 n2
  refine ⟨⟨cs, R, fun i x hi hx => ?_⟩, fun hi' k' hk' ha => ha.same fun i hi => by rw [R.cellAt _ (by omega), h1.cellAt _ (by omega)]⟩
  obtain ⟨c, hc⟩ := h2 i x hi hx
  exact ⟨c, hc.1, hc.2.1, hc.2.2.1, hc.2.2.2.1, hc.2.2.2.2.1, row_outT (hc.2.2.2.2.2) ho n3 n4⟩
theorem LnksO.typed {g m k : Nat} {w : World} {xs : List Lnk} (h : LnksO g m w xs k) : Typed w g 82 := by
  obtain ⟨cs, h1, h2⟩ := h
  exact row_typed h1 g rfl
theorem LnksO.mark {g m j hi : Nat} {w w2 : World} {xs : List Lnk} {x : Lnk} {c : Value} {a0 a1 a2 a3 : Int} {ys : _} (h : LnksO g m w xs m) (ha : RowA 5 g hi w m) (hj : j < m) (hm : xs.length = m) (hx : xs[j]? = some x) (hc : w.cell? ⟨g, j * 5 + 4, none⟩ = some c)
    (hg : ((((w.setCell ⟨g, j * 5, none⟩ (.int .i64 a0)).setCell ⟨g, j * 5 + 1, none⟩ (.int .i64 a1)).setCell ⟨g, j * 5 + 2, none⟩ (.int .i64 a2)).setCell ⟨g, j * 5 + 3, none⟩ (.int .i64 a3)).grownBy w2 c.ownBlock) (ho : Own (g + 1) w2 c ys) : LnksO g m w2 (xs.set j ⟨a0, a1, a2, a3, ys⟩) m ∧ RowA 5 g hi w2 m := by
  obtain ⟨cs, h1, h2⟩ := h
  have hl := h1.1
  have b0 := h1.stored (j * 5) (.int .i64 a0)
  have b1 := b0.1.stored (j * 5 + 1) (.int .i64 a1)
  have b2 := b1.1.stored (j * 5 + 2) (.int .i64 a2)
  have b3 := b2.1.stored (j * 5 + 3) (.int .i64 a3)
  have ap : some g ≠ c.ownBlock := fun e => by have := (Own.lt ho g e.symm).1; omega
  have R := World.ownsRow.kept b3.1 hg (.inr ap)
  have hcl : cs[j * 5 + 4]? = some c := (h1.cellAt _ (by omega)).symm.trans hc
  have hsame : ∀ i, i < m → w2.cell? ⟨g, i * 5 + (5 - 1), none⟩ = w.cell? ⟨g, i * 5 + (5 - 1), none⟩ := fun i hi => by
    rw [R.cellAt _ (by omega), h1.cellAt _ (by omega)]
    rw [set_keep _ _ _ _ (by omega), set_keep _ _ _ _ (by omega), set_keep _ _ _ _ (by omega), set_keep _ _ _ _ (by omega)]
  refine ⟨⟨_, R, fun i y hi hy => ?_⟩, ha.same hsame⟩
  by_cases e : i = j
  · subst e
    rw [List.getElem?_set_self (by omega)] at hy
    obtain rfl := Option.some.inj hy
    exact ⟨c, (by rw [set_keep _ _ _ _ (by omega)]; rw [set_keep _ _ _ _ (by omega)]; rw [set_keep _ _ _ _ (by omega)]; exact set_hit _ _ _ (by first | omega | (simp only [List.length_set]; omega))), (by rw [set_keep _ _ _ _ (by omega)]; rw [set_keep _ _ _ _ (by omega)]; exact set_hit _ _ _ (by first | omega | (simp only [List.length_set]; omega))), (by rw [set_keep _ _ _ _ (by omega)]; exact set_hit _ _ _ (by first | omega | (simp only [List.length_set]; omega))), (by exact set_hit _ _ _ (by first | omega | (simp only [List.length_set]; omega))), (by rw [set_keep _ _ _ _ (by omega), set_keep _ _ _ _ (by omega), set_keep _ _ _ _ (by omega), set_keep _ _ _ _ (by omega)]; exact hcl), ho⟩
  · rw [List.getElem?_set_ne (fun q => e q.symm)] at hy
    obtain ⟨u, hu⟩ := h2 i y hi hy
    refine ⟨u, (by rw [set_keep _ _ _ _ (by omega)]; rw [set_keep _ _ _ _ (by omega)]; rw [set_keep _ _ _ _ (by omega)]; rw [set_keep _ _ _ _ (by omega)]; exact hu.1), (by rw [set_keep _ _ _ _ (by omega)]; rw [set_keep _ _ _ _ (by omega)]; rw [set_keep _ _ _ _ (by omega)]; rw [set_keep _ _ _ _ (by omega)]; exact hu.2.1), (by rw [set_keep _ _ _ _ (by omega)]; rw [set_keep _ _ _ _ (by omega)]; rw [set_keep _ _ _ _ (by omega)]; rw [set_keep _ _ _ _ (by omega)]; exact hu.2.2.1), (by rw [set_keep _ _ _ _ (by omega)]; rw [set_keep _ _ _ _ (by omega)]; rw [set_keep _ _ _ _ (by omega)]; rw [set_keep _ _ _ _ (by omega)]; exact hu.2.2.2.1), (by rw [set_keep _ _ _ _ (by omega)]; rw [set_keep _ _ _ _ (by omega)]; rw [set_keep _ _ _ _ (by omega)]; rw [set_keep _ _ _ _ (by omega)]; exact hu.2.2.2.2.1), ?_⟩
    have hw1 : Own (g + 1) ((((w.setCell ⟨g, j * 5, none⟩ (.int .i64 a0)).setCell ⟨g, j * 5 + 1, none⟩ (.int .i64 a1)).setCell ⟨g, j * 5 + 2, none⟩ (.int .i64 a2)).setCell ⟨g, j * 5 + 3, none⟩ (.int .i64 a3)) u y.tok := (((((hu.2.2.2.2.2).setB (by show g < g + 1; omega) _).setB (by show g < g + 1; omega) _).setB (by show g < g + 1; omega) _).setB (by show g < g + 1; omega) _)
    have hcu := (h1.cellAt (i * 5 + 4) (by omega)).trans hu.2.2.2.2.1
    have hap : Apart u c := by
      rcases Nat.lt_or_gt_of_ne e with q | q
      · exact ha.ap i j u c q hj hcu hc
      · exact (ha.ap j i c u q hi hc hcu).symm
    exact hw1.kept hg hap

set_option maxRecDepth 100000 in
set_option maxHeartbeats 4000000 in
theorem markLinkS_any (g m hi : Nat) (xs : List Lnk) (k : Int) (w : World) (h : LnksO g m w xs m) (ha : RowA 5 g hi w m) (hm : xs.length = m) (hk0 : 0 ≤ k) (hk : k + ((xs.map stL).sum : Nat) ≤ 1000000000) (hgi : g < hi) :
    Calls Try.prog 69 #[.slice (some ⟨g, 0, none⟩) m m, .int .i64 k] w fun e w' => e = .returned (.int .i64 (k + ((xs.map stL).sum : Nat))) ∧ LnksO g m w' (mkAll stL mkL k xs) m ∧ RowA 5 g hi w' m ∧ OutT 82 3 g hi w w' := by
  obtain ⟨s, hs⟩ : ∃ s : Nat, s = (xs.map stL).sum := ⟨_, rfl⟩
  rw [← hs] at hk ⊢
  have HS := Lib.hid hs
  have hm9 : m ≤ 1000000000 := by have := len_le_sum (st := stL) (fun x => by unfold stL; omega) xs; omega
  have HP0 := Lib.hid (show LnksO g m w (mkT stL mkL k xs 0) m by rw [mkT_zero]; exact h)
  have HA0 := Lib.hid ha
  have HM := Lib.hid hm
  have HGI := Lib.hid hgi
  clear hs h ha hm hgi
  go_enter Try.func69, Try.ntmps69
  go_wp2_with fail
  go_loopw [1, 5] (fun t i wr => ∃ (j : Nat) (z : Int), j ≤ m ∧ i = .int .i64 j ∧ t = .int .i64 z ∧ Hid (z = k + (((xs.take j).map stL).sum : Nat)) ∧ Hid (LnksO g m wr (mkT stL mkL k xs j) m) ∧ Hid (RowA 5 g hi wr m) ∧ Hid (OutT 82 3 g hi w wr)) (fun _ i _ => m - (intOf i).toNat)
  case atStart => exact ⟨0, k, Nat.zero_le _, rfl, rfl, Lib.hid (by simp), HP0, HA0, Lib.hid (OutT.refl _ _ _ _ _)⟩
  case round =>
    obtain ⟨j, z, hj, rfl, rfl, HZ, HP, HA, HO⟩ := hrel
    by_cases hlt : j < m
    · obtain ⟨x, hx⟩ : ∃ x, xs[j]? = some x := ⟨_, List.getElem?_eq_getElem (by rw [HM.out]; exact hlt)⟩
      have HX := Lib.hid hx
      obtain ⟨c, e0, e1, e2, e3, e4, hc, hfr⟩ := HP.out.look hlt (mkT_at hx)
      have HC := Lib.hid hc
      have HCC := Lib.hid e4
      have HIL := Lib.hid hc.lt
      have hst := mk_sum_step (st := stL) hx
      have hle := mk_sum_take_le (st := stL) xs (j + 1)
      rw [hst, ← HS.out] at hle
      obtain ⟨un, hun⟩ : ∃ q, q = x.tok.length := ⟨_, rfl⟩
      have hzb : 0 ≤ z ∧ z + 4 + (un : Int) ≤ 1000000000 := by have := HZ.out; have hh : stL x = 4 + x.tok.length := rfl; rw [hh] at hle; omega
      obtain ⟨ua, uc, rfl⟩ := hc.shape
      obtain ⟨f0, f1, f2, f3, f4, hgl⟩ := hfr
      have HST := Lib.hid hst
      have HUN := Lib.hid hun
      rw [← hun] at e4 HCC HIL HC
      clear hx hc hst hle hun
      go_wp2_with (go_at_call 35; have HC2 := Lib.hid ((((HC.out.setB (a := ⟨g, j * 5, none⟩) (by show g < g + 1; omega) (.int .i64 (z))).setB (a := ⟨g, j * 5 + 1, none⟩) (by show g < g + 1; omega) (.int .i64 (z + 1))).setB (a := ⟨g, j * 5 + 2, none⟩) (by show g < g + 1; omega) (.int .i64 (z + 1 + 1))).setB (a := ⟨g, j * 5 + 3, none⟩) (by show g < g + 1; omega) (.int .i64 (z + 1 + 1 + 1))); refine (mark_any (g + 1) (.slice ua un uc) x.tok (z + 1 + 1 + 1 + 1) _ HC2.out (by omega) (by omega) (by have := HUN.out; omega)).mono ?_; rintro e w2 ⟨rfl, ho2, hg2⟩; have HQ := Lib.hid (LnksO.mark HP.out HA.out hlt (by rw [mkT_len]; exact HM.out) (mkT_at HX.out) HCC.out hg2 ho2); have HG2 := Lib.hid hg2; rw [← HUN.out]; clear ho2 hg2)
      go_roundw
      case rel =>
        have q1 := HQ.out.1
        have hzz := HZ.out
        have hst := HST.out
        have hun := HUN.out
        have hh : stL x = 4 + x.tok.length := rfl
        refine ⟨j + 1, z + 1 + 1 + 1 + 1 + (un : Int), by omega, by go_num, rfl, Lib.hid (by rw [hst, hh]; omega), Lib.hid ?_, Lib.hid HQ.out.2, Lib.hid ?_⟩
        · have e := mkT_step (st := stL) (mk := mkL) (k := k) HX.out
          rw [← hzz] at e
          rw [← e]
          unfold mkL
          exact q1
        · exact (((((HO.out.setC (p := ⟨g, j * 5, none⟩) (Nat.le_refl _) HGI.out HP.out.typed (.int .i64 (z))).setC (p := ⟨g, j * 5 + 1, none⟩) (Nat.le_refl _) HGI.out (HP.out.typed.setCell _ _) (.int .i64 (z + 1))).setC (p := ⟨g, j * 5 + 2, none⟩) (Nat.le_refl _) HGI.out ((HP.out.typed.setCell _ _).setCell _ _) (.int .i64 (z + 1 + 1))).setC (p := ⟨g, j * 5 + 3, none⟩) (Nat.le_refl _) HGI.out (((HP.out.typed.setCell _ _).setCell _ _).setCell _ _) (.int .i64 (z + 1 + 1 + 1)))).grown HG2.out (fun q e => ⟨by have := (HIL.out q e).1; omega, HA.out.lt j _ hlt HCC.out q e, row_typed HC2.out q e⟩)
      case measure => simp [intOf]; omega
    · obtain rfl : j = m := by omega
      have hz := HZ.out
      have hp := HP.out
      rw [← HM.out] at hz hp
      rw [List.take_length, ← HS.out] at hz
      rw [mkT_all] at hp
      rw [HM.out] at hp
      subst hz
      go_wp2_with fail
      go_ret
      exact ⟨rfl, hp, HA.out, HO.out⟩

def stN (n : Net) : Nat := (n.progs.map stP).sum + (n.links.map stL).sum
theorem sum_stP : ∀ ps : List Prg, (ps.map stP).sum ≤ 4 * (ps.length + (ps.map fun p => p.code.length).sum)
  | [] => by simp
  | p :: ps => by
    have := sum_stP ps
    rw [List.map_cons, List.sum_cons, List.map_cons, List.sum_cons, List.length_cons]
    unfold stP at this ⊢
    omega
theorem sum_stL : ∀ ps : List Lnk, (ps.map stL).sum ≤ 4 * (ps.length + (ps.map fun p => p.tok.length).sum)
  | [] => by simp
  | p :: ps => by
    have := sum_stL ps
    rw [List.map_cons, List.sum_cons, List.map_cons, List.sum_cons, List.length_cons]
    unfold stL at this ⊢
    omega
theorem stN_le (n : Net) : stN n ≤ 4 * szN n := by
  have := sum_stP n.progs
  have := sum_stL n.links
  unfold stN szN
  omega
set_option maxRecDepth 100000 in
set_option maxHeartbeats 1600000 in
theorem markNet_any (lo hi : Nat) (v : Value) (n : Net) (k : Int) (w : World) (h : NetO lo hi w v n) (hw : hi ≤ w.heap.size) (hk0 : 0 ≤ k) (hk : k + (stN n : Nat) ≤ 1000000000) :
    Calls Try.prog 23 #[v, .int .i64 k] w fun e w' => e = .returned (.int .i64 (k + (stN n : Nat))) ∧ Out lo hi w w' := by
  obtain ⟨g, h, rfl, ⟨hg1, hg2⟩, ⟨hh1, hh2⟩, hp, hl, ap, al⟩ := h
  obtain ⟨ps, ls⟩ := n
  unfold stN at hk ⊢
  simp only [] at hp hl ap al hk ⊢
  have HL := Lib.hid hl
  have AL := Lib.hid al
  have LH := Lib.hid (rowltL hl)
  clear hl al
  obtain ⟨s1, hs1⟩ : ∃ s, s = (ps.map stP).sum := ⟨_, rfl⟩
  obtain ⟨s2, hs2⟩ : ∃ s, s = (ls.map stL).sum := ⟨_, rfl⟩
  rw [← hs1, ← hs2] at hk ⊢
  have CP := Lib.hid (fun (W : World) (hb : Below w.heap.size w W) => markProgramS_any g ps.length hi ps k W (hp.below hb) (ap.below hb (rowltP hp)) rfl hk0 (by rw [← hs1]; omega) hg2)
  have CL := Lib.hid (fun (W : World) (h1 : LnksO h ls.length W ls ls.length) (h2 : RowA 5 h hi W ls.length) => markLinkS_any h ls.length hi ls (k + (s1 : Nat)) W h1 h2 rfl (by omega) (by rw [← hs2]; omega) hh2)
  rw [← hs1] at CP
  rw [← hs2] at CL
  obtain ⟨m, hm⟩ : ∃ m, m = ps.length := ⟨_, rfl⟩
  obtain ⟨n, hn⟩ : ∃ m, m = ls.length := ⟨_, rfl⟩
  rw [← hm] at CP ⊢
  rw [← hn] at CL HL AL ⊢
  clear hp ap hs1 hs2 hm hn
  have hb := Lib.hid ((Below.refl w.heap.size w).al (.cells #[.slice (some ⟨g, 0, none⟩) m m, .slice (some ⟨h, 0, none⟩) n n] 34))
  have hH := Lib.hid (hp1 w (.cells #[.slice (some ⟨g, 0, none⟩) m m, .slice (some ⟨h, 0, none⟩) n n] 34))
  go_enter Try.func23, Try.ntmps23
  go_wp2_with fail
  go_at_call 68
  with_reducible refine (CP.out _ hb.out).mono ?_
  rintro e w2 ⟨rfl, hP, hA, hO⟩
  have HL1 := HL.out.below hb.out
  obtain ⟨HL2, hr⟩ := HL1.outT hO (by decide) (by decide) (by decide) (by decide)
  have AL2 := hr hi n (Nat.le_refl _) (AL.out.below hb.out LH.out)
  have CL2 := Lib.hid (CL.out _ HL2 AL2)
  have HO2 := Lib.hid hO
  have B2 := hO.out.blk hH.out (.inr hw)
  obtain ⟨c0, c1⟩ := cells2 B2
  have cl := lt_of B2
  clear hP hA hO HL1 HL2 hr AL2 B2
  go_wp2_with (go_at_call 69; with_reducible refine CL2.out.mono ?_; rintro e w3 ⟨rfl, _, _, hO3⟩; have HO3 := Lib.hid hO3; clear hO3)
  go_ret
  exact ⟨(by first | (rw [Int.natCast_add, Int.add_assoc]; rfl) | (rw [Int.natCast_add, ← Int.add_assoc]; rfl)), ((((Out.refl lo hi w).al _).trans (HO2.out.out.mono hg1 (Nat.le_refl _))).trans (HO3.out.out.mono hh1 (Nat.le_refl _)))⟩
end Go.Proofs.Ytjphamgkigekkaa
