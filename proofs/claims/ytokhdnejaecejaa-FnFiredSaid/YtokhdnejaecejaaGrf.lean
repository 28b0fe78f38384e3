/-
  Words for graphs of rates, what the law's own functions on them do, and what one that came in reads as. No statement of the seat is proved here.
-/
import Derived.Test.YtokhdnejaecejaaEdg
import Derived.Test.YtokhdnejaecejaaLop
import Derived.Test.YtokhdnejaecejaaLawKit
import Derived.OpenShut
namespace Go.Proofs.Ytokhdnejaecejaa
open Go.RowKit

structure Grf where
  nodes : Int
  edges : List Edg

/-- 'v' reads as the graph 'p'. -/
def GrV (w : World) (v : Value) (a : Grf) : Prop := ∃ c, v = .agg #[.int .i64 a.nodes, c] ∧ SlEd w c a.edges
def GrO (lo : Nat) (w : World) (v : Value) (a : Grf) : Prop := ∃ c, v = .agg #[.int .i64 a.nodes, c] ∧ OwnEd lo w c a.edges
theorem GrO.v {lo : Nat} {w : World} {v : Value} {a : Grf} (h : GrO lo w v a) : GrV w v a := by
  obtain ⟨c, h1, h2⟩ := h; exact ⟨c, h1, h2.sl⟩
theorem GrV.below {w w' : World} {v : Value} {a : Grf} (h : GrV w v a) (hb : Below w.heap.size w w') : GrV w' v a := by
  obtain ⟨c, h1, h2⟩ := h; exact ⟨c, h1, h2.below hb⟩
theorem GrO.below {lo : Nat} {w w' : World} {v : Value} {a : Grf} (h : GrO lo w v a) (hb : Below w.heap.size w w') : GrO lo w' v a := by
  obtain ⟨c, h1, h2⟩ := h; exact ⟨c, h1, h2.below hb⟩
theorem GrO.lt {lo : Nat} {w : World} {v : Value} {p : Grf} (h : GrO lo w v p) : ∀ q, (lastOf v).ownBlock = some q → lo ≤ q ∧ q < w.heap.size := by
  obtain ⟨c, rfl, h⟩ := h
  exact h.lt
theorem GrV.shape {w : World} {v : Value} {p : Grf} (h : GrV w v p) : ∃ a c, v = .agg #[.int .i64 p.nodes, .slice a p.edges.length c] := by
  obtain ⟨c, rfl, a, cap, rfl, _⟩ := h
  exact ⟨a, cap, rfl⟩
theorem OwnEd.setB {lo : Nat} {w : World} {v : Value} {xs : List Edg} (h : OwnEd lo w v xs) {a : Addr} (ha : a.block < lo) (u : Value) : OwnEd lo (w.setCell a u) v xs := ownsRow_setCell_below h ha u
theorem OwnEd.out {lo hi l h2 : Nat} {w w' : World} {v : Value} {xs : List Edg} (h : OwnEd l w v xs) (u : ∀ k, v.ownBlock = some k → k < h2) (ho : Out lo hi w w') (hd : h2 ≤ lo ∨ hi ≤ l) : OwnEd l w' v xs :=
  row_out h ho (fun k e => by have := u k e; have := (h.lt k e).1; omega)
theorem OwnLo.out {lo hi l h2 : Nat} {w w' : World} {v : Value} {xs : List Lop} (h : OwnLo l w v xs) (u : ∀ k, v.ownBlock = some k → k < h2) (ho : Out lo hi w w') (hd : h2 ≤ lo ∨ hi ≤ l) : OwnLo l w' v xs :=
  row_out h ho (fun k e => by have := u k e; have := (h.lt k e).1; omega)

set_option maxRecDepth 100000 in
set_option maxHeartbeats 1600000 in
theorem toGr_any (v : Value) (p : Grf) (w : World) (h : GrV w v p) (hs : p.edges.length ≤ 1048576) :
    Calls Try.prog 16 #[v] w fun e w' => ∃ v', e = .returned v' ∧ GrO w.heap.size w' v' p ∧ Below w.heap.size w w' := by
  obtain ⟨c, rfl, hc⟩ := h
  obtain ⟨i, code⟩ := p
  simp only [] at hc hs ⊢
  obtain ⟨n, hn⟩ : ∃ n, n = code.length := ⟨_, rfl⟩
  have HC := Lib.hid hc
  obtain ⟨a, cap, rfl, hrest⟩ := hc
  clear hrest
  rw [← hn] at HC hs ⊢
  have HN := Lib.hid hn
  clear hn
  have hb := Lib.hid ((((Below.refl w.heap.size w).al (.cells #[.int .i64 i, .slice a n cap] 24)).al (.cells #[.int .i64 0, .slice none 0 0] 29)).al (.cells #[.int .i64 i, .slice none 0 0] 29))
  have hH := Lib.hid (hp3 w (.cells #[.int .i64 i, .slice a n cap] 24) (.cells #[.int .i64 0, .slice none 0 0] 29) (.cells #[.int .i64 i, .slice none 0 0] 29))
  have hH1 := Lib.hid (hp32 w (.cells #[.int .i64 i, .slice a n cap] 24) (.cells #[.int .i64 0, .slice none 0 0] 29) (.cells #[.int .i64 i, .slice none 0 0] 29))
  go_enter Try.func16, Try.ntmps16
  go_wp2_with (go_at_call 55; refine (tosEd_any _ code _ (HC.out.below (hb.out.mono (by simp))) (by rw [← HN.out]; exact hs)).mono ?_; rintro e w2 ⟨v', rfl, ho, hb1⟩; have B := blk_in hH.out hb1; have B1 := blk_in hH1.out hb1; have c0 := cell_of B 0; have c1 := cell_of B 1; have z := fr_of B 1; have b0 := cell_of B1 0; have b1 := cell_of B1 1; have y0 := fr_of B1 0; have y1 := fr_of B1 1; simp at c0 c1 b0 b1; obtain ⟨a', cc', rfl⟩ := ho.shape; have HO := Lib.hid (OwnEd.mono (lo' := w.heap.size + 3) ho (by simp)); have HB1 := Lib.hid hb1; clear B B1 ho hb1)
  refine bodyPost_ret (v := .agg #[.int .i64 i, .slice a' code.length cc']) (by simp [results, Try.results16, go_sem, b0, b1]) rfl ⟨_, rfl, ⟨_, rfl, ?_⟩, ?_⟩
  · exact (((HO.out.setB (by simp) _).setB (by simp) _).setB (by simp) _).mono (by omega)
  · exact (((hb.out.trans (HB1.out.mono (by simp; omega))).setCell (by simp; omega) _).setCell (by simp) _).setCell (by simp) _

set_option maxRecDepth 100000 in
set_option maxHeartbeats 1600000 in
theorem eqGr_ok (v u : Value) (p : Grf) (w : World) (h : GrV w v p) (k : GrV w u p) :
    Calls Try.prog 18 #[v, u] w fun e w' => e = .returned (.bool true) ∧ Below w.heap.size w w' := by
  obtain ⟨c, rfl, hc⟩ := h
  obtain ⟨d, rfl, hd⟩ := k
  obtain ⟨i, code⟩ := p
  simp only [] at hc hd ⊢
  obtain ⟨n, hn⟩ : ∃ n, n = code.length := ⟨_, rfl⟩
  have HC := Lib.hid hc
  have HD := Lib.hid hd
  obtain ⟨a, cap, rfl, hrest⟩ := hc
  obtain ⟨a2, cap2, rfl, hrest2⟩ := hd
  clear hrest hrest2
  rw [← hn] at HC HD ⊢
  clear hn
  have hb := Lib.hid (((Below.refl w.heap.size w).al (.cells #[.int .i64 i, .slice a n cap] 29)).al (.cells #[.int .i64 i, .slice a2 n cap2] 29))
  go_enter Try.func18, Try.ntmps18
  go_wp2_with (go_at_call 57; refine (eqsEd_ok _ _ code _ (HC.out.below (hb.out.mono (by simp))) (HD.out.below (hb.out.mono (by simp)))).mono ?_; rintro e w2 ⟨rfl, hb1⟩)
  go_ret
  exact ⟨rfl, hb.out.trans (hb1.mono (by simp; omega))⟩

set_option maxRecDepth 100000 in
set_option maxHeartbeats 1600000 in
theorem markGr_any (lo : Nat) (v : Value) (p : Grf) (k : Int) (w : World) (h : GrO lo w v p) (hk0 : 0 ≤ k) (hk : k ≤ 1000000000) (hs : p.edges.length ≤ 1000000000) :
    Calls Try.prog 23 #[v, .int .i64 k] w fun e w' => e = .returned (.int .i64 (k + 5 * (p.edges.length : Int))) ∧ w.grownBy w' (lastOf v).ownBlock := by
  obtain ⟨c, rfl, hc⟩ := h
  obtain ⟨i, code⟩ := p
  simp only [] at hc hs ⊢
  have HC := Lib.hid hc
  obtain ⟨a, cap, rfl⟩ := hc.shape
  clear hc
  obtain ⟨n, hn⟩ : ∃ n, n = code.length := ⟨_, rfl⟩
  rw [← hn] at HC hs ⊢
  have HN := Lib.hid hn
  clear hn
  go_enter Try.func23, Try.ntmps23
  go_wp2_with (go_at_call 63; refine (markEd_any lo _ code k _ (World.ownsRow.alloc HC.out _) hk0 hk (by rw [← HN.out]; exact hs)).mono ?_; rintro e w2 ⟨rfl, ho, hg⟩; rw [← HN.out] at ho ⊢; have HG := Lib.hid hg; clear ho hg)
  go_ret
  refine ⟨rfl, ?_⟩
  show w.grownBy w2 (Value.slice a n cap).ownBlock
  exact (World.grownBy_alloc w _ _).trans HG.out

set_option maxHeartbeats 1600000 in
theorem szGr_any (v : Value) (p : Grf) (left : Int) (w : World) (h : GrV w v p) (hl : 0 ≤ left ∧ left ≤ 1048576) :
    Calls Try.prog 14 #[v, .int .i64 left] w fun e w' => e = .returned (.int .i64 (if (p.edges.length : Int) ≤ left then left - p.edges.length else -1)) ∧ Below w.heap.size w w' := by
  obtain ⟨c, rfl, hc⟩ := h
  obtain ⟨i, code⟩ := p
  simp only [] at hc ⊢
  have HC := Lib.hid hc
  obtain ⟨a, cap, rfl, hrest⟩ := hc
  clear hrest
  have HL := Lib.hid hl
  have hb := Lib.hid ((Below.refl w.heap.size w).al (.cells #[.int .i64 i, .slice a code.length cap] 24))
  have C := Lib.hid (szEd_any _ code left _ (HC.out.below (hb.out.mono (by simp))) HL.out)
  clear hl
  by_cases hc : (code.length : Int) ≤ left
  · rw [if_pos hc] at C ⊢
    have d : decide (left - (code.length : Int) < 0) = false := decide_eq_false (by omega)
    go_enter Try.func14, Try.ntmps14
    go_wp2_with (go_at_call 53; refine C.out.mono ?_; rintro e w2 ⟨rfl, rfl⟩)
    go_ret
    exact ⟨rfl, hb.out⟩
  · rw [if_neg hc] at C ⊢
    go_enter Try.func14, Try.ntmps14
    go_wp2_with (go_at_call 53; refine C.out.mono ?_; rintro e w2 ⟨rfl, rfl⟩)
    go_ret
    exact ⟨rfl, hb.out⟩

/-- A graph of the call's own. -/
def GrH (lo hi : Nat) (w : World) (v : Value) (p : Grf) : Prop := GrO lo w v p ∧ ∀ q, (lastOf v).ownBlock = some q → q < hi
theorem GrH.below {lo hi : Nat} {w w' : World} {v : Value} {p : Grf} (h : GrH lo hi w v p) (hb : Below w.heap.size w w') : GrH lo hi w' v p := by
  obtain ⟨⟨c, rfl, h⟩, h2⟩ := h
  exact ⟨⟨c, rfl, h.below hb⟩, h2⟩
theorem GrH.out {lo hi l2 h2 : Nat} {w w' : World} {v : Value} {p : Grf} (h : GrH lo hi w v p) (ho : Out l2 h2 w w') (hd : hi ≤ l2 ∨ h2 ≤ lo) : GrH lo hi w' v p := by
  obtain ⟨⟨c, rfl, h⟩, h2⟩ := h
  exact ⟨⟨c, rfl, h.out h2 ho (by omega)⟩, h2⟩
theorem GrH.v {lo hi : Nat} {w : World} {v : Value} {p : Grf} (h : GrH lo hi w v p) : GrV w v p := h.1.v
theorem GrH.shape {lo hi : Nat} {w : World} {v : Value} {p : Grf} (h : GrH lo hi w v p) : ∃ a c, v = .agg #[.int .i64 p.nodes, .slice a p.edges.length c] := h.v.shape
theorem toGr_h (v : Value) (p : Grf) (w : World) (h : GrV w v p) (hs : p.edges.length ≤ 1048576) :
    Calls Try.prog 16 #[v] w fun e w' => ∃ v', e = .returned v' ∧ GrH w.heap.size w'.heap.size w' v' p ∧ Below w.heap.size w w' :=
  (toGr_any v p w h hs).mono fun _ _ ⟨v', he, ho, hb⟩ => ⟨v', he, ⟨ho, fun q e => (ho.lt q e).2⟩, hb⟩
theorem markGr_h (lo hi : Nat) (v : Value) (p : Grf) (k : Int) (w : World) (h : GrH lo hi w v p) (hk0 : 0 ≤ k) (hk : k + 5 * (p.edges.length : Nat) ≤ 1000000000) :
    Calls Try.prog 23 #[v, .int .i64 k] w fun e w' => e = .returned (.int .i64 (k + 5 * (p.edges.length : Int))) ∧ Out lo hi w w' :=
  (markGr_any lo v p k w h.1 hk0 (by omega) (by omega)).mono fun _ _ ⟨he, hg⟩ => ⟨he, Out.of_grown hg fun q e => ⟨(h.1.lt q e).1, h.2 q e⟩⟩

/-- A slice of loops of the call's own. -/
def LoH (lo hi : Nat) (w : World) (v : Value) (xs : List Lop) : Prop := OwnLo lo w v xs ∧ ∀ q, v.ownBlock = some q → q < hi
theorem LoH.below {lo hi : Nat} {w w' : World} {v : Value} {xs : List Lop} (h : LoH lo hi w v xs) (hb : Below w.heap.size w w') : LoH lo hi w' v xs := ⟨h.1.below hb, h.2⟩
theorem LoH.out {lo hi l2 h2 : Nat} {w w' : World} {v : Value} {xs : List Lop} (h : LoH lo hi w v xs) (ho : Out l2 h2 w w') (hd : hi ≤ l2 ∨ h2 ≤ lo) : LoH lo hi w' v xs := ⟨h.1.out h.2 ho (by omega), h.2⟩
theorem LoH.v {lo hi : Nat} {w : World} {v : Value} {xs : List Lop} (h : LoH lo hi w v xs) : SlLo w v xs := h.1.sl
theorem LoH.shape {lo hi : Nat} {w : World} {v : Value} {xs : List Lop} (h : LoH lo hi w v xs) : ∃ a c, v = .slice a xs.length c := h.1.shape
theorem LoH.of {lo : Nat} {w : World} {v : Value} {xs : List Lop} (h : OwnLo lo w v xs) : LoH lo w.heap.size w v xs := ⟨h, fun q e => (h.lt q e).2⟩
theorem SlLo.shape {w : World} {v : Value} {xs : List Lop} (h : SlLo w v xs) : ∃ a c, v = .slice a xs.length c := by
  obtain ⟨a, c, rfl, _⟩ := h; exact ⟨a, c, rfl⟩
theorem toLo_h (v : Value) (xs : List Lop) (w : World) (h : SlLo w v xs) (hs : xs.length ≤ 1048576) :
    Calls Try.prog 35 #[v] w fun e w' => ∃ v', e = .returned v' ∧ LoH w.heap.size w'.heap.size w' v' xs ∧ Below w.heap.size w w' :=
  (tosLo_any v xs w h hs).mono fun _ _ ⟨v', he, ho, hb⟩ => ⟨v', he, LoH.of ho, hb⟩
theorem szLo_h (v : Value) (xs : List Lop) (left : Int) (w : World) (h : SlLo w v xs) (hl : 0 ≤ left ∧ left ≤ 1048576) :
    Calls Try.prog 33 #[v, .int .i64 left] w fun e w' => e = .returned (.int .i64 (if ((xs.length : Nat) : Int) ≤ left then left - ((xs.length : Nat) : Int) else -1)) ∧ Below w.heap.size w w' :=
  (szLo_any v xs left w h hl).mono fun _ _ ⟨he, hb⟩ => ⟨he, hb ▸ Below.refl _ _⟩
theorem markLo_h (lo hi : Nat) (v : Value) (xs : List Lop) (k : Int) (w : World) (h : LoH lo hi w v xs) (hk0 : 0 ≤ k) (hk : k + 2 * (xs.length : Nat) ≤ 1000000000) :
    Calls Try.prog 31 #[v, .int .i64 k] w fun e w' => e = .returned (.int .i64 (k + 2 * (xs.length : Int))) ∧ LoH lo hi w' v (marksLo k xs.length) ∧ Out lo hi w w' :=
  (markLo_any lo v xs k w h.1 hk0 (by omega) (by omega)).mono fun _ _ ⟨he, ho, hg⟩ => ⟨he, ⟨ho, h.2⟩, Out.of_grown hg fun q e => ⟨(h.1.lt q e).1, h.2 q e⟩⟩
theorem heldLo_h (v : Value) (k : Int) (n : Nat) (w : World) (h : SlLo w v (marksLo k n)) (hk0 : 0 ≤ k) (hk : k ≤ 1000000000) (hs : n ≤ 1000000000) :
    Calls Try.prog 32 #[v, .int .i64 k] w fun e w' => e = .returned (.int .i64 (k + 2 * (n : Int))) ∧ w = w' := heldLo_any v k n w h hk0 hk hs

/-- Two rows of the call's own, in blocks from lo on, below hi, not in one. -/
structure TwoH (lo hi : Nat) (w : World) (v u : Value) (xs ys : List Int) : Prop where
  a : OwnH lo hi w v xs
  b : OwnH lo hi w u ys
  ap : Apart v u
theorem TwoH.below {lo hi : Nat} {w w' : World} {v u : Value} {xs ys : List Int} (h : TwoH lo hi w v u xs ys) (hb : Below w.heap.size w w') : TwoH lo hi w' v u xs ys := ⟨h.a.below hb, h.b.below hb, h.ap⟩
theorem TwoH.out {lo hi l2 h2 : Nat} {w w' : World} {v u : Value} {xs ys : List Int} (h : TwoH lo hi w v u xs ys) (ho : Out l2 h2 w w') (hd : hi ≤ l2 ∨ h2 ≤ lo) : TwoH lo hi w' v u xs ys := ⟨h.a.out ho hd, h.b.out ho hd, h.ap⟩
theorem TwoH.shape {lo hi : Nat} {w : World} {v u : Value} {xs ys : List Int} (h : TwoH lo hi w v u xs ys) : (∃ a c, v = .slice a xs.length c) ∧ ∃ a c, u = .slice a ys.length c := ⟨h.a.shape, h.b.shape⟩
theorem twoH_lo {lo lo' hi : Nat} {w : World} {v u : Value} {xs ys : List Int} (hl : lo' ≤ lo) (h : TwoH lo hi w v u xs ys) : TwoH lo' hi w v u xs ys := ⟨ownH_lo hl h.a, ownH_lo hl h.b, h.ap⟩
theorem loH_lo {lo lo' hi : Nat} {w : World} {v : Value} {xs : List Lop} (hl : lo' ≤ lo) (h : LoH lo hi w v xs) : LoH lo' hi w v xs := ⟨h.1.mono hl, h.2⟩
theorem mark2a_h (lo hi : Nat) (v u : Value) (xs ys : List Int) (k : Int) (w : World) (h : TwoH lo hi w v u xs ys) (hk0 : 0 ≤ k) (hk : k + (xs.length : Nat) ≤ 1000000000) :
    Calls Try.prog 24 #[v, .int .i64 k] w fun e w' => e = .returned (.int .i64 (k + (xs.length : Int))) ∧ TwoH lo hi w' v u (marks k xs.length) ys ∧ Out lo hi w w' :=
  (mark_any lo v xs k w h.a.1 hk0 (by omega) (by omega)).mono fun _ _ ⟨he, ho, hg⟩ => ⟨he, ⟨⟨ho, h.a.2⟩, ⟨h.b.1.kept hg h.ap.symm, h.b.2⟩, h.ap⟩, Out.of_grown hg fun q e => ⟨(h.a.1.lt q e).1, h.a.2 q e⟩⟩
theorem mark2b_h (lo hi : Nat) (v u : Value) (xs ys : List Int) (k : Int) (w : World) (h : TwoH lo hi w v u xs ys) (hk0 : 0 ≤ k) (hk : k + (ys.length : Nat) ≤ 1000000000) :
    Calls Try.prog 24 #[u, .int .i64 k] w fun e w' => e = .returned (.int .i64 (k + (ys.length : Int))) ∧ TwoH lo hi w' v u xs (marks k ys.length) ∧ Out lo hi w w' :=
  (mark_any lo u ys k w h.b.1 hk0 (by omega) (by omega)).mono fun _ _ ⟨he, ho, hg⟩ => ⟨he, ⟨⟨h.a.1.kept hg h.ap, h.a.2⟩, ⟨ho, h.b.2⟩, h.ap⟩, Out.of_grown hg fun q e => ⟨(h.b.1.lt q e).1, h.b.2 q e⟩⟩

open Go.ChangeShapes Go.WideShapes Go.ChangeAt Go.RowKit
section
variable {H : Type} {enc : TypeId × Value → H} {w : World} {base : Nat} {spare : Nat → Bool} {held : Bool}

instance : Inhabited Edg := ⟨noEd⟩
instance : Inhabited Lop := ⟨noLo⟩
theorem cells_edgL : Try.prog.cellsOf 127 = 5 := by kernel_rfl
theorem cells_grfL : Try.prog.cellsOf 24 = 2 := by kernel_rfl
theorem cells_edgsL : Try.prog.cellsOf 22 = 1 := by kernel_rfl
theorem cells_lopL : Try.prog.cellsOf 91 = 2 := by kernel_rfl

set_option maxRecDepth 100000 in
theorem open_edgL {fuel : Nat} {cs : List Value} {x : DataW H × List MemPlace} (h : DataW.trod enc Try.prog w base spare held fuel 127 cs = some x) :
    ∃ y : Edg, cs = [.int .i64 y.fr, .int .i64 y.to, .int .i64 y.mke, .int .i64 y.tk, .int .i64 y.tok] := by
  obtain ⟨xs, n, _, rfl, hl, hlen, hf⟩ := DataW.trod_struct Try.underlying127 h
  rw [cells_edgL] at hl
  match cs, hl with
  | [c0, c1, c2, c3, c4], _ =>
    match xs, hlen with
    | [y0, y1, y2, y3, y4], _ =>
      have f0 := hf 0 _ rfl
      have f1 := hf 1 _ rfl
      have f2 := hf 2 _ rfl
      have f3 := hf 3 _ rfl
      have f4 := hf 4 _ rfl
      simp [cells_int] at f0 f1 f2 f3 f4
      obtain ⟨n0, e0, _⟩ := DataW.trod_int Try.underlying3 f0
      obtain ⟨n1, e1, _⟩ := DataW.trod_int Try.underlying3 f1
      obtain ⟨n2, e2, _⟩ := DataW.trod_int Try.underlying3 f2
      obtain ⟨n3, e3, _⟩ := DataW.trod_int Try.underlying3 f3
      obtain ⟨n4, e4, _⟩ := DataW.trod_int Try.underlying3 f4
      simp at e0 e1 e2 e3 e4
      subst e0; subst e1; subst e2; subst e3; subst e4
      exact ⟨⟨n0, n1, n2, n3, n4⟩, rfl⟩

set_option maxRecDepth 100000 in
theorem open_edgsL {fuel : Nat} {cs : List Value} {x : DataW H × List MemPlace} (h : DataW.trod enc Try.prog w base spare held fuel 22 cs = some x) :
    ∃ c code, cs = [c] ∧ SlEd w c code := by
  rcases Go.Deep.open_slice Try.underlying22 h with ⟨rfl, _⟩ | ⟨a, len, cap, m, n, D, Pl, rfl, _, hl, hm, hmm, _, hx⟩
  · exact ⟨_, [], rfl, none, 0, rfl, Nat.le_refl _, by simp, fun _ => rfl, .inl rfl⟩
  · have hle : len ≤ m := by rw [hmm]; split <;> omega
    rw [cells_edgL] at hx
    have hy : ∀ i, i < len → ∃ y : Edg, w.cell? (a.add (i * 5)) = some (.int .i64 y.fr) ∧ w.cell? ((a.add (i * 5)).add 1) = some (.int .i64 y.to) ∧ w.cell? ((a.add (i * 5)).add 2) = some (.int .i64 y.mke) ∧ w.cell? ((a.add (i * 5)).add 3) = some (.int .i64 y.tk) ∧ w.cell? ((a.add (i * 5)).add 4) = some (.int .i64 y.tok) := by
      intro i hi
      obtain ⟨cs', h1, h2⟩ := hx i (by omega)
      obtain ⟨y, rfl⟩ := open_edgL h2
      have hc := (World.cells?_some h1).2.2
      refine ⟨y, ?_, by simpa using hc 1 (by omega), by simpa using hc 2 (by omega), by simpa using hc 3 (by omega), by simpa using hc 4 (by omega)⟩
      have := hc 0 (by omega)
      simpa [Addr.add] using this
    obtain ⟨Y, hY⟩ := Go.Deep.choose_lt hy
    refine ⟨_, (List.range len).map Y, rfl, some a, cap, by simp, by simpa using hl, hm, (fun e => by cases e), ?_⟩
    by_cases h0 : len = 0
    · left; subst h0; rfl
    · right
      obtain ⟨b, off, spot⟩ := a
      have h1 := (hY 0 (by omega)).1
      obtain rfl : spot = none := by simpa [Addr.add] using World.cell?_spot h1
      refine ⟨b, off, rfl, by have := World.block_lt_of_cell? w _ h1; simpa [Addr.add] using this, fun i x hi => ?_⟩
      have hlt : i < len := by have := (List.getElem?_eq_some_iff.1 hi).1; simpa using this
      have hxe : x = Y i := by rw [List.getElem?_map, List.getElem?_range hlt] at hi; simpa using hi.symm
      subst hxe
      have := hY i hlt
      simp only [Addr.add_lit] at this
      exact this

set_option maxRecDepth 100000 in
theorem open_grL {v : Value} {d : DataW H} {p : List MemPlace} {r : _} {b2 : Nat} (hok : Value.okWide Try.prog w r b2 24 v) (h : DataW.Trod enc Try.prog w base spare held 24 v d p) : ∃ a, GrV w v a := by
  obtain ⟨vs, rfl, _⟩ := okWide_struct Try.underlying24 hok
  obtain ⟨fuel, h⟩ := h
  obtain ⟨y0, y1, n, _, hl, h0, h1⟩ := trod_struct2 Try.underlying24 h
  obtain ⟨cs⟩ := vs
  simp only [Value.cells] at h0 h1 hl
  rw [cells_grfL] at hl
  match cs, hl with
  | [c0, c1], _ =>
    simp only [cells_int, cells_edgsL] at h0 h1
    obtain ⟨n0, e0, _⟩ := DataW.trod_int Try.underlying3 h0
    obtain ⟨c, xs, e1, hs⟩ := open_edgsL h1
    simp at e0 e1
    subst e0; subst e1
    exact ⟨⟨n0, xs⟩, _, rfl, hs⟩

set_option maxRecDepth 100000 in
theorem open_lopL {fuel : Nat} {cs : List Value} {x : DataW H × List MemPlace} (h : DataW.trod enc Try.prog w base spare held fuel 91 cs = some x) :
    ∃ y : Lop, cs = [.int .i64 y.nd, .int .i64 y.tm] := by
  obtain ⟨xs, n, _, rfl, hl, hlen, hf⟩ := DataW.trod_struct Try.underlying91 h
  rw [cells_lopL] at hl
  match cs, hl with
  | [c0, c1], _ =>
    match xs, hlen with
    | [y0, y1], _ =>
      have f0 := hf 0 _ rfl
      have f1 := hf 1 _ rfl
      simp [cells_int] at f0 f1
      obtain ⟨n0, e0, _⟩ := DataW.trod_int Try.underlying3 f0
      obtain ⟨n1, e1, _⟩ := DataW.trod_int Try.underlying3 f1
      simp at e0 e1
      subst e0; subst e1
      exact ⟨⟨n0, n1⟩, rfl⟩

set_option maxRecDepth 100000 in
theorem open_lopsL {fuel : Nat} {cs : List Value} {x : DataW H × List MemPlace} (h : DataW.trod enc Try.prog w base spare held fuel 49 cs = some x) :
    ∃ c code, cs = [c] ∧ SlLo w c code := by
  rcases Go.Deep.open_slice Try.underlying49 h with ⟨rfl, _⟩ | ⟨a, len, cap, m, n, D, Pl, rfl, _, hl, hm, hmm, _, hx⟩
  · exact ⟨_, [], rfl, none, 0, rfl, Nat.le_refl _, by simp, fun _ => rfl, .inl rfl⟩
  · have hle : len ≤ m := by rw [hmm]; split <;> omega
    rw [cells_lopL] at hx
    have hy : ∀ i, i < len → ∃ y : Lop, w.cell? (a.add (i * 2)) = some (.int .i64 y.nd) ∧ w.cell? ((a.add (i * 2)).add 1) = some (.int .i64 y.tm) := by
      intro i hi
      obtain ⟨cs', h1, h2⟩ := hx i (by omega)
      obtain ⟨y, rfl⟩ := open_lopL h2
      have hc := (World.cells?_some h1).2.2
      refine ⟨y, ?_, by simpa using hc 1 (by omega)⟩
      have := hc 0 (by omega)
      simpa [Addr.add] using this
    obtain ⟨Y, hY⟩ := Go.Deep.choose_lt hy
    refine ⟨_, (List.range len).map Y, rfl, some a, cap, by simp, by simpa using hl, hm, (fun e => by cases e), ?_⟩
    by_cases h0 : len = 0
    · left; subst h0; rfl
    · right
      obtain ⟨b, off, spot⟩ := a
      have h1 := (hY 0 (by omega)).1
      obtain rfl : spot = none := by simpa [Addr.add] using World.cell?_spot h1
      refine ⟨b, off, rfl, by have := World.block_lt_of_cell? w _ h1; simpa [Addr.add] using this, fun i x hi => ?_⟩
      have hlt : i < len := by have := (List.getElem?_eq_some_iff.1 hi).1; simpa using this
      have hxe : x = Y i := by rw [List.getElem?_map, List.getElem?_range hlt] at hi; simpa using hi.symm
      subst hxe
      have := hY i hlt
      simp only [Addr.add_lit] at this
      exact this
set_option maxRecDepth 100000 in
theorem open_loL {v : Value} {d : DataW H} {p : List MemPlace} {r : _} {b2 : Nat} (hok : Value.okWide Try.prog w r b2 49 v) (h : DataW.Trod enc Try.prog w base spare held 49 v d p) : ∃ xs, SlLo w v xs := by
  obtain ⟨a, len, cap, rfl⟩ := okWide_slice Try.underlying49 hok
  obtain ⟨fuel, h⟩ := h
  obtain ⟨c, xs, e, hs⟩ := open_lopsL h
  simp only [Value.cells, List.cons.injEq, and_true] at e
  subst e
  exact ⟨xs, hs⟩
end
end Go.Proofs.Ytokhdnejaecejaa
