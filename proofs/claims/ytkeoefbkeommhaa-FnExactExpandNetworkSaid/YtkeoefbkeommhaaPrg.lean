/-
  What the law's own functions on programs and actors do: copies, comparisons, marks, sizes. No statement of the seat is proved here.
-/
import Derived.Test.YtkeoefbkeommhaaCod
namespace Go.Proofs.Ytkeoefbkeommhaa
open Go.RowKit

/-- 'v' reads as the program 'p'. -/
def PrgV (w : World) (v : Value) (p : Prg) : Prop := ∃ c, v = .agg #[.int .i64 p.ins, .int .i64 p.outs, c] ∧ SlI w c p.code
def PrgO (lo : Nat) (w : World) (v : Value) (p : Prg) : Prop := ∃ c, v = .agg #[.int .i64 p.ins, .int .i64 p.outs, c] ∧ OwnI lo w c p.code
def ActV (w : World) (v : Value) (a : Act) : Prop := ∃ c, v = .agg #[.int .i64 a.pc, c] ∧ Sl w c a.regs
def ActO (lo : Nat) (w : World) (v : Value) (a : Act) : Prop := ∃ c, v = .agg #[.int .i64 a.pc, c] ∧ Own lo w c a.regs
/-- The block of the slice in a struct's last field. -/
def lastOf : Value → Value | .agg cs => cs.back?.getD (.agg #[]) | v => v

theorem PrgO.v {lo : Nat} {w : World} {v : Value} {p : Prg} (h : PrgO lo w v p) : PrgV w v p := by
  obtain ⟨c, h1, h2⟩ := h; exact ⟨c, h1, h2.sl⟩
theorem PrgV.below {w w' : World} {v : Value} {p : Prg} (h : PrgV w v p) (hb : Below w.heap.size w w') : PrgV w' v p := by
  obtain ⟨c, h1, h2⟩ := h; exact ⟨c, h1, h2.below hb⟩
theorem PrgO.below {lo : Nat} {w w' : World} {v : Value} {p : Prg} (h : PrgO lo w v p) (hb : Below w.heap.size w w') : PrgO lo w' v p := by
  obtain ⟨c, h1, h2⟩ := h; exact ⟨c, h1, h2.below hb⟩
theorem PrgO.mono {lo lo' : Nat} {w : World} {v : Value} {p : Prg} (h : PrgO lo w v p) (hl : lo' ≤ lo) : PrgO lo' w v p := by
  obtain ⟨c, h1, h2⟩ := h; exact ⟨c, h1, h2.mono hl⟩
theorem ActO.v {lo : Nat} {w : World} {v : Value} {a : Act} (h : ActO lo w v a) : ActV w v a := by
  obtain ⟨c, h1, h2⟩ := h; exact ⟨c, h1, h2.sl⟩
theorem ActV.below {w w' : World} {v : Value} {a : Act} (h : ActV w v a) (hb : Below w.heap.size w w') : ActV w' v a := by
  obtain ⟨c, h1, h2⟩ := h; exact ⟨c, h1, h2.below hb⟩
theorem ActO.below {lo : Nat} {w w' : World} {v : Value} {a : Act} (h : ActO lo w v a) (hb : Below w.heap.size w w') : ActO lo w' v a := by
  obtain ⟨c, h1, h2⟩ := h; exact ⟨c, h1, h2.below hb⟩
theorem ActO.mono {lo lo' : Nat} {w : World} {v : Value} {a : Act} (h : ActO lo w v a) (hl : lo' ≤ lo) : ActO lo' w v a := by
  obtain ⟨c, h1, h2⟩ := h; exact ⟨c, h1, h2.mono hl⟩

theorem cell_of {w : World} {g T : Nat} {vs : Array Value} (h : w.heap[g]? = some (.cells vs T)) (k : Nat) : w.cell? ⟨g, k, none⟩ = vs[k]? := by
  simp [World.cell?, h]
theorem fr_of {w : World} {g T : Nat} {vs : Array Value} (h : w.heap[g]? = some (.cells vs T)) (k : Nat) : w.frozen? ⟨g, k, none⟩ = false := by
  simp [World.frozen?, h]
theorem blk_in {W w2 : World} {g : Nat} {o : Obj} (h : W.heap[g]? = some o) (hb : Below W.heap.size W w2) : w2.heap[g]? = some o := by
  rw [hb.block g (Array.getElem?_eq_some_iff.1 h).1]; exact h
theorem hp1 (w : World) (A : Obj) : (w.alloc A).heap[w.heap.size]? = some A := heap_alloc_new w A
theorem hp2 (w : World) (A B : Obj) : ((w.alloc A).alloc B).heap[w.heap.size + 1]? = some B := by
  have := heap_alloc_new (w.alloc A) B
  rwa [show (w.alloc A).heap.size = w.heap.size + 1 by simp] at this
theorem hp21 (w : World) (A B : Obj) : ((w.alloc A).alloc B).heap[w.heap.size]? = some A := by
  rw [Below.heap_alloc _ _ _ (by simp)]; exact hp1 w A
theorem hp3 (w : World) (A B C : Obj) : (((w.alloc A).alloc B).alloc C).heap[w.heap.size + 2]? = some C := by
  have := heap_alloc_new ((w.alloc A).alloc B) C
  rwa [show ((w.alloc A).alloc B).heap.size = w.heap.size + 2 by simp] at this
theorem hp32 (w : World) (A B C : Obj) : (((w.alloc A).alloc B).alloc C).heap[w.heap.size + 1]? = some B := by
  rw [Below.heap_alloc _ _ _ (by simp)]; exact hp2 w A B
theorem hp31 (w : World) (A B C : Obj) : (((w.alloc A).alloc B).alloc C).heap[w.heap.size]? = some A := by
  rw [Below.heap_alloc _ _ _ (by simp; omega)]; exact hp21 w A B

theorem OwnI.setB {lo : Nat} {w : World} {v : Value} {xs : List Ins} (h : OwnI lo w v xs) {a : Addr} (ha : a.block < lo) (u : Value) : OwnI lo (w.setCell a u) v xs := ownsRow_setCell_below h ha u
theorem Own.setB {lo : Nat} {w : World} {v : Value} {xs : List Int} (h : Own lo w v xs) {a : Addr} (ha : a.block < lo) (u : Value) : Own lo (w.setCell a u) v xs := ownsRow_setCell_below h ha u

set_option maxRecDepth 100000 in
set_option maxHeartbeats 1600000 in
theorem toPrg_any (v : Value) (p : Prg) (w : World) (h : PrgV w v p) (hs : p.code.length ≤ 1048576) :
    Calls Try.prog 106 #[v] w fun e w' => ∃ v', e = .returned v' ∧ PrgO w.heap.size w' v' p ∧ Below w.heap.size w w' := by
  obtain ⟨c, rfl, hc⟩ := h
  obtain ⟨i, o, code⟩ := p
  simp only [] at hc hs ⊢
  obtain ⟨n, hn⟩ : ∃ n, n = code.length := ⟨_, rfl⟩
  have HC := Lib.hid hc
  obtain ⟨a, cap, rfl, hrest⟩ := hc
  clear hrest
  rw [← hn] at HC hs ⊢
  have HN := Lib.hid hn
  clear hn
  have hb := Lib.hid ((((Below.refl w.heap.size w).al (.cells #[.int .i64 i, .int .i64 o, .slice a n cap] 122)).al (.cells #[.int .i64 0, .int .i64 0, .slice none 0 0] 79)).al (.cells #[.int .i64 i, .int .i64 o, .slice none 0 0] 79))
  have hH := Lib.hid (hp3 w (.cells #[.int .i64 i, .int .i64 o, .slice a n cap] 122) (.cells #[.int .i64 0, .int .i64 0, .slice none 0 0] 79) (.cells #[.int .i64 i, .int .i64 o, .slice none 0 0] 79))
  have hH1 := Lib.hid (hp32 w (.cells #[.int .i64 i, .int .i64 o, .slice a n cap] 122) (.cells #[.int .i64 0, .int .i64 0, .slice none 0 0] 79) (.cells #[.int .i64 i, .int .i64 o, .slice none 0 0] 79))
  go_enter Try.func106, Try.ntmps106
  go_wp2_with (go_at_call 153; refine (toInsS_any _ code _ (HC.out.below (hb.out.mono (by simp))) (by rw [← HN.out]; exact hs)).mono ?_; rintro e w2 ⟨v', rfl, ho, hb1⟩; have B := blk_in hH.out hb1; have B1 := blk_in hH1.out hb1; have c0 := cell_of B 0; have c1 := cell_of B 1; have c2 := cell_of B 2; have z := fr_of B 2; have b0 := cell_of B1 0; have b1 := cell_of B1 1; have b2 := cell_of B1 2; have y0 := fr_of B1 0; have y1 := fr_of B1 1; have y2 := fr_of B1 2; simp at c0 c1 c2 b0 b1 b2; obtain ⟨a', cc', rfl⟩ := ho.shape; have HO := Lib.hid (OwnI.mono (lo' := w.heap.size + 3) ho (by simp)); have HB1 := Lib.hid hb1; clear B B1 ho hb1)
  refine bodyPost_ret (v := .agg #[.int .i64 i, .int .i64 o, .slice a' code.length cc']) (by simp [results, Try.results106, go_sem, b0, b1, b2]) rfl ⟨_, rfl, ⟨_, rfl, ?_⟩, ?_⟩
  · exact ((((HO.out.setB (by simp) _).setB (by simp) _).setB (by simp) _).setB (by simp) _).mono (by omega)
  · exact ((((hb.out.trans (HB1.out.mono (by simp; omega))).setCell (by simp; omega) _).setCell (by simp) _).setCell (by simp) _).setCell (by simp) _

set_option maxRecDepth 100000 in
set_option maxHeartbeats 1600000 in
theorem eqPrg_ok (v u : Value) (p : Prg) (w : World) (h : PrgV w v p) (k : PrgV w u p) :
    Calls Try.prog 120 #[v, u] w fun e w' => e = .returned (.bool true) ∧ Below w.heap.size w w' := by
  obtain ⟨c, rfl, hc⟩ := h
  obtain ⟨d, rfl, hd⟩ := k
  obtain ⟨i, o, code⟩ := p
  simp only [] at hc hd ⊢
  obtain ⟨n, hn⟩ : ∃ n, n = code.length := ⟨_, rfl⟩
  have HC := Lib.hid hc
  have HD := Lib.hid hd
  obtain ⟨a, cap, rfl, hrest⟩ := hc
  obtain ⟨a2, cap2, rfl, hrest2⟩ := hd
  clear hrest hrest2
  rw [← hn] at HC HD ⊢
  clear hn
  have hb := Lib.hid (((Below.refl w.heap.size w).al (.cells #[.int .i64 i, .int .i64 o, .slice a n cap] 79)).al (.cells #[.int .i64 i, .int .i64 o, .slice a2 n cap2] 79))
  go_enter Try.func120, Try.ntmps120
  go_wp2_with (go_at_call 158; refine (eqInsS_ok _ _ code _ (HC.out.below (hb.out.mono (by simp))) (HD.out.below (hb.out.mono (by simp)))).mono ?_; rintro e w2 ⟨rfl, hb1⟩)
  go_ret
  exact ⟨rfl, hb.out.trans (hb1.mono (by simp; omega))⟩

theorem szIntS_any (v : Value) (xs : List Int) (left : Int) (w : World) (h : Sl w v xs) (hl : 0 ≤ left ∧ left ≤ 1048576) :
    Calls Try.prog 150 #[v, .int .i64 left] w fun e w' => e = .returned (.int .i64 (if (xs.length : Int) ≤ left then left - xs.length else -1)) ∧ w = w' := by
  obtain ⟨a, cap, rfl, _, hm, _, _⟩ := h
  have hm' : xs.length ≤ 9223372036854775807 := by unfold maxLen at hm; omega
  have wi : wrap64 (left - xs.length) = left - xs.length := IntWalk.wrap64_in _ (by unfold maxLen at hm; omega)
  clear hm
  by_cases hc : (xs.length : Int) ≤ left
  · rw [if_pos hc]
    have d : decide (left - (xs.length : Int) < 0) = false := decide_eq_false (by omega)
    go_enter Try.func150, Try.ntmps150
    go_wp2
    go_ret
    exact ⟨rfl, rfl⟩
  · rw [if_neg hc]
    have d : decide (left - (xs.length : Int) < 0) = true := decide_eq_true (by omega)
    go_enter Try.func150, Try.ntmps150
    go_wp2
    go_ret
    exact ⟨rfl, rfl⟩

set_option maxHeartbeats 1600000 in
theorem szPrg_any (v : Value) (p : Prg) (left : Int) (w : World) (h : PrgV w v p) (hl : 0 ≤ left ∧ left ≤ 1048576) :
    Calls Try.prog 99 #[v, .int .i64 left] w fun e w' => e = .returned (.int .i64 (if (p.code.length : Int) ≤ left then left - p.code.length else -1)) ∧ Below w.heap.size w w' := by
  obtain ⟨c, rfl, hc⟩ := h
  obtain ⟨i, o, code⟩ := p
  simp only [] at hc ⊢
  have HC := Lib.hid hc
  obtain ⟨a, cap, rfl, hrest⟩ := hc
  clear hrest
  have HL := Lib.hid hl
  have hb := Lib.hid ((Below.refl w.heap.size w).al (.cells #[.int .i64 i, .int .i64 o, .slice a code.length cap] 122))
  have C := Lib.hid (szInsS_any _ code left _ (HC.out.below (hb.out.mono (by simp))) HL.out)
  clear hl
  by_cases hc : (code.length : Int) ≤ left
  · rw [if_pos hc] at C ⊢
    have d : decide (left - (code.length : Int) < 0) = false := decide_eq_false (by omega)
    go_enter Try.func99, Try.ntmps99
    go_wp2_with (go_at_call 149; refine C.out.mono ?_; rintro e w2 ⟨rfl, rfl⟩)
    go_ret
    exact ⟨rfl, hb.out⟩
  · rw [if_neg hc] at C ⊢
    go_enter Try.func99, Try.ntmps99
    go_wp2_with (go_at_call 149; refine C.out.mono ?_; rintro e w2 ⟨rfl, rfl⟩)
    go_ret
    exact ⟨rfl, hb.out⟩

end Go.Proofs.Ytkeoefbkeommhaa
