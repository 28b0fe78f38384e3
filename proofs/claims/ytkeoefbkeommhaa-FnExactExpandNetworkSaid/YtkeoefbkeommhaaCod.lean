/-
  Words for slices of instructions and for programs. No statement of the seat is proved here.
  What the law's own functions on instructions and slices of instructions do: a comparison, marks, sizes. No statement of the seat is proved here.
-/
import Derived.Test.YtkeoefbkeommhaaIns
import Derived.Test.YtkeoefbkeommhaaBas
import Derived.Deep.RegionWith
namespace Go.Proofs.Ytkeoefbkeommhaa
open Go.RowKit

def cellsI (code : List Ins) : List Value := code.flatMap fun x => [.int .i64 x.op, .int .i64 x.a, .int .i64 x.b, .int .i64 x.c]
theorem cellsI_nil : cellsI [] = [] := rfl
theorem cellsI_cons (x : Ins) (xs : List Ins) : cellsI (x :: xs) = .int .i64 x.op :: .int .i64 x.a :: .int .i64 x.b :: .int .i64 x.c :: cellsI xs := by simp [cellsI]
theorem cellsI_app (xs ys : List Ins) : cellsI (xs ++ ys) = cellsI xs ++ cellsI ys := by simp [cellsI]
theorem cellsI_len : ∀ code : List Ins, (cellsI code).length = code.length * 4
  | [] => rfl
  | x :: xs => by rw [cellsI_cons]; simp [cellsI_len xs]; omega
theorem cellsI_at : ∀ (code : List Ins) (k : Nat) (x : Ins), code[k]? = some x →
    (cellsI code)[k * 4]? = some (.int .i64 x.op) ∧ (cellsI code)[k * 4 + 1]? = some (.int .i64 x.a) ∧ (cellsI code)[k * 4 + 2]? = some (.int .i64 x.b) ∧ (cellsI code)[k * 4 + 3]? = some (.int .i64 x.c)
  | [], k, x, h => by simp at h
  | y :: ys, 0, x, h => by
    simp at h; subst h; rw [cellsI_cons]; simp
  | y :: ys, k + 1, x, h => by
    have := cellsI_at ys k x (by simpa using h)
    rw [cellsI_cons, show (k + 1) * 4 = k * 4 + 4 by omega]
    simpa using this
theorem cellsI_set : ∀ (code : List Ins) (k : Nat) (x : Ins), k < code.length →
    ((((cellsI code).set (k * 4) (.int .i64 x.op)).set (k * 4 + 1) (.int .i64 x.a)).set (k * 4 + 2) (.int .i64 x.b)).set (k * 4 + 3) (.int .i64 x.c) = cellsI (code.set k x)
  | [], k, x, h => by simp at h
  | y :: ys, 0, x, h => by simp [cellsI_cons]
  | y :: ys, k + 1, x, h => by
    have := cellsI_set ys k x (by simpa using h)
    rw [List.set_cons_succ, cellsI_cons, cellsI_cons, ← this, show (k + 1) * 4 = k * 4 + 4 by omega]
    simp

/-- 'v' is a slice of instructions that reads as 'code' in 'w'. -/
def SlI (w : World) (v : Value) (code : List Ins) : Prop :=
  ∃ (a : Option Addr) (cap : Nat), v = .slice a code.length cap ∧ code.length ≤ cap ∧ cap ≤ maxLen ∧ (a = none → cap = 0) ∧
    (code = [] ∨ ∃ b off, a = some ⟨b, off, none⟩ ∧ b < w.heap.size ∧ ∀ i x, code[i]? = some x → w.cell? ⟨b, off + i * 4, none⟩ = some (.int .i64 x.op) ∧
      w.cell? ⟨b, off + i * 4 + 1, none⟩ = some (.int .i64 x.a) ∧ w.cell? ⟨b, off + i * 4 + 2, none⟩ = some (.int .i64 x.b) ∧ w.cell? ⟨b, off + i * 4 + 3, none⟩ = some (.int .i64 x.c))
/-- 'v' is a slice of instructions of the call's own. -/
def OwnI (lo : Nat) (w : World) (v : Value) (code : List Ins) : Prop := w.ownsRow lo 156 4 v code.length (cellsI code)

theorem SlI.below {w w' : World} {v : Value} {xs : List Ins} (h : SlI w v xs) (hb : Below w.heap.size w w') : SlI w' v xs := by
  obtain ⟨a, cap, hv, h1, h2, h3, h4⟩ := h
  refine ⟨a, cap, hv, h1, h2, h3, ?_⟩
  rcases h4 with h4 | ⟨b, off, ha, hlt, hc⟩
  · exact .inl h4
  · refine .inr ⟨b, off, ha, Nat.lt_of_lt_of_le hlt hb.size, fun i x hi => ?_⟩
    obtain ⟨c0, c1, c2, c3⟩ := hc i x hi
    exact ⟨(hb.cell hlt).trans c0, (hb.cell hlt).trans c1, (hb.cell hlt).trans c2, (hb.cell hlt).trans c3⟩
theorem OwnI.lt {lo : Nat} {w : World} {v : Value} {xs : List Ins} (h : OwnI lo w v xs) : ∀ k, v.ownBlock = some k → lo ≤ k ∧ k < w.heap.size := World.ownsRow.lt h
theorem row_below {lo T sz n : Nat} {w w' : World} {v : Value} {cs : List Value} (h : w.ownsRow lo T sz v n cs) (hb : Below w.heap.size w w') : w'.ownsRow lo T sz v n cs := by
  have hl := World.ownsRow.lt h
  refine ⟨h.1, ?_⟩
  rcases h.2 with hn | ⟨g, cap, cur, rfl, hbb, hg, rest⟩
  · exact .inl hn
  · refine .inr ⟨g, cap, cur, rfl, hbb, ?_, rest⟩
    rw [hb.block g (hl g rfl).2]
    exact hg
theorem row_mono {lo lo' T sz n : Nat} {w : World} {v : Value} {cs : List Value} (h : w.ownsRow lo T sz v n cs) (hl : lo' ≤ lo) : w.ownsRow lo' T sz v n cs := by
  refine ⟨h.1, ?_⟩
  rcases h.2 with hn | ⟨g, cap, cur, rfl, hbb, hg, rest⟩
  · exact .inl hn
  · exact .inr ⟨g, cap, cur, rfl, by omega, hg, rest⟩
theorem OwnI.below {lo : Nat} {w w' : World} {v : Value} {xs : List Ins} (h : OwnI lo w v xs) (hb : Below w.heap.size w w') : OwnI lo w' v xs := row_below h hb
theorem OwnI.kept {lo : Nat} {w w' : World} {v u : Value} {xs : List Ins} (h : OwnI lo w v xs) (hg : w.grownBy w' u.ownBlock) (ha : Apart v u) : OwnI lo w' v xs := World.ownsRow.kept h hg ha
theorem OwnI.mono {lo lo' : Nat} {w : World} {v : Value} {xs : List Ins} (h : OwnI lo w v xs) (hl : lo' ≤ lo) : OwnI lo' w v xs := row_mono h hl
theorem OwnI.sl {lo : Nat} {w : World} {v : Value} {xs : List Ins} (h : OwnI lo w v xs) : SlI w v xs := by
  rcases h.2 with ⟨rfl, hn⟩ | ⟨g, cap, cur, rfl, hlo, hg, hnc, hcm, hcs, htake⟩
  · exact ⟨none, 0, by rw [hn], by omega, by unfold maxLen; omega, fun _ => rfl, .inl (List.eq_nil_of_length_eq_zero hn)⟩
  · refine ⟨_, cap, rfl, hnc, hcm, (fun e => by cases e), .inr ⟨g, 0, rfl, (Array.getElem?_eq_some_iff.1 hg).1, fun i x hi => ?_⟩⟩
    have hlt : i < xs.length := (List.getElem?_eq_some_iff.1 hi).1
    have H : w.ownsRow lo 156 4 (.slice (some ⟨g, 0, none⟩) xs.length cap) xs.length (cellsI xs) := h
    obtain ⟨c0, c1, c2, c3⟩ := cellsI_at xs i x hi
    simp only [Nat.zero_add]
    exact ⟨(H.cellAt _ (by omega)).trans c0, (H.cellAt _ (by omega)).trans c1, (H.cellAt _ (by omega)).trans c2, (H.cellAt _ (by omega)).trans c3⟩
theorem OwnI.shape {lo : Nat} {w : World} {v : Value} {xs : List Ins} (h : OwnI lo w v xs) : ∃ a c, v = .slice a xs.length c := by
  rcases h.2 with ⟨rfl, hn⟩ | ⟨g, cap, cur, rfl, _⟩
  · exact ⟨none, 0, by rw [hn]⟩
  · exact ⟨_, _, rfl⟩

theorem _root_.Go.RowKit.Below.al {a w : World} (h : Below a.heap.size a w) (o : Obj) : Below a.heap.size a (w.alloc o) := h.alloc h.size o
theorem infoI : (Try.prog.info? 156).map (fun i => (i.zero, i.size, i.bytes)) = some (some (.agg #[.int .i64 0, .int .i64 0, .int .i64 0, .int .i64 0]), 4, 32) := by kernel_rfl
theorem infoI_parts : ∃ i0, Try.prog.info? 156 = some i0 ∧ i0.zero = some (.agg #[.int .i64 0, .int .i64 0, .int .i64 0, .int .i64 0]) ∧ i0.size = 4 ∧ i0.bytes = 32 := by
  have h := infoI
  cases e : Try.prog.info? 156 with
  | none => rw [e] at h; cases h
  | some i =>
    rw [e] at h
    simp only [Option.map_some, Option.some.injEq, Prod.mk.injEq] at h
    exact ⟨i, rfl, h.1, h.2.1, h.2.2⟩

def noIns : Ins := ⟨0, 0, 0, 0⟩
def fillI (xs : List Ins) (k : Nat) : List Ins := xs.take k ++ List.replicate (xs.length - k) noIns
theorem fillI_len {xs : List Ins} {k : Nat} (h : k ≤ xs.length) : (fillI xs k).length = xs.length := by simp [fillI]; omega
theorem fillI_all (xs : List Ins) {k : Nat} (h : ¬ k < xs.length) : fillI xs k = xs := by simp [fillI, List.take_of_length_le (show xs.length ≤ k by omega), show xs.length - k = 0 by omega]
theorem fillI_step {xs : List Ins} {k : Nat} {x : Ins} (h : xs[k]? = some x) : (fillI xs k).set k x = fillI xs (k + 1) := by
  have hk := (List.getElem?_eq_some_iff.1 h).1
  have hx := (List.getElem?_eq_some_iff.1 h).2
  unfold fillI
  rw [List.set_append, if_neg (by simp; omega)]
  rw [List.take_succ_eq_append_getElem hk, hx, List.append_assoc]
  congr 1
  rw [show xs.length - k = (xs.length - (k + 1)) + 1 by omega, List.replicate_succ]
  simp [Nat.min_eq_left (Nat.le_of_lt hk)]
theorem cellsI_repl : ∀ n : Nat, cellsI (List.replicate n noIns) = List.replicate (n * 4) (.int .i64 0)
  | 0 => rfl
  | n + 1 => by
    rw [List.replicate_succ, cellsI_cons, cellsI_repl n, show (n + 1) * 4 = n * 4 + 1 + 1 + 1 + 1 by omega]
    simp [List.replicate_succ, noIns]

set_option maxHeartbeats 400000 in
theorem toIns_any (x : Ins) (w : World) :
    Calls Try.prog 163 #[.agg #[.int .i64 x.op, .int .i64 x.a, .int .i64 x.b, .int .i64 x.c]] w fun e w' => e = .returned (.agg #[.int .i64 x.op, .int .i64 x.a, .int .i64 x.b, .int .i64 x.c]) ∧ Below w.heap.size w w' := by
  obtain ⟨op, a, b, c⟩ := x
  simp only []
  have hb := Below.refl w.heap.size w
  go_enter Try.func163, Try.ntmps163
  go_wp2
  refine bodyPost_ret (v := .agg #[.int .i64 op, .int .i64 a, .int .i64 b, .int .i64 c]) (by simp [results, Try.results163, go_sem]) rfl ⟨rfl, ((hb.al _).al _).al _⟩

theorem four_at {w : World} {lo g n cap : Nat} {code : List Ins} {k : Nat} (h : w.ownsRow lo 156 4 (.slice (some ⟨g, 0, none⟩) n cap) n (cellsI code)) (hl : code.length = n) (hk : k < n) :
    w.frozen? ⟨g, k * 4, none⟩ = false ∧ w.frozen? ⟨g, k * 4 + 1, none⟩ = false ∧ w.frozen? ⟨g, k * 4 + 2, none⟩ = false ∧ w.frozen? ⟨g, k * 4 + 3, none⟩ = false ∧
    (∃ y, w.cell? ⟨g, k * 4, none⟩ = some y) ∧ (∃ y, w.cell? ⟨g, k * 4 + 1, none⟩ = some y) ∧ (∃ y, w.cell? ⟨g, k * 4 + 2, none⟩ = some y) ∧ (∃ y, w.cell? ⟨g, k * 4 + 3, none⟩ = some y) := by
  have c : ∀ j, j < n * 4 → ∃ y, w.cell? ⟨g, j, none⟩ = some y := fun j hj => by
    rw [h.cellAt j hj, List.getElem?_eq_getElem (by rw [cellsI_len]; omega)]; exact ⟨_, rfl⟩
  exact ⟨h.frozenAt _, h.frozenAt _, h.frozenAt _, h.frozenAt _, c _ (by omega), c _ (by omega), c _ (by omega), c _ (by omega)⟩
theorem stored4 {w : World} {lo g n cap : Nat} {code : List Ins} {k : Nat} (h : w.ownsRow lo 156 4 (.slice (some ⟨g, 0, none⟩) n cap) n (cellsI code)) (hl : code.length = n) (hk : k < n) (x : Ins) :
    ((((w.setCell ⟨g, k * 4, none⟩ (.int .i64 x.op)).setCell ⟨g, k * 4 + 1, none⟩ (.int .i64 x.a)).setCell ⟨g, k * 4 + 2, none⟩ (.int .i64 x.b)).setCell ⟨g, k * 4 + 3, none⟩ (.int .i64 x.c)).ownsRow lo 156 4 (.slice (some ⟨g, 0, none⟩) n cap) n (cellsI (code.set k x)) ∧
    w.grownBy ((((w.setCell ⟨g, k * 4, none⟩ (.int .i64 x.op)).setCell ⟨g, k * 4 + 1, none⟩ (.int .i64 x.a)).setCell ⟨g, k * 4 + 2, none⟩ (.int .i64 x.b)).setCell ⟨g, k * 4 + 3, none⟩ (.int .i64 x.c)) (some g) := by
  have a0 := h.stored (k * 4) (.int .i64 x.op)
  have a1 := a0.1.stored (k * 4 + 1) (.int .i64 x.a)
  have a2 := a1.1.stored (k * 4 + 2) (.int .i64 x.b)
  have a3 := a2.1.stored (k * 4 + 3) (.int .i64 x.c)
  rw [cellsI_set code k x (by omega)] at a3
  exact ⟨a3.1, ((a0.2.trans a1.2).trans a2.2).trans a3.2⟩
theorem below_set4 {B g : Nat} {w0 w : World} (h : Below B w0 w) (hg : B ≤ g) (j0 j1 j2 j3 : Nat) (u0 u1 u2 u3 : Value) :
    Below B w0 ((((w.setCell ⟨g, j0, none⟩ u0).setCell ⟨g, j1, none⟩ u1).setCell ⟨g, j2, none⟩ u2).setCell ⟨g, j3, none⟩ u3) :=
  (((h.setCell (p := ⟨g, j0, none⟩) hg u0).setCell (p := ⟨g, j1, none⟩) hg u1).setCell (p := ⟨g, j2, none⟩) hg u2).setCell (p := ⟨g, j3, none⟩) hg u3
theorem made4 (n : Nat) : (madeCells #[.int .i64 0, .int .i64 0, .int .i64 0, .int .i64 0] n).toList = List.replicate n (.int .i64 0) := by
  apply List.ext_getElem
  · simp [madeCells]
  · intro i h1 h2
    have h4 : i % 4 < 4 := Nat.mod_lt _ (by omega)
    simp only [madeCells, Array.getElem_toList, Array.getElem_map, Array.getElem_range, List.getElem_replicate, List.size_toArray, List.length_cons, List.length_nil]
    rcases (show i % 4 = 0 ∨ i % 4 = 1 ∨ i % 4 = 2 ∨ i % 4 = 3 by omega) with e | e | e | e <;> simp [e]
theorem madeI {w1 : World} {B : Nat} {v : Value} {xs : List Ins} (h : w1.ownsRow B 156 4 v xs.length (madeCells #[.int .i64 0, .int .i64 0, .int .i64 0, .int .i64 0] (xs.length * 4)).toList) : OwnI B w1 v (fillI xs 0) := by
  unfold OwnI
  rw [fillI_len (Nat.zero_le _)]
  rw [made4] at h
  rw [show fillI xs 0 = List.replicate xs.length noIns by simp [fillI], cellsI_repl]
  exact h

set_option maxRecDepth 100000 in
set_option maxHeartbeats 800000 in
theorem toInsS_any (v : Value) (xs : List Ins) (w : World) (h : SlI w v xs) (hs : xs.length ≤ 1048576) :
    Calls Try.prog 153 #[v] w fun e w' => ∃ v', e = .returned v' ∧ OwnI w.heap.size w' v' xs ∧ Below w.heap.size w w' := by
  obtain ⟨a, cap, rfl, hl, hm, hn, hc⟩ := h
  clear hm hn hl
  obtain ⟨i0, hi, hz0, hz1, hz2⟩ := infoI_parts
  go_enter Try.func153, Try.ntmps153
  go_wp2_with (at_make; refine wpList_make_full _ rfl _ _ 77 rfl w.heap.size 156 i0 (.agg #[.int .i64 0, .int .i64 0, .int .i64 0, .int .i64 0]) 4 Try.underlying77 hi hz0 hz1 _ _ _ _ xs.length rfl rfl rfl rfl ?b2 ?b3 ?b4 ?_)
  case b2 => rw [hz2]; omega
  case b3 => unfold maxLen; omega
  case b4 => exact Nat.le_refl _
  intro w1 hown hgrow
  have hb := (Below.refl w.heap.size w).grown hgrow (Nat.le_refl _) (by simp)
  have hz : w.heap.size < w1.heap.size := (hown.lt w.heap.size rfl).2
  have hown := madeI (xs := xs) hown
  clear hgrow hi hz0 hz1 hz2
  go_wp2_with fail
  go_loopw [4] (fun i wr => ∃ k : Nat, k ≤ xs.length ∧ i = .int .i64 k ∧ wr.ownsRow w.heap.size 156 4 (.slice (some ⟨w.heap.size, 0, none⟩) xs.length xs.length) xs.length (cellsI (fillI xs k)) ∧ Below w.heap.size w wr) (fun i _ => xs.length - (intOf i).toNat)
  case atStart => exact ⟨0, Nat.zero_le _, rfl, by have := hown; unfold OwnI at this; rwa [fillI_len (Nat.zero_le _)] at this, hb⟩
  case round =>
    clear hown hb hz
    obtain ⟨k, hk, rfl, hown, hb⟩ := hrel
    by_cases hlt : k < xs.length
    · rcases hc with rfl | ⟨b, off, rfl, hbl, hcell⟩
      · exact absurd hlt (by simp)
      · obtain ⟨x, hx⟩ : ∃ x, xs[k]? = some x := ⟨_, List.getElem?_eq_getElem hlt⟩
        obtain ⟨e0, e1, e2, e3⟩ := hcell k x hx
        have c0 := (hb.cell (p := ⟨b, off + k * 4, none⟩) hbl).trans e0
        have c1 := (hb.cell (p := ⟨b, off + k * 4 + 1, none⟩) hbl).trans e1
        have c2 := (hb.cell (p := ⟨b, off + k * 4 + 2, none⟩) hbl).trans e2
        have c3 := (hb.cell (p := ⟨b, off + k * 4 + 3, none⟩) hbl).trans e3
        have HX := Lib.hid hx
        have HO := Lib.hid hown
        clear hx hcell hown e0 e1 e2 e3
        go_wp2_with (go_at_call 163; refine (toIns_any x _).mono ?_; rintro e w2 ⟨rfl, hb1⟩; have HO1 := Lib.hid (row_below HO.out hb1); have F := four_at HO1.out (by rw [fillI_len hk]) hlt; obtain ⟨z0, z1, z2, z3, ⟨y0, q0⟩, ⟨y1, q1⟩, ⟨y2, q2⟩, ⟨y3, q3⟩⟩ := F)
        go_roundw
        case rel =>
          refine ⟨k + 1, by omega, by go_num, ?_, below_set4 (hb.trans (hb1.mono hb.size)) (Nat.le_refl _) _ _ _ _ _ _ _ _⟩
          have := (stored4 HO1.out (by rw [fillI_len hk]) hlt x).1
          rwa [fillI_step HX.out] at this
        case measure => simp [intOf]; omega
    · go_wp2_with fail
      go_ret
      refine ⟨_, rfl, ?_, hb⟩
      rw [fillI_all _ hlt] at hown
      exact hown

set_option maxRecDepth 100000 in
set_option maxHeartbeats 800000 in
theorem eqIns_ok (x : Ins) (w : World) :
    Calls Try.prog 166 #[.agg #[.int .i64 x.op, .int .i64 x.a, .int .i64 x.b, .int .i64 x.c], .agg #[.int .i64 x.op, .int .i64 x.a, .int .i64 x.b, .int .i64 x.c]] w fun e w' => e = .returned (.bool true) ∧ Below w.heap.size w w' := by
  obtain ⟨op, a, b, c⟩ := x
  simp only []
  have hb := Below.refl w.heap.size w
  go_enter Try.func166, Try.ntmps166
  go_wp2
  go_ret
  exact ⟨rfl, (hb.al _).al _⟩

set_option maxRecDepth 100000 in
set_option maxHeartbeats 800000 in
theorem eqInsS_ok (v u : Value) (xs : List Ins) (w : World) (h : SlI w v xs) (k : SlI w u xs) :
    Calls Try.prog 158 #[v, u] w fun e w' => e = .returned (.bool true) ∧ Below w.heap.size w w' := by
  obtain ⟨a, cap, rfl, hl, hm, hn, hc⟩ := h
  obtain ⟨a2, cap2, rfl, hl2, hm2, hn2, hc2⟩ := k
  have hm' : xs.length ≤ 9223372036854775807 := by unfold maxLen at hm; omega
  clear hm hn hm2 hn2 hl hl2
  have hb := Below.refl w.heap.size w
  go_enter Try.func158, Try.ntmps158
  go_wp2_with fail
  go_loopw [5] (fun i wr => ∃ k : Nat, k ≤ xs.length ∧ i = .int .i64 k ∧ Below w.heap.size w wr) (fun i _ => xs.length - (intOf i).toNat)
  case atStart => exact ⟨0, Nat.zero_le _, rfl, hb⟩
  case round =>
    clear hb
    obtain ⟨k, hk, rfl, hb⟩ := hrel
    by_cases hlt : k < xs.length
    · rcases hc with rfl | ⟨b, off, rfl, hbl, hcell⟩
      · exact absurd hlt (by simp)
      · rcases hc2 with rfl | ⟨b2, off2, rfl, hbl2, hcell2⟩
        · exact absurd hlt (by simp)
        · obtain ⟨x, hx⟩ : ∃ x, xs[k]? = some x := ⟨_, List.getElem?_eq_getElem hlt⟩
          obtain ⟨e0, e1, e2, e3⟩ := hcell k x hx
          obtain ⟨f0, f1, f2, f3⟩ := hcell2 k x hx
          have c0 := (hb.cell (p := ⟨b, off + k * 4, none⟩) hbl).trans e0
          have c1 := (hb.cell (p := ⟨b, off + k * 4 + 1, none⟩) hbl).trans e1
          have c2 := (hb.cell (p := ⟨b, off + k * 4 + 2, none⟩) hbl).trans e2
          have c3 := (hb.cell (p := ⟨b, off + k * 4 + 3, none⟩) hbl).trans e3
          have d0 := (hb.cell (p := ⟨b2, off2 + k * 4, none⟩) hbl2).trans f0
          have d1 := (hb.cell (p := ⟨b2, off2 + k * 4 + 1, none⟩) hbl2).trans f1
          have d2 := (hb.cell (p := ⟨b2, off2 + k * 4 + 2, none⟩) hbl2).trans f2
          have d3 := (hb.cell (p := ⟨b2, off2 + k * 4 + 3, none⟩) hbl2).trans f3
          have HB := Lib.hid hb
          clear hx hcell hcell2 e0 e1 e2 e3 f0 f1 f2 f3 hb
          go_wp2_with fail
          go_region_with (go_at_call 166; refine (eqIns_ok x _).mono ?_; rintro e w2 ⟨rfl, hb1⟩)
          all_goals
            go_wp2_with fail
            go_roundw
            case rel => exact ⟨k + 1, by omega, by go_num, HB.out.drew.trans (hb1.mono HB.out.size)⟩
            case measure => simp [intOf]; omega
    · go_wp2_with fail
      go_ret
      exact ⟨rfl, hb⟩

def marksI (k : Int) (n : Nat) : List Ins := (List.range n).map fun (i : Nat) => ⟨k + 4 * (i : Int), k + 4 * (i : Int) + 1, k + 4 * (i : Int) + 1 + 1, k + 4 * (i : Int) + 1 + 1 + 1⟩
def markedI (xs : List Ins) (k : Int) (j : Nat) : List Ins := marksI k j ++ xs.drop j
theorem marksI_len (k : Int) (n : Nat) : (marksI k n).length = n := by simp [marksI]
theorem markedI_len {xs : List Ins} {k : Int} {j : Nat} (h : j ≤ xs.length) : (markedI xs k j).length = xs.length := by simp [markedI, marksI_len]; omega
theorem markedI_all (xs : List Ins) (k : Int) {j : Nat} (h : j = xs.length) : markedI xs k j = marksI k xs.length := by simp [markedI, h]
theorem markedI_step {xs : List Ins} {k : Int} {j : Nat} (h : j < xs.length) : (markedI xs k j).set j ⟨k + 4 * (j : Int), k + 4 * (j : Int) + 1, k + 4 * (j : Int) + 1 + 1, k + 4 * (j : Int) + 1 + 1 + 1⟩ = markedI xs k (j + 1) := by
  unfold markedI marksI
  rw [List.range_succ, List.set_append, if_neg (by simp)]
  simp
  rw [List.drop_eq_getElem_cons (by simpa using h)]
  rfl
theorem marksI_at {k : Int} {n j : Nat} {x : Ins} (h : (marksI k n)[j]? = some x) : x = ⟨k + 4 * (j : Int), k + 4 * (j : Int) + 1, k + 4 * (j : Int) + 1 + 1, k + 4 * (j : Int) + 1 + 1 + 1⟩ := by
  unfold marksI at h
  rw [List.getElem?_map] at h
  rcases e : (List.range n)[j]? with _ | q
  · rw [e] at h; cases h
  · rw [e] at h
    have hq : q = j := by
      have := (List.getElem?_eq_some_iff.1 e).2
      simp at this; exact this.symm
    subst hq
    simpa using h.symm

set_option maxRecDepth 100000 in
set_option maxHeartbeats 1600000 in
theorem markInsS_any (lo : Nat) (v : Value) (xs : List Ins) (k : Int) (w : World) (h : OwnI lo w v xs) (hk0 : 0 ≤ k) (hk : k ≤ 2000000000) (hs : xs.length ≤ 2000000000) :
    Calls Try.prog 122 #[v, .int .i64 k] w fun e w' => e = .returned (.int .i64 (k + 4 * (xs.length : Int))) ∧ OwnI lo w' v (marksI k xs.length) ∧ w.grownBy w' v.ownBlock := by
  by_cases h0 : xs = []
  · subst h0
    obtain ⟨a, cap, rfl, _, _, _, _⟩ := h.sl
    have HO := Lib.hid h
    clear h
    go_enter Try.func122, Try.ntmps122
    go_wp2_with fail
    go_loop [1, 5] (fun t i => t = .int .i64 k ∧ i = .int .i64 0) (fun _ _ => 0)
    case atStart => exact ⟨rfl, rfl⟩
    case round =>
      obtain ⟨rfl, rfl⟩ := hrel
      go_wp2_with fail
      go_ret
      exact ⟨by simp, HO.out, World.grownBy.refl _ _⟩
  · have hne : 0 < xs.length := List.length_pos_iff.2 h0
    rcases h.2 with ⟨_, hn⟩ | ⟨g, cap, cur, rfl, hlo, _, hcap, _⟩
    · exact absurd hn (by omega)
    · obtain ⟨n, hnn⟩ : ∃ n, n = xs.length := ⟨_, rfl⟩
      have HO : Hid (w.ownsRow lo 156 4 (.slice (some ⟨g, 0, none⟩) xs.length cap) xs.length (cellsI xs)) := h
      rw [← hnn] at HO hs hne ⊢
      have HN := Lib.hid hnn
      have hg0 : w.grownBy w (some g) := World.grownBy.refl _ _
      clear h h0 hcap hnn
      go_enter Try.func122, Try.ntmps122
      go_wp2_with fail
      go_loopw [1, 5] (fun t i wr => ∃ j : Nat, j ≤ n ∧ i = .int .i64 j ∧ t = .int .i64 (k + 4 * (j : Int)) ∧ Hid (wr.ownsRow lo 156 4 (.slice (some ⟨g, 0, none⟩) n cap) n (cellsI (markedI xs k j))) ∧ w.grownBy wr (some g)) (fun _ i _ => n - (intOf i).toNat)
      case atStart => exact ⟨0, Nat.zero_le _, rfl, by simp, by simpa [markedI, marksI] using HO, hg0⟩
      case round =>
        clear HO hg0
        obtain ⟨j, hj, rfl, rfl, HO, hg⟩ := hrel
        by_cases hlt : j < n
        · have hlen : (markedI xs k j).length = n := by rw [markedI_len (by rw [← HN.out]; omega), ← HN.out]
          obtain ⟨z0, z1, z2, z3, ⟨y0, q0⟩, ⟨y1, q1⟩, ⟨y2, q2⟩, ⟨y3, q3⟩⟩ := four_at HO.out hlen hlt
          have R := stored4 HO.out hlen hlt ⟨k + 4 * (j : Int), k + 4 * (j : Int) + 1, k + 4 * (j : Int) + 1 + 1, k + 4 * (j : Int) + 1 + 1 + 1⟩
          rw [markedI_step (by rw [← HN.out]; exact hlt)] at R
          have HR := Lib.hid R
          clear R HO hlen
          go_wp2_with fail
          go_roundw
          case rel => exact ⟨j + 1, by omega, by go_num, by go_num, HR.out.1, hg.trans HR.out.2⟩
          case measure => simp [intOf]; omega
        · obtain rfl : j = n := by omega
          go_wp2_with fail
          go_ret
          refine ⟨rfl, ?_, hg⟩
          have := HO.out
          rw [markedI_all xs k HN.out] at this
          unfold OwnI
          rw [marksI_len]
          rw [← HN.out] at this
          exact this

set_option maxRecDepth 100000 in
set_option maxHeartbeats 1600000 in
theorem heldInsS_any (v : Value) (k : Int) (n : Nat) (w : World) (h : SlI w v (marksI k n)) (hk0 : 0 ≤ k) (hk : k ≤ 2000000000) (hs : n ≤ 2000000000) :
    Calls Try.prog 123 #[v, .int .i64 k] w fun e w' => e = .returned (.int .i64 (k + 4 * (n : Int))) ∧ w = w' := by
  obtain ⟨a, cap, rfl, hl, hm, hn, hc⟩ := h
  clear hm hn hl
  have hc : n = 0 ∨ ∃ b off, a = some ⟨b, off, none⟩ ∧ ∀ i, i < n → w.cell? ⟨b, off + i * 4, none⟩ = some (.int .i64 (k + 4 * (i : Int))) ∧ w.cell? ⟨b, off + i * 4 + 1, none⟩ = some (.int .i64 (k + 4 * (i : Int) + 1)) ∧
      w.cell? ⟨b, off + i * 4 + 2, none⟩ = some (.int .i64 (k + 4 * (i : Int) + 1 + 1)) ∧ w.cell? ⟨b, off + i * 4 + 3, none⟩ = some (.int .i64 (k + 4 * (i : Int) + 1 + 1 + 1)) := by
    rcases hc with hc | ⟨b, off, ha, _, hc⟩
    · left; simpa [marksI] using hc
    · right
      refine ⟨b, off, ha, fun i hi => ?_⟩
      obtain ⟨x, hx⟩ : ∃ x, (marksI k n)[i]? = some x := ⟨_, List.getElem?_eq_getElem (by rw [marksI_len]; exact hi)⟩
      have := hc i x hx
      rw [marksI_at hx] at this
      exact this
  rw [marksI_len]
  go_enter Try.func123, Try.ntmps123
  go_wp2_with fail
  go_loop [1, 5] (fun t i => ∃ j : Nat, j ≤ n ∧ i = .int .i64 j ∧ t = .int .i64 (k + 4 * (j : Int))) (fun _ i => n - (intOf i).toNat)
  case atStart => exact ⟨0, Nat.zero_le _, rfl, by simp⟩
  case round =>
    obtain ⟨j, hj, rfl, rfl⟩ := hrel
    by_cases hlt : j < n
    · rcases hc with rfl | ⟨b, off, rfl, hcell⟩
      · exact absurd hlt (by omega)
      · obtain ⟨c0, c1, c2, c3⟩ := hcell j hlt
        clear hcell
        go_wp2_with fail
        go_round
        case rel => exact ⟨j + 1, by omega, by go_num, by go_num⟩
        case measure => simp [intOf]; omega
    · obtain rfl : j = n := by omega
      go_wp2_with fail
      go_ret
      exact ⟨rfl, rfl⟩

theorem szInsS_any (v : Value) (xs : List Ins) (left : Int) (w : World) (h : SlI w v xs) (hl : 0 ≤ left ∧ left ≤ 1048576) :
    Calls Try.prog 149 #[v, .int .i64 left] w fun e w' => e = .returned (.int .i64 (if (xs.length : Int) ≤ left then left - xs.length else -1)) ∧ w = w' := by
  obtain ⟨a, cap, rfl, _, hm, _, _⟩ := h
  have hm' : xs.length ≤ 9223372036854775807 := by unfold maxLen at hm; omega
  have wi : wrap64 (left - xs.length) = left - xs.length := IntWalk.wrap64_in _ (by unfold maxLen at hm; omega)
  clear hm
  by_cases hc : (xs.length : Int) ≤ left
  · rw [if_pos hc]
    have d : decide (left - (xs.length : Int) < 0) = false := decide_eq_false (by omega)
    go_enter Try.func149, Try.ntmps149
    go_wp2
    go_ret
    exact ⟨rfl, rfl⟩
  · rw [if_neg hc]
    have d : decide (left - (xs.length : Int) < 0) = true := decide_eq_true (by omega)
    go_enter Try.func149, Try.ntmps149
    go_wp2
    go_ret
    exact ⟨rfl, rfl⟩
end Go.Proofs.Ytkeoefbkeommhaa
