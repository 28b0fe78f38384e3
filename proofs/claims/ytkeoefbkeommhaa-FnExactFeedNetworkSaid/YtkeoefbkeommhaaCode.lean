/-
  Words for slices of instructions and for programs. No statement of the seat is proved here.
-/
import Derived.Test.YtkeoefbkeommhaaIns
import Derived.Test.YtkeoefbkeommhaaOwn
namespace Go.Proofs.Ytkeoefbkeommhaa
open Go.RowKit

def cellsI (code : List Ins) : List Value := code.flatMap fun x => [.int .i64 x.op, .int .i64 x.a, .int .i64 x.b, .int .i64 x.c]
theorem cellsI_nil : cellsI [] = [] := rfl
theorem cellsI_cons (x : Ins) (xs : List Ins) : cellsI (x :: xs) = .int .i64 x.op :: .int .i64 x.a :: .int .i64 x.b :: .int .i64 x.c :: cellsI xs := by simp [cellsI]
theorem cellsI_app (xs ys : List Ins) : cellsI (xs ++ ys) = cellsI xs ++ cellsI ys := by simp [cellsI]
theorem cellsI_len : ∀ code : List Ins, (cellsI code).length = code.length * 4
  | [] => rfl
  | x :: xs => by rw [cellsI_cons]; simp [cellsI_len xs]; omega
theorem cellsI_at : ∀ (code : List Ins) (k : Nat) (x : Ins), code[k]? = some x →
    (cellsI code)[k * 4]? = some (.int .i64 x.op) ∧ (cellsI code)[k * 4 + 1]? = some (.int .i64 x.a) ∧ (cellsI code)[k * 4 + 2]? = some (.int .i64 x.b) ∧ (cellsI code)[k * 4 + 3]? = some (.int .i64 x.c)
  | [], k, x, h => by simp at h
  | y :: ys, 0, x, h => by
    simp at h; subst h; rw [cellsI_cons]; simp
  | y :: ys, k + 1, x, h => by
    have := cellsI_at ys k x (by simpa using h)
    rw [cellsI_cons, show (k + 1) * 4 = k * 4 + 4 by omega]
    simpa using this
theorem cellsI_set : ∀ (code : List Ins) (k : Nat) (x : Ins), k < code.length →
    ((((cellsI code).set (k * 4) (.int .i64 x.op)).set (k * 4 + 1) (.int .i64 x.a)).set (k * 4 + 2) (.int .i64 x.b)).set (k * 4 + 3) (.int .i64 x.c) = cellsI (code.set k x)
  | [], k, x, h => by simp at h
  | y :: ys, 0, x, h => by simp [cellsI_cons]
  | y :: ys, k + 1, x, h => by
    have := cellsI_set ys k x (by simpa using h)
    rw [List.set_cons_succ, cellsI_cons, cellsI_cons, ← this, show (k + 1) * 4 = k * 4 + 4 by omega]
    simp

/-- 'v' is a slice of instructions that reads as 'code' in 'w'. -/
def SlI (w : World) (v : Value) (code : List Ins) : Prop :=
  ∃ (a : Option Addr) (cap : Nat), v = .slice a code.length cap ∧ code.length ≤ cap ∧ cap ≤ maxLen ∧ (a = none → cap = 0) ∧
    (code = [] ∨ ∃ b off, a = some ⟨b, off, none⟩ ∧ b < w.heap.size ∧ ∀ i x, code[i]? = some x → w.cell? ⟨b, off + i * 4, none⟩ = some (.int .i64 x.op) ∧
      w.cell? ⟨b, off + i * 4 + 1, none⟩ = some (.int .i64 x.a) ∧ w.cell? ⟨b, off + i * 4 + 2, none⟩ = some (.int .i64 x.b) ∧ w.cell? ⟨b, off + i * 4 + 3, none⟩ = some (.int .i64 x.c))
/-- 'v' is a slice of instructions of the call's own. -/
def OwnI (lo : Nat) (w : World) (v : Value) (code : List Ins) : Prop := w.ownsRow lo 156 4 v code.length (cellsI code)

theorem SlI.below {w w' : World} {v : Value} {xs : List Ins} (h : SlI w v xs) (hb : Below w.heap.size w w') : SlI w' v xs := by
  obtain ⟨a, cap, hv, h1, h2, h3, h4⟩ := h
  refine ⟨a, cap, hv, h1, h2, h3, ?_⟩
  rcases h4 with h4 | ⟨b, off, ha, hlt, hc⟩
  · exact .inl h4
  · refine .inr ⟨b, off, ha, Nat.lt_of_lt_of_le hlt hb.size, fun i x hi => ?_⟩
    obtain ⟨c0, c1, c2, c3⟩ := hc i x hi
    exact ⟨(hb.cell hlt).trans c0, (hb.cell hlt).trans c1, (hb.cell hlt).trans c2, (hb.cell hlt).trans c3⟩
theorem OwnI.lt {lo : Nat} {w : World} {v : Value} {xs : List Ins} (h : OwnI lo w v xs) : ∀ k, v.ownBlock = some k → lo ≤ k ∧ k < w.heap.size := World.ownsRow.lt h
theorem row_below {lo T sz n : Nat} {w w' : World} {v : Value} {cs : List Value} (h : w.ownsRow lo T sz v n cs) (hb : Below w.heap.size w w') : w'.ownsRow lo T sz v n cs := by
  have hl := World.ownsRow.lt h
  refine ⟨h.1, ?_⟩
  rcases h.2 with hn | ⟨g, cap, cur, rfl, hbb, hg, rest⟩
  · exact .inl hn
  · refine .inr ⟨g, cap, cur, rfl, hbb, ?_, rest⟩
    rw [hb.block g (hl g rfl).2]
    exact hg
theorem row_mono {lo lo' T sz n : Nat} {w : World} {v : Value} {cs : List Value} (h : w.ownsRow lo T sz v n cs) (hl : lo' ≤ lo) : w.ownsRow lo' T sz v n cs := by
  refine ⟨h.1, ?_⟩
  rcases h.2 with hn | ⟨g, cap, cur, rfl, hbb, hg, rest⟩
  · exact .inl hn
  · exact .inr ⟨g, cap, cur, rfl, by omega, hg, rest⟩
theorem OwnI.below {lo : Nat} {w w' : World} {v : Value} {xs : List Ins} (h : OwnI lo w v xs) (hb : Below w.heap.size w w') : OwnI lo w' v xs := row_below h hb
theorem OwnI.kept {lo : Nat} {w w' : World} {v u : Value} {xs : List Ins} (h : OwnI lo w v xs) (hg : w.grownBy w' u.ownBlock) (ha : Apart v u) : OwnI lo w' v xs := World.ownsRow.kept h hg ha
theorem OwnI.mono {lo lo' : Nat} {w : World} {v : Value} {xs : List Ins} (h : OwnI lo w v xs) (hl : lo' ≤ lo) : OwnI lo' w v xs := row_mono h hl
theorem OwnI.sl {lo : Nat} {w : World} {v : Value} {xs : List Ins} (h : OwnI lo w v xs) : SlI w v xs := by
  rcases h.2 with ⟨rfl, hn⟩ | ⟨g, cap, cur, rfl, hlo, hg, hnc, hcm, hcs, htake⟩
  · exact ⟨none, 0, by rw [hn], by omega, by unfold maxLen; omega, fun _ => rfl, .inl (List.eq_nil_of_length_eq_zero hn)⟩
  · refine ⟨_, cap, rfl, hnc, hcm, (fun e => by cases e), .inr ⟨g, 0, rfl, (Array.getElem?_eq_some_iff.1 hg).1, fun i x hi => ?_⟩⟩
    have hlt : i < xs.length := (List.getElem?_eq_some_iff.1 hi).1
    have H : w.ownsRow lo 156 4 (.slice (some ⟨g, 0, none⟩) xs.length cap) xs.length (cellsI xs) := h
    obtain ⟨c0, c1, c2, c3⟩ := cellsI_at xs i x hi
    simp only [Nat.zero_add]
    exact ⟨(H.cellAt _ (by omega)).trans c0, (H.cellAt _ (by omega)).trans c1, (H.cellAt _ (by omega)).trans c2, (H.cellAt _ (by omega)).trans c3⟩
theorem OwnI.shape {lo : Nat} {w : World} {v : Value} {xs : List Ins} (h : OwnI lo w v xs) : ∃ a c, v = .slice a xs.length c := by
  rcases h.2 with ⟨rfl, hn⟩ | ⟨g, cap, cur, rfl, _⟩
  · exact ⟨none, 0, by rw [hn]⟩
  · exact ⟨_, _, rfl⟩

theorem _root_.Go.RowKit.Below.al {a w : World} (h : Below a.heap.size a w) (o : Obj) : Below a.heap.size a (w.alloc o) := h.alloc h.size o
theorem infoI : (Try.prog.info? 156).map (fun i => (i.zero, i.size, i.bytes)) = some (some (.agg #[.int .i64 0, .int .i64 0, .int .i64 0, .int .i64 0]), 4, 32) := by kernel_rfl
theorem infoI_parts : ∃ i0, Try.prog.info? 156 = some i0 ∧ i0.zero = some (.agg #[.int .i64 0, .int .i64 0, .int .i64 0, .int .i64 0]) ∧ i0.size = 4 ∧ i0.bytes = 32 := by
  have h := infoI
  cases e : Try.prog.info? 156 with
  | none => rw [e] at h; cases h
  | some i =>
    rw [e] at h
    simp only [Option.map_some, Option.some.injEq, Prod.mk.injEq] at h
    exact ⟨i, rfl, h.1, h.2.1, h.2.2⟩

def noIns : Ins := ⟨0, 0, 0, 0⟩
def fillI (xs : List Ins) (k : Nat) : List Ins := xs.take k ++ List.replicate (xs.length - k) noIns
theorem fillI_len {xs : List Ins} {k : Nat} (h : k ≤ xs.length) : (fillI xs k).length = xs.length := by simp [fillI]; omega
theorem fillI_all (xs : List Ins) {k : Nat} (h : ¬ k < xs.length) : fillI xs k = xs := by simp [fillI, List.take_of_length_le (show xs.length ≤ k by omega), show xs.length - k = 0 by omega]
theorem fillI_step {xs : List Ins} {k : Nat} {x : Ins} (h : xs[k]? = some x) : (fillI xs k).set k x = fillI xs (k + 1) := by
  have hk := (List.getElem?_eq_some_iff.1 h).1
  have hx := (List.getElem?_eq_some_iff.1 h).2
  unfold fillI
  rw [List.set_append, if_neg (by simp; omega)]
  rw [List.take_succ_eq_append_getElem hk, hx, List.append_assoc]
  congr 1
  rw [show xs.length - k = (xs.length - (k + 1)) + 1 by omega, List.replicate_succ]
  simp [Nat.min_eq_left (Nat.le_of_lt hk)]
theorem cellsI_repl : ∀ n : Nat, cellsI (List.replicate n noIns) = List.replicate (n * 4) (.int .i64 0)
  | 0 => rfl
  | n + 1 => by
    rw [List.replicate_succ, cellsI_cons, cellsI_repl n, show (n + 1) * 4 = n * 4 + 1 + 1 + 1 + 1 by omega]
    simp [List.replicate_succ, noIns]

set_option maxHeartbeats 400000 in
theorem toIns_any (x : Ins) (w : World) :
    Calls Try.prog 163 #[.agg #[.int .i64 x.op, .int .i64 x.a, .int .i64 x.b, .int .i64 x.c]] w fun e w' => e = .returned (.agg #[.int .i64 x.op, .int .i64 x.a, .int .i64 x.b, .int .i64 x.c]) ∧ Below w.heap.size w w' := by
  obtain ⟨op, a, b, c⟩ := x
  simp only []
  have hb := Below.refl w.heap.size w
  go_enter Try.func163, Try.ntmps163
  go_wp2
  refine bodyPost_ret (v := .agg #[.int .i64 op, .int .i64 a, .int .i64 b, .int .i64 c]) (by simp [results, Try.results163, go_sem]) rfl ⟨rfl, ((hb.al _).al _).al _⟩

theorem four_at {w : World} {lo g n cap : Nat} {code : List Ins} {k : Nat} (h : w.ownsRow lo 156 4 (.slice (some ⟨g, 0, none⟩) n cap) n (cellsI code)) (hl : code.length = n) (hk : k < n) :
    w.frozen? ⟨g, k * 4, none⟩ = false ∧ w.frozen? ⟨g, k * 4 + 1, none⟩ = false ∧ w.frozen? ⟨g, k * 4 + 2, none⟩ = false ∧ w.frozen? ⟨g, k * 4 + 3, none⟩ = false ∧
    (∃ y, w.cell? ⟨g, k * 4, none⟩ = some y) ∧ (∃ y, w.cell? ⟨g, k * 4 + 1, none⟩ = some y) ∧ (∃ y, w.cell? ⟨g, k * 4 + 2, none⟩ = some y) ∧ (∃ y, w.cell? ⟨g, k * 4 + 3, none⟩ = some y) := by
  have c : ∀ j, j < n * 4 → ∃ y, w.cell? ⟨g, j, none⟩ = some y := fun j hj => by
    rw [h.cellAt j hj, List.getElem?_eq_getElem (by rw [cellsI_len]; omega)]; exact ⟨_, rfl⟩
  exact ⟨h.frozenAt _, h.frozenAt _, h.frozenAt _, h.frozenAt _, c _ (by omega), c _ (by omega), c _ (by omega), c _ (by omega)⟩
theorem stored4 {w : World} {lo g n cap : Nat} {code : List Ins} {k : Nat} (h : w.ownsRow lo 156 4 (.slice (some ⟨g, 0, none⟩) n cap) n (cellsI code)) (hl : code.length = n) (hk : k < n) (x : Ins) :
    ((((w.setCell ⟨g, k * 4, none⟩ (.int .i64 x.op)).setCell ⟨g, k * 4 + 1, none⟩ (.int .i64 x.a)).setCell ⟨g, k * 4 + 2, none⟩ (.int .i64 x.b)).setCell ⟨g, k * 4 + 3, none⟩ (.int .i64 x.c)).ownsRow lo 156 4 (.slice (some ⟨g, 0, none⟩) n cap) n (cellsI (code.set k x)) ∧
    w.grownBy ((((w.setCell ⟨g, k * 4, none⟩ (.int .i64 x.op)).setCell ⟨g, k * 4 + 1, none⟩ (.int .i64 x.a)).setCell ⟨g, k * 4 + 2, none⟩ (.int .i64 x.b)).setCell ⟨g, k * 4 + 3, none⟩ (.int .i64 x.c)) (some g) := by
  have a0 := h.stored (k * 4) (.int .i64 x.op)
  have a1 := a0.1.stored (k * 4 + 1) (.int .i64 x.a)
  have a2 := a1.1.stored (k * 4 + 2) (.int .i64 x.b)
  have a3 := a2.1.stored (k * 4 + 3) (.int .i64 x.c)
  rw [cellsI_set code k x (by omega)] at a3
  exact ⟨a3.1, ((a0.2.trans a1.2).trans a2.2).trans a3.2⟩
theorem below_set4 {B g : Nat} {w0 w : World} (h : Below B w0 w) (hg : B ≤ g) (j0 j1 j2 j3 : Nat) (u0 u1 u2 u3 : Value) :
    Below B w0 ((((w.setCell ⟨g, j0, none⟩ u0).setCell ⟨g, j1, none⟩ u1).setCell ⟨g, j2, none⟩ u2).setCell ⟨g, j3, none⟩ u3) :=
  (((h.setCell (p := ⟨g, j0, none⟩) hg u0).setCell (p := ⟨g, j1, none⟩) hg u1).setCell (p := ⟨g, j2, none⟩) hg u2).setCell (p := ⟨g, j3, none⟩) hg u3
theorem made4 (n : Nat) : (madeCells #[.int .i64 0, .int .i64 0, .int .i64 0, .int .i64 0] n).toList = List.replicate n (.int .i64 0) := by
  apply List.ext_getElem
  · simp [madeCells]
  · intro i h1 h2
    have h4 : i % 4 < 4 := Nat.mod_lt _ (by omega)
    simp only [madeCells, Array.getElem_toList, Array.getElem_map, Array.getElem_range, List.getElem_replicate, List.size_toArray, List.length_cons, List.length_nil]
    rcases (show i % 4 = 0 ∨ i % 4 = 1 ∨ i % 4 = 2 ∨ i % 4 = 3 by omega) with e | e | e | e <;> simp [e]
theorem madeI {w1 : World} {B : Nat} {v : Value} {xs : List Ins} (h : w1.ownsRow B 156 4 v xs.length (madeCells #[.int .i64 0, .int .i64 0, .int .i64 0, .int .i64 0] (xs.length * 4)).toList) : OwnI B w1 v (fillI xs 0) := by
  unfold OwnI
  rw [fillI_len (Nat.zero_le _)]
  rw [made4] at h
  rw [show fillI xs 0 = List.replicate xs.length noIns by simp [fillI], cellsI_repl]
  exact h

set_option maxRecDepth 100000 in
set_option maxHeartbeats 800000 in
theorem toInsS_any (v : Value) (xs : List Ins) (w : World) (h : SlI w v xs) (hs : xs.length ≤ 1048576) :
    Calls Try.prog 153 #[v] w fun e w' => ∃ v', e = .returned v' ∧ OwnI w.heap.size w' v' xs ∧ Below w.heap.size w w' := by
  obtain ⟨a, cap, rfl, hl, hm, hn, hc⟩ := h
  clear hm hn hl
  obtain ⟨i0, hi, hz0, hz1, hz2⟩ := infoI_parts
  go_enter Try.func153, Try.ntmps153
  go_wp2_with (at_make; refine wpList_make_full _ rfl _ _ 77 rfl w.heap.size 156 i0 (.agg #[.int .i64 0, .int .i64 0, .int .i64 0, .int .i64 0]) 4 Try.underlying77 hi hz0 hz1 _ _ _ _ xs.length rfl rfl rfl rfl ?b2 ?b3 ?b4 ?_)
  case b2 => rw [hz2]; omega
  case b3 => unfold maxLen; omega
  case b4 => exact Nat.le_refl _
  intro w1 hown hgrow
  have hb := (Below.refl w.heap.size w).grown hgrow (Nat.le_refl _) (by simp)
  have hz : w.heap.size < w1.heap.size := (hown.lt w.heap.size rfl).2
  have hown := madeI (xs := xs) hown
  clear hgrow hi hz0 hz1 hz2
  go_wp2_with fail
  go_loopw [4] (fun i wr => ∃ k : Nat, k ≤ xs.length ∧ i = .int .i64 k ∧ wr.ownsRow w.heap.size 156 4 (.slice (some ⟨w.heap.size, 0, none⟩) xs.length xs.length) xs.length (cellsI (fillI xs k)) ∧ Below w.heap.size w wr) (fun i _ => xs.length - (intOf i).toNat)
  case atStart => exact ⟨0, Nat.zero_le _, rfl, by have := hown; unfold OwnI at this; rwa [fillI_len (Nat.zero_le _)] at this, hb⟩
  case round =>
    clear hown hb hz
    obtain ⟨k, hk, rfl, hown, hb⟩ := hrel
    by_cases hlt : k < xs.length
    · rcases hc with rfl | ⟨b, off, rfl, hbl, hcell⟩
      · exact absurd hlt (by simp)
      · obtain ⟨x, hx⟩ : ∃ x, xs[k]? = some x := ⟨_, List.getElem?_eq_getElem hlt⟩
        obtain ⟨e0, e1, e2, e3⟩ := hcell k x hx
        have c0 := (hb.cell (p := ⟨b, off + k * 4, none⟩) hbl).trans e0
        have c1 := (hb.cell (p := ⟨b, off + k * 4 + 1, none⟩) hbl).trans e1
        have c2 := (hb.cell (p := ⟨b, off + k * 4 + 2, none⟩) hbl).trans e2
        have c3 := (hb.cell (p := ⟨b, off + k * 4 + 3, none⟩) hbl).trans e3
        have HX := Lib.hid hx
        have HO := Lib.hid hown
        clear hx hcell hown e0 e1 e2 e3
        go_wp2_with (go_at_call 163; refine (toIns_any x _).mono ?_; rintro e w2 ⟨rfl, hb1⟩; have HO1 := Lib.hid (row_below HO.out hb1); have F := four_at HO1.out (by rw [fillI_len hk]) hlt; obtain ⟨z0, z1, z2, z3, ⟨y0, q0⟩, ⟨y1, q1⟩, ⟨y2, q2⟩, ⟨y3, q3⟩⟩ := F)
        go_roundw
        case rel =>
          refine ⟨k + 1, by omega, by go_num, ?_, below_set4 (hb.trans (hb1.mono hb.size)) (Nat.le_refl _) _ _ _ _ _ _ _ _⟩
          have := (stored4 HO1.out (by rw [fillI_len hk]) hlt x).1
          rwa [fillI_step HX.out] at this
        case measure => simp [intOf]; omega
    · go_wp2_with fail
      go_ret
      refine ⟨_, rfl, ?_, hb⟩
      rw [fillI_all _ hlt] at hown
      exact hown
end Go.Proofs.Ytkeoefbkeommhaa
