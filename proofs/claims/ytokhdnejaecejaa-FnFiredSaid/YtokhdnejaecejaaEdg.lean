/-
  Words for slices of edges, and what the law's own functions on them do. No statement of the seat is proved here.
-/
import Derived.Test.YtokhdnejaecejaaCode2
namespace Go.Proofs.Ytokhdnejaecejaa
open Go.RowKit

structure Edg where
  fr : Int
  to : Int
  mke : Int
  tk : Int
  tok : Int

def cellsEd (code : List Edg) : List Value := code.flatMap fun x => [.int .i64 x.fr, .int .i64 x.to, .int .i64 x.mke, .int .i64 x.tk, .int .i64 x.tok]
theorem cellsEd_nil : cellsEd [] = [] := rfl
theorem cellsEd_cons (x : Edg) (xs : List Edg) : cellsEd (x :: xs) = .int .i64 x.fr :: .int .i64 x.to :: .int .i64 x.mke :: .int .i64 x.tk :: .int .i64 x.tok :: cellsEd xs := by simp [cellsEd]
theorem cellsEd_app (xs ys : List Edg) : cellsEd (xs ++ ys) = cellsEd xs ++ cellsEd ys := by simp [cellsEd]
theorem cellsEd_len : ∀ code : List Edg, (cellsEd code).length = code.length * 5
  | [] => rfl
  | x :: xs => by rw [cellsEd_cons]; simp [cellsEd_len xs]; omega
theorem cellsEd_at : ∀ (code : List Edg) (k : Nat) (x : Edg), code[k]? = some x →
    (cellsEd code)[k * 5]? = some (.int .i64 x.fr) ∧ (cellsEd code)[k * 5 + 1]? = some (.int .i64 x.to) ∧ (cellsEd code)[k * 5 + 2]? = some (.int .i64 x.mke) ∧ (cellsEd code)[k * 5 + 3]? = some (.int .i64 x.tk) ∧ (cellsEd code)[k * 5 + 4]? = some (.int .i64 x.tok)
  | [], k, x, h => by simp at h
  | y :: ys, 0, x, h => by
    simp at h; subst h; rw [cellsEd_cons]; simp
  | y :: ys, k + 1, x, h => by
    have := cellsEd_at ys k x (by simpa using h)
    rw [cellsEd_cons, show (k + 1) * 5 = k * 5 + 5 by omega]
    simpa using this
theorem cellsEd_set : ∀ (code : List Edg) (k : Nat) (x : Edg), k < code.length →
    (((((cellsEd code).set (k * 5) (.int .i64 x.fr)).set (k * 5 + 1) (.int .i64 x.to)).set (k * 5 + 2) (.int .i64 x.mke)).set (k * 5 + 3) (.int .i64 x.tk)).set (k * 5 + 4) (.int .i64 x.tok) = cellsEd (code.set k x)
  | [], k, x, h => by simp at h
  | y :: ys, 0, x, h => by simp [cellsEd_cons]
  | y :: ys, k + 1, x, h => by
    have := cellsEd_set ys k x (by simpa using h)
    rw [List.set_cons_succ, cellsEd_cons, cellsEd_cons, ← this, show (k + 1) * 5 = k * 5 + 5 by omega]
    simp
/-- 'v' is a slice that reads as 'code' in 'w'. -/
def SlEd (w : World) (v : Value) (code : List Edg) : Prop :=
  ∃ (a : Option Addr) (cap : Nat), v = .slice a code.length cap ∧ code.length ≤ cap ∧ cap ≤ maxLen ∧ (a = none → cap = 0) ∧
    (code = [] ∨ ∃ b off, a = some ⟨b, off, none⟩ ∧ b < w.heap.size ∧ ∀ i x, code[i]? = some x → w.cell? ⟨b, off + i * 5, none⟩ = some (.int .i64 x.fr) ∧ w.cell? ⟨b, off + i * 5 + 1, none⟩ = some (.int .i64 x.to) ∧ w.cell? ⟨b, off + i * 5 + 2, none⟩ = some (.int .i64 x.mke) ∧ w.cell? ⟨b, off + i * 5 + 3, none⟩ = some (.int .i64 x.tk) ∧ w.cell? ⟨b, off + i * 5 + 4, none⟩ = some (.int .i64 x.tok))
/-- 'v' is such a slice of the call's own. -/
def OwnEd (lo : Nat) (w : World) (v : Value) (code : List Edg) : Prop := w.ownsRow lo 62 5 v code.length (cellsEd code)
theorem SlEd.below {w w' : World} {v : Value} {xs : List Edg} (h : SlEd w v xs) (hb : Below w.heap.size w w') : SlEd w' v xs := by
  obtain ⟨a, cap, hv, h1, h2, h3, h4⟩ := h
  refine ⟨a, cap, hv, h1, h2, h3, ?_⟩
  rcases h4 with h4 | ⟨b, off, ha, hlt, hc⟩
  · exact .inl h4
  · refine .inr ⟨b, off, ha, Nat.lt_of_lt_of_le hlt hb.size, fun i x hi => ?_⟩
    obtain ⟨c0, c1, c2, c3, c4⟩ := hc i x hi
    exact ⟨(hb.cell hlt).trans c0, (hb.cell hlt).trans c1, (hb.cell hlt).trans c2, (hb.cell hlt).trans c3, (hb.cell hlt).trans c4⟩
theorem OwnEd.lt {lo : Nat} {w : World} {v : Value} {xs : List Edg} (h : OwnEd lo w v xs) : ∀ k, v.ownBlock = some k → lo ≤ k ∧ k < w.heap.size := World.ownsRow.lt h
theorem OwnEd.below {lo : Nat} {w w' : World} {v : Value} {xs : List Edg} (h : OwnEd lo w v xs) (hb : Below w.heap.size w w') : OwnEd lo w' v xs := row_below h hb
theorem OwnEd.kept {lo : Nat} {w w' : World} {v u : Value} {xs : List Edg} (h : OwnEd lo w v xs) (hg : w.grownBy w' u.ownBlock) (ha : Apart v u) : OwnEd lo w' v xs := World.ownsRow.kept h hg ha
theorem OwnEd.mono {lo lo' : Nat} {w : World} {v : Value} {xs : List Edg} (h : OwnEd lo w v xs) (hl : lo' ≤ lo) : OwnEd lo' w v xs := row_mono h hl
theorem OwnEd.sl {lo : Nat} {w : World} {v : Value} {xs : List Edg} (h : OwnEd lo w v xs) : SlEd w v xs := by
  rcases h.2 with ⟨rfl, hn⟩ | ⟨g, cap, cur, rfl, hlo, hg, hnc, hcm, hcs, htake⟩
  · exact ⟨none, 0, by rw [hn], by omega, by unfold maxLen; omega, fun _ => rfl, .inl (List.eq_nil_of_length_eq_zero hn)⟩
  · refine ⟨_, cap, rfl, hnc, hcm, (fun e => by cases e), .inr ⟨g, 0, rfl, (Array.getElem?_eq_some_iff.1 hg).1, fun i x hi => ?_⟩⟩
    have hlt : i < xs.length := (List.getElem?_eq_some_iff.1 hi).1
    have H : w.ownsRow lo 62 5 (.slice (some ⟨g, 0, none⟩) xs.length cap) xs.length (cellsEd xs) := h
    obtain ⟨c0, c1, c2, c3, c4⟩ := cellsEd_at xs i x hi
    simp only [Nat.zero_add]
    exact ⟨(H.cellAt _ (by omega)).trans c0, (H.cellAt _ (by omega)).trans c1, (H.cellAt _ (by omega)).trans c2, (H.cellAt _ (by omega)).trans c3, (H.cellAt _ (by omega)).trans c4⟩
theorem OwnEd.shape {lo : Nat} {w : World} {v : Value} {xs : List Edg} (h : OwnEd lo w v xs) : ∃ a c, v = .slice a xs.length c := by
  rcases h.2 with ⟨rfl, hn⟩ | ⟨g, cap, cur, rfl, _⟩
  · exact ⟨none, 0, by rw [hn]⟩
  · exact ⟨_, _, rfl⟩

theorem infoEd : (Try.prog.info? 62).map (fun i => (i.zero, i.size, i.bytes)) = some (some (.agg #[.int .i64 0, .int .i64 0, .int .i64 0, .int .i64 0, .int .i64 0]), 5, 40) := by kernel_rfl
theorem infoEd_parts : ∃ i0, Try.prog.info? 62 = some i0 ∧ i0.zero = some (.agg #[.int .i64 0, .int .i64 0, .int .i64 0, .int .i64 0, .int .i64 0]) ∧ i0.size = 5 ∧ i0.bytes = 40 := by
  have h := infoEd
  cases e : Try.prog.info? 62 with
  | none => rw [e] at h; cases h
  | some i =>
    rw [e] at h
    simp only [Option.map_some, Option.some.injEq, Prod.mk.injEq] at h
    exact ⟨i, rfl, h.1, h.2.1, h.2.2⟩

def noEd : Edg := ⟨0, 0, 0, 0, 0⟩
def fillEd (xs : List Edg) (k : Nat) : List Edg := xs.take k ++ List.replicate (xs.length - k) noEd
theorem fillEd_len {xs : List Edg} {k : Nat} (h : k ≤ xs.length) : (fillEd xs k).length = xs.length := by simp [fillEd]; omega
theorem fillEd_all (xs : List Edg) {k : Nat} (h : ¬ k < xs.length) : fillEd xs k = xs := by simp [fillEd, List.take_of_length_le (show xs.length ≤ k by omega), show xs.length - k = 0 by omega]
theorem fillEd_step {xs : List Edg} {k : Nat} {x : Edg} (h : xs[k]? = some x) : (fillEd xs k).set k x = fillEd xs (k + 1) := by
  have hk := (List.getElem?_eq_some_iff.1 h).1
  have hx := (List.getElem?_eq_some_iff.1 h).2
  unfold fillEd
  rw [List.set_append, if_neg (by simp; omega)]
  rw [List.take_succ_eq_append_getElem hk, hx, List.append_assoc]
  congr 1
  rw [show xs.length - k = (xs.length - (k + 1)) + 1 by omega, List.replicate_succ]
  simp [Nat.min_eq_left (Nat.le_of_lt hk)]
theorem cellsEd_repl : ∀ n : Nat, cellsEd (List.replicate n noEd) = List.replicate (n * 5) (.int .i64 0)
  | 0 => rfl
  | n + 1 => by
    rw [List.replicate_succ, cellsEd_cons, cellsEd_repl n, show (n + 1) * 5 = n * 5 + 1 + 1 + 1 + 1 + 1 by omega]
    simp [List.replicate_succ, noEd]

set_option maxHeartbeats 400000 in
theorem toEd_any (x : Edg) (w : World) :
    Calls Try.prog 101 #[.agg #[.int .i64 x.fr, .int .i64 x.to, .int .i64 x.mke, .int .i64 x.tk, .int .i64 x.tok]] w fun e w' => e = .returned (.agg #[.int .i64 x.fr, .int .i64 x.to, .int .i64 x.mke, .int .i64 x.tk, .int .i64 x.tok]) ∧ Below w.heap.size w w' := by
  obtain ⟨fr, to, mke, tk, tok⟩ := x
  simp only []
  have hb := Below.refl w.heap.size w
  go_enter Try.func101, Try.ntmps101
  go_wp2
  refine bodyPost_ret (v := .agg #[.int .i64 fr, .int .i64 to, .int .i64 mke, .int .i64 tk, .int .i64 tok]) (by simp [results, Try.results101, go_sem]) rfl ⟨rfl, (by first | exact ((hb.al _).al _).al _ | exact (hb.al _).al _ | exact hb.al _)⟩

theorem atsEd {w : World} {lo g n cap : Nat} {code : List Edg} {k : Nat} (h : w.ownsRow lo 62 5 (.slice (some ⟨g, 0, none⟩) n cap) n (cellsEd code)) (hl : code.length = n) (hk : k < n) :
    w.frozen? ⟨g, k * 5, none⟩ = false ∧ w.frozen? ⟨g, k * 5 + 1, none⟩ = false ∧ w.frozen? ⟨g, k * 5 + 2, none⟩ = false ∧ w.frozen? ⟨g, k * 5 + 3, none⟩ = false ∧ w.frozen? ⟨g, k * 5 + 4, none⟩ = false ∧
    (∃ y, w.cell? ⟨g, k * 5, none⟩ = some y) ∧ (∃ y, w.cell? ⟨g, k * 5 + 1, none⟩ = some y) ∧ (∃ y, w.cell? ⟨g, k * 5 + 2, none⟩ = some y) ∧ (∃ y, w.cell? ⟨g, k * 5 + 3, none⟩ = some y) ∧ (∃ y, w.cell? ⟨g, k * 5 + 4, none⟩ = some y) := by
  have c : ∀ j, j < n * 5 → ∃ y, w.cell? ⟨g, j, none⟩ = some y := fun j hj => by
    rw [h.cellAt j hj, List.getElem?_eq_getElem (by rw [cellsEd_len]; omega)]; exact ⟨_, rfl⟩
  exact ⟨h.frozenAt _, h.frozenAt _, h.frozenAt _, h.frozenAt _, h.frozenAt _, c _ (by omega), c _ (by omega), c _ (by omega), c _ (by omega), c _ (by omega)⟩
theorem storedEd {w : World} {lo g n cap : Nat} {code : List Edg} {k : Nat} (h : w.ownsRow lo 62 5 (.slice (some ⟨g, 0, none⟩) n cap) n (cellsEd code)) (hl : code.length = n) (hk : k < n) (x : Edg) :
    (((((w.setCell ⟨g, k * 5, none⟩ (.int .i64 x.fr)).setCell ⟨g, k * 5 + 1, none⟩ (.int .i64 x.to)).setCell ⟨g, k * 5 + 2, none⟩ (.int .i64 x.mke)).setCell ⟨g, k * 5 + 3, none⟩ (.int .i64 x.tk)).setCell ⟨g, k * 5 + 4, none⟩ (.int .i64 x.tok)).ownsRow lo 62 5 (.slice (some ⟨g, 0, none⟩) n cap) n (cellsEd (code.set k x)) ∧
    w.grownBy (((((w.setCell ⟨g, k * 5, none⟩ (.int .i64 x.fr)).setCell ⟨g, k * 5 + 1, none⟩ (.int .i64 x.to)).setCell ⟨g, k * 5 + 2, none⟩ (.int .i64 x.mke)).setCell ⟨g, k * 5 + 3, none⟩ (.int .i64 x.tk)).setCell ⟨g, k * 5 + 4, none⟩ (.int .i64 x.tok)) (some g) := by
  have a0 := h.stored (k * 5) (.int .i64 x.fr)
  have a1 := a0.1.stored (k * 5 + 1) (.int .i64 x.to)
  have a2 := a1.1.stored (k * 5 + 2) (.int .i64 x.mke)
  have a3 := a2.1.stored (k * 5 + 3) (.int .i64 x.tk)
  have a4 := a3.1.stored (k * 5 + 4) (.int .i64 x.tok)
  rw [cellsEd_set code k x (by omega)] at a4
  exact ⟨a4.1, ((((a0.2.trans a1.2).trans a2.2).trans a3.2).trans a4.2)⟩
theorem belowSetEd {B g : Nat} {w0 w : World} (h : Below B w0 w) (hg : B ≤ g) (j0 j1 j2 j3 j4 : Nat) (u0 u1 u2 u3 u4 : Value) :
    Below B w0 (((((w.setCell ⟨g, j0, none⟩ (u0)).setCell ⟨g, j1, none⟩ (u1)).setCell ⟨g, j2, none⟩ (u2)).setCell ⟨g, j3, none⟩ (u3)).setCell ⟨g, j4, none⟩ (u4)) :=
  (((((h.setCell (p := ⟨g, j0, none⟩) hg u0).setCell (p := ⟨g, j1, none⟩) hg u1).setCell (p := ⟨g, j2, none⟩) hg u2).setCell (p := ⟨g, j3, none⟩) hg u3).setCell (p := ⟨g, j4, none⟩) hg u4)
theorem madesEd (n : Nat) : (madeCells #[.int .i64 0, .int .i64 0, .int .i64 0, .int .i64 0, .int .i64 0] n).toList = List.replicate n (.int .i64 0) := by
  apply List.ext_getElem
  · simp [madeCells]
  · intro i h1 h2
    have h4 : i % 5 < 5 := Nat.mod_lt _ (by omega)
    simp only [madeCells, Array.getElem_toList, Array.getElem_map, Array.getElem_range, List.getElem_replicate, List.size_toArray, List.length_cons, List.length_nil]
    rcases (show i % 5 = 0 ∨ i % 5 = 1 ∨ i % 5 = 2 ∨ i % 5 = 3 ∨ i % 5 = 4 by omega) with e | e | e | e | e <;> simp [e]
theorem madeEd {w1 : World} {B : Nat} {v : Value} {xs : List Edg} (h : w1.ownsRow B 62 5 v xs.length (madeCells #[.int .i64 0, .int .i64 0, .int .i64 0, .int .i64 0, .int .i64 0] (xs.length * 5)).toList) : OwnEd B w1 v (fillEd xs 0) := by
  unfold OwnEd
  rw [fillEd_len (Nat.zero_le _)]
  rw [madesEd] at h
  rw [show fillEd xs 0 = List.replicate xs.length noEd by simp [fillEd], cellsEd_repl]
  exact h

set_option maxRecDepth 100000 in
set_option maxHeartbeats 1600000 in
theorem tosEd_any (v : Value) (xs : List Edg) (w : World) (h : SlEd w v xs) (hs : xs.length ≤ 1048576) :
    Calls Try.prog 55 #[v] w fun e w' => ∃ v', e = .returned v' ∧ OwnEd w.heap.size w' v' xs ∧ Below w.heap.size w w' := by
  obtain ⟨a, cap, rfl, hl, hm, hn, hc⟩ := h
  clear hm hn hl
  obtain ⟨i0, hi, hz0, hz1, hz2⟩ := infoEd_parts
  go_enter Try.func55, Try.ntmps55
  go_wp2_with (at_make; refine wpList_make_full _ rfl _ _ 27 rfl w.heap.size 62 i0 (.agg #[.int .i64 0, .int .i64 0, .int .i64 0, .int .i64 0, .int .i64 0]) 5 Try.underlying27 hi hz0 hz1 _ _ _ _ xs.length rfl rfl rfl rfl ?b2 ?b3 ?b4 ?_)
  case b2 => rw [hz2]; omega
  case b3 => unfold maxLen; omega
  case b4 => exact Nat.le_refl _
  intro w1 hown hgrow
  have hb := (Below.refl w.heap.size w).grown hgrow (Nat.le_refl _) (by simp)
  have hz : w.heap.size < w1.heap.size := (hown.lt w.heap.size rfl).2
  have hown := madeEd (xs := xs) hown
  clear hgrow hi hz0 hz1 hz2
  go_wp2_with fail
  go_loopw [4] (fun i wr => ∃ k : Nat, k ≤ xs.length ∧ i = .int .i64 k ∧ wr.ownsRow w.heap.size 62 5 (.slice (some ⟨w.heap.size, 0, none⟩) xs.length xs.length) xs.length (cellsEd (fillEd xs k)) ∧ Below w.heap.size w wr) (fun i _ => xs.length - (intOf i).toNat)
  case atStart => exact ⟨0, Nat.zero_le _, rfl, by have := hown; unfold OwnEd at this; rwa [fillEd_len (Nat.zero_le _)] at this, hb⟩
  case round =>
    clear hown hb hz
    obtain ⟨k, hk, rfl, hown, hb⟩ := hrel
    by_cases hlt : k < xs.length
    · rcases hc with rfl | ⟨b, off, rfl, hbl, hcell⟩
      · exact absurd hlt (by simp)
      · obtain ⟨x, hx⟩ : ∃ x, xs[k]? = some x := ⟨_, List.getElem?_eq_getElem hlt⟩
        obtain ⟨e0, e1, e2, e3, e4⟩ := hcell k x hx
        have c0 := (hb.cell (p := ⟨b, off + k * 5, none⟩) hbl).trans e0
        have c1 := (hb.cell (p := ⟨b, off + k * 5 + 1, none⟩) hbl).trans e1
        have c2 := (hb.cell (p := ⟨b, off + k * 5 + 2, none⟩) hbl).trans e2
        have c3 := (hb.cell (p := ⟨b, off + k * 5 + 3, none⟩) hbl).trans e3
        have c4 := (hb.cell (p := ⟨b, off + k * 5 + 4, none⟩) hbl).trans e4
        have HX := Lib.hid hx
        have HO := Lib.hid hown
        clear hx hcell hown e0 e1 e2 e3 e4
        go_wp2_with (go_at_call 101; refine (toEd_any x _).mono ?_; rintro e w2 ⟨rfl, hb1⟩; have HO1 := Lib.hid (row_below HO.out hb1); have F := atsEd HO1.out (by rw [fillEd_len hk]) hlt; obtain ⟨z0, z1, z2, z3, z4, ⟨y0, q0⟩, ⟨y1, q1⟩, ⟨y2, q2⟩, ⟨y3, q3⟩, ⟨y4, q4⟩⟩ := F)
        go_roundw
        case rel =>
          refine ⟨k + 1, by omega, by go_num, ?_, belowSetEd (hb.trans (hb1.mono hb.size)) (Nat.le_refl _) _ _ _ _ _ _ _ _ _ _⟩
          have := (storedEd HO1.out (by rw [fillEd_len hk]) hlt x).1
          rwa [fillEd_step HX.out] at this
        case measure => simp [intOf]; omega
    · go_wp2_with fail
      go_ret
      refine ⟨_, rfl, ?_, hb⟩
      rw [fillEd_all _ hlt] at hown
      exact hown

set_option maxRecDepth 100000 in
set_option maxHeartbeats 800000 in
theorem eqEd_ok (x : Edg) (w : World) :
    Calls Try.prog 104 #[.agg #[.int .i64 x.fr, .int .i64 x.to, .int .i64 x.mke, .int .i64 x.tk, .int .i64 x.tok], .agg #[.int .i64 x.fr, .int .i64 x.to, .int .i64 x.mke, .int .i64 x.tk, .int .i64 x.tok]] w fun e w' => e = .returned (.bool true) ∧ Below w.heap.size w w' := by
  obtain ⟨fr, to, mke, tk, tok⟩ := x
  simp only []
  have hb := Below.refl w.heap.size w
  go_enter Try.func104, Try.ntmps104
  go_wp2
  go_ret
  exact ⟨rfl, (hb.al _).al _⟩

set_option maxRecDepth 100000 in
set_option maxHeartbeats 800000 in
theorem eqsEd_ok (v u : Value) (xs : List Edg) (w : World) (h : SlEd w v xs) (k : SlEd w u xs) :
    Calls Try.prog 57 #[v, u] w fun e w' => e = .returned (.bool true) ∧ Below w.heap.size w w' := by
  obtain ⟨a, cap, rfl, hl, hm, hn, hc⟩ := h
  obtain ⟨a2, cap2, rfl, hl2, hm2, hn2, hc2⟩ := k
  have hm' : xs.length ≤ 9223372036854775807 := by unfold maxLen at hm; omega
  clear hm hn hm2 hn2 hl hl2
  have hb := Below.refl w.heap.size w
  go_enter Try.func57, Try.ntmps57
  go_wp2_with fail
  go_loopw [5] (fun i wr => ∃ k : Nat, k ≤ xs.length ∧ i = .int .i64 k ∧ Below w.heap.size w wr) (fun i _ => xs.length - (intOf i).toNat)
  case atStart => exact ⟨0, Nat.zero_le _, rfl, hb⟩
  case round =>
    clear hb
    obtain ⟨k, hk, rfl, hb⟩ := hrel
    by_cases hlt : k < xs.length
    · rcases hc with rfl | ⟨b, off, rfl, hbl, hcell⟩
      · exact absurd hlt (by simp)
      · rcases hc2 with rfl | ⟨b2, off2, rfl, hbl2, hcell2⟩
        · exact absurd hlt (by simp)
        · obtain ⟨x, hx⟩ : ∃ x, xs[k]? = some x := ⟨_, List.getElem?_eq_getElem hlt⟩
          obtain ⟨e0, e1, e2, e3, e4⟩ := hcell k x hx
          obtain ⟨f0, f1, f2, f3, f4⟩ := hcell2 k x hx
          have c0 := (hb.cell (p := ⟨b, off + k * 5, none⟩) hbl).trans e0
          have c1 := (hb.cell (p := ⟨b, off + k * 5 + 1, none⟩) hbl).trans e1
          have c2 := (hb.cell (p := ⟨b, off + k * 5 + 2, none⟩) hbl).trans e2
          have c3 := (hb.cell (p := ⟨b, off + k * 5 + 3, none⟩) hbl).trans e3
          have c4 := (hb.cell (p := ⟨b, off + k * 5 + 4, none⟩) hbl).trans e4
          have d0 := (hb.cell (p := ⟨b2, off2 + k * 5, none⟩) hbl2).trans f0
          have d1 := (hb.cell (p := ⟨b2, off2 + k * 5 + 1, none⟩) hbl2).trans f1
          have d2 := (hb.cell (p := ⟨b2, off2 + k * 5 + 2, none⟩) hbl2).trans f2
          have d3 := (hb.cell (p := ⟨b2, off2 + k * 5 + 3, none⟩) hbl2).trans f3
          have d4 := (hb.cell (p := ⟨b2, off2 + k * 5 + 4, none⟩) hbl2).trans f4
          have HB := Lib.hid hb
          clear hx hcell hcell2 e0 e1 e2 e3 e4 f0 f1 f2 f3 f4 hb
          go_wp2_with fail
          go_region_with (go_at_call 104; refine (eqEd_ok x _).mono ?_; rintro e w2 ⟨rfl, hb1⟩)
          all_goals
            go_wp2_with fail
            go_roundw
            case rel => exact ⟨k + 1, by omega, by go_num, HB.out.drew.trans (hb1.mono HB.out.size)⟩
            case measure => simp [intOf]; omega
    · go_wp2_with fail
      go_ret
      exact ⟨rfl, hb⟩

def marksEd (k : Int) (n : Nat) : List Edg := (List.range n).map fun (i : Nat) => ⟨k + 5 * (i : Int), k + 5 * (i : Int) + 1, k + 5 * (i : Int) + 1 + 1, k + 5 * (i : Int) + 1 + 1 + 1, k + 5 * (i : Int) + 1 + 1 + 1 + 1⟩
def markedEd (xs : List Edg) (k : Int) (j : Nat) : List Edg := marksEd k j ++ xs.drop j
theorem marksEd_len (k : Int) (n : Nat) : (marksEd k n).length = n := by simp [marksEd]
theorem markedEd_len {xs : List Edg} {k : Int} {j : Nat} (h : j ≤ xs.length) : (markedEd xs k j).length = xs.length := by simp [markedEd, marksEd_len]; omega
theorem markedEd_all (xs : List Edg) (k : Int) {j : Nat} (h : j = xs.length) : markedEd xs k j = marksEd k xs.length := by simp [markedEd, h]
theorem markedEd_step {xs : List Edg} {k : Int} {j : Nat} (h : j < xs.length) : (markedEd xs k j).set j ⟨k + 5 * (j : Int), k + 5 * (j : Int) + 1, k + 5 * (j : Int) + 1 + 1, k + 5 * (j : Int) + 1 + 1 + 1, k + 5 * (j : Int) + 1 + 1 + 1 + 1⟩ = markedEd xs k (j + 1) := by
  unfold markedEd marksEd
  rw [List.range_succ, List.set_append, if_neg (by simp)]
  simp
  rw [List.drop_eq_getElem_cons (by simpa using h)]
  rfl
theorem marksEd_at {k : Int} {n j : Nat} {x : Edg} (h : (marksEd k n)[j]? = some x) : x = ⟨k + 5 * (j : Int), k + 5 * (j : Int) + 1, k + 5 * (j : Int) + 1 + 1, k + 5 * (j : Int) + 1 + 1 + 1, k + 5 * (j : Int) + 1 + 1 + 1 + 1⟩ := by
  unfold marksEd at h
  rw [List.getElem?_map] at h
  rcases e : (List.range n)[j]? with _ | q
  · rw [e] at h; cases h
  · rw [e] at h
    have hq : q = j := by
      have := (List.getElem?_eq_some_iff.1 e).2
      simp at this; exact this.symm
    subst hq
    simpa using h.symm

set_option maxRecDepth 100000 in
set_option maxHeartbeats 1600000 in
theorem markEd_any (lo : Nat) (v : Value) (xs : List Edg) (k : Int) (w : World) (h : OwnEd lo w v xs) (hk0 : 0 ≤ k) (hk : k ≤ 1000000000) (hs : xs.length ≤ 1000000000) :
    Calls Try.prog 63 #[v, .int .i64 k] w fun e w' => e = .returned (.int .i64 (k + 5 * (xs.length : Int))) ∧ OwnEd lo w' v (marksEd k xs.length) ∧ w.grownBy w' v.ownBlock := by
  by_cases h0 : xs = []
  · subst h0
    obtain ⟨a, cap, rfl, _, _, _, _⟩ := h.sl
    have HO := Lib.hid h
    clear h
    go_enter Try.func63, Try.ntmps63
    go_wp2_with fail
    go_loop [1, 5] (fun t i => t = .int .i64 k ∧ i = .int .i64 0) (fun _ _ => 0)
    case atStart => exact ⟨rfl, rfl⟩
    case round =>
      obtain ⟨rfl, rfl⟩ := hrel
      go_wp2_with fail
      go_ret
      exact ⟨by simp, HO.out, World.grownBy.refl _ _⟩
  · have hne : 0 < xs.length := List.length_pos_iff.2 h0
    rcases h.2 with ⟨_, hn⟩ | ⟨g, cap, cur, rfl, hlo, _, hcap, _⟩
    · exact absurd hn (by omega)
    · obtain ⟨n, hnn⟩ : ∃ n, n = xs.length := ⟨_, rfl⟩
      have HO : Hid (w.ownsRow lo 62 5 (.slice (some ⟨g, 0, none⟩) xs.length cap) xs.length (cellsEd xs)) := h
      rw [← hnn] at HO hs hne ⊢
      have HN := Lib.hid hnn
      have hg0 : w.grownBy w (some g) := World.grownBy.refl _ _
      clear h h0 hcap hnn
      go_enter Try.func63, Try.ntmps63
      go_wp2_with fail
      go_loopw [1, 5] (fun t i wr => ∃ j : Nat, j ≤ n ∧ i = .int .i64 j ∧ t = .int .i64 (k + 5 * (j : Int)) ∧ Hid (wr.ownsRow lo 62 5 (.slice (some ⟨g, 0, none⟩) n cap) n (cellsEd (markedEd xs k j))) ∧ w.grownBy wr (some g)) (fun _ i _ => n - (intOf i).toNat)
      case atStart => exact ⟨0, Nat.zero_le _, rfl, by simp, by simpa [markedEd, marksEd] using HO, hg0⟩
      case round =>
        clear HO hg0
        obtain ⟨j, hj, rfl, rfl, HO, hg⟩ := hrel
        by_cases hlt : j < n
        · have hlen : (markedEd xs k j).length = n := by rw [markedEd_len (by rw [← HN.out]; omega), ← HN.out]
          obtain ⟨z0, z1, z2, z3, z4, ⟨y0, q0⟩, ⟨y1, q1⟩, ⟨y2, q2⟩, ⟨y3, q3⟩, ⟨y4, q4⟩⟩ := atsEd HO.out hlen hlt
          have R := storedEd HO.out hlen hlt ⟨k + 5 * (j : Int), k + 5 * (j : Int) + 1, k + 5 * (j : Int) + 1 + 1, k + 5 * (j : Int) + 1 + 1 + 1, k + 5 * (j : Int) + 1 + 1 + 1 + 1⟩
          rw [markedEd_step (by rw [← HN.out]; exact hlt)] at R
          have HR := Lib.hid R
          clear R HO hlen
          go_wp2_with fail
          go_roundw
          case rel => exact ⟨j + 1, by omega, by go_num, by go_num, HR.out.1, hg.trans HR.out.2⟩
          case measure => simp [intOf]; omega
        · obtain rfl : j = n := by omega
          go_wp2_with fail
          go_ret
          refine ⟨rfl, ?_, hg⟩
          have := HO.out
          rw [markedEd_all xs k HN.out] at this
          unfold OwnEd
          rw [marksEd_len]
          rw [← HN.out] at this
          exact this

theorem szEd_any (v : Value) (xs : List Edg) (left : Int) (w : World) (h : SlEd w v xs) (hl : 0 ≤ left ∧ left ≤ 1048576) :
    Calls Try.prog 53 #[v, .int .i64 left] w fun e w' => e = .returned (.int .i64 (if (xs.length : Int) ≤ left then left - xs.length else -1)) ∧ w = w' := by
  obtain ⟨a, cap, rfl, _, hm, _, _⟩ := h
  have hm' : xs.length ≤ 9223372036854775807 := by unfold maxLen at hm; omega
  have wi : wrap64 (left - xs.length) = left - xs.length := IntWalk.wrap64_in _ (by unfold maxLen at hm; omega)
  clear hm
  by_cases hc : (xs.length : Int) ≤ left
  · rw [if_pos hc]
    have d : decide (left - (xs.length : Int) < 0) = false := decide_eq_false (by omega)
    go_enter Try.func53, Try.ntmps53
    go_wp2
    go_ret
    exact ⟨rfl, rfl⟩
  · rw [if_neg hc]
    have d : decide (left - (xs.length : Int) < 0) = true := decide_eq_true (by omega)
    go_enter Try.func53, Try.ntmps53
    go_wp2
    go_ret
    exact ⟨rfl, rfl⟩

end Go.Proofs.Ytokhdnejaecejaa
