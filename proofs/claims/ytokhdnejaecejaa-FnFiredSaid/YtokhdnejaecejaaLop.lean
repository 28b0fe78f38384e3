/-
  Words for slices of loops, and what the law's own functions on them do. No statement of the seat is proved here.
-/
import Derived.Test.YtokhdnejaecejaaCode2
namespace Go.Proofs.Ytokhdnejaecejaa
open Go.RowKit

structure Lop where
  nd : Int
  tm : Int

def cellsLo (code : List Lop) : List Value := code.flatMap fun x => [.int .i64 x.nd, .int .i64 x.tm]
theorem cellsLo_nil : cellsLo [] = [] := rfl
theorem cellsLo_cons (x : Lop) (xs : List Lop) : cellsLo (x :: xs) = .int .i64 x.nd :: .int .i64 x.tm :: cellsLo xs := by simp [cellsLo]
theorem cellsLo_app (xs ys : List Lop) : cellsLo (xs ++ ys) = cellsLo xs ++ cellsLo ys := by simp [cellsLo]
theorem cellsLo_len : ∀ code : List Lop, (cellsLo code).length = code.length * 2
  | [] => rfl
  | x :: xs => by rw [cellsLo_cons]; simp [cellsLo_len xs]; omega
theorem cellsLo_at : ∀ (code : List Lop) (k : Nat) (x : Lop), code[k]? = some x →
    (cellsLo code)[k * 2]? = some (.int .i64 x.nd) ∧ (cellsLo code)[k * 2 + 1]? = some (.int .i64 x.tm)
  | [], k, x, h => by simp at h
  | y :: ys, 0, x, h => by
    simp at h; subst h; rw [cellsLo_cons]; simp
  | y :: ys, k + 1, x, h => by
    have := cellsLo_at ys k x (by simpa using h)
    rw [cellsLo_cons, show (k + 1) * 2 = k * 2 + 2 by omega]
    simpa using this
theorem cellsLo_set : ∀ (code : List Lop) (k : Nat) (x : Lop), k < code.length →
    ((cellsLo code).set (k * 2) (.int .i64 x.nd)).set (k * 2 + 1) (.int .i64 x.tm) = cellsLo (code.set k x)
  | [], k, x, h => by simp at h
  | y :: ys, 0, x, h => by simp [cellsLo_cons]
  | y :: ys, k + 1, x, h => by
    have := cellsLo_set ys k x (by simpa using h)
    rw [List.set_cons_succ, cellsLo_cons, cellsLo_cons, ← this, show (k + 1) * 2 = k * 2 + 2 by omega]
    simp
/-- 'v' is a slice that reads as 'code' in 'w'. -/
def SlLo (w : World) (v : Value) (code : List Lop) : Prop :=
  ∃ (a : Option Addr) (cap : Nat), v = .slice a code.length cap ∧ code.length ≤ cap ∧ cap ≤ maxLen ∧ (a = none → cap = 0) ∧
    (code = [] ∨ ∃ b off, a = some ⟨b, off, none⟩ ∧ b < w.heap.size ∧ ∀ i x, code[i]? = some x → w.cell? ⟨b, off + i * 2, none⟩ = some (.int .i64 x.nd) ∧ w.cell? ⟨b, off + i * 2 + 1, none⟩ = some (.int .i64 x.tm))
/-- 'v' is such a slice of the call's own. -/
def OwnLo (lo : Nat) (w : World) (v : Value) (code : List Lop) : Prop := w.ownsRow lo 58 2 v code.length (cellsLo code)
theorem SlLo.below {w w' : World} {v : Value} {xs : List Lop} (h : SlLo w v xs) (hb : Below w.heap.size w w') : SlLo w' v xs := by
  obtain ⟨a, cap, hv, h1, h2, h3, h4⟩ := h
  refine ⟨a, cap, hv, h1, h2, h3, ?_⟩
  rcases h4 with h4 | ⟨b, off, ha, hlt, hc⟩
  · exact .inl h4
  · refine .inr ⟨b, off, ha, Nat.lt_of_lt_of_le hlt hb.size, fun i x hi => ?_⟩
    obtain ⟨c0, c1⟩ := hc i x hi
    exact ⟨(hb.cell hlt).trans c0, (hb.cell hlt).trans c1⟩
theorem OwnLo.lt {lo : Nat} {w : World} {v : Value} {xs : List Lop} (h : OwnLo lo w v xs) : ∀ k, v.ownBlock = some k → lo ≤ k ∧ k < w.heap.size := World.ownsRow.lt h
theorem OwnLo.below {lo : Nat} {w w' : World} {v : Value} {xs : List Lop} (h : OwnLo lo w v xs) (hb : Below w.heap.size w w') : OwnLo lo w' v xs := row_below h hb
theorem OwnLo.kept {lo : Nat} {w w' : World} {v u : Value} {xs : List Lop} (h : OwnLo lo w v xs) (hg : w.grownBy w' u.ownBlock) (ha : Apart v u) : OwnLo lo w' v xs := World.ownsRow.kept h hg ha
theorem OwnLo.mono {lo lo' : Nat} {w : World} {v : Value} {xs : List Lop} (h : OwnLo lo w v xs) (hl : lo' ≤ lo) : OwnLo lo' w v xs := row_mono h hl
theorem OwnLo.sl {lo : Nat} {w : World} {v : Value} {xs : List Lop} (h : OwnLo lo w v xs) : SlLo w v xs := by
  rcases h.2 with ⟨rfl, hn⟩ | ⟨g, cap, cur, rfl, hlo, hg, hnc, hcm, hcs, htake⟩
  · exact ⟨none, 0, by rw [hn], by omega, by unfold maxLen; omega, fun _ => rfl, .inl (List.eq_nil_of_length_eq_zero hn)⟩
  · refine ⟨_, cap, rfl, hnc, hcm, (fun e => by cases e), .inr ⟨g, 0, rfl, (Array.getElem?_eq_some_iff.1 hg).1, fun i x hi => ?_⟩⟩
    have hlt : i < xs.length := (List.getElem?_eq_some_iff.1 hi).1
    have H : w.ownsRow lo 58 2 (.slice (some ⟨g, 0, none⟩) xs.length cap) xs.length (cellsLo xs) := h
    obtain ⟨c0, c1⟩ := cellsLo_at xs i x hi
    simp only [Nat.zero_add]
    exact ⟨(H.cellAt _ (by omega)).trans c0, (H.cellAt _ (by omega)).trans c1⟩
theorem OwnLo.shape {lo : Nat} {w : World} {v : Value} {xs : List Lop} (h : OwnLo lo w v xs) : ∃ a c, v = .slice a xs.length c := by
  rcases h.2 with ⟨rfl, hn⟩ | ⟨g, cap, cur, rfl, _⟩
  · exact ⟨none, 0, by rw [hn]⟩
  · exact ⟨_, _, rfl⟩

theorem infoLo : (Try.prog.info? 58).map (fun i => (i.zero, i.size, i.bytes)) = some (some (.agg #[.int .i64 0, .int .i64 0]), 2, 16) := by kernel_rfl
theorem infoLo_parts : ∃ i0, Try.prog.info? 58 = some i0 ∧ i0.zero = some (.agg #[.int .i64 0, .int .i64 0]) ∧ i0.size = 2 ∧ i0.bytes = 16 := by
  have h := infoLo
  cases e : Try.prog.info? 58 with
  | none => rw [e] at h; cases h
  | some i =>
    rw [e] at h
    simp only [Option.map_some, Option.some.injEq, Prod.mk.injEq] at h
    exact ⟨i, rfl, h.1, h.2.1, h.2.2⟩

def noLo : Lop := ⟨0, 0⟩
def fillLo (xs : List Lop) (k : Nat) : List Lop := xs.take k ++ List.replicate (xs.length - k) noLo
theorem fillLo_len {xs : List Lop} {k : Nat} (h : k ≤ xs.length) : (fillLo xs k).length = xs.length := by simp [fillLo]; omega
theorem fillLo_all (xs : List Lop) {k : Nat} (h : ¬ k < xs.length) : fillLo xs k = xs := by simp [fillLo, List.take_of_length_le (show xs.length ≤ k by omega), show xs.length - k = 0 by omega]
theorem fillLo_step {xs : List Lop} {k : Nat} {x : Lop} (h : xs[k]? = some x) : (fillLo xs k).set k x = fillLo xs (k + 1) := by
  have hk := (List.getElem?_eq_some_iff.1 h).1
  have hx := (List.getElem?_eq_some_iff.1 h).2
  unfold fillLo
  rw [List.set_append, if_neg (by simp; omega)]
  rw [List.take_succ_eq_append_getElem hk, hx, List.append_assoc]
  congr 1
  rw [show xs.length - k = (xs.length - (k + 1)) + 1 by omega, List.replicate_succ]
  simp [Nat.min_eq_left (Nat.le_of_lt hk)]
theorem cellsLo_repl : ∀ n : Nat, cellsLo (List.replicate n noLo) = List.replicate (n * 2) (.int .i64 0)
  | 0 => rfl
  | n + 1 => by
    rw [List.replicate_succ, cellsLo_cons, cellsLo_repl n, show (n + 1) * 2 = n * 2 + 1 + 1 by omega]
    simp [List.replicate_succ, noLo]

set_option maxHeartbeats 400000 in
theorem toLo_any (x : Lop) (w : World) :
    Calls Try.prog 67 #[.agg #[.int .i64 x.nd, .int .i64 x.tm]] w fun e w' => e = .returned (.agg #[.int .i64 x.nd, .int .i64 x.tm]) ∧ Below w.heap.size w w' := by
  obtain ⟨nd, tm⟩ := x
  simp only []
  have hb := Below.refl w.heap.size w
  go_enter Try.func67, Try.ntmps67
  go_wp2
  refine bodyPost_ret (v := .agg #[.int .i64 nd, .int .i64 tm]) (by simp [results, Try.results67, go_sem]) rfl ⟨rfl, (by first | exact ((hb.al _).al _).al _ | exact (hb.al _).al _ | exact hb.al _)⟩

theorem atsLo {w : World} {lo g n cap : Nat} {code : List Lop} {k : Nat} (h : w.ownsRow lo 58 2 (.slice (some ⟨g, 0, none⟩) n cap) n (cellsLo code)) (hl : code.length = n) (hk : k < n) :
    w.frozen? ⟨g, k * 2, none⟩ = false ∧ w.frozen? ⟨g, k * 2 + 1, none⟩ = false ∧
    (∃ y, w.cell? ⟨g, k * 2, none⟩ = some y) ∧ (∃ y, w.cell? ⟨g, k * 2 + 1, none⟩ = some y) := by
  have c : ∀ j, j < n * 2 → ∃ y, w.cell? ⟨g, j, none⟩ = some y := fun j hj => by
    rw [h.cellAt j hj, List.getElem?_eq_getElem (by rw [cellsLo_len]; omega)]; exact ⟨_, rfl⟩
  exact ⟨h.frozenAt _, h.frozenAt _, c _ (by omega), c _ (by omega)⟩
theorem storedLo {w : World} {lo g n cap : Nat} {code : List Lop} {k : Nat} (h : w.ownsRow lo 58 2 (.slice (some ⟨g, 0, none⟩) n cap) n (cellsLo code)) (hl : code.length = n) (hk : k < n) (x : Lop) :
    ((w.setCell ⟨g, k * 2, none⟩ (.int .i64 x.nd)).setCell ⟨g, k * 2 + 1, none⟩ (.int .i64 x.tm)).ownsRow lo 58 2 (.slice (some ⟨g, 0, none⟩) n cap) n (cellsLo (code.set k x)) ∧
    w.grownBy ((w.setCell ⟨g, k * 2, none⟩ (.int .i64 x.nd)).setCell ⟨g, k * 2 + 1, none⟩ (.int .i64 x.tm)) (some g) := by
  have a0 := h.stored (k * 2) (.int .i64 x.nd)
  have a1 := a0.1.stored (k * 2 + 1) (.int .i64 x.tm)
  rw [cellsLo_set code k x (by omega)] at a1
  exact ⟨a1.1, (a0.2.trans a1.2)⟩
theorem belowSetLo {B g : Nat} {w0 w : World} (h : Below B w0 w) (hg : B ≤ g) (j0 j1 : Nat) (u0 u1 : Value) :
    Below B w0 ((w.setCell ⟨g, j0, none⟩ (u0)).setCell ⟨g, j1, none⟩ (u1)) :=
  ((h.setCell (p := ⟨g, j0, none⟩) hg u0).setCell (p := ⟨g, j1, none⟩) hg u1)
theorem madesLo (n : Nat) : (madeCells #[.int .i64 0, .int .i64 0] n).toList = List.replicate n (.int .i64 0) := by
  apply List.ext_getElem
  · simp [madeCells]
  · intro i h1 h2
    have h4 : i % 2 < 2 := Nat.mod_lt _ (by omega)
    simp only [madeCells, Array.getElem_toList, Array.getElem_map, Array.getElem_range, List.getElem_replicate, List.size_toArray, List.length_cons, List.length_nil]
    rcases (show i % 2 = 0 ∨ i % 2 = 1 by omega) with e | e <;> simp [e]
theorem madeLo {w1 : World} {B : Nat} {v : Value} {xs : List Lop} (h : w1.ownsRow B 58 2 v xs.length (madeCells #[.int .i64 0, .int .i64 0] (xs.length * 2)).toList) : OwnLo B w1 v (fillLo xs 0) := by
  unfold OwnLo
  rw [fillLo_len (Nat.zero_le _)]
  rw [madesLo] at h
  rw [show fillLo xs 0 = List.replicate xs.length noLo by simp [fillLo], cellsLo_repl]
  exact h

set_option maxRecDepth 100000 in
set_option maxHeartbeats 1600000 in
theorem tosLo_any (v : Value) (xs : List Lop) (w : World) (h : SlLo w v xs) (hs : xs.length ≤ 1048576) :
    Calls Try.prog 35 #[v] w fun e w' => ∃ v', e = .returned v' ∧ OwnLo w.heap.size w' v' xs ∧ Below w.heap.size w w' := by
  obtain ⟨a, cap, rfl, hl, hm, hn, hc⟩ := h
  clear hm hn hl
  obtain ⟨i0, hi, hz0, hz1, hz2⟩ := infoLo_parts
  go_enter Try.func35, Try.ntmps35
  go_wp2_with (at_make; refine wpList_make_full _ rfl _ _ 44 rfl w.heap.size 58 i0 (.agg #[.int .i64 0, .int .i64 0]) 2 Try.underlying44 hi hz0 hz1 _ _ _ _ xs.length rfl rfl rfl rfl ?b2 ?b3 ?b4 ?_)
  case b2 => rw [hz2]; omega
  case b3 => unfold maxLen; omega
  case b4 => exact Nat.le_refl _
  intro w1 hown hgrow
  have hb := (Below.refl w.heap.size w).grown hgrow (Nat.le_refl _) (by simp)
  have hz : w.heap.size < w1.heap.size := (hown.lt w.heap.size rfl).2
  have hown := madeLo (xs := xs) hown
  clear hgrow hi hz0 hz1 hz2
  go_wp2_with fail
  go_loopw [4] (fun i wr => ∃ k : Nat, k ≤ xs.length ∧ i = .int .i64 k ∧ wr.ownsRow w.heap.size 58 2 (.slice (some ⟨w.heap.size, 0, none⟩) xs.length xs.length) xs.length (cellsLo (fillLo xs k)) ∧ Below w.heap.size w wr) (fun i _ => xs.length - (intOf i).toNat)
  case atStart => exact ⟨0, Nat.zero_le _, rfl, by have := hown; unfold OwnLo at this; rwa [fillLo_len (Nat.zero_le _)] at this, hb⟩
  case round =>
    clear hown hb hz
    obtain ⟨k, hk, rfl, hown, hb⟩ := hrel
    by_cases hlt : k < xs.length
    · rcases hc with rfl | ⟨b, off, rfl, hbl, hcell⟩
      · exact absurd hlt (by simp)
      · obtain ⟨x, hx⟩ : ∃ x, xs[k]? = some x := ⟨_, List.getElem?_eq_getElem hlt⟩
        obtain ⟨e0, e1⟩ := hcell k x hx
        have c0 := (hb.cell (p := ⟨b, off + k * 2, none⟩) hbl).trans e0
        have c1 := (hb.cell (p := ⟨b, off + k * 2 + 1, none⟩) hbl).trans e1
        have HX := Lib.hid hx
        have HO := Lib.hid hown
        clear hx hcell hown e0 e1
        go_wp2_with (go_at_call 67; refine (toLo_any x _).mono ?_; rintro e w2 ⟨rfl, hb1⟩; have HO1 := Lib.hid (row_below HO.out hb1); have F := atsLo HO1.out (by rw [fillLo_len hk]) hlt; obtain ⟨z0, z1, ⟨y0, q0⟩, ⟨y1, q1⟩⟩ := F)
        go_roundw
        case rel =>
          refine ⟨k + 1, by omega, by go_num, ?_, belowSetLo (hb.trans (hb1.mono hb.size)) (Nat.le_refl _) _ _ _ _⟩
          have := (storedLo HO1.out (by rw [fillLo_len hk]) hlt x).1
          rwa [fillLo_step HX.out] at this
        case measure => simp [intOf]; omega
    · go_wp2_with fail
      go_ret
      refine ⟨_, rfl, ?_, hb⟩
      rw [fillLo_all _ hlt] at hown
      exact hown

set_option maxRecDepth 100000 in
set_option maxHeartbeats 800000 in
theorem eqLo_ok (x : Lop) (w : World) :
    Calls Try.prog 66 #[.agg #[.int .i64 x.nd, .int .i64 x.tm], .agg #[.int .i64 x.nd, .int .i64 x.tm]] w fun e w' => e = .returned (.bool true) ∧ Below w.heap.size w w' := by
  obtain ⟨nd, tm⟩ := x
  simp only []
  have hb := Below.refl w.heap.size w
  go_enter Try.func66, Try.ntmps66
  go_wp2
  go_ret
  exact ⟨rfl, (hb.al _).al _⟩

set_option maxRecDepth 100000 in
set_option maxHeartbeats 800000 in
theorem eqsLo_ok (v u : Value) (xs : List Lop) (w : World) (h : SlLo w v xs) (k : SlLo w u xs) :
    Calls Try.prog 30 #[v, u] w fun e w' => e = .returned (.bool true) ∧ Below w.heap.size w w' := by
  obtain ⟨a, cap, rfl, hl, hm, hn, hc⟩ := h
  obtain ⟨a2, cap2, rfl, hl2, hm2, hn2, hc2⟩ := k
  have hm' : xs.length ≤ 9223372036854775807 := by unfold maxLen at hm; omega
  clear hm hn hm2 hn2 hl hl2
  have hb := Below.refl w.heap.size w
  go_enter Try.func30, Try.ntmps30
  go_wp2_with fail
  go_loopw [5] (fun i wr => ∃ k : Nat, k ≤ xs.length ∧ i = .int .i64 k ∧ Below w.heap.size w wr) (fun i _ => xs.length - (intOf i).toNat)
  case atStart => exact ⟨0, Nat.zero_le _, rfl, hb⟩
  case round =>
    clear hb
    obtain ⟨k, hk, rfl, hb⟩ := hrel
    by_cases hlt : k < xs.length
    · rcases hc with rfl | ⟨b, off, rfl, hbl, hcell⟩
      · exact absurd hlt (by simp)
      · rcases hc2 with rfl | ⟨b2, off2, rfl, hbl2, hcell2⟩
        · exact absurd hlt (by simp)
        · obtain ⟨x, hx⟩ : ∃ x, xs[k]? = some x := ⟨_, List.getElem?_eq_getElem hlt⟩
          obtain ⟨e0, e1⟩ := hcell k x hx
          obtain ⟨f0, f1⟩ := hcell2 k x hx
          have c0 := (hb.cell (p := ⟨b, off + k * 2, none⟩) hbl).trans e0
          have c1 := (hb.cell (p := ⟨b, off + k * 2 + 1, none⟩) hbl).trans e1
          have d0 := (hb.cell (p := ⟨b2, off2 + k * 2, none⟩) hbl2).trans f0
          have d1 := (hb.cell (p := ⟨b2, off2 + k * 2 + 1, none⟩) hbl2).trans f1
          have HB := Lib.hid hb
          clear hx hcell hcell2 e0 e1 f0 f1 hb
          go_wp2_with fail
          go_region_with (go_at_call 66; refine (eqLo_ok x _).mono ?_; rintro e w2 ⟨rfl, hb1⟩)
          all_goals
            go_wp2_with fail
            go_roundw
            case rel => exact ⟨k + 1, by omega, by go_num, HB.out.drew.trans (hb1.mono HB.out.size)⟩
            case measure => simp [intOf]; omega
    · go_wp2_with fail
      go_ret
      exact ⟨rfl, hb⟩

def marksLo (k : Int) (n : Nat) : List Lop := (List.range n).map fun (i : Nat) => ⟨k + 2 * (i : Int), k + 2 * (i : Int) + 1⟩
def markedLo (xs : List Lop) (k : Int) (j : Nat) : List Lop := marksLo k j ++ xs.drop j
theorem marksLo_len (k : Int) (n : Nat) : (marksLo k n).length = n := by simp [marksLo]
theorem markedLo_len {xs : List Lop} {k : Int} {j : Nat} (h : j ≤ xs.length) : (markedLo xs k j).length = xs.length := by simp [markedLo, marksLo_len]; omega
theorem markedLo_all (xs : List Lop) (k : Int) {j : Nat} (h : j = xs.length) : markedLo xs k j = marksLo k xs.length := by simp [markedLo, h]
theorem markedLo_step {xs : List Lop} {k : Int} {j : Nat} (h : j < xs.length) : (markedLo xs k j).set j ⟨k + 2 * (j : Int), k + 2 * (j : Int) + 1⟩ = markedLo xs k (j + 1) := by
  unfold markedLo marksLo
  rw [List.range_succ, List.set_append, if_neg (by simp)]
  simp
  rw [List.drop_eq_getElem_cons (by simpa using h)]
  rfl
theorem marksLo_at {k : Int} {n j : Nat} {x : Lop} (h : (marksLo k n)[j]? = some x) : x = ⟨k + 2 * (j : Int), k + 2 * (j : Int) + 1⟩ := by
  unfold marksLo at h
  rw [List.getElem?_map] at h
  rcases e : (List.range n)[j]? with _ | q
  · rw [e] at h; cases h
  · rw [e] at h
    have hq : q = j := by
      have := (List.getElem?_eq_some_iff.1 e).2
      simp at this; exact this.symm
    subst hq
    simpa using h.symm

set_option maxRecDepth 100000 in
set_option maxHeartbeats 1600000 in
theorem markLo_any (lo : Nat) (v : Value) (xs : List Lop) (k : Int) (w : World) (h : OwnLo lo w v xs) (hk0 : 0 ≤ k) (hk : k ≤ 1000000000) (hs : xs.length ≤ 1000000000) :
    Calls Try.prog 31 #[v, .int .i64 k] w fun e w' => e = .returned (.int .i64 (k + 2 * (xs.length : Int))) ∧ OwnLo lo w' v (marksLo k xs.length) ∧ w.grownBy w' v.ownBlock := by
  by_cases h0 : xs = []
  · subst h0
    obtain ⟨a, cap, rfl, _, _, _, _⟩ := h.sl
    have HO := Lib.hid h
    clear h
    go_enter Try.func31, Try.ntmps31
    go_wp2_with fail
    go_loop [1, 5] (fun t i => t = .int .i64 k ∧ i = .int .i64 0) (fun _ _ => 0)
    case atStart => exact ⟨rfl, rfl⟩
    case round =>
      obtain ⟨rfl, rfl⟩ := hrel
      go_wp2_with fail
      go_ret
      exact ⟨by simp, HO.out, World.grownBy.refl _ _⟩
  · have hne : 0 < xs.length := List.length_pos_iff.2 h0
    rcases h.2 with ⟨_, hn⟩ | ⟨g, cap, cur, rfl, hlo, _, hcap, _⟩
    · exact absurd hn (by omega)
    · obtain ⟨n, hnn⟩ : ∃ n, n = xs.length := ⟨_, rfl⟩
      have HO : Hid (w.ownsRow lo 58 2 (.slice (some ⟨g, 0, none⟩) xs.length cap) xs.length (cellsLo xs)) := h
      rw [← hnn] at HO hs hne ⊢
      have HN := Lib.hid hnn
      have hg0 : w.grownBy w (some g) := World.grownBy.refl _ _
      clear h h0 hcap hnn
      go_enter Try.func31, Try.ntmps31
      go_wp2_with fail
      go_loopw [1, 5] (fun t i wr => ∃ j : Nat, j ≤ n ∧ i = .int .i64 j ∧ t = .int .i64 (k + 2 * (j : Int)) ∧ Hid (wr.ownsRow lo 58 2 (.slice (some ⟨g, 0, none⟩) n cap) n (cellsLo (markedLo xs k j))) ∧ w.grownBy wr (some g)) (fun _ i _ => n - (intOf i).toNat)
      case atStart => exact ⟨0, Nat.zero_le _, rfl, by simp, by simpa [markedLo, marksLo] using HO, hg0⟩
      case round =>
        clear HO hg0
        obtain ⟨j, hj, rfl, rfl, HO, hg⟩ := hrel
        by_cases hlt : j < n
        · have hlen : (markedLo xs k j).length = n := by rw [markedLo_len (by rw [← HN.out]; omega), ← HN.out]
          obtain ⟨z0, z1, ⟨y0, q0⟩, ⟨y1, q1⟩⟩ := atsLo HO.out hlen hlt
          have R := storedLo HO.out hlen hlt ⟨k + 2 * (j : Int), k + 2 * (j : Int) + 1⟩
          rw [markedLo_step (by rw [← HN.out]; exact hlt)] at R
          have HR := Lib.hid R
          clear R HO hlen
          go_wp2_with fail
          go_roundw
          case rel => exact ⟨j + 1, by omega, by go_num, by go_num, HR.out.1, hg.trans HR.out.2⟩
          case measure => simp [intOf]; omega
        · obtain rfl : j = n := by omega
          go_wp2_with fail
          go_ret
          refine ⟨rfl, ?_, hg⟩
          have := HO.out
          rw [markedLo_all xs k HN.out] at this
          unfold OwnLo
          rw [marksLo_len]
          rw [← HN.out] at this
          exact this

set_option maxRecDepth 100000 in
set_option maxHeartbeats 1600000 in
theorem heldLo_any (v : Value) (k : Int) (n : Nat) (w : World) (h : SlLo w v (marksLo k n)) (hk0 : 0 ≤ k) (hk : k ≤ 1000000000) (hs : n ≤ 1000000000) :
    Calls Try.prog 32 #[v, .int .i64 k] w fun e w' => e = .returned (.int .i64 (k + 2 * (n : Int))) ∧ w = w' := by
  obtain ⟨a, cap, rfl, hl, hm, hn, hc⟩ := h
  clear hm hn hl
  have hc : n = 0 ∨ ∃ b off, a = some ⟨b, off, none⟩ ∧ ∀ i, i < n → w.cell? ⟨b, off + i * 2, none⟩ = some (.int .i64 (k + 2 * (i : Int))) ∧ w.cell? ⟨b, off + i * 2 + 1, none⟩ = some (.int .i64 (k + 2 * (i : Int) + 1)) := by
    rcases hc with hc | ⟨b, off, ha, _, hc⟩
    · left; simpa [marksLo] using hc
    · right
      refine ⟨b, off, ha, fun i hi => ?_⟩
      obtain ⟨x, hx⟩ : ∃ x, (marksLo k n)[i]? = some x := ⟨_, List.getElem?_eq_getElem (by rw [marksLo_len]; exact hi)⟩
      have := hc i x hx
      rw [marksLo_at hx] at this
      exact this
  rw [marksLo_len]
  go_enter Try.func32, Try.ntmps32
  go_wp2_with fail
  go_loop [1, 5] (fun t i => ∃ j : Nat, j ≤ n ∧ i = .int .i64 j ∧ t = .int .i64 (k + 2 * (j : Int))) (fun _ i => n - (intOf i).toNat)
  case atStart => exact ⟨0, Nat.zero_le _, rfl, by simp⟩
  case round =>
    obtain ⟨j, hj, rfl, rfl⟩ := hrel
    by_cases hlt : j < n
    · rcases hc with rfl | ⟨b, off, rfl, hcell⟩
      · exact absurd hlt (by omega)
      · obtain ⟨c0, c1⟩ := hcell j hlt
        clear hcell
        go_wp2_with fail
        go_round
        case rel => exact ⟨j + 1, by omega, by go_num, by go_num⟩
        case measure => simp [intOf]; omega
    · obtain rfl : j = n := by omega
      go_wp2_with fail
      go_ret
      exact ⟨rfl, rfl⟩

theorem szLo_any (v : Value) (xs : List Lop) (left : Int) (w : World) (h : SlLo w v xs) (hl : 0 ≤ left ∧ left ≤ 1048576) :
    Calls Try.prog 33 #[v, .int .i64 left] w fun e w' => e = .returned (.int .i64 (if (xs.length : Int) ≤ left then left - xs.length else -1)) ∧ w = w' := by
  obtain ⟨a, cap, rfl, _, hm, _, _⟩ := h
  have hm' : xs.length ≤ 9223372036854775807 := by unfold maxLen at hm; omega
  have wi : wrap64 (left - xs.length) = left - xs.length := IntWalk.wrap64_in _ (by unfold maxLen at hm; omega)
  clear hm
  by_cases hc : (xs.length : Int) ≤ left
  · rw [if_pos hc]
    have d : decide (left - (xs.length : Int) < 0) = false := decide_eq_false (by omega)
    go_enter Try.func33, Try.ntmps33
    go_wp2
    go_ret
    exact ⟨rfl, rfl⟩
  · rw [if_neg hc]
    have d : decide (left - (xs.length : Int) < 0) = true := decide_eq_true (by omega)
    go_enter Try.func33, Try.ntmps33
    go_wp2
    go_ret
    exact ⟨rfl, rfl⟩

end Go.Proofs.Ytokhdnejaecejaa
