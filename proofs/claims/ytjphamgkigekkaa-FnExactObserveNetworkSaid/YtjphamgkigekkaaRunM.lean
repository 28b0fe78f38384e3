/-
  What the model's l2Run leaves. No statement of the seat is proved here.
-/
import Derived.Test.YtjphamgkigekkaaRunI
import Derived.Test.YtjphamgkigekkaaStepIS
import Derived.Maps.AppendAt
namespace Go.Proofs.Ytjphamgkigekkaa
open Go.RowKit

theorem Fam.snoc {lo : Nat} {w w1 : World} {us : List Value} {xss : List (List Int)} {x : Value} {xs : List Int} (h : Fam lo w us xss) (hk : ∀ (u : Value) (ys : List Int), Own lo w u ys → Own lo w1 u ys) (ho : Own lo w1 x xs) (ha : ∀ u ys, Own lo w u ys → u ∈ us → Apart u x) : Fam lo w1 (us ++ [x]) (xss ++ [xs]) := by
  have hl := h.len
  have one : ∀ (α : Type) (l : List α) (y u : α) (i : Nat), (l ++ [y])[i]? = some u → (i < l.length ∧ l[i]? = some u) ∨ (i = l.length ∧ u = y) := by
    intro α l y u i e
    by_cases hi : i < l.length
    · rw [List.getElem?_append_left hi] at e; exact .inl ⟨hi, e⟩
    · rw [List.getElem?_append_right (by omega)] at e
      rcases q : i - l.length with _ | q'
      · rw [q] at e; simp at e; exact .inr ⟨by omega, e.symm⟩
      · rw [q] at e; simp at e
  have get : ∀ i u, us[i]? = some u → Own lo w u (xss.getD i []) ∧ u ∈ us := fun i u e => ⟨h.get e, List.mem_of_getElem? e⟩
  refine ⟨by simp [hl], ?_, ?_⟩
  · intro i u ys h1 h2
    rcases one _ _ _ _ _ h1 with ⟨a, b⟩ | ⟨a, rfl⟩
    · rcases one _ _ _ _ _ h2 with ⟨a', b'⟩ | ⟨a', rfl⟩
      · exact hk u ys (h.own i u ys b b')
      · omega
    · rcases one _ _ _ _ _ h2 with ⟨a', b'⟩ | ⟨a', rfl⟩
      · omega
      · exact ho
  · intro i j u u' h1 h2 hij
    rcases one _ _ _ _ _ h1 with ⟨a, b⟩ | ⟨a, rfl⟩
    · rcases one _ _ _ _ _ h2 with ⟨a', b'⟩ | ⟨a', rfl⟩
      · exact h.apart i j u u' b b' hij
      · have q := get i u b; exact ha u _ q.1 q.2
    · rcases one _ _ _ _ _ h2 with ⟨a', b'⟩ | ⟨a', rfl⟩
      · have q := get j u' b'; exact (ha u' _ q.1 q.2).symm
      · omega
theorem own0 {lo h : Nat} {W : World} (hh : W.heap[h]? = some (.cells #[] 3)) (hl : lo ≤ h) : Own lo W (.slice (some ⟨h, 0, none⟩) 0 0) [] :=
  ⟨rfl, .inr ⟨h, 0, #[], rfl, hl, hh, Nat.le_refl _, by unfold maxLen; omega, rfl, rfl⟩⟩
theorem rowShape {lo T n : Nat} {w : World} {v : Value} {xs : List Value} (h : w.ownsRow lo T 1 v n xs) (hn : 0 < n) : ∃ g cap, v = .slice (some ⟨g, 0, none⟩) n cap := by
  rcases h.2 with ⟨_, e⟩ | ⟨g, cap, cur, rfl, _⟩
  · omega
  · exact ⟨g, cap, rfl⟩
theorem rowBlk {lo T n B cap : Nat} {w : World} {xs : List Value} (h : w.ownsRow lo T 1 (.slice (some ⟨B, 0, none⟩) n cap) n xs) : ∃ cur, w.heap[B]? = some (.cells cur T) ∧ cur.toList.take n = xs ∧ n ≤ cap ∧ cap ≤ maxLen ∧ lo ≤ B := by
  rcases h.2 with ⟨e, _⟩ | ⟨g, cap', cur, e, h1, h2, h3, h4, h5, h6⟩
  · cases e
  · simp only [Value.slice.injEq, Option.some.injEq, Addr.mk.injEq, and_true, true_and] at e
    obtain ⟨rfl, rfl⟩ := e
    rw [Nat.mul_one] at h6
    exact ⟨cur, h2, h6, h3, h4, h1⟩
theorem regs0 {lo h : Nat} {W : World} (hh : W.heap[h]? = some (.cells #[.int .i64 0, .int .i64 0, .int .i64 0, .int .i64 0] 3)) (hl : lo ≤ h) : Own lo W (.slice (some ⟨h, 0, none⟩) 4 4) [0, 0, 0, 0] :=
  ⟨rfl, .inr ⟨h, 4, _, rfl, hl, hh, Nat.le_refl _, by unfold maxLen; omega, rfl, rfl⟩⟩
/-- What the loop keeps. -/
structure RB (w W : World) (GA BB : Nat) (pv : Array Value) (pc : Int) (r rc : Nat) (us : List Value) (uv : Value) (outs : List (List Int)) (used regs : List Int) : Prop where
  hA : W.heap[GA]? = some (.cells #[.int .i64 pc, .slice (some ⟨r, 0, none⟩) 4 rc] 98)
  hO : ∃ cur : Array Value, W.heap[BB]? = some (.cells cur 46) ∧ cur.toList.take us.length = us
  hF : Fam w.heap.size W (us ++ [uv, .slice (some ⟨r, 0, none⟩) 4 rc]) (outs ++ [used, regs])
  hP : W.heap[w.heap.size]? = some (.cells pv 86)
  hB : Below w.heap.size w W
  lA : w.heap.size < GA
  lB : w.heap.size ≤ BB
theorem RB.below {w W W' : World} {GA BB : Nat} {pv : Array Value} {pc : Int} {r rc : Nat} {us : List Value} {uv : Value} {outs : List (List Int)} {used regs : List Int} (h : RB w W GA BB pv pc r rc us uv outs used regs) (hb : Below W.heap.size W W') : RB w W' GA BB pv pc r rc us uv outs used regs :=
  ⟨blk_in h.hA hb, by obtain ⟨cur, a, b⟩ := h.hO; exact ⟨cur, blk_in a hb, b⟩, h.hF.below hb, blk_in h.hP hb, h.hB.trans (hb.mono h.hB.size), h.lA, h.lB⟩
theorem RB.ltO {w W : World} {GA BB : Nat} {pv : Array Value} {pc : Int} {r rc : Nat} {us : List Value} {uv : Value} {outs : List (List Int)} {used regs : List Int} (h : RB w W GA BB pv pc r rc us uv outs used regs) : BB < W.heap.size := by
  obtain ⟨cur, a, b⟩ := h.hO; exact lt_of a
theorem RB.neAB {w W : World} {GA BB : Nat} {pv : Array Value} {pc : Int} {r rc : Nat} {us : List Value} {uv : Value} {outs : List (List Int)} {used regs : List Int} (h : RB w W GA BB pv pc r rc us uv outs used regs) : GA ≠ BB := by
  obtain ⟨cur, a, b⟩ := h.hO; exact blk_ne h.hA a (by decide)
theorem RB.cellO {w W : World} {GA BB q : Nat} {pv : Array Value} {pc : Int} {r rc : Nat} {us : List Value} {uv u : Value} {outs : List (List Int)} {used regs : List Int} (h : RB w W GA BB pv pc r rc us uv outs used regs) (hu : us[q]? = some u) : W.cell? ⟨BB, q, none⟩ = some u ∧ W.frozen? ⟨BB, q, none⟩ = false := by
  obtain ⟨cur, a, b⟩ := h.hO
  refine ⟨?_, fr_of a q⟩
  rw [cell_of a q, ← Array.getElem?_toList]
  have hq := (List.getElem?_eq_some_iff.1 hu).1
  have e : (cur.toList.take us.length)[q]? = some u := by rw [b]; exact hu
  rw [List.getElem?_take] at e
  rw [if_pos hq] at e
  exact e
theorem RB.next {w W W' : World} {GA BB : Nat} {pv : Array Value} {pc : Int} {r rc : Nat} {us : List Value} {uv : Value} {outs : List (List Int)} {used regs : List Int} (h : RB w W GA BB pv pc r rc us uv outs used regs) (hb : Below W.heap.size W W') {r' rc' : Nat} {regs' : List Int} (ho : Own W.heap.size W' (.slice (some ⟨r', 0, none⟩) 4 rc') regs') (pc' : Int) :
    RB w ((W'.setCell ⟨GA, 0, none⟩ (.int .i64 pc')).setCell ⟨GA, 1, none⟩ (.slice (some ⟨r', 0, none⟩) 4 rc')) GA BB pv pc' r' rc' us uv outs used regs' := by
  have h' := h.below hb
  have hl := h'.hF.len
  simp only [List.length_append, List.length_cons, List.length_nil] at hl
  have hs := h.hB.size
  obtain ⟨cur, hO, hc⟩ := h'.hO
  have nAB : BB ≠ GA := blk_ne hO h'.hA (by decide)
  have F1 := h.hF.upd (w' := W') (j := us.length + 1) (u := .slice (some ⟨r, 0, none⟩) 4 rc) (u' := .slice (some ⟨r', 0, none⟩) 4 rc') (xs' := regs') (by rw [List.getElem?_append_right (by omega)]; simp)
    (fun v xs hv _ => hv.below hb) (ho.mono hs) (.inr fun k e => (ho.lt k e).1)
  rw [show (us ++ [uv, Value.slice (some ⟨r, 0, none⟩) 4 rc]).set (us.length + 1) (Value.slice (some ⟨r', 0, none⟩) 4 rc') = us ++ [uv, Value.slice (some ⟨r', 0, none⟩) 4 rc'] by rw [List.set_append, if_neg (by omega)]; simp,
    show (outs ++ [used, regs]).set (us.length + 1) regs' = outs ++ [used, regs'] by rw [show us.length = outs.length by omega, List.set_append, if_neg (by omega)]; simp] at F1
  have A1 := heap_setCell_same W' GA 0 _ _ (.int .i64 pc') h'.hA
  have A2 := heap_setCell_same _ GA 1 _ _ (.slice (some ⟨r', 0, none⟩) 4 rc') A1
  refine ⟨?_, ⟨cur, setR_blk (setR_blk hO nAB _) nAB _, hc⟩, ?_, setR_blk (setR_blk h'.hP (by have := h.lA; omega) _) (by have := h.lA; omega) _, (h'.hB.setCell (by show _ ≤ GA; have := h.lA; omega) _).setCell (by show _ ≤ GA; have := h.lA; omega) _, h.lA, h.lB⟩
  · rw [A2]; simp
  · exact (F1.setB h'.hA (by decide) _).setB A1 (by decide) _
theorem RB.read {w W : World} {GA BB U q ni : Nat} {pv : Array Value} {pc : Int} {r rc : Nat} {us : List Value} {outs : List (List Int)} {used regs : List Int} {n : Int} (h : RB w W GA BB pv pc r rc us (.slice (some ⟨U, 0, none⟩) ni ni) outs used regs) (hn : used.length = ni) (lU : w.heap.size ≤ U) :
    RB w (W.setCell ⟨U, q, none⟩ (.int .i64 n)) GA BB pv pc r rc us (.slice (some ⟨U, 0, none⟩) ni ni) outs (used.set q n) regs := by
  have hou := fam_usedO h.hF
  have hl := h.hF.len
  simp only [List.length_append, List.length_cons, List.length_nil] at hl
  obtain ⟨cur, hO, hc⟩ := h.hO
  have ne : ∀ (g T : Nat) (cs : Array Value), W.heap[g]? = some (.cells cs T) → T ≠ 3 → g ≠ U := fun g T cs h hT e => own_blk_ne hou h hT (by rw [e]; rfl)
  refine ⟨setR_blk h.hA (ne _ _ _ h.hA (by decide)) _, ⟨cur, setR_blk hO (ne _ _ _ hO (by decide)) _, hc⟩, ?_, setR_blk h.hP (ne _ _ _ h.hP (by decide)) _, h.hB.setCell lU _, h.lA, h.lB⟩
  have ho : Own w.heap.size (W.setCell ⟨U, q, none⟩ (.int .i64 n)) (.slice (some ⟨U, 0, none⟩) ni ni) (used.set q n) := by
    unfold Own at hou ⊢
    rw [hn] at hou
    have := (hou.stored q (.int .i64 n)).1
    rw [List.length_set, hn]
    have e : (vals used).set q (.int .i64 n) = vals (used.set q n) := by simp [vals, List.map_set]
    rwa [e] at this
  have F9 := h.hF.upd (w' := W.setCell ⟨U, q, none⟩ (.int .i64 n)) (j := us.length) (u := .slice (some ⟨U, 0, none⟩) ni ni) (u' := .slice (some ⟨U, 0, none⟩) ni ni) (xs' := used.set q n) (by rw [List.getElem?_append_right (Nat.le_refl _)]; simp)
    (fun v xs hv ha => by
      refine ⟨hv.1, ?_⟩
      rcases hv.2 with hn' | ⟨k, cap, cur, rfl, hbb, hk, rest⟩
      · exact .inl hn'
      · refine .inr ⟨k, cap, cur, rfl, hbb, ?_, rest⟩
        rw [Below.heap_setCell _ _ _ _ (by
          show k ≠ U
          rcases ha with ha | ha
          · simp [Value.ownBlock] at ha
          · simpa [Value.ownBlock] using ha)]
        exact hk) ho (.inl rfl)
  have e1 : (us ++ [Value.slice (some ⟨U, 0, none⟩) ni ni, Value.slice (some ⟨r, 0, none⟩) 4 rc]).set us.length (Value.slice (some ⟨U, 0, none⟩) ni ni) = us ++ [Value.slice (some ⟨U, 0, none⟩) ni ni, Value.slice (some ⟨r, 0, none⟩) 4 rc] := by
    rw [List.set_append, if_neg (by omega)]; simp
  have e2 : (outs ++ [used, regs]).set us.length (used.set q n) = outs ++ [used.set q n, regs] := by
    rw [show us.length = outs.length by omega, List.set_append, if_neg (by omega)]; simp
  rw [e1, e2] at F9
  exact F9
theorem RB.write {w W w9 : World} {GA BB q : Nat} {pv : Array Value} {pc : Int} {r rc : Nat} {us : List Value} {uv u v' : Value} {outs : List (List Int)} {used regs : List Int} {n : Int} {L : Obj} (h : RB w W GA BB pv pc r rc us uv outs used regs) (hu : us[q]? = some u)
    (hown : Own w.heap.size w9 v' (outs.getD q [] ++ [n])) (hg : (W.alloc L).grownBy w9 u.ownBlock) (hat : v'.ownBlock = u.ownBlock ∨ v'.ownBlock = some (W.heap.size + 1)) :
    RB w (w9.setCell ⟨BB, q, none⟩ v') GA BB pv pc r rc (us.set q v') uv (outs.set q (outs.getD q [] ++ [n])) used regs := by
  have hou := fam_out h.hF hu
  have hl := h.hF.len
  simp only [List.length_append, List.length_cons, List.length_nil] at hl
  have hq := (List.getElem?_eq_some_iff.1 hu).1
  obtain ⟨cur, hO, hc⟩ := h.hO
  have hB9 := app_keep hO (by decide) hou hg
  refine ⟨setR_blk (app_keep h.hA (by decide) hou hg) (blk_ne h.hA hO (by decide)) _, ⟨cur.set! q v', ?_, ?_⟩, ?_, setR_blk (app_keep h.hP (by decide) hou hg) (blk_ne h.hP hO (by decide)) _, ?_, h.lA, h.lB⟩
  · rw [heap_setCell_same w9 BB q cur _ v' hB9]; simp
  · rw [List.length_set]
    have e : (cur.set! q v').toList = cur.toList.set q v' := by simp
    rw [e, List.take_set, hc]
  · have F9 := h.hF.upd (w' := w9) (j := q) (u := u) (u' := v') (xs' := outs.getD q [] ++ [n]) (by rw [List.getElem?_append_left hq]; exact hu)
      (fun v xs hv ha => World.ownsRow.kept (World.ownsRow.alloc hv L) hg ha) hown (by
        rcases hat with h | h
        · exact .inl h
        · exact .inr (fun k e => by rw [h] at e; simp at e; omega))
    rw [List.set_append, if_pos hq, List.set_append, if_pos (by omega)] at F9
    exact F9.setB hB9 (by decide) v'
  · exact ((h.hB.alloc h.hB.size L).grown hg (by have := h.hB.size; simp; omega) (fun k e => (hou.lt k e).1)).setCell h.lB _
theorem fam_drop {w : World} {lo : Nat} {us : List Value} {uv rv : Value} {outs : List (List Int)} {used regs : List Int} (hF : Fam lo w (us ++ [uv, rv]) (outs ++ [used, regs])) : Fam lo w (us ++ [uv]) (outs ++ [used]) := by
  have hl := hF.len
  simp only [List.length_append, List.length_cons, List.length_nil] at hl
  have pre : ∀ (α : Type) (l : List α) (a b : α) (i : Nat) (u : α), (l ++ [a])[i]? = some u → (l ++ [a, b])[i]? = some u := by
    intro α l a b i u h
    have hi := (List.getElem?_eq_some_iff.1 h).1
    simp only [List.length_append, List.length_cons, List.length_nil] at hi
    rw [show l ++ [a, b] = (l ++ [a]) ++ [b] by simp, List.getElem?_append_left (by simpa using hi)]
    exact h
  exact ⟨by simp; omega, fun i u xs h1 h2 => hF.own i u xs (pre _ _ _ _ _ _ h1) (pre _ _ _ _ _ _ h2), fun i j u u' h1 h2 hij => hF.apart i j u u' (pre _ _ _ _ _ _ h1) (pre _ _ _ _ _ _ h2) hij⟩
/-- What lies in the model's two results. -/
def OutM (lo : Nat) (w : World) (v u : Value) (outs : List (List Int)) (used : List Int) : Prop :=
  ∃ (us : List Value) (B cap : Nat) (cur : Array Value), v = .slice (some ⟨B, 0, none⟩) us.length cap ∧ lo ≤ B ∧ us.length ≤ cap ∧ cap ≤ maxLen ∧ w.heap[B]? = some (.cells cur 46) ∧ cur.toList.take us.length = us ∧ Fam lo w (us ++ [u]) (outs ++ [used])
theorem OutM.below {lo : Nat} {w w' : World} {v u : Value} {outs : List (List Int)} {used : List Int} (h : OutM lo w v u outs used) (hb : Below w.heap.size w w') : OutM lo w' v u outs used := by
  obtain ⟨us, B, cap, cur, h1, h2, h3, h4, h5, h6, h7⟩ := h
  exact ⟨us, B, cap, cur, h1, h2, h3, h4, blk_in h5 hb, h6, h7.below hb⟩
theorem OutM.mono {lo lo' : Nat} {w : World} {v u : Value} {outs : List (List Int)} {used : List Int} (h : OutM lo w v u outs used) (hl : lo' ≤ lo) : OutM lo' w v u outs used := by
  obtain ⟨us, B, cap, cur, h1, h2, h3, h4, h5, h6, h7⟩ := h
  exact ⟨us, B, cap, cur, h1, by omega, h3, h4, h5, h6, h7.mono hl⟩
theorem RB.out {w W W' : World} {GA BB no cap : Nat} {pv : Array Value} {pc : Int} {r rc : Nat} {us : List Value} {uv : Value} {outs : List (List Int)} {used regs : List Int} (h : RB w W GA BB pv pc r rc us uv outs used regs) (hb : Below W.heap.size W W') (hn : us.length = no) (h1 : no ≤ cap) (h2 : cap ≤ maxLen) :
    OutM w.heap.size W' (.slice (some ⟨BB, 0, none⟩) no cap) uv outs used := by
  subst hn
  have h' := h.below hb
  obtain ⟨cur, hO, hc⟩ := h'.hO
  exact ⟨us, BB, cap, cur, rfl, h.lB, h1, h2, hO, hc, fam_drop h'.hF⟩

theorem src2 {w : World} {n : Nat} (h : w.heap.size = n) (A : Obj) (x : Value) : ∀ j u, [x][j]? = some u → ((w.alloc A).alloc (.cells #[x] 3)).cell? ((⟨n + 1, 0, none⟩ : Addr).add j) = some u := by
  subst h
  exact World.news_of_block (hp2 w A (.cells #[x] 3))
theorem fam_empty {lo k B cap : Nat} {w w2 : World} {us : List Value} {xss : List (List Int)} {L : Obj} (hW : w.ownsRow lo 46 1 (.slice (some ⟨B, 0, none⟩) k cap) k us) (hF : Fam lo w us xss) (hg : ((w.alloc (.cells #[] 3)).alloc L).grownBy w2 (some B)) (hs : lo ≤ w.heap.size) :
    Fam lo w2 (us ++ [.slice (some ⟨w.heap.size, 0, none⟩) 0 0]) (xss ++ [[]]) := by
  obtain ⟨cur, hB, _, _, _, _⟩ := rowBlk hW
  have lB := lt_of hB
  refine hF.snoc (fun u ys h => World.ownsRow.kept (World.ownsRow.alloc (World.ownsRow.alloc h _) _) hg (.inr ?_)) ?_ (fun u ys h _ => .inr ?_)
  · exact fun e => own_blk_ne h hB (by decide) e.symm
  · have o := own0 (lo := lo) (hp21 w (.cells #[] 3) L) hs
    exact World.ownsRow.kept o hg (.inr (by simp [Value.ownBlock]; omega))
  · intro e
    have := (h.lt w.heap.size e).2
    omega
theorem start_rb {w w1 wr w4 : World} {B cap no ni : Nat} {us : List Value} {c : Value} (hW : wr.ownsRow w1.heap.size 46 1 (.slice (some ⟨B, 0, none⟩) no cap) no us) (hF : Fam w1.heap.size wr us (List.replicate no [])) (hn : us.length = no) (hU : Own wr.heap.size w4 (.slice (some ⟨wr.heap.size, 0, none⟩) ni ni) (List.replicate ni 0))
    (hb4 : Below wr.heap.size wr w4) (hb : Below w1.heap.size w1 wr) (q0 : w1.heap[w.heap.size]? = some (.cells #[.int .i64 (ni : Int), .int .i64 (no : Int), c] 86)) (q1 : w1.heap[w.heap.size + 1]? = some (.cells #[.int .i64 0, .int .i64 0, .int .i64 0, .int .i64 0] 3))
    (q2 : w1.heap[w.heap.size + 2]? = some (.cells #[.int .i64 0, .slice (some ⟨w.heap.size + 1, 0, none⟩) 4 4] 98)) (q3 : Below w.heap.size w w1) (q4 : w1.heap.size = w.heap.size + 3) :
    RB w w4 (w.heap.size + 2) B #[.int .i64 (ni : Int), .int .i64 (no : Int), c] 0 (w.heap.size + 1) 4 us (.slice (some ⟨wr.heap.size, 0, none⟩) ni ni) (List.replicate no []) (List.replicate ni 0) [0, 0, 0, 0] := by
  obtain ⟨cur, hB, hc, h1, h2, h3⟩ := rowBlk hW
  have hs := hb.size
  have hbb : Below w1.heap.size w1 w4 := hb.trans (hb4.mono hs)
  refine ⟨blk_in q2 hbb, ⟨cur, blk_in hB hb4, by rw [hn]; exact hc⟩, ?_, blk_in q0 hbb, q3.trans (hbb.mono q3.size), by omega, by omega⟩
  have F1 : Fam w.heap.size w4 (us ++ [.slice (some ⟨wr.heap.size, 0, none⟩) ni ni]) (List.replicate no [] ++ [List.replicate ni 0]) :=
    (hF.snoc (fun u ys h => h.below hb4) (hU.mono hs) (fun u ys h _ => .inr (fun e => by have := (h.lt wr.heap.size e).2; omega))).mono (by omega)
  have F2 := (hF.snoc (w1 := w4) (x := .slice (some ⟨wr.heap.size, 0, none⟩) ni ni) (fun u ys h => h.below hb4) (hU.mono hs) (fun u ys h _ => .inr (fun e => by have := (h.lt wr.heap.size e).2; omega)))
  have R1 : Own w.heap.size w4 (.slice (some ⟨w.heap.size + 1, 0, none⟩) 4 4) [0, 0, 0, 0] := regs0 (blk_in q1 hbb) (by omega)
  rw [show us ++ [Value.slice (some ⟨wr.heap.size, 0, none⟩) ni ni, .slice (some ⟨w.heap.size + 1, 0, none⟩) 4 4] = (us ++ [Value.slice (some ⟨wr.heap.size, 0, none⟩) ni ni]) ++ [.slice (some ⟨w.heap.size + 1, 0, none⟩) 4 4] by simp,
    show (List.replicate no [] ++ [List.replicate ni 0, [0, 0, 0, 0]] : List (List Int)) = (List.replicate no [] ++ [List.replicate ni 0]) ++ [[0, 0, 0, 0]] by simp]
  have lens := F2.len
  refine ⟨by simp at lens ⊢; omega, fun i u ys e1 e2 => ?_, fun i j u u' e1 e2 hij => ?_⟩
  · by_cases hi : i < (us ++ [Value.slice (some ⟨wr.heap.size, 0, none⟩) ni ni]).length
    · rw [List.getElem?_append_left hi] at e1
      rw [List.getElem?_append_left (by rw [← lens]; exact hi)] at e2
      exact F1.own i u ys e1 e2
    · rw [List.getElem?_append_right (by omega)] at e1
      rw [List.getElem?_append_right (by rw [← lens]; omega), ← lens] at e2
      rcases q : i - (us ++ [Value.slice (some ⟨wr.heap.size, 0, none⟩) ni ni]).length with _ | q'
      · rw [q] at e1 e2; simp at e1 e2; subst e1; subst e2; exact R1
      · rw [q] at e1; simp at e1
  · have hap : ∀ (i : Nat) (u : Value), (us ++ [Value.slice (some ⟨wr.heap.size, 0, none⟩) ni ni])[i]? = some u → Apart u (.slice (some ⟨w.heap.size + 1, 0, none⟩) 4 4) := fun i u e => .inr (fun q => by
      have := ((F2.get e).lt (w.heap.size + 1) q).1
      omega)
    by_cases hi : i < (us ++ [Value.slice (some ⟨wr.heap.size, 0, none⟩) ni ni]).length
    · rw [List.getElem?_append_left hi] at e1
      by_cases hj : j < (us ++ [Value.slice (some ⟨wr.heap.size, 0, none⟩) ni ni]).length
      · rw [List.getElem?_append_left hj] at e2
        exact F1.apart i j u u' e1 e2 hij
      · rw [List.getElem?_append_right (by omega)] at e2
        rcases q : j - (us ++ [Value.slice (some ⟨wr.heap.size, 0, none⟩) ni ni]).length with _ | q'
        · rw [q] at e2; simp at e2; subst e2; exact hap i u e1
        · rw [q] at e2; simp at e2
    · rw [List.getElem?_append_right (by omega)] at e1
      rcases q : i - (us ++ [Value.slice (some ⟨wr.heap.size, 0, none⟩) ni ni]).length with _ | q'
      · rw [q] at e1; simp at e1; subst e1
        by_cases hj : j < (us ++ [Value.slice (some ⟨wr.heap.size, 0, none⟩) ni ni]).length
        · rw [List.getElem?_append_left hj] at e2
          exact (hap j u' e2).symm
        · exfalso
          have h5 := (List.getElem?_eq_some_iff.1 e2).1
          simp at h5 hj hi q
          omega
      · rw [q] at e1; simp at e1
set_option maxRecDepth 100000 in
set_option maxHeartbeats 40000000 in
theorem srunl_good (pv iv : Value) (ni no : Nat) (code : List Ins) (inp : List (List Int)) (f : Nat) (w : World) (hp : PrgV w pv ⟨ni, no, code⟩) (hi : SlR w iv inp) (hok : okP ⟨ni, no, code⟩ = true) (hs : areS inp ni = true) (hf : f ≤ 3000) :
    Calls Try.prog 76 #[pv, iv, .int .i64 f] w fun e w' => ∃ ov uv, e = .returned (.tuple #[ov, uv, .int .i64 (runS code inp f (startS ni no)).2, .int .i64 (portR code (runS code inp f (startS ni no)))]) ∧
      OutM w.heap.size w' ov uv (runS code inp f (startS ni no)).1.outs (runS code inp f (startS ni no)).1.used ∧ Below w.heap.size w w' := by
  obtain ⟨c, rfl, hc⟩ := hp
  have HC := Lib.hid hc
  have HI := Lib.hid hi
  obtain ⟨ia, icap, rfl, _, _, _, hic⟩ := hi
  have HIC := Lib.hid hic
  clear hic
  have HOK := Lib.hid hok
  have HS := Lib.hid hs
  have hP := (okP_parts hok).1
  simp only [] at hP
  have HP := Lib.hid hP
  have hno : no ≤ 3 := by omega
  have hni : ni ≤ 3 := by omega
  clear hc hok hs hP
  obtain ⟨ii, hi0, hz0, hz1, hz2⟩ := info_parts info
  obtain ⟨is, hs0, hy0, hy1, hy2⟩ := infoS_parts
  obtain ⟨R, hR⟩ : ∃ R, R = runS code inp f (startS ni no) := ⟨_, rfl⟩
  rw [← hR]
  have HR := Lib.hid hR
  clear hR
  go_enter Try.func76, Try.ntmps76
  go_upto_region 2 with fail
  generalize hw1 : ((w.alloc (.cells #[.int .i64 (ni : Int), .int .i64 (no : Int), c] 86)).alloc (.cells #[.int .i64 0, .int .i64 0, .int .i64 0, .int .i64 0] 3)).alloc (.cells #[.int .i64 0, .slice (some ⟨w.heap.size + 1, 0, none⟩) 4 4] 98) = w1
  have Q0 := Lib.hid (show w1.heap[w.heap.size]? = some (.cells #[.int .i64 (ni : Int), .int .i64 (no : Int), c] 86) by rw [← hw1]; exact hp31 _ _ _ _)
  have Q1 := Lib.hid (show w1.heap[w.heap.size + 1]? = some (.cells #[.int .i64 0, .int .i64 0, .int .i64 0, .int .i64 0] 3) by rw [← hw1]; exact hp32 _ _ _ _)
  have Q2 := Lib.hid (show w1.heap[w.heap.size + 2]? = some (.cells #[.int .i64 0, .slice (some ⟨w.heap.size + 1, 0, none⟩) 4 4] 98) by rw [← hw1]; exact hp3 _ _ _ _)
  have Q3 := Lib.hid (show Below w.heap.size w w1 by rw [← hw1]; exact (((Below.refl _ _).al _).al _).al _)
  have Q4 := Lib.hid (show w1.heap.size = w.heap.size + 3 by rw [← hw1]; simp)
  clear hw1
  have E0 := Lib.hid (hp1 w1 (.cells #[] 46))
  go_wp2_with fail
  go_loopw [11, 12] (fun s11 s12 wr => ∃ (k B cap : Nat) (us : List Value), k ≤ no ∧ s12 = .int .i64 k ∧ s11 = .slice (some ⟨B, 0, none⟩) k cap ∧ Hid (us.length = k) ∧ Hid (wr.ownsRow w1.heap.size 46 1 (.slice (some ⟨B, 0, none⟩) k cap) k us) ∧ Hid (Fam w1.heap.size wr us (List.replicate k [])) ∧ Hid (Below w1.heap.size w1 wr)) (fun _ s12 _ => no - (intOf s12).toNat)
  case atStart => exact ⟨0, w1.heap.size, 0, [], Nat.zero_le _, rfl, rfl, Lib.hid rfl, Lib.hid ⟨rfl, .inr ⟨_, 0, #[], rfl, Nat.le_refl _, E0.out, Nat.le_refl _, by unfold maxLen; omega, rfl, rfl⟩⟩, Lib.hid ⟨rfl, fun i u xs h => by simp at h, fun i j u u' h => by simp at h⟩, Lib.hid ((Below.refl _ _).al _)⟩
  case round =>
    clear E0
    obtain ⟨k, B, cap, us, hk, rfl, rfl, HL, HW, HF, HB⟩ := hrel
    have HPr := Lib.hid (blk_in Q0.out HB.out)
    obtain ⟨p0, p1, p2⟩ := cells3 HPr.out
    have lp := lt_of HPr.out
    by_cases hlt : k < no
    · have hlt2 : (k : Int) < (no : Int) := by omega
      go_wp2_with (at_builtin; refine wpList_append_own_at _ rfl _ _ 26 rfl w1.heap.size 46 is (.slice none 0 0) 1 24 Try.underlying26 hs0 hy0 hy1 hy2 rfl (by decide) _ _ _ rfl (World.ownsRow.alloc (World.ownsRow.alloc HW.out _) _) ⟨wr.heap.size + 1, 0, none⟩ 1 1 [.slice (some ⟨wr.heap.size, 0, none⟩) 0 0] rfl rfl (World.news_of_block (hp2 _ _ _)) (fun u hu => by simp at hu; subst hu; rfl) ?c3 ?c4 ?c5 ?_)
      case c3 => unfold maxLen; omega
      case c4 => omega
      case c5 => have := HB.out.size; simp; omega
      intro v' w2 hown hgrow _ hat
      obtain ⟨g2, cap2, rfl⟩ := rowShape hown (by omega)
      have FB := Lib.hid (fam_empty HW.out HF.out hgrow HB.out.size)
      have HB2 := Lib.hid ((((HB.out.al _).al _)).grown hgrow (by have := HB.out.size; simp; omega) (fun q e => (World.ownsRow.lt HW.out q e).1))
      have HW2 := Lib.hid hown
      clear hown hgrow hat
      go_wp2_with fail
      go_roundw
      case rel => exact ⟨k + 1, g2, cap2, _, by omega, by go_num, rfl, Lib.hid (by rw [List.length_append, HL.out]; rfl), HW2, Lib.hid (by rw [List.replicate_succ']; exact FB.out), HB2⟩
      case measure => simp [intOf]; omega
    · obtain rfl : k = no := by omega
      clear hlt
      go_wp2_with (at_make; refine wpList_make_full _ rfl _ _ 46 rfl wr.heap.size 3 ii (.int .i64 0) 1 Try.underlying46 hi0 hz0 hz1 _ _ _ _ ni rfl rfl rfl rfl ?d2 ?d3 ?d4 ?_)
      case d2 => rw [hz2]; omega
      case d3 => unfold maxLen; omega
      case d4 => exact Nat.le_refl _
      intro w4 hown hgrow
      have hb4 := (Below.refl wr.heap.size wr).grown hgrow (Nat.le_refl _) (by simp)
      have OU := Lib.hid (show Own wr.heap.size w4 (.slice (some ⟨wr.heap.size, 0, none⟩) ni ni) (List.replicate ni 0) from by
        unfold Own
        rw [List.length_replicate, show vals (List.replicate ni 0) = List.replicate ni (.int .i64 0) by simp [vals], ← toList_madeCells_one]
        simpa using hown)
      obtain ⟨UU, hUU⟩ : ∃ z, z = wr.heap.size := ⟨_, rfl⟩
      have RS := Lib.hid (start_rb HW.out HF.out HL.out OU.out hb4 HB.out Q0.out Q1.out Q2.out Q3.out Q4.out)
      rw [← hUU] at RS ⊢
      have HUU := Lib.hid (show w.heap.size + 3 ≤ UU by rw [hUU]; have := HB.out.size; have := Q4.out; omega)
      have HCP := Lib.hid (show k ≤ cap ∧ cap ≤ maxLen ∧ w1.heap.size ≤ B from (rowBlk HW.out).elim fun _ h => h.2.2)
      have HUW := Lib.hid (show UU < w4.heap.size by rw [hUU]; exact (OU.out.lt _ rfl).2)
      clear hown hgrow hb4 hUU OU HW HF HB HPr Q0 Q1 Q2 hi0 hz0 hz1 hz2 hs0 hy0 hy1 hy2 p0 p1 p2 lp
      obtain ⟨p0, p1, p2⟩ := cells3 RS.out.hP
      have lp := lt_of RS.out.hP
      have GS := Lib.hid (show GoodS ⟨ni, k, code⟩ inp (startS ni k) from start_good HOK.out)
      go_wp2_with fail
      obtain ⟨GA, hGA⟩ : ∃ z, z = w.heap.size + 1 + 1 := ⟨_, rfl⟩
      rw [show w.heap.size + 2 = GA from hGA.symm] at RS
      rw [← hGA]
      have HGA := Lib.hid (show w.heap.size + 2 ≤ GA by omega)
      have nGU : ¬ GA = UU := by have := HUU.out; omega
      have nUG : ¬ UU = GA := fun q => nGU q.symm
      have nPU : ¬ w.heap.size = UU := by have := HUU.out; omega
      have nUP : ¬ UU = w.heap.size := fun q => nPU q.symm
      have nPG : ¬ w.heap.size = GA := by omega
      have nGP : ¬ GA = w.heap.size := fun q => nPG q.symm
      have nGB : ¬ GA = B := RS.out.neAB
      have nBG : ¬ B = GA := fun q => nGB q.symm
      clear hGA
      go_loopw [2] (fun s2 wr => ∃ (f' : Nat) (st : St) (us : List Value) (r rc : Nat), s2 = .int .i64 f' ∧ f' ≤ 3000 ∧ Hid (us.length = k) ∧ Hid (runS code inp f' st = R) ∧ Hid (GoodS ⟨ni, k, code⟩ inp st) ∧ Hid (RB w wr GA B #[.int .i64 (ni : Int), .int .i64 (k : Int), c] st.pc r rc us (.slice (some ⟨UU, 0, none⟩) ni ni) st.outs st.used st.regs)) (fun s2 _ => (intOf s2).toNat)
      case atStart => exact ⟨f, startS ni k, us, _, _, rfl, hf, HL, Lib.hid HR.out.symm, GS, RS⟩
      case round =>
        clear RS GS HL p0 p1 p2 lp
        obtain ⟨f', st, us, r, rc, rfl, hf3, HUS, HRun, HG, HB⟩ := hrel
        obtain ⟨p0, p1, p2⟩ := cells3 HB.out.hP; obtain ⟨g0, g1⟩ := cells2 HB.out.hA; have fg0 := fr_of HB.out.hA 0; have fg1 := fr_of HB.out.hA 1; have lp := lt_of HB.out.hP; have lg := lt_of HB.out.hA; have lo := HB.out.ltO
        obtain ⟨wt, hwt⟩ : ∃ z, z = wantC code st.pc := ⟨_, rfl⟩
        obtain ⟨pt, hpt⟩ : ∃ z, z = portC code st.pc := ⟨_, rfl⟩
        have WC := Lib.hid (fun (W : World) (hW : Below w.heap.size w W) => swantat_any (.agg #[.int .i64 (ni : Int), .int .i64 (k : Int), c]) ⟨ni, k, code⟩ st.pc (.slice (some ⟨r, 0, none⟩) 4 rc) W ⟨_, rfl, HC.out.below hW⟩ ⟨Int.natCast_nonneg _, Int.ofNat_le.2 HG.out.pc⟩)
        simp only [Int.toNat_natCast] at WC
        rw [← hwt, ← hpt] at WC
        have HWT := Lib.hid hwt
        have HPT := Lib.hid hpt
        clear hwt hpt
        by_cases w0 : wt = 0
        · subst w0
          have hst : stuckS code inp st = true := by unfold stuckS; rw [← HWT.out]; simp
          have hRv : R = (st, 0) := by
            rw [← HRun.out]
            cases f' with
            | zero => unfold runS; rw [if_pos hst, ← HWT.out]
            | succ n => unfold runS; rw [if_pos hst, ← HWT.out]
          have HOU := Lib.hid (show R.1 = st by rw [hRv])
          have HRS := Lib.hid (show R.2 = 0 by rw [hRv])
          have HRP := Lib.hid (show portR code R = pt by rw [hRv]; show (if (0 : Int) = 1 then 0 else portC code st.pc) = _; rw [if_neg (by decide)]; exact HPT.out.symm)
          clear hRv hst
          go_wp2_with (go_at_call 103; refine (WC.out _ HB.out.hB).mono ?_; rintro e w6 ⟨rfl, hb6⟩; have HB6 := Lib.hid (HB.out.below hb6); clear p0 p1 p2 g0 g1 fg0 fg1 lp lg lo; obtain ⟨p0, p1, p2⟩ := cells3 HB6.out.hP; obtain ⟨g0, g1⟩ := cells2 HB6.out.hA; have fg0 := fr_of HB6.out.hA 0; have fg1 := fr_of HB6.out.hA 1; have lp := lt_of HB6.out.hP; have lg := lt_of HB6.out.hA; have lo := HB6.out.ltO; clear hb6)
          refine bodyPost_ret (v := .tuple #[.slice (some ⟨B, 0, none⟩) k cap, .slice (some ⟨UU, 0, none⟩) ni ni, .int .i64 0, .int .i64 pt]) (by simp [results, Try.results76, go_sem]) rfl ⟨_, _, by rw [HRS.out, HRP.out], ?_, ?_⟩
          · rw [HOU.out]; first | exact HB6.out.out (Below.refl _ _) HUS.out HCP.out.1 HCP.out.2.1 | exact HB6.out.out (below_drewN _ _) HUS.out HCP.out.1 HCP.out.2.1
          · first | exact HB6.out.hB | exact Below.toDraw HB6.out.hB _
        · obtain ⟨x, hx⟩ : ∃ x, code[st.pc]? = some x := by
            cases e : code[st.pc]? with
            | none => exact absurd (HWT.out.trans (by unfold wantC; rw [e])) w0
            | some x => exact ⟨x, rfl⟩
          have hwx := (wantC_at hx)
          have hxo := (okP_parts HOK.out).2 x (List.mem_of_getElem? hx)
          have hbd := of_decide_eq_true hxo
          simp only [] at hbd hxo
          have HX := Lib.hid hx
          have HXO := Lib.hid hxo
          have HWX := Lib.hid hwx
          have h11 : x.op ≠ 11 := fun e => w0 (by rw [HWT.out, hwx.1]; simp [wantI, e])
          have H11 := Lib.hid h11
          clear hx hxo hwx
          by_cases h1 : x.op = 1
          · have ew : wt = 2 := by rw [HWT.out, HWX.out.1]; unfold wantI; rw [if_neg h11, if_pos h1]
            have ep : pt = x.b := by rw [HPT.out, HWX.out.2]; unfold portI; rw [if_pos h1]
            obtain ⟨qb, hqb⟩ : ∃ q : Nat, x.b = q := ⟨x.b.toNat, by omega⟩
            have hqn : qb < ni := by omega
            have hin : inp.length = ni := by have := (areS_parts HS.out).1; omega
            rcases HIC.out with he | ⟨ib, ioff, rfl, hib, hic⟩
            · rw [he] at hin; simp at hin; omega
            · obtain ⟨xs, hxs⟩ : ∃ xs, inp[qb]? = some xs := ⟨_, List.getElem?_eq_getElem (by omega)⟩
              obtain ⟨iu, hiu, hsi⟩ := hic qb xs hxs
              obtain ⟨ta, tcap, rfl, _, _, _, htc⟩ := hsi
              have HUN := Lib.hid (show st.used.length = ni by have := HG.out.usedN; simp only [] at this; omega)
              have hxrow : row inp x.b = xs := by unfold row; rw [hqb, Int.toNat_natCast, List.getD_eq_getElem?_getD, hxs]; rfl
              have hub := HG.out.used qb (rg st.used (qb : Int)) (by unfold rg; rw [Int.toNat_natCast, List.getD_eq_getElem?_getD, List.getElem?_eq_getElem (by have := HUN.out; omega)]; rfl)
              rw [List.getD_eq_getElem?_getD, hxs] at hub
              simp only [Option.getD_some] at hub
              obtain ⟨m, hm⟩ : ∃ m : Nat, rg st.used (qb : Int) = m := ⟨(rg st.used (qb : Int)).toNat, by omega⟩
              obtain ⟨tl, htl⟩ : ∃ tl, tl = xs.length := ⟨_, rfl⟩
              have hxsS := (areS_parts HS.out).2 xs (List.mem_of_getElem? hxs)
              have htl4 : tl ≤ 400 := by rw [htl]; exact isS_len hxsS
              rw [← htl] at hiu
              rw [hm, ← htl] at hub
              have HM := Lib.hid hm
              have HIU := Lib.hid hiu
              have HTL := Lib.hid htl
              have HTC := Lib.hid htc
              have HXR := Lib.hid hxrow
              have hml : m ≤ tl := by omega
              have hstv : stuckS code inp st = decide (m = tl) := by unfold stuckS; rw [← HWT.out, ← HPT.out, ew, ep, hxrow, hqb, hm, ← htl, beqN]; simp
              have hqi : qb < inp.length := by rw [hin]; exact hqn
              have hqi2 : (qb : Int) < (inp.length : Int) := Int.ofNat_lt.2 hqi
              have hqn2 : (qb : Int) < (ni : Int) := Int.ofNat_lt.2 hqn
              subst ew
              rw [hqb] at ep
              subst ep
              clear w0 hic hxs hiu htc hub hm htl hxrow hxsS hin
              by_cases h4 : m = tl
              · have hst : stuckS code inp st = true := by rw [hstv]; exact decide_eq_true h4
                have d4 : ((m : Int) == (tl : Int)) = true := by simp; omega
                clear hstv
                have hRv : R = (st, 2) := by
                  rw [← HRun.out]
                  cases f' with
                  | zero => unfold runS; rw [if_pos hst, ← HWT.out]
                  | succ n => unfold runS; rw [if_pos hst, ← HWT.out]
                have HOU := Lib.hid (show R.1 = st by rw [hRv])
                have HRS := Lib.hid (show R.2 = 2 by rw [hRv])
                have HRP := Lib.hid (show portR code R = (qb : Int) by rw [hRv]; show (if (2 : Int) = 1 then 0 else portC code st.pc) = _; rw [if_neg (by decide)]; exact HPT.out.symm)
                clear hRv hst
                go_wp2_with (go_at_call 103; refine (WC.out _ HB.out.hB).mono ?_; rintro e w6 ⟨rfl, hb6⟩; have HB6 := Lib.hid (HB.out.below hb6); clear p0 p1 p2 g0 g1 fg0 fg1 lp lg lo; obtain ⟨p0, p1, p2⟩ := cells3 HB6.out.hP; obtain ⟨g0, g1⟩ := cells2 HB6.out.hA; have fg0 := fr_of HB6.out.hA 0; have fg1 := fr_of HB6.out.hA 1; have lp := lt_of HB6.out.hP; have lg := lt_of HB6.out.hA; have lo := HB6.out.ltO; have cu := (fam_used HB6.out.hF HUN.out qb hqn).1; rw [HM.out] at cu; have fu := (fam_used HB6.out.hF HUN.out qb hqn).2; have lu := (own_lt (fam_usedO HB6.out.hF) rfl); have ci := (HB6.out.hB.cell (p := ⟨ib, ioff + qb, none⟩) hib).trans HIU.out; clear hb6)
                go_quiet (fail)
                go_wp2_with fail
                refine bodyPost_ret (v := .tuple #[.slice (some ⟨B, 0, none⟩) k cap, .slice (some ⟨UU, 0, none⟩) ni ni, .int .i64 2, .int .i64 (qb : Int)]) (by simp [results, Try.results76, go_sem]) rfl ⟨_, _, by rw [HRS.out, HRP.out], ?_, ?_⟩
                · rw [HOU.out]; first | exact HB6.out.out (Below.refl _ _) HUS.out HCP.out.1 HCP.out.2.1 | exact HB6.out.out (below_drewN _ _) HUS.out HCP.out.1 HCP.out.2.1
                · first | exact HB6.out.hB | exact Below.toDraw HB6.out.hB _
              · have hst : stuckS code inp st = false := by rw [hstv]; exact decide_eq_false h4
                have d4 : ((m : Int) == (tl : Int)) = false := by simp; omega
                obtain ⟨tk, htk⟩ : ∃ z, z = xs.getD m 0 := ⟨_, rfl⟩
                have hlt' : m < tl := Nat.lt_of_le_of_ne hml h4
                have hne : xs ≠ [] := fun he => by
                  have h5 : tl = 0 := HTL.out.trans (by rw [he]; rfl)
                  rw [h5] at hlt'
                  exact Nat.not_lt_zero _ hlt'
                obtain ⟨tb, toff, hta, htb, htcell⟩ := HTC.out.resolve_left hne
                subst hta
                have HTKC := Lib.hid (show w.cell? ⟨tb, toff + m, none⟩ = some (.int .i64 tk) by rw [htk]; exact htcell m (by rw [← HTL.out]; exact hlt'))
                have hml2 : m < tl := hlt'
                have im : (m : Int) < (tl : Int) := Int.ofNat_lt.2 hlt'
                by_cases hf0 : f' = 0
                · clear hstv hlt' hne htcell htk hml h4
                  subst hf0
                  have hRv : R = (st, 1) := by
                    rw [← HRun.out]
                    unfold runS; rw [if_neg (by rw [hst]; decide)]
                  have HOU := Lib.hid (show R.1 = st by rw [hRv])
                  have HRS := Lib.hid (show R.2 = 1 by rw [hRv])
                  have HRP := Lib.hid (show portR code R = 0 by rw [hRv]; rfl)
                  clear hRv hst
                  go_wp2_with (go_at_call 103; refine (WC.out _ HB.out.hB).mono ?_; rintro e w6 ⟨rfl, hb6⟩; have HB6 := Lib.hid (HB.out.below hb6); clear p0 p1 p2 g0 g1 fg0 fg1 lp lg lo; obtain ⟨p0, p1, p2⟩ := cells3 HB6.out.hP; obtain ⟨g0, g1⟩ := cells2 HB6.out.hA; have fg0 := fr_of HB6.out.hA 0; have fg1 := fr_of HB6.out.hA 1; have lp := lt_of HB6.out.hP; have lg := lt_of HB6.out.hA; have lo := HB6.out.ltO; have cu := (fam_used HB6.out.hF HUN.out qb hqn).1; rw [HM.out] at cu; have fu := (fam_used HB6.out.hF HUN.out qb hqn).2; have lu := (own_lt (fam_usedO HB6.out.hF) rfl); have ci := (HB6.out.hB.cell (p := ⟨ib, ioff + qb, none⟩) hib).trans HIU.out; have ct := (HB6.out.hB.cell (p := ⟨tb, toff + m, none⟩) htb).trans HTKC.out; clear hb6)
                  go_quiet (fail)
                  go_wp2_with fail
                  go_quiet (fail)
                  go_wp2_with fail
                  refine bodyPost_ret (v := .tuple #[.slice (some ⟨B, 0, none⟩) k cap, .slice (some ⟨UU, 0, none⟩) ni ni, .int .i64 1, .int .i64 0]) (by simp [results, Try.results76, go_sem]) rfl ⟨_, _, by rw [HRS.out, HRP.out], ?_, ?_⟩
                  · rw [HOU.out]; first | exact HB6.out.out (Below.refl _ _) HUS.out HCP.out.1 HCP.out.2.1 | exact HB6.out.out (below_drewN _ _) HUS.out HCP.out.1 HCP.out.2.1
                  · first | exact HB6.out.hB | exact Below.toDraw HB6.out.hB _
                · skip
                  obtain ⟨n, rfl⟩ : ∃ n, f' = n + 1 := ⟨f' - 1, by omega⟩
                  have HN1 := Lib.hid (show runS code inp n (stepS x inp st) = R by
                    have := HRun.out
                    unfold runS at this
                    rw [if_neg (by rw [hst]; decide)] at this
                    rwa [show insAt code st.pc = x by unfold insAt; rw [List.getD_eq_getElem?_getD, HX.out]; rfl] at this)
                  have HG1 := Lib.hid (step_good (areS_parts HS.out).2 HG.out HX.out HXO.out (fun _ => by rw [HXR.out, hqb, HM.out, ← HTL.out]; omega) (fun e => by omega))
                  have wn : wrap64 ((n : Int) + 1 - 1) = (n : Int) := by rw [show (n : Int) + 1 - 1 = n by omega]; exact IntWalk.wrap64_in _ (by omega)
                  have dn : ((n : Int) + 1 == 0) = false := by simp; omega
                  have HPC := Lib.hid (pcI_bd HXO.out st.regs st.pc (by have := (List.getElem?_eq_some_iff.1 HX.out).1; show (st.pc : Int) + 1 ≤ (code.length : Int); omega)).1
                  have wm : wrap64 ((m : Int) + 1) = (m : Int) + 1 := IntWalk.wrap64_in _ (by omega)
                  have HSP := Lib.hid (show stepS x inp st = ⟨(pcI x st.regs st.pc).toNat, regsI x st.regs tk, st.outs, st.used.set qb ((m : Int) + 1)⟩ by
                    have hh2 : x.op ≠ 2 := by omega
                    unfold stepS tokS
                    rw [if_pos h1, if_neg hh2, if_pos h1, HXR.out, hqb, Int.toNat_natCast, HM.out, htk]
                    unfold rg
                    rw [Int.toNat_natCast])
                  clear hbd hst hstv hlt' hne hf0 h4 htcell htk hml
                  go_wp2_with (go_at_call 103; refine (WC.out _ HB.out.hB).mono ?_; rintro e w6 ⟨rfl, hb6⟩; have HB6 := Lib.hid (HB.out.below hb6); clear p0 p1 p2 g0 g1 fg0 fg1 lp lg lo; obtain ⟨p0, p1, p2⟩ := cells3 HB6.out.hP; obtain ⟨g0, g1⟩ := cells2 HB6.out.hA; have fg0 := fr_of HB6.out.hA 0; have fg1 := fr_of HB6.out.hA 1; have lp := lt_of HB6.out.hP; have lg := lt_of HB6.out.hA; have lo := HB6.out.ltO; have cu := (fam_used HB6.out.hF HUN.out qb hqn).1; rw [HM.out] at cu; have fu := (fam_used HB6.out.hF HUN.out qb hqn).2; have lu := (own_lt (fam_usedO HB6.out.hF) rfl); have ci := (HB6.out.hB.cell (p := ⟨ib, ioff + qb, none⟩) hib).trans HIU.out; have ct := (HB6.out.hB.cell (p := ⟨tb, toff + m, none⟩) htb).trans HTKC.out; clear hb6)
                  go_quiet (fail)
                  go_wp2_with fail
                  go_quiet (fail)
                  go_wp2_with fail
                  go_at_call 132
                  refine (sl2step_any _ _ ⟨ni, k, code⟩ st.pc st.regs x tk _ ⟨_, rfl, HC.out.below (by first | exact HB6.out.hB | exact Below.toDraw HB6.out.hB _)⟩ ⟨_, rfl, by first | exact (fam_regs HB6.out.hF).sl | exact ((fam_regs HB6.out.hF).below (below_drewN _ _)).sl⟩ HOK.out HX.out H11.out HG.out.len HG.out.regs).mono ?_
                  rintro e w8 ⟨r', rc', rfl, ho8, hb8⟩
                  have hc8 : Below w6.heap.size w6 w8 := (by first | exact hb8 | exact (below_drewN w6 _).trans (hb8.mono (below_drewN w6 _).size))
                  have HO8 := Lib.hid (show Own w6.heap.size w8 (.slice (some ⟨r', 0, none⟩) 4 rc') (regsI x st.regs tk) from ho8)
                  have HC8 := Lib.hid hc8
                  have HB8 := Lib.hid (HB6.out.below hc8)
                  clear p0 p1 p2 g0 g1 fg0 fg1 lp lg lo
                  obtain ⟨p0, p1, p2⟩ := cells3 HB8.out.hP
                  obtain ⟨g0, g1⟩ := cells2 HB8.out.hA
                  have fg0 := fr_of HB8.out.hA 0
                  have fg1 := fr_of HB8.out.hA 1
                  have lp := lt_of HB8.out.hP
                  have lg := lt_of HB8.out.hA
                  have lo := HB8.out.ltO
                  have cu := (fam_used HB8.out.hF HUN.out qb hqn).1
                  rw [HM.out] at cu
                  have fu := (fam_used HB8.out.hF HUN.out qb hqn).2
                  have lu := (own_lt (fam_usedO HB8.out.hF) rfl)
                  clear ho8 hb8 hc8
                  go_wp2_with fail
                  have RN := Lib.hid (HB6.out.next HC8.out HO8.out (pcI x st.regs st.pc))
                  have RD := Lib.hid (RN.out.read (q := qb) (n := (m : Int) + 1) HUN.out (by have := HUU.out; omega))
                  go_roundw
                  case rel =>
                    refine ⟨n, stepS x inp st, us, r', rc', by go_num, by omega, HUS, HN1, HG1, ?_⟩
                    rw [HSP.out]
                    refine Lib.hid ?_
                    show RB w _ GA B _ (((pcI x st.regs st.pc).toNat : Nat) : Int) _ _ _ _ _ _ _
                    rw [Int.toNat_of_nonneg HPC.out]
                    exact RD.out.below ((Below.refl _ _).al _)
                  case measure => first | (simp [intOf]; done) | (simp [intOf]; omega)
          · by_cases h2 : x.op = 2
            · have ew : wt = 3 := by rw [HWT.out, HWX.out.1]; unfold wantI; rw [if_neg h11, if_neg h1, if_pos h2]
              have ep : pt = x.b := by rw [HPT.out, HWX.out.2]; unfold portI; rw [if_neg h1, if_pos h2]
              obtain ⟨qb, hqb⟩ : ∃ q : Nat, x.b = q := ⟨x.b.toNat, by omega⟩
              have hqn : qb < k := by omega
              have hqn2 : (qb : Int) < (k : Int) := Int.ofNat_lt.2 hqn
              obtain ⟨u, hu⟩ : ∃ u, us[qb]? = some u := ⟨_, List.getElem?_eq_getElem (by rw [HUS.out]; exact hqn)⟩
              have hou := fam_out HB.out.hF hu
              obtain ⟨ua, uc, rfl⟩ := hou.shape
              obtain ⟨ul, hul⟩ : ∃ ul, ul = (st.outs.getD qb []).length := ⟨_, rfl⟩
              rw [← hul] at hu
              have HUQ := Lib.hid hu
              obtain ⟨G, hG⟩ : ∃ G, G = st.outs.getD qb [] := ⟨_, rfl⟩
              have HGG := Lib.hid hG
              have HUL := Lib.hid (show ul = G.length by rw [hG]; exact hul)
              have hul4 : ul ≤ 400 := by rw [hul]; exact isS_len (fam_outS HB.out.hF HG.out hu)
              have hrow : (row st.outs x.b).length = ul := by unfold row; rw [hqb, Int.toNat_natCast, hul]
              have hstv : stuckS code inp st = decide (ul = 400) := by unfold stuckS; rw [← HWT.out, ← HPT.out, ew, ep, hrow, beq400]; simp
              subst ew
              rw [hqb] at ep
              subst ep
              clear w0 hou hu hul hG
              by_cases h4 : ul = 400
              · have hst : stuckS code inp st = true := by rw [hstv]; exact decide_eq_true h4
                have d4 : ((ul : Int) == 400) = true := by simp; omega
                clear hstv hrow
                have hRv : R = (st, 3) := by
                  rw [← HRun.out]
                  cases f' with
                  | zero => unfold runS; rw [if_pos hst, ← HWT.out]
                  | succ n => unfold runS; rw [if_pos hst, ← HWT.out]
                have HOU := Lib.hid (show R.1 = st by rw [hRv])
                have HRS := Lib.hid (show R.2 = 3 by rw [hRv])
                have HRP := Lib.hid (show portR code R = (qb : Int) by rw [hRv]; show (if (3 : Int) = 1 then 0 else portC code st.pc) = _; rw [if_neg (by decide)]; exact HPT.out.symm)
                clear hRv hst
                go_wp2_with (go_at_call 103; refine (WC.out _ HB.out.hB).mono ?_; rintro e w6 ⟨rfl, hb6⟩; have HB6 := Lib.hid (HB.out.below hb6); clear p0 p1 p2 g0 g1 fg0 fg1 lp lg lo; obtain ⟨p0, p1, p2⟩ := cells3 HB6.out.hP; obtain ⟨g0, g1⟩ := cells2 HB6.out.hA; have fg0 := fr_of HB6.out.hA 0; have fg1 := fr_of HB6.out.hA 1; have lp := lt_of HB6.out.hP; have lg := lt_of HB6.out.hA; have lo := HB6.out.ltO; have cu := (HB6.out.cellO HUQ.out).1; clear hb6)
                refine bodyPost_ret (v := .tuple #[.slice (some ⟨B, 0, none⟩) k cap, .slice (some ⟨UU, 0, none⟩) ni ni, .int .i64 3, .int .i64 (qb : Int)]) (by simp [results, Try.results76, go_sem]) rfl ⟨_, _, by rw [HRS.out, HRP.out], ?_, ?_⟩
                · rw [HOU.out]; first | exact HB6.out.out (Below.refl _ _) HUS.out HCP.out.1 HCP.out.2.1 | exact HB6.out.out (below_drewN _ _) HUS.out HCP.out.1 HCP.out.2.1
                · first | exact HB6.out.hB | exact Below.toDraw HB6.out.hB _
              · have hst : stuckS code inp st = false := by rw [hstv]; exact decide_eq_false h4
                have d4 : ((ul : Int) == 400) = false := by simp; omega
                by_cases hf0 : f' = 0
                · clear hstv hrow h4
                  subst hf0
                  have hRv : R = (st, 1) := by
                    rw [← HRun.out]
                    unfold runS; rw [if_neg (by rw [hst]; decide)]
                  have HOU := Lib.hid (show R.1 = st by rw [hRv])
                  have HRS := Lib.hid (show R.2 = 1 by rw [hRv])
                  have HRP := Lib.hid (show portR code R = 0 by rw [hRv]; rfl)
                  clear hRv hst
                  go_wp2_with (go_at_call 103; refine (WC.out _ HB.out.hB).mono ?_; rintro e w6 ⟨rfl, hb6⟩; have HB6 := Lib.hid (HB.out.below hb6); clear p0 p1 p2 g0 g1 fg0 fg1 lp lg lo; obtain ⟨p0, p1, p2⟩ := cells3 HB6.out.hP; obtain ⟨g0, g1⟩ := cells2 HB6.out.hA; have fg0 := fr_of HB6.out.hA 0; have fg1 := fr_of HB6.out.hA 1; have lp := lt_of HB6.out.hP; have lg := lt_of HB6.out.hA; have lo := HB6.out.ltO; have cu := (HB6.out.cellO HUQ.out).1; clear hb6)
                  refine bodyPost_ret (v := .tuple #[.slice (some ⟨B, 0, none⟩) k cap, .slice (some ⟨UU, 0, none⟩) ni ni, .int .i64 1, .int .i64 0]) (by simp [results, Try.results76, go_sem]) rfl ⟨_, _, by rw [HRS.out, HRP.out], ?_, ?_⟩
                  · rw [HOU.out]; first | exact HB6.out.out (Below.refl _ _) HUS.out HCP.out.1 HCP.out.2.1 | exact HB6.out.out (below_drewN _ _) HUS.out HCP.out.1 HCP.out.2.1
                  · first | exact HB6.out.hB | exact Below.toDraw HB6.out.hB _
                · skip
                  obtain ⟨n, rfl⟩ : ∃ n, f' = n + 1 := ⟨f' - 1, by omega⟩
                  have HN1 := Lib.hid (show runS code inp n (stepS x inp st) = R by
                    have := HRun.out
                    unfold runS at this
                    rw [if_neg (by rw [hst]; decide)] at this
                    rwa [show insAt code st.pc = x by unfold insAt; rw [List.getD_eq_getElem?_getD, HX.out]; rfl] at this)
                  have HG1 := Lib.hid (step_good (areS_parts HS.out).2 HG.out HX.out HXO.out (fun e => absurd e h1) (fun _ => by rw [hrow]; omega))
                  have wn : wrap64 ((n : Int) + 1 - 1) = (n : Int) := by rw [show (n : Int) + 1 - 1 = n by omega]; exact IntWalk.wrap64_in _ (by omega)
                  have dn : ((n : Int) + 1 == 0) = false := by simp; omega
                  have HPC := Lib.hid (pcI_bd HXO.out st.regs st.pc (by have := (List.getElem?_eq_some_iff.1 HX.out).1; show (st.pc : Int) + 1 ≤ (code.length : Int); omega)).1
                  have HSP := Lib.hid (show stepS x inp st = ⟨(pcI x st.regs st.pc).toNat, regsI x st.regs 0, st.outs.set qb (G ++ [outI x st.regs]), st.used⟩ by
                    rw [HGG.out]
                    unfold stepS tokS
                    rw [if_pos h2, if_neg h1, if_neg h1]
                    unfold outI row
                    rw [if_pos h2, hqb, Int.toNat_natCast])
                  have HUL4 := Lib.hid hul4
                  obtain ⟨ii, hi0, hz0, hz1, hz2⟩ := info_parts info
                  clear hst hstv hf0 hbd hrow h4 hqb hul4
                  go_wp2_with (go_at_call 103; refine (WC.out _ HB.out.hB).mono ?_; rintro e w6 ⟨rfl, hb6⟩; have HB6 := Lib.hid (HB.out.below hb6); clear p0 p1 p2 g0 g1 fg0 fg1 lp lg lo; obtain ⟨p0, p1, p2⟩ := cells3 HB6.out.hP; obtain ⟨g0, g1⟩ := cells2 HB6.out.hA; have fg0 := fr_of HB6.out.hA 0; have fg1 := fr_of HB6.out.hA 1; have lp := lt_of HB6.out.hP; have lg := lt_of HB6.out.hA; have lo := HB6.out.ltO; have cu := (HB6.out.cellO HUQ.out).1; clear hb6)
                  go_at_call 132
                  refine (sl2step_any _ _ ⟨ni, k, code⟩ st.pc st.regs x 0 _ ⟨_, rfl, HC.out.below (by first | exact HB6.out.hB | exact Below.toDraw HB6.out.hB _)⟩ ⟨_, rfl, by first | exact (fam_regs HB6.out.hF).sl | exact ((fam_regs HB6.out.hF).below (below_drewN _ _)).sl⟩ HOK.out HX.out H11.out HG.out.len HG.out.regs).mono ?_
                  rintro e w8 ⟨r', rc', rfl, ho8, hb8⟩
                  have hc8 : Below w6.heap.size w6 w8 := (by first | exact hb8 | exact (below_drewN w6 _).trans (hb8.mono (below_drewN w6 _).size))
                  have HO8 := Lib.hid (show Own w6.heap.size w8 (.slice (some ⟨r', 0, none⟩) 4 rc') (regsI x st.regs 0) from ho8)
                  have HC8 := Lib.hid hc8
                  have HB8 := Lib.hid (HB6.out.below hc8)
                  clear p0 p1 p2 g0 g1 fg0 fg1 lp lg lo
                  obtain ⟨p0, p1, p2⟩ := cells3 HB8.out.hP
                  obtain ⟨g0, g1⟩ := cells2 HB8.out.hA
                  have fg0 := fr_of HB8.out.hA 0
                  have fg1 := fr_of HB8.out.hA 1
                  have lp := lt_of HB8.out.hP
                  have lg := lt_of HB8.out.hA
                  have lo := HB8.out.ltO
                  have cu := (HB8.out.cellO HUQ.out).1
                  have fu := (HB8.out.cellO HUQ.out).2
                  clear ho8 hb8 hc8
                  have RN := Lib.hid (HB6.out.next HC8.out HO8.out (pcI x st.regs st.pc))
                  have RA := Lib.hid (RN.out.below ((Below.refl _ _).al (.cells #[.int .i64 (pcI x st.regs st.pc), .slice (some ⟨r', 0, none⟩) 4 rc'] 98)))
                  have OU := Lib.hid (show Own w.heap.size _ (.slice ua ul uc) G by rw [HGG.out]; exact fam_out RA.out.hF HUQ.out)
                  go_wp2_with (at_builtin; refine wpList_append_own_at _ rfl _ _ 46 rfl w.heap.size 3 ii (.int .i64 0) 1 8 Try.underlying46 hi0 hz0 hz1 hz2 rfl (by decide) _ _ _ rfl (World.ownsRow.alloc OU.out _) ⟨w8.heap.size + 1, 0, none⟩ 1 1 [.int .i64 (outI x st.regs)] rfl rfl (src2 (by simp) _ _) (one_one _) ?c3 ?c4 ?c5 ?_)
                  case c3 => have := HUL4.out; have := HUL.out; unfold maxLen; omega
                  case c4 => have := HUL4.out; have := HUL.out; omega
                  case c5 => have := RA.out.hB.size; simp at this ⊢; omega
                  intro v' w9 hown hgrow _ hat
                  have ho9 : Own w.heap.size w9 v' (G ++ [outI x st.regs]) := by
                    unfold Own
                    rw [List.length_append, show vals (G ++ [outI x st.regs]) = vals G ++ [.int .i64 (outI x st.regs)] by simp [vals]]
                    exact hown
                  obtain ⟨va, vn, vc, rfl⟩ : ∃ va vn vc, v' = .slice va vn vc := by obtain ⟨y1, y2, y3⟩ := ho9.shape; exact ⟨y1, _, y2, y3⟩
                  have RW := Lib.hid (RA.out.write (q := qb) HUQ.out (by rw [← HGG.out]; exact ho9) hgrow (by simpa using hat))
                  have b9 : w9.cell? ⟨B, qb, none⟩ = some (.slice ua ul uc) ∧ w9.frozen? ⟨B, qb, none⟩ = false ∧ B < w9.heap.size := by
                    obtain ⟨cur, hO, hc⟩ := RA.out.hO
                    have q9 := app_keep hO (by decide) OU.out hgrow
                    have cO := (RA.out.cellO HUQ.out).1
                    rw [cell_of hO qb] at cO
                    exact ⟨by rw [cell_of q9 qb]; exact cO, fr_of q9 qb, lt_of q9⟩
                  obtain ⟨q9, f9, l9⟩ := b9
                  clear hown hgrow hat ho9 hi0 hz0 hz1 hz2
                  go_wp2_with fail
                  go_roundw
                  case rel =>
                    refine ⟨n, stepS x inp st, us.set qb (.slice va vn vc), r', rc', by go_num, by omega, Lib.hid (by rw [List.length_set]; exact HUS.out), HN1, HG1, ?_⟩
                    rw [HSP.out]
                    refine Lib.hid ?_
                    show RB w _ GA B _ (((pcI x st.regs st.pc).toNat : Nat) : Int) _ _ _ _ _ _ _
                    rw [Int.toNat_of_nonneg HPC.out]
                    have q := RW.out
                    rw [← HGG.out] at q
                    exact q
                  case measure => first | (simp [intOf]; done) | (simp [intOf]; omega)
            · have ew : wt = 1 := by rw [HWT.out, HWX.out.1]; unfold wantI; rw [if_neg h11, if_neg h1, if_neg h2]
              have ep : pt = 0 := by rw [HPT.out, HWX.out.2]; unfold portI; rw [if_neg h1, if_neg h2]
              have hst : stuckS code inp st = false := by unfold stuckS; rw [← HWT.out, ew]; rfl
              subst ew
              subst ep
              clear w0
              by_cases hf0 : f' = 0
              · skip
                subst hf0
                have hRv : R = (st, 1) := by
                  rw [← HRun.out]
                  unfold runS; rw [if_neg (by rw [hst]; decide)]
                have HOU := Lib.hid (show R.1 = st by rw [hRv])
                have HRS := Lib.hid (show R.2 = 1 by rw [hRv])
                have HRP := Lib.hid (show portR code R = 0 by rw [hRv]; rfl)
                clear hRv hst
                go_wp2_with (go_at_call 103; refine (WC.out _ HB.out.hB).mono ?_; rintro e w6 ⟨rfl, hb6⟩; have HB6 := Lib.hid (HB.out.below hb6); clear p0 p1 p2 g0 g1 fg0 fg1 lp lg lo; obtain ⟨p0, p1, p2⟩ := cells3 HB6.out.hP; obtain ⟨g0, g1⟩ := cells2 HB6.out.hA; have fg0 := fr_of HB6.out.hA 0; have fg1 := fr_of HB6.out.hA 1; have lp := lt_of HB6.out.hP; have lg := lt_of HB6.out.hA; have lo := HB6.out.ltO; clear hb6)
                refine bodyPost_ret (v := .tuple #[.slice (some ⟨B, 0, none⟩) k cap, .slice (some ⟨UU, 0, none⟩) ni ni, .int .i64 1, .int .i64 0]) (by simp [results, Try.results76, go_sem]) rfl ⟨_, _, by rw [HRS.out, HRP.out], ?_, ?_⟩
                · rw [HOU.out]; first | exact HB6.out.out (Below.refl _ _) HUS.out HCP.out.1 HCP.out.2.1 | exact HB6.out.out (below_drewN _ _) HUS.out HCP.out.1 HCP.out.2.1
                · first | exact HB6.out.hB | exact Below.toDraw HB6.out.hB _
              · skip
                obtain ⟨n, rfl⟩ : ∃ n, f' = n + 1 := ⟨f' - 1, by omega⟩
                have HN1 := Lib.hid (show runS code inp n (stepS x inp st) = R by
                  have := HRun.out
                  unfold runS at this
                  rw [if_neg (by rw [hst]; decide)] at this
                  rwa [show insAt code st.pc = x by unfold insAt; rw [List.getD_eq_getElem?_getD, HX.out]; rfl] at this)
                have HG1 := Lib.hid (step_good (areS_parts HS.out).2 HG.out HX.out HXO.out (fun e => absurd e h1) (fun e => absurd e h2))
                have wn : wrap64 ((n : Int) + 1 - 1) = (n : Int) := by rw [show (n : Int) + 1 - 1 = n by omega]; exact IntWalk.wrap64_in _ (by omega)
                have dn : ((n : Int) + 1 == 0) = false := by simp; omega
                have HPC := Lib.hid (pcI_bd HXO.out st.regs st.pc (by have := (List.getElem?_eq_some_iff.1 HX.out).1; show (st.pc : Int) + 1 ≤ (code.length : Int); omega)).1
                have HSP := Lib.hid (step_plain (inp := inp) (st := st) h1 h2)
                clear hst hf0 hbd
                go_wp2_with (go_at_call 103; refine (WC.out _ HB.out.hB).mono ?_; rintro e w6 ⟨rfl, hb6⟩; have HB6 := Lib.hid (HB.out.below hb6); clear p0 p1 p2 g0 g1 fg0 fg1 lp lg lo; obtain ⟨p0, p1, p2⟩ := cells3 HB6.out.hP; obtain ⟨g0, g1⟩ := cells2 HB6.out.hA; have fg0 := fr_of HB6.out.hA 0; have fg1 := fr_of HB6.out.hA 1; have lp := lt_of HB6.out.hP; have lg := lt_of HB6.out.hA; have lo := HB6.out.ltO; clear hb6)
                go_at_call 132
                refine (sl2step_any _ _ ⟨ni, k, code⟩ st.pc st.regs x 0 _ ⟨_, rfl, HC.out.below (by first | exact HB6.out.hB | exact Below.toDraw HB6.out.hB _)⟩ ⟨_, rfl, by first | exact (fam_regs HB6.out.hF).sl | exact ((fam_regs HB6.out.hF).below (below_drewN _ _)).sl⟩ HOK.out HX.out H11.out HG.out.len HG.out.regs).mono ?_
                rintro e w8 ⟨r', rc', rfl, ho8, hb8⟩
                have hc8 : Below w6.heap.size w6 w8 := (by first | exact hb8 | exact (below_drewN w6 _).trans (hb8.mono (below_drewN w6 _).size))
                have HO8 := Lib.hid (show Own w6.heap.size w8 (.slice (some ⟨r', 0, none⟩) 4 rc') (regsI x st.regs 0) from ho8)
                have HC8 := Lib.hid hc8
                have HB8 := Lib.hid (HB6.out.below hc8)
                clear p0 p1 p2 g0 g1 fg0 fg1 lp lg lo
                obtain ⟨p0, p1, p2⟩ := cells3 HB8.out.hP
                obtain ⟨g0, g1⟩ := cells2 HB8.out.hA
                have fg0 := fr_of HB8.out.hA 0
                have fg1 := fr_of HB8.out.hA 1
                have lp := lt_of HB8.out.hP
                have lg := lt_of HB8.out.hA
                have lo := HB8.out.ltO
                clear ho8 hb8 hc8
                go_wp2_with fail
                have RN := Lib.hid (HB6.out.next HC8.out HO8.out (pcI x st.regs st.pc))
                go_roundw
                case rel =>
                  refine ⟨n, stepS x inp st, us, r', rc', by go_num, by omega, HUS, HN1, HG1, ?_⟩
                  rw [HSP.out]
                  refine Lib.hid ?_
                  show RB w _ GA B _ (((pcI x st.regs st.pc).toNat : Nat) : Int) _ _ _ _ _ _ _
                  rw [Int.toNat_of_nonneg HPC.out]
                  exact RN.out.below ((Below.refl _ _).al _)
                case measure => first | (simp [intOf]; done) | (simp [intOf]; omega)
end Go.Proofs.Ytjphamgkigekkaa
