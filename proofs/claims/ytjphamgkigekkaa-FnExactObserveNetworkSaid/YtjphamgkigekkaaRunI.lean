/-
  What the program's RunProcess leaves. No statement of the seat is proved here.
-/
import Derived.Test.YtjphamgkigekkaaFamX
import Derived.Deep.Cut
import Derived.Deep.RegionHeld3
import Derived.Deep.AppendLies
namespace Go.Proofs.Ytjphamgkigekkaa
open Go.RowKit

def startS (ins outs : Nat) : St := ⟨0, [0, 0, 0, 0], List.replicate outs [], List.replicate ins 0⟩
def OutO (lo : Nat) (w : World) (v u : Value) (outs : List (List Int)) (used : List Int) : Prop :=
  ∃ (us : List Value) (B : Nat), v = .slice (some ⟨B, 0, none⟩) us.length us.length ∧ lo ≤ B ∧ w.heap[B]? = some (.cells us.toArray 46) ∧ Fam lo w (us ++ [u]) (outs ++ [used])
theorem row_heap {w : World} {lo g n T : Nat} {L : List Value} (h : w.ownsRow lo T 1 (.slice (some ⟨g, 0, none⟩) n n) n L) : w.heap[g]? = some (.cells L.toArray T) := by
  rcases h.2 with ⟨h', _⟩ | ⟨g', cap', cur, h', hb, hg, hnc, hcm, hcs, htake⟩
  · simp at h'
  · simp only [Value.slice.injEq, Option.some.injEq, Addr.mk.injEq, and_true, true_and] at h'
    obtain ⟨rfl, rfl⟩ := h'
    rw [hg, ← htake, List.take_of_length_le (by simp [hcs])]
theorem fam_start {lo : Nat} {w : World} {uv rv : Value} {n : Nat} {used regs : List Int} (hu : Own lo w uv used) (hr : Own lo w rv regs) (ha : Apart uv rv) :
    Fam lo w (List.replicate n (.slice none 0 0) ++ [uv, rv]) (List.replicate n [] ++ [used, regs]) := by
  refine ⟨by simp, ?_, ?_⟩
  · intro i u xs h1 h2
    by_cases hi : i < n
    · rw [List.getElem?_append_left (by simpa using hi), List.getElem?_replicate, if_pos hi] at h1 h2
      obtain rfl := Option.some.inj h1
      obtain rfl := Option.some.inj h2
      exact own_nil _ _
    · rw [List.getElem?_append_right (by simp; omega)] at h1 h2
      simp only [List.length_replicate] at h1 h2
      rcases e : i - n with _ | _ | q
      · rw [e] at h1 h2; simp at h1 h2; subst h1; subst h2; exact hu
      · rw [e] at h1 h2; simp at h1 h2; subst h1; subst h2; exact hr
      · rw [e] at h1; simp at h1
  · intro i j u u' h1 h2 hij
    have nilOr : ∀ (i : Nat) (u : Value), (List.replicate n (Value.slice none 0 0) ++ [uv, rv])[i]? = some u → (i < n ∧ u = .slice none 0 0) ∨ (i = n ∧ u = uv) ∨ (i = n + 1 ∧ u = rv) := by
      intro i u h
      by_cases hi : i < n
      · rw [List.getElem?_append_left (by simpa using hi), List.getElem?_replicate, if_pos hi] at h
        exact .inl ⟨hi, (Option.some.inj h).symm⟩
      · rw [List.getElem?_append_right (by simp; omega)] at h
        simp only [List.length_replicate] at h
        rcases e : i - n with _ | _ | q
        · rw [e] at h; simp at h; exact .inr (.inl ⟨by omega, h.symm⟩)
        · rw [e] at h; simp at h; exact .inr (.inr ⟨by omega, h.symm⟩)
        · rw [e] at h; simp at h
    rcases nilOr i u h1 with ⟨_, rfl⟩ | ⟨e1, rfl⟩ | ⟨e1, rfl⟩
    · exact .inl rfl
    · rcases nilOr j u' h2 with ⟨_, rfl⟩ | ⟨e2, rfl⟩ | ⟨e2, rfl⟩
      · by_cases q : u.ownBlock = none
        · exact .inl q
        · exact .inr (by simpa [Value.ownBlock] using q)
      · omega
      · exact ha
    · rcases nilOr j u' h2 with ⟨_, rfl⟩ | ⟨e2, rfl⟩ | ⟨e2, rfl⟩
      · by_cases q : u.ownBlock = none
        · exact .inl q
        · exact .inr (by simpa [Value.ownBlock] using q)
      · exact ha.symm
      · omega

theorem start_good {ni no : Nat} {code : List Ins} {inp : List (List Int)} (_hok : okP ⟨ni, no, code⟩ = true) : GoodS ⟨ni, no, code⟩ inp (startS ni no) := by
  refine ⟨Nat.zero_le _, rfl, (show isS [0, 0, 0, 0] = true by decide), ?_, ?_, ?_, ?_⟩
  · show ((List.replicate no ([] : List Int)).length : Int) = no
    rw [List.length_replicate]
  · show ((List.replicate ni (0 : Int)).length : Int) = ni
    rw [List.length_replicate]
  · intro i xs h
    change (List.replicate no ([] : List Int))[i]? = some xs at h
    have := List.mem_of_getElem? h
    rw [List.eq_of_mem_replicate this]
    decide
  · intro i u h
    change (List.replicate ni (0 : Int))[i]? = some u at h
    have := List.mem_of_getElem? h
    rw [List.eq_of_mem_replicate this]
    omega

theorem blk_ne {w : World} {a b T S : Nat} {c d : Array Value} (h1 : w.heap[a]? = some (.cells c T)) (h2 : w.heap[b]? = some (.cells d S)) (hT : T ≠ S) : a ≠ b := by
  intro e
  subst e
  rw [h1] at h2
  simp at h2
  exact hT h2.2
theorem step_plain {x : Ins} {inp : List (List Int)} {st : St} (h1 : x.op ≠ 1) (h2 : x.op ≠ 2) : stepS x inp st = ⟨(pcI x st.regs st.pc).toNat, regsI x st.regs 0, st.outs, st.used⟩ := by
  unfold stepS tokS
  rw [if_neg h1, if_neg h2, if_neg h1]
theorem fam_regs {lo : Nat} {w : World} {us : List Value} {uv rv : Value} {outs : List (List Int)} {used regs : List Int} (h : Fam lo w (us ++ [uv, rv]) (outs ++ [used, regs])) : Own lo w rv regs := by
  have hl := h.len
  simp only [List.length_append, List.length_cons, List.length_nil] at hl
  refine h.own (us.length + 1) rv regs ?_ ?_
  · rw [List.getElem?_append_right (by omega)]; simp
  · rw [show us.length = outs.length by omega, List.getElem?_append_right (by omega)]; simp
theorem fam_out {lo : Nat} {w : World} {us : List Value} {uv rv u : Value} {outs : List (List Int)} {used regs : List Int} {q : Nat} (h : Fam lo w (us ++ [uv, rv]) (outs ++ [used, regs])) (hu : us[q]? = some u) : Own lo w u (outs.getD q []) := by
  have hl := h.len
  simp only [List.length_append, List.length_cons, List.length_nil] at hl
  have hq := (List.getElem?_eq_some_iff.1 hu).1
  refine h.own q u _ (by rw [List.getElem?_append_left hq]; exact hu) ?_
  rw [List.getElem?_append_left (by omega), List.getD_eq_getElem?_getD, List.getElem?_eq_getElem (by omega)]
  rfl
theorem fam_outS {lo : Nat} {w : World} {us : List Value} {uv rv u : Value} {outs : List (List Int)} {used regs : List Int} {q : Nat} {p : Prg} {inp : List (List Int)} {st : St} (h : Fam lo w (us ++ [uv, rv]) (outs ++ [used, regs])) (hg : GoodS p inp st) (hu : us[q]? = some u) (he : st.outs = outs := by rfl) : isS (st.outs.getD q []) = true := by
  subst he
  have hl := h.len
  simp only [List.length_append, List.length_cons, List.length_nil] at hl
  have hq := (List.getElem?_eq_some_iff.1 hu).1
  refine hg.outs q _ ?_
  rw [List.getD_eq_getElem?_getD, List.getElem?_eq_getElem (show q < st.outs.length by omega)]
  rfl
theorem beq400 (ul : Nat) : ((ul : Int) == 400) = decide (ul = 400) := by
  by_cases q : ul = 400
  · subst q; rfl
  · rw [decide_eq_false q, beq_eq_false_iff_ne]; omega
theorem app_keep {w8 w9 : World} {lo g T : Nat} {u : Value} {xs : List Int} {cs : Array Value} {L : Obj} (h : w8.heap[g]? = some (.cells cs T)) (hT : T ≠ 3) (hou : Own lo w8 u xs) (hg : (w8.alloc L).grownBy w9 u.ownBlock) : w9.heap[g]? = some (.cells cs T) := by
  have lg := lt_of h
  rw [hg.block g (by simp; omega) (own_blk_ne hou h hT), Below.heap_alloc _ _ _ lg]
  exact h
theorem write_rel {w w8 w9 : World} {ga r rc B P0 q : Nat} {us : List Value} {uv u v' : Value} {outs : List (List Int)} {used regs : List Int} {n : Int} {ca cp : Array Value} {L : Obj} (hA : w8.heap[ga]? = some (.cells ca 98)) (hO : w8.heap[B]? = some (.cells us.toArray 46))
    (hF : Fam w.heap.size w8 (us ++ [uv, .slice (some ⟨r, 0, none⟩) 4 rc]) (outs ++ [used, regs])) (hP : w8.heap[P0]? = some (.cells cp 86)) (hB : Below w.heap.size w w8) (hu : us[q]? = some u) (lB : w.heap.size ≤ B)
    (hown : Own w.heap.size w9 v' (outs.getD q [] ++ [n])) (hg : (w8.alloc L).grownBy w9 u.ownBlock) (hat : v'.ownBlock = u.ownBlock ∨ v'.ownBlock = some (w8.heap.size + 1)) :
    (w9.setCell ⟨B, q, none⟩ v').heap[ga]? = some (.cells ca 98) ∧ (w9.setCell ⟨B, q, none⟩ v').heap[B]? = some (.cells (us.set q v').toArray 46) ∧
    Fam w.heap.size (w9.setCell ⟨B, q, none⟩ v') (us.set q v' ++ [uv, .slice (some ⟨r, 0, none⟩) 4 rc]) (outs.set q (outs.getD q [] ++ [n]) ++ [used, regs]) ∧
    (w9.setCell ⟨B, q, none⟩ v').heap[P0]? = some (.cells cp 86) ∧ Below w.heap.size w (w9.setCell ⟨B, q, none⟩ v') := by
  have hou := fam_out hF hu
  have hl := hF.len
  simp only [List.length_append, List.length_cons, List.length_nil] at hl
  have hq := (List.getElem?_eq_some_iff.1 hu).1
  have kb : ∀ (g T : Nat) (cs : Array Value), w8.heap[g]? = some (.cells cs T) → T ≠ 3 → w9.heap[g]? = some (.cells cs T) := by
    intro g T cs h hT
    have lg := lt_of h
    rw [hg.block g (by simp; omega) (own_blk_ne hou h hT), Below.heap_alloc _ _ _ lg]
    exact h
  have hB9 := kb B _ _ hO (by decide)
  refine ⟨setR_blk (kb ga _ _ hA (by decide)) (blk_ne hA hO (by decide)) _, ?_, ?_, setR_blk (kb P0 _ _ hP (by decide)) (blk_ne hP hO (by decide)) _, ?_⟩
  · rw [heap_setCell_same w9 B q us.toArray _ v' hB9]; simp
  · have F9 := hF.upd (w' := w9) (j := q) (u := u) (u' := v') (xs' := outs.getD q [] ++ [n]) (by rw [List.getElem?_append_left hq]; exact hu)
      (fun v xs hv ha => World.ownsRow.kept (World.ownsRow.alloc hv L) hg ha) hown (by
        rcases hat with h | h
        · exact .inl h
        · exact .inr (fun k e => by rw [h] at e; simp at e; omega))
    rw [List.set_append, if_pos hq, List.set_append, if_pos (by omega)] at F9
    exact F9.setB hB9 (by decide) v'
  · exact ((hB.alloc hB.size L).grown hg (by have := hB.size; simp; omega) (fun k e => (hou.lt k e).1)).setCell lB _
theorem write_rel2 {w w8 w9 : World} {ga r rc B P0 q g gc no m : Nat} {us : List Value} {uv u : Value} {outs : List (List Int)} {used regs : List Int} {n : Int} {ca cp : Array Value} {L : Obj} (hA : w8.heap[ga]? = some (.cells ca 98)) (hO : w8.heap[B]? = some (.cells us.toArray 46))
    (hF : Fam w.heap.size w8 (us ++ [uv, .slice (some ⟨r, 0, none⟩) 4 rc]) (outs ++ [used, regs])) (hP : w8.heap[P0]? = some (.cells cp 86)) (hB : Below w.heap.size w w8) (hu : us[q]? = some u) (lB : w.heap.size ≤ B)
    (hown : w9.ownsRow w.heap.size 3 1 (.slice (some ⟨g, 0, none⟩) m gc) m (vals (outs.getD q []) ++ [.int .i64 n])) (hg : ((World.drew w8).alloc L).grownBy w9 u.ownBlock) (hat : u.ownBlock = some g ∨ g = w8.heap.size + 1) (hm : m = (outs.getD q []).length + 1 := by rfl) (_hn : no = no := rfl) :
    (w9.setCell ⟨B, q, none⟩ (.slice (some ⟨g, 0, none⟩) m gc)).heap[ga]? = some (.cells ca 98) ∧ (w9.setCell ⟨B, q, none⟩ (.slice (some ⟨g, 0, none⟩) m gc)).heap[B]? = some (.cells (us.set q (.slice (some ⟨g, 0, none⟩) m gc)).toArray 46) ∧
    Fam w.heap.size (w9.setCell ⟨B, q, none⟩ (.slice (some ⟨g, 0, none⟩) m gc)) (us.set q (.slice (some ⟨g, 0, none⟩) m gc) ++ [uv, .slice (some ⟨r, 0, none⟩) 4 rc]) (outs.set q (outs.getD q [] ++ [n]) ++ [used, regs]) ∧
    (w9.setCell ⟨B, q, none⟩ (.slice (some ⟨g, 0, none⟩) m gc)).heap[P0]? = some (.cells cp 86) ∧ Below w.heap.size w (w9.setCell ⟨B, q, none⟩ (.slice (some ⟨g, 0, none⟩) m gc)) := by
  refine write_rel (w8 := World.drew w8) hA hO (hF.below (Below.refl _ _).drew) hP hB.drew hu lB ?_ hg ?_
  · unfold Own
    rw [List.length_append, show vals (outs.getD q [] ++ [n]) = vals (outs.getD q []) ++ [.int .i64 n] by simp [vals]]
    subst hm
    exact hown
  · rcases hat with h | h
    · exact .inl h.symm
    · exact .inr (by rw [h]; rfl)
theorem beqN (m n : Nat) : ((m : Int) == (n : Int)) = decide (m = n) := by
  by_cases q : m = n
  · subst q; simp
  · rw [decide_eq_false q, beq_eq_false_iff_ne]; omega
theorem own_lt {lo : Nat} {w : World} {v : Value} {xs : List Int} {k : Nat} (h : Own lo w v xs) (e : v.ownBlock = some k) : k < w.heap.size := (h.lt k e).2
theorem fam_usedO {lo : Nat} {w : World} {us : List Value} {uv rv : Value} {outs : List (List Int)} {used regs : List Int} (h : Fam lo w (us ++ [uv, rv]) (outs ++ [used, regs])) : Own lo w uv used := by
  have hl := h.len
  simp only [List.length_append, List.length_cons, List.length_nil] at hl
  refine h.own us.length uv used ?_ ?_
  · rw [List.getElem?_append_right (Nat.le_refl _)]; simp
  · rw [show us.length = outs.length by omega, List.getElem?_append_right (Nat.le_refl _)]; simp
theorem fam_used {lo U n : Nat} {w : World} {us : List Value} {rv : Value} {outs : List (List Int)} {used regs : List Int} (h : Fam lo w (us ++ [.slice (some ⟨U, 0, none⟩) n n, rv]) (outs ++ [used, regs])) (hn : used.length = n) (q : Nat) (hq : q < n) :
    w.cell? ⟨U, q, none⟩ = some (.int .i64 (rg used (q : Int))) ∧ w.frozen? ⟨U, q, none⟩ = false := by
  have ho := fam_usedO h
  unfold Own at ho
  rw [hn] at ho
  refine ⟨?_, ho.frozenAt q⟩
  rw [ho.cellAt q (by omega)]
  unfold rg vals
  rw [Int.toNat_natCast, List.getElem?_map, List.getElem?_eq_getElem (by omega)]
  simp [List.getD, show q < used.length by omega]
theorem exec_rel {w w6 w8 : World} {ga r rc B P0 : Nat} {us : List Value} {uv : Value} {outs : List (List Int)} {used regs regs' : List Int} {ca cp : Array Value} (hA : w6.heap[ga]? = some (.cells ca 98)) (hO : w6.heap[B]? = some (.cells us.toArray 46))
    (hF : Fam w.heap.size w6 (us ++ [uv, .slice (some ⟨r, 0, none⟩) 4 rc]) (outs ++ [used, regs])) (hP : w6.heap[P0]? = some (.cells cp 86)) (hB : Below w.heap.size w w6) (h2 : Two ga r w6 w8) (hr8 : Own w.heap.size w8 (.slice (some ⟨r, 0, none⟩) 4 rc) regs')
    (lga : w.heap.size ≤ ga) (lr : w.heap.size ≤ r) :
    w8.heap[B]? = some (.cells us.toArray 46) ∧ Fam w.heap.size w8 (us ++ [uv, .slice (some ⟨r, 0, none⟩) 4 rc]) (outs ++ [used, regs']) ∧ w8.heap[P0]? = some (.cells cp 86) ∧ Below w.heap.size w w8 := by
  have hrr : ∃ cr, w6.heap[r]? = some (.cells cr 3) := by
    rcases (fam_regs hF).2 with ⟨h', _⟩ | ⟨g', cap', cur, h', hb, hg, rest⟩
    · simp at h'
    · simp only [Value.slice.injEq, Option.some.injEq, Addr.mk.injEq, and_true] at h'
      obtain ⟨rfl, _, _⟩ := h'
      exact ⟨cur, hg⟩
  obtain ⟨cr, hcr⟩ := hrr
  have hl := hF.len
  simp only [List.length_append, List.length_cons, List.length_nil] at hl
  refine ⟨h2.blk hO (blk_ne hO hA (by decide)) (blk_ne hO hcr (by decide)), ?_, h2.blk hP (blk_ne hP hA (by decide)) (blk_ne hP hcr (by decide)), h2.below hB hB.size lga lr⟩
  have := hF.two (j := us.length + 1) (xs' := regs') (by rw [List.getElem?_append_right (by omega)]; simp) hA (by decide) h2 hr8
  rwa [show (outs ++ [used, regs]).set (us.length + 1) regs' = outs ++ [used, regs'] by rw [show us.length = outs.length by omega, List.set_append, if_neg (by omega)]; simp] at this
theorem read_rel {w w6 : World} {ga U r rc B P0 q ni : Nat} {us : List Value} {outs : List (List Int)} {used regs : List Int} {n : Int} {ca cp : Array Value} (hA : w6.heap[ga]? = some (.cells ca 98)) (hO : w6.heap[B]? = some (.cells us.toArray 46))
    (hF : Fam w.heap.size w6 (us ++ [.slice (some ⟨U, 0, none⟩) ni ni, .slice (some ⟨r, 0, none⟩) 4 rc]) (outs ++ [used, regs])) (hP : w6.heap[P0]? = some (.cells cp 86)) (hB : Below w.heap.size w w6) (hn : used.length = ni) (_hg : ga ≠ U) (lU : w.heap.size ≤ U) :
    (w6.setCell ⟨U, q, none⟩ (.int .i64 n)).heap[ga]? = some (.cells ca 98) ∧ (w6.setCell ⟨U, q, none⟩ (.int .i64 n)).heap[B]? = some (.cells us.toArray 46) ∧
    Fam w.heap.size (w6.setCell ⟨U, q, none⟩ (.int .i64 n)) (us ++ [.slice (some ⟨U, 0, none⟩) ni ni, .slice (some ⟨r, 0, none⟩) 4 rc]) (outs ++ [used.set q n, regs]) ∧
    (w6.setCell ⟨U, q, none⟩ (.int .i64 n)).heap[P0]? = some (.cells cp 86) ∧ Below w.heap.size w (w6.setCell ⟨U, q, none⟩ (.int .i64 n)) := by
  have hou := fam_usedO hF
  have hl := hF.len
  simp only [List.length_append, List.length_cons, List.length_nil] at hl
  have ne : ∀ (g T : Nat) (cs : Array Value), w6.heap[g]? = some (.cells cs T) → T ≠ 3 → g ≠ U := fun g T cs h hT e => own_blk_ne hou h hT (by rw [e]; rfl)
  refine ⟨setR_blk hA (ne _ _ _ hA (by decide)) _, setR_blk hO (ne _ _ _ hO (by decide)) _, ?_, setR_blk hP (ne _ _ _ hP (by decide)) _, hB.setCell lU _⟩
  have ho : Own w.heap.size (w6.setCell ⟨U, q, none⟩ (.int .i64 n)) (.slice (some ⟨U, 0, none⟩) ni ni) (used.set q n) := by
    unfold Own at hou ⊢
    rw [hn] at hou
    have := (hou.stored q (.int .i64 n)).1
    rw [List.length_set, hn]
    have e : (vals used).set q (.int .i64 n) = vals (used.set q n) := by simp [vals, List.map_set]
    rwa [e] at this
  have F9 := hF.upd (w' := w6.setCell ⟨U, q, none⟩ (.int .i64 n)) (j := us.length) (u := .slice (some ⟨U, 0, none⟩) ni ni) (u' := .slice (some ⟨U, 0, none⟩) ni ni) (xs' := used.set q n) (by rw [List.getElem?_append_right (Nat.le_refl _)]; simp)
    (fun v xs hv ha => by
      refine ⟨hv.1, ?_⟩
      rcases hv.2 with hn' | ⟨k, cap, cur, rfl, hbb, hk, rest⟩
      · exact .inl hn'
      · refine .inr ⟨k, cap, cur, rfl, hbb, ?_, rest⟩
        rw [Below.heap_setCell _ _ _ _ (by
          show k ≠ U
          rcases ha with ha | ha
          · simp [Value.ownBlock] at ha
          · simpa [Value.ownBlock] using ha)]
        exact hk) ho (.inl rfl)
  have e1 : (us ++ [Value.slice (some ⟨U, 0, none⟩) ni ni, Value.slice (some ⟨r, 0, none⟩) 4 rc]).set us.length (Value.slice (some ⟨U, 0, none⟩) ni ni) = us ++ [Value.slice (some ⟨U, 0, none⟩) ni ni, Value.slice (some ⟨r, 0, none⟩) 4 rc] := by
    rw [List.set_append, if_neg (by omega)]; simp
  have e2 : (outs ++ [used, regs]).set us.length (used.set q n) = outs ++ [used.set q n, regs] := by
    rw [show us.length = outs.length by omega, List.set_append, if_neg (by omega)]; simp
  rw [e1, e2] at F9
  exact F9
theorem out_ret {w W : World} {lo B no : Nat} {us : List Value} {uv rv : Value} {outs : List (List Int)} {used regs : List Int} (hO : w.heap[B]? = some (.cells us.toArray 46)) (hF : Fam lo w (us ++ [uv, rv]) (outs ++ [used, regs]))
    (hb : Below w.heap.size w W) (hB : lo ≤ B) (hn : us.length = no) : OutO lo W (.slice (some ⟨B, 0, none⟩) no no) uv outs used := by
  subst hn
  refine ⟨us, B, rfl, hB, blk_in hO hb, ?_⟩
  have hF := hF.below hb
  have hl := hF.len
  simp only [List.length_append, List.length_cons, List.length_nil] at hl
  have pre : ∀ (α : Type) (l : List α) (a b : α) (i : Nat) (u : α), (l ++ [a])[i]? = some u → (l ++ [a, b])[i]? = some u := by
    intro α l a b i u h
    have hi := (List.getElem?_eq_some_iff.1 h).1
    simp only [List.length_append, List.length_cons, List.length_nil] at hi
    rw [show l ++ [a, b] = (l ++ [a]) ++ [b] by simp, List.getElem?_append_left (by simpa using hi)]
    exact h
  exact ⟨by simp; omega, fun i u xs h1 h2 => hF.own i u xs (pre _ _ _ _ _ _ h1) (pre _ _ _ _ _ _ h2), fun i j u u' h1 h2 hij => hF.apart i j u u' (pre _ _ _ _ _ _ h1) (pre _ _ _ _ _ _ h2) hij⟩

theorem outO_mono {lo lo' : Nat} {w : World} {v u : Value} {outs : List (List Int)} {used : List Int} (h : OutO lo w v u outs used) (hl : lo' ≤ lo) : OutO lo' w v u outs used := by
  obtain ⟨us, B, h1, h2, h3, h4⟩ := h
  exact ⟨us, B, h1, by omega, h3, h4.mono hl⟩
theorem outO_below {lo : Nat} {w W : World} {v u : Value} {outs : List (List Int)} {used : List Int} (h : OutO lo w v u outs used) (hb : Below w.heap.size w W) : OutO lo W v u outs used := by
  obtain ⟨us, B, h1, h2, h3, h4⟩ := h
  exact ⟨us, B, h1, h2, blk_in h3 hb, h4.below hb⟩
theorem outO_used {lo : Nat} {w : World} {v u : Value} {outs : List (List Int)} {used : List Int} (h : OutO lo w v u outs used) : ∃ a c, u = .slice a used.length c := by
  obtain ⟨us, B, _, _, _, h4⟩ := h
  have hl := h4.len
  simp only [List.length_append, List.length_cons, List.length_nil] at hl
  have := h4.own us.length u used (by rw [List.getElem?_append_right (Nat.le_refl _)]; simp) (by rw [show us.length = outs.length by omega, List.getElem?_append_right (Nat.le_refl _)]; simp)
  exact this.shape
theorem cells_ne {w : World} {a b : Nat} {c d : Array Value} {T S : Nat} (h1 : w.heap[a]? = some (.cells c T)) (h2 : w.heap[b]? = some (.cells d S)) (hT : T ≠ S) : a ≠ b := blk_ne h1 h2 hT
/-- A block of another type than actors and rows of ints is as it was behind a step. -/
theorem exec_keep {w6 w8 : World} {ga r rc K T lo : Nat} {ca ck : Array Value} {regs : List Int} (hA : w6.heap[ga]? = some (.cells ca 98)) (hr : Own lo w6 (.slice (some ⟨r, 0, none⟩) 4 rc) regs) (h2 : Two ga r w6 w8) (hK : w6.heap[K]? = some (.cells ck T)) (h1 : T ≠ 98) (h3 : T ≠ 3) :
    w8.heap[K]? = some (.cells ck T) := by
  have hrr : ∃ cr, w6.heap[r]? = some (.cells cr 3) := by
    rcases hr.2 with ⟨h', _⟩ | ⟨g', cap', cur, h', hb, hg, rest⟩
    · simp at h'
    · simp only [Value.slice.injEq, Option.some.injEq, Addr.mk.injEq, and_true] at h'
      obtain ⟨rfl, _, _⟩ := h'
      exact ⟨cur, hg⟩
  obtain ⟨cr, hcr⟩ := hrr
  exact h2.blk hK (blk_ne hK hA h1) (blk_ne hK hcr h3)
/-- The same behind a store into the row of what was used. -/
theorem read_keep {w6 : World} {K T U q lo n : Nat} {used : List Int} {v : Value} {ck : Array Value} (hou : Own lo w6 (.slice (some ⟨U, 0, none⟩) n n) used) (hK : w6.heap[K]? = some (.cells ck T)) (h3 : T ≠ 3) : (w6.setCell ⟨U, q, none⟩ v).heap[K]? = some (.cells ck T) :=
  setR_blk hK (fun e => own_blk_ne hou hK h3 (by rw [e]; rfl)) _
/-- The same behind an append to an output and its store. -/
theorem write_keep {w8 w9 : World} {K T B q lo : Nat} {u v' : Value} {xs : List Int} {ck cb : Array Value} {L : Obj} (hK : w8.heap[K]? = some (.cells ck T)) (h3 : T ≠ 3) (h4 : T ≠ 46) (hO : w8.heap[B]? = some (.cells cb 46)) (hou : Own lo w8 u xs) (hg : ((World.drew w8).alloc L).grownBy w9 u.ownBlock) :
    (w9.setCell ⟨B, q, none⟩ v').heap[K]? = some (.cells ck T) := setR_blk (app_keep (w8 := World.drew w8) hK h3 (hou.below (Below.refl _ _).drew) hg) (blk_ne hK hO h4) _
/-- What a return leaves: the rows, and two blocks of the results' type. -/
structure EndP (w W : World) (lo B R0 RX : Nat) (us : List Value) (uv rv : Value) (outs : List (List Int)) (used regs : List Int) : Prop where
  hO : W.heap[B]? = some (.cells us.toArray 46)
  hF : Fam lo W (us ++ [uv, rv]) (outs ++ [used, regs])
  h0 : ∃ c, W.heap[R0]? = some (.cells c 167)
  hx : ∃ c, W.heap[RX]? = some (.cells c 167)
  b0 : w.heap.size ≤ R0
  bx : w.heap.size ≤ RX
  hb : Below w.heap.size w W
theorem EndP.drew {w W : World} {lo B R0 RX : Nat} {us : List Value} {uv rv : Value} {outs : List (List Int)} {used regs : List Int} (h : EndP w W lo B R0 RX us uv rv outs used regs) (n : Nat) : EndP w (W.drewN n) lo B R0 RX us uv rv outs used regs :=
  ⟨h.hO, h.hF.below (below_drewN _ _), h.h0, h.hx, h.b0, h.bx, Below.toDraw h.hb _⟩
theorem cells_set {W : World} {R j : Nat} {T : Nat} {v : Value} (h : ∃ c, W.heap[R]? = some (.cells c T)) : ∃ c, (W.setCell ⟨R, j, none⟩ v).heap[R]? = some (.cells c T) := by
  obtain ⟨c, h⟩ := h
  exact ⟨_, heap_setCell_same W R j c _ v h⟩
theorem cells_off {W : World} {R Q j : Nat} {T : Nat} {v : Value} (h : ∃ c, W.heap[R]? = some (.cells c T)) (hn : R ≠ Q) : ∃ c, (W.setCell ⟨Q, j, none⟩ v).heap[R]? = some (.cells c T) := by
  obtain ⟨c, h⟩ := h
  exact ⟨c, setR_blk h hn _⟩
theorem EndP.setX {w W : World} {lo B R0 RX : Nat} {us : List Value} {uv rv : Value} {outs : List (List Int)} {used regs : List Int} (h : EndP w W lo B R0 RX us uv rv outs used regs) (hn : R0 ≠ RX) (j : Nat) (v : Value) : EndP w (W.setCell ⟨RX, j, none⟩ v) lo B R0 RX us uv rv outs used regs := by
  obtain ⟨c, hc⟩ := h.hx
  exact ⟨setR_blk h.hO (blk_ne h.hO hc (by decide)) _, h.hF.setB hc (by decide) v, cells_off h.h0 hn, cells_set h.hx, h.b0, h.bx, h.hb.setCell h.bx _⟩
theorem EndP.set0 {w W : World} {lo B R0 RX : Nat} {us : List Value} {uv rv : Value} {outs : List (List Int)} {used regs : List Int} (h : EndP w W lo B R0 RX us uv rv outs used regs) (hn : R0 ≠ RX) (j : Nat) (v : Value) : EndP w (W.setCell ⟨R0, j, none⟩ v) lo B R0 RX us uv rv outs used regs := by
  obtain ⟨c, hc⟩ := h.h0
  exact ⟨setR_blk h.hO (blk_ne h.hO hc (by decide)) _, h.hF.setB hc (by decide) v, cells_set h.h0, cells_off h.hx (fun e => hn e.symm), h.b0, h.bx, h.hb.setCell h.b0 _⟩
theorem EndP.out {w W : World} {lo B R0 RX no : Nat} {us : List Value} {uv rv : Value} {outs : List (List Int)} {used regs : List Int} (h : EndP w W lo B R0 RX us uv rv outs used regs) (hB : lo ≤ B) (hn : us.length = no) :
    OutO lo W (.slice (some ⟨B, 0, none⟩) no no) uv outs used := out_ret h.hO h.hF (Below.refl _ _) hB hn
theorem mkS (n : Nat) (h : n ≤ 3) (W : World) : (Instr.makeSlice 26 (.int .i64 (n : Int)) (.int .i64 (n : Int))).run Try.prog W = .ok (.slice (some ⟨W.heap.size, 0, none⟩) n n) (W.alloc (.cells (Array.replicate n (Value.slice none 0 0)) 46)) := by
  obtain ⟨is, hs0, hy0, hy1, hy2⟩ := infoS_parts
  have q := run_make (P := Try.prog) W 26 46 is (.slice none 0 0) Try.underlying26 hs0 hy0 .i64 .i64 n n (by omega) (Int.le_refl _) (by rw [hy2]; omega) (by omega)
  rw [q, hy1]
  simp only [Int.toNat_natCast]
  rw [Nat.mul_one, show madeCells (Value.slice none 0 0).cells n = Array.replicate n (Value.slice none 0 0) from by rw [← List.toArray_replicate, ← toList_madeCells_one (Value.slice none 0 0) n]; simp [Value.cells]]
theorem mkI (n : Nat) (h : n ≤ 3) (W : World) : (Instr.makeSlice 46 (.int .i64 (n : Int)) (.int .i64 (n : Int))).run Try.prog W = .ok (.slice (some ⟨W.heap.size, 0, none⟩) n n) (W.alloc (.cells (Array.replicate n (Value.int .i64 0)) 3)) := by
  obtain ⟨ii, hi0, hz0, hz1, hz2⟩ := info_parts info
  have q := run_make (P := Try.prog) W 46 3 ii (.int .i64 0) Try.underlying46 hi0 hz0 .i64 .i64 n n (by omega) (Int.le_refl _) (by rw [hz2]; omega) (by omega)
  rw [q, hz1]
  simp only [Int.toNat_natCast]
  rw [Nat.mul_one, show madeCells (Value.int .i64 0).cells n = Array.replicate n (Value.int .i64 0) from by rw [← List.toArray_replicate, ← toList_madeCells_one (Value.int .i64 0) n]; simp [Value.cells]]
theorem al_keep {w : World} {g : Nat} {o p : Obj} (h : w.heap[g]? = some p) : (w.alloc o).heap[g]? = some p := by
  obtain ⟨hl, _⟩ := Array.getElem?_eq_some_iff.1 h
  exact (Below.heap_alloc _ _ _ hl).trans h
theorem al_at {w : World} {g : Nat} (o : Obj) (h : w.heap.size = g) : (w.alloc o).heap[g]? = some o := by subst h; exact hp1 w o
theorem three (w : World) (o1 o2 o3 : Obj) : (((w.alloc o1).alloc o2).alloc o3).drew.heap[w.heap.size]? = some o1 ∧ (((w.alloc o1).alloc o2).alloc o3).drew.heap[w.heap.size + 1]? = some o2 ∧ (((w.alloc o1).alloc o2).alloc o3).drew.heap[w.heap.size + 2]? = some o3 ∧ Below w.heap.size w (((w.alloc o1).alloc o2).alloc o3).drew :=
  ⟨show (((w.alloc o1).alloc o2).alloc o3).heap[w.heap.size]? = some o1 from al_keep (al_keep (al_at o1 rfl)), show (((w.alloc o1).alloc o2).alloc o3).heap[w.heap.size + 1]? = some o2 from al_keep (al_at o2 (by simp)), show (((w.alloc o1).alloc o2).alloc o3).heap[w.heap.size + 2]? = some o3 from al_at o3 (by simp), (((Below.refl _ _).al _).al _).al _ |>.drew⟩
theorem row0 {lo g n : Nat} {W : World} (h : W.heap[g]? = some (.cells (List.replicate n (Value.int .i64 0)).toArray 3)) (hl : lo ≤ g) (hn : n ≤ 3) : Own lo W (.slice (some ⟨g, 0, none⟩) n n) (List.replicate n 0) := by
  unfold Own
  refine ⟨by simp [vals], .inr ⟨g, n, _, by rw [List.length_replicate], hl, h, by simp, by unfold maxLen; omega, by simp, by simp [vals]⟩⟩
/-- What region 1 leaves: the rows, and the struct that holds them. -/
structure StartP (w W : World) (BB UU RX ni no : Nat) (c : Value) : Prop where
  hx : W.heap[RX]? = some (.cells #[.slice (some ⟨BB, 0, none⟩) no no, .slice (some ⟨UU, 0, none⟩) ni ni, .int .i64 0, .int .i64 0] 167)
  hB : W.heap[BB]? = some (.cells (List.replicate no (Value.slice none 0 0)).toArray 46)
  hU : W.heap[UU]? = some (.cells (List.replicate ni (Value.int .i64 0)).toArray 3)
  hp : W.heap[w.heap.size]? = some (.cells #[.int .i64 ni, .int .i64 no, c] 86)
  hr : W.heap[w.heap.size + 1]? = some (.cells #[.slice none 0 0, .slice none 0 0, .int .i64 0, .int .i64 0] 167)
  hb : Below w.heap.size w W
  lb : w.heap.size + 2 ≤ BB
  lu : w.heap.size + 2 ≤ UU
  lx : w.heap.size + 2 ≤ RX
theorem set4 {w : World} {g T : Nat} {z0 z1 z2 z3 : Value} (h : w.heap[g]? = some (.cells #[z0, z1, z2, z3] T)) (a b c d : Value) : ((((w.setCell ⟨g, 0, none⟩ a).setCell ⟨g, 1, none⟩ b).setCell ⟨g, 2, none⟩ c).setCell ⟨g, 3, none⟩ d).heap[g]? = some (.cells #[a, b, c, d] T) := by
  rw [heap_setCell_same _ g 3 _ _ d (heap_setCell_same _ g 2 _ _ c (heap_setCell_same _ g 1 _ _ b (heap_setCell_same _ g 0 _ _ a h)))]
  simp
theorem start_fin {w W : World} {BB UU RX ni no : Nat} {c : Value} (hx : W.heap[RX]? = some (.cells #[.slice (some ⟨BB, 0, none⟩) no no, .slice (some ⟨UU, 0, none⟩) ni ni, .int .i64 0, .int .i64 0] 167)) (hB : W.heap[BB]? = some (.cells (Array.replicate no (Value.slice none 0 0)) 46))
    (hU : W.heap[UU]? = some (.cells (Array.replicate ni (Value.int .i64 0)) 3)) (hp : W.heap[w.heap.size]? = some (.cells #[.int .i64 ni, .int .i64 no, c] 86)) (hr : W.heap[w.heap.size + 1]? = some (.cells #[.slice none 0 0, .slice none 0 0, .int .i64 0, .int .i64 0] 167))
    (hb : Below w.heap.size w W) (lb : w.heap.size + 2 ≤ BB) (lu : w.heap.size + 2 ≤ UU) (lx : w.heap.size + 2 ≤ RX) : StartP w W BB UU RX ni no c := by
  rw [← List.toArray_replicate] at hB hU
  exact ⟨hx, hB, hU, hp, hr, hb, lb, lu, lx⟩
theorem start_rel {w W : World} {BB UU RX ni no : Nat} {c : Value} (hx : W.heap[RX]? = some (.cells #[.slice none 0 0, .slice none 0 0, .int .i64 0, .int .i64 0] 167)) (hB : W.heap[BB]? = some (.cells (Array.replicate no (Value.slice none 0 0)) 46))
    (hU : W.heap[UU]? = some (.cells (Array.replicate ni (Value.int .i64 0)) 3)) (hp : W.heap[w.heap.size]? = some (.cells #[.int .i64 ni, .int .i64 no, c] 86)) (hr : W.heap[w.heap.size + 1]? = some (.cells #[.slice none 0 0, .slice none 0 0, .int .i64 0, .int .i64 0] 167))
    (hb : Below w.heap.size w W) (lb : w.heap.size + 2 ≤ BB) (lu : w.heap.size + 2 ≤ UU) (lx : w.heap.size + 2 ≤ RX) :
    StartP w ((((W.setCell ⟨RX, 0, none⟩ (.slice (some ⟨BB, 0, none⟩) no no)).setCell ⟨RX, 1, none⟩ (.slice (some ⟨UU, 0, none⟩) ni ni)).setCell ⟨RX, 2, none⟩ (.int .i64 0)).setCell ⟨RX, 3, none⟩ (.int .i64 0)) BB UU RX ni no c := by
  rw [← List.toArray_replicate] at hB hU
  have k : ∀ (K T : Nat) (cs : Array Value), W.heap[K]? = some (.cells cs T) → K ≠ RX → ((((W.setCell ⟨RX, 0, none⟩ (.slice (some ⟨BB, 0, none⟩) no no)).setCell ⟨RX, 1, none⟩ (.slice (some ⟨UU, 0, none⟩) ni ni)).setCell ⟨RX, 2, none⟩ (.int .i64 0)).setCell ⟨RX, 3, none⟩ (.int .i64 0)).heap[K]? = some (.cells cs T) :=
    fun K T cs h hn => setR_blk (setR_blk (setR_blk (setR_blk h hn _) hn _) hn _) hn _
  exact ⟨set4 hx _ _ _ _, k _ _ _ hB (blk_ne hB hx (by decide)), k _ _ _ hU (blk_ne hU hx (by decide)), k _ _ _ hp (by omega), k _ _ _ hr (by omega),
    (((hb.setCell (by show _ ≤ RX; omega) _).setCell (by show _ ≤ RX; omega) _).setCell (by show _ ≤ RX; omega) _).setCell (by show _ ≤ RX; omega) _, lb, lu, lx⟩
/-- The port that is told in the end. -/
def portR (code : List Ins) (R : St × Int) : Int := if R.2 = 1 then 0 else portC code R.1.pc

set_option maxRecDepth 100000 in
set_option maxHeartbeats 40000000 in
theorem ialone_good (pv iv : Value) (ni no : Nat) (code : List Ins) (inp : List (List Int)) (f : Nat) (w : World) (hp : PrgV w pv ⟨ni, no, code⟩) (hi : SlR w iv inp) (hok : okP ⟨ni, no, code⟩ = true) (hs : areS inp ni = true) (hf : f ≤ 3000) :
    Calls Try.prog 154 #[pv, iv, .int .i64 f] w fun e w' => ∃ ov uv, e = .returned (.agg #[ov, uv, .int .i64 (runS code inp f (startS ni no)).2, .int .i64 (portR code (runS code inp f (startS ni no)))]) ∧
      OutO w.heap.size w' ov uv (runS code inp f (startS ni no)).1.outs (runS code inp f (startS ni no)).1.used ∧ Below w.heap.size w w' := by
  obtain ⟨c, rfl, hc⟩ := hp
  have HC := Lib.hid hc
  have HI := Lib.hid hi
  obtain ⟨ia, icap, rfl, _, _, _, hic⟩ := hi
  have HIC := Lib.hid hic
  clear hic
  have HOK := Lib.hid hok
  have HS := Lib.hid hs
  have hP := (okP_parts hok).1
  simp only [] at hP
  have HP := Lib.hid hP
  have hno : no ≤ 3 := by omega
  have hni : ni ≤ 3 := by omega
  clear hc hok hs hP
  have df0 : decide ((f : Int) < 0) = false := decide_eq_false (by omega)
  obtain ⟨R, hR⟩ : ∃ R, R = runS code inp f (startS ni no) := ⟨_, rfl⟩
  rw [← hR]
  have HR := Lib.hid hR
  clear hR
  go_enter Try.func154, Try.ntmps154
  go_upto_region 1 with fail
  generalize hw1 : (w.alloc (.cells #[.int .i64 (ni : Int), .int .i64 (no : Int), c] 86)).alloc (.cells #[.slice none 0 0, .slice none 0 0, .int .i64 0, .int .i64 0] 167) = w1
  have Q0 := Lib.hid (show w1.heap[w.heap.size]? = some (.cells #[.int .i64 (ni : Int), .int .i64 (no : Int), c] 86) by rw [← hw1]; exact hp21 _ _ _)
  have Q1 := Lib.hid (show w1.heap[w.heap.size + 1]? = some (.cells #[.slice none 0 0, .slice none 0 0, .int .i64 0, .int .i64 0] 167) by rw [← hw1]; exact hp2 _ _ _)
  have Q2 := Lib.hid (show Below w.heap.size w w1 by rw [← hw1]; exact ((Below.refl _ _).al _).al _)
  have Q3 := Lib.hid (show w1.heap.size = w.heap.size + 2 by rw [← hw1]; simp)
  clear hw1
  go_cut [7] from 14 (fun s7 wr => ∃ BB UU RX : Nat, s7 = .pointer (some ⟨RX, 0, none⟩) ∧ Hid (StartP w wr BB UU RX ni no c))
  case first =>
    have hm1 := mkS no hno
    have hm2 := mkI ni hni
    obtain ⟨p0, p1, p2⟩ := cells3 Q0.out
    have lp := lt_of Q0.out
    have K0 : ∀ o1 o2 o3, (((w1.alloc o1).alloc o2).alloc o3).cell? ⟨w.heap.size, 0, none⟩ = some (.int .i64 (ni : Int)) := fun o1 o2 o3 => ((three w1 o1 o2 o3).2.2.2.cell (p := ⟨w.heap.size, 0, none⟩) lp).trans p0
    have K1 : ∀ o1 o2 o3, (((w1.alloc o1).alloc o2).alloc o3).cell? ⟨w.heap.size, 1, none⟩ = some (.int .i64 (no : Int)) := fun o1 o2 o3 => ((three w1 o1 o2 o3).2.2.2.cell (p := ⟨w.heap.size, 1, none⟩) lp).trans p1
    go_region_held3 (fun w' => w'.cell? ⟨w.heap.size, 0, none⟩ = some (.int .i64 (ni : Int)) ∧ w'.cell? ⟨w.heap.size, 1, none⟩ = some (.int .i64 (no : Int))) (go_keep) (fail)
    all_goals
      go_wp2_with fail
      go_meet
      case rel =>
        have F := three w1
        have hs := Q3.out
        have k0 := fun (o1 o2 o3 : Obj) => blk_in Q0.out (F o1 o2 o3).2.2.2
        have k1 := fun (o1 o2 o3 : Obj) => blk_in Q1.out (F o1 o2 o3).2.2.2
        have kb := fun (o1 o2 o3 : Obj) => Q2.out.trans ((F o1 o2 o3).2.2.2.mono Q2.out.size)
        clear Q0 Q1 Q2 Q3 K0 K1 HC HI HIC
        first
        | with_reducible exact ⟨_, _, _, rfl, Lib.hid (start_fin (F _ _ _).2.2.1 (F _ _ _).1 (F _ _ _).2.1 (k0 _ _ _) (k1 _ _ _) (kb _ _ _) (by omega) (by omega) (by omega))⟩
        | with_reducible exact ⟨_, _, _, rfl, Lib.hid (start_fin (F _ _ _).2.2.1 (F _ _ _).2.1 (F _ _ _).1 (k0 _ _ _) (k1 _ _ _) (kb _ _ _) (by omega) (by omega) (by omega))⟩
        | with_reducible exact ⟨_, _, _, rfl, Lib.hid (start_fin (F _ _ _).1 (F _ _ _).2.1 (F _ _ _).2.2.1 (k0 _ _ _) (k1 _ _ _) (kb _ _ _) (by omega) (by omega) (by omega))⟩
        | with_reducible exact ⟨_, _, _, rfl, Lib.hid (start_fin (F _ _ _).1 (F _ _ _).2.2.1 (F _ _ _).2.1 (k0 _ _ _) (k1 _ _ _) (kb _ _ _) (by omega) (by omega) (by omega))⟩
        | with_reducible exact ⟨_, _, _, rfl, Lib.hid (start_fin (F _ _ _).2.1 (F _ _ _).1 (F _ _ _).2.2.1 (k0 _ _ _) (k1 _ _ _) (kb _ _ _) (by omega) (by omega) (by omega))⟩
        | with_reducible exact ⟨_, _, _, rfl, Lib.hid (start_fin (F _ _ _).2.1 (F _ _ _).2.2.1 (F _ _ _).1 (k0 _ _ _) (k1 _ _ _) (kb _ _ _) (by omega) (by omega) (by omega))⟩
        | with_reducible exact ⟨_, _, _, rfl, Lib.hid (start_rel (F _ _ _).2.2.1 (F _ _ _).1 (F _ _ _).2.1 (k0 _ _ _) (k1 _ _ _) (kb _ _ _) (by omega) (by omega) (by omega))⟩
        | with_reducible exact ⟨_, _, _, rfl, Lib.hid (start_rel (F _ _ _).2.2.1 (F _ _ _).2.1 (F _ _ _).1 (k0 _ _ _) (k1 _ _ _) (kb _ _ _) (by omega) (by omega) (by omega))⟩
        | with_reducible exact ⟨_, _, _, rfl, Lib.hid (start_rel (F _ _ _).1 (F _ _ _).2.1 (F _ _ _).2.2.1 (k0 _ _ _) (k1 _ _ _) (kb _ _ _) (by omega) (by omega) (by omega))⟩
        | with_reducible exact ⟨_, _, _, rfl, Lib.hid (start_rel (F _ _ _).1 (F _ _ _).2.2.1 (F _ _ _).2.1 (k0 _ _ _) (k1 _ _ _) (kb _ _ _) (by omega) (by omega) (by omega))⟩
        | with_reducible exact ⟨_, _, _, rfl, Lib.hid (start_rel (F _ _ _).2.1 (F _ _ _).1 (F _ _ _).2.2.1 (k0 _ _ _) (k1 _ _ _) (kb _ _ _) (by omega) (by omega) (by omega))⟩
        | with_reducible exact ⟨_, _, _, rfl, Lib.hid (start_rel (F _ _ _).2.1 (F _ _ _).2.2.1 (F _ _ _).1 (k0 _ _ _) (k1 _ _ _) (kb _ _ _) (by omega) (by omega) (by omega))⟩
        | trace_state
  case rest =>
  rename World => w4
  obtain ⟨BB, UU, RX, rfl, SP⟩ := hcut
  have HB4 := Lib.hid SP.out.hb
  have HBx4 := Lib.hid SP.out.hp
  have BO4 := Lib.hid SP.out.hB
  have OU := Lib.hid (row0 SP.out.hU (show w.heap.size ≤ UU from by have := SP.out.lu; omega) hni)
  have HW2 := Lib.hid (show w.heap.size ≤ BB by have := SP.out.lb; omega)
  obtain ⟨p0, p1, p2⟩ := cells3 HBx4.out
  have lp := lt_of HBx4.out
  go_wp2_with fail
  refine (inew_any _ ⟨ni, no, code⟩ _ ⟨_, rfl, HC.out.below HB4.out⟩).mono ?_
  rintro e w5 ⟨v', rfl, ⟨rv, rfl, hr⟩, hb5⟩
  have e0 : newActorR0 ⟨ni, no, code⟩ = ⟨0, [0, 0, 0, 0]⟩ := by unfold newActorR0; rw [HOK.out]; rfl
  rw [e0] at hr ⊢
  simp only [] at hr ⊢
  obtain ⟨r, rc, rfl, hrlo⟩ : ∃ r rc, rv = .slice (some ⟨r, 0, none⟩) 4 rc ∧ w4.heap.size ≤ r := by
    rcases hr.2 with ⟨_, h⟩ | ⟨g, cap, cur, h, hlo, _⟩
    · simp at h
    · exact ⟨g, cap, h, hlo⟩
  have HBx5 := Lib.hid (blk_in HBx4.out hb5)
  have BO5 := Lib.hid (blk_in BO4.out hb5)
  have RX5 := Lib.hid (blk_in SP.out.hx hb5)
  have R05 := Lib.hid (blk_in SP.out.hr hb5)
  obtain ⟨p0, p1, p2⟩ := cells3 HBx5.out
  have lp := lt_of HBx5.out
  have OU5 := Lib.hid (OU.out.below hb5)
  have HB5 := Lib.hid (HB4.out.trans (hb5.mono HB4.out.size))
  have HR5 := Lib.hid hr
  have HRL := Lib.hid hrlo
  have HUL := Lib.hid (show UU < w4.heap.size from lt_of SP.out.hU)
  have HS5 := Lib.hid hb5.size
  have HLU := Lib.hid (show w.heap.size ≤ UU from by have := SP.out.lu; omega)
  have HLX := Lib.hid (show w.heap.size + 2 ≤ RX from SP.out.lx)
  have HLU2 := Lib.hid (show w.heap.size + 2 ≤ UU from SP.out.lu)
  clear hr hb5 hrlo e0
  have FS := Lib.hid (fam_start (n := no) OU5.out (HR5.out.mono (lo' := w.heap.size) (by have := HB4.out.size; omega)) (.inr (by have := HRL.out; have := HUL.out; simp [Value.ownBlock]; omega)))
  have GS := Lib.hid (show GoodS ⟨ni, no, code⟩ inp (startS ni no) from start_good HOK.out)
  have hUlen : (List.replicate no (Value.slice none 0 0)).length = no := List.length_replicate
  have HA := Lib.hid (hp1 w5 (.cells #[.int .i64 0, .slice (some ⟨r, 0, none⟩) 4 rc] 98))
  go_wp2_with fail
  go_loopw [2] (fun s2 wr => ∃ (f' : Nat) (st : St) (us : List Value), s2 = .int .i64 f' ∧ f' ≤ 3000 ∧ us.length = no ∧ Hid (runS code inp f' st = R) ∧ Hid (GoodS ⟨ni, no, code⟩ inp st) ∧
    Hid (wr.heap[w5.heap.size]? = some (.cells #[.int .i64 st.pc, .slice (some ⟨r, 0, none⟩) 4 rc] 98)) ∧ Hid (wr.heap[BB]? = some (.cells us.toArray 46)) ∧
    Hid (Fam w.heap.size wr (us ++ [.slice (some ⟨UU, 0, none⟩) ni ni, .slice (some ⟨r, 0, none⟩) 4 rc]) (st.outs ++ [st.used, st.regs])) ∧
    Hid (wr.heap[w.heap.size]? = some (.cells #[.int .i64 ni, .int .i64 no, c] 86)) ∧ Hid (wr.heap[RX]? = some (.cells #[.slice (some ⟨BB, 0, none⟩) no no, .slice (some ⟨UU, 0, none⟩) ni ni, .int .i64 0, .int .i64 0] 167)) ∧ Hid (wr.heap[w.heap.size + 1]? = some (.cells #[.slice none 0 0, .slice none 0 0, .int .i64 0, .int .i64 0] 167)) ∧ Hid (Below w.heap.size w wr)) (fun s2 _ => (intOf s2).toNat)
  case atStart =>
    exact ⟨f, startS ni no, List.replicate no (.slice none 0 0), rfl, hf, hUlen, Lib.hid HR.out.symm, GS, HA,
      Lib.hid ((Below.heap_alloc _ _ _ (lt_of BO5.out)).trans BO5.out),
      Lib.hid (FS.out.below ((Below.refl _ _).al _)), Lib.hid ((Below.heap_alloc _ _ _ (lt_of HBx5.out)).trans HBx5.out), Lib.hid ((Below.heap_alloc _ _ _ (lt_of RX5.out)).trans RX5.out), Lib.hid ((Below.heap_alloc _ _ _ (lt_of R05.out)).trans R05.out), Lib.hid (HB5.out.al _)⟩
  case round =>
    obtain ⟨f', st, us, rfl, hf3, hus, HRun, HG, HAc, HOb, HF, HPb, HXb, HRb, HBw⟩ := hrel
    clear FS GS HA hUlen BO5 HBx5 OU5 HR5 BO4 HBx4 OU RX5 R05 SP p0 p1 p2 lp
    obtain ⟨p0, p1, p2⟩ := cells3 HPb.out
    obtain ⟨g0, g1⟩ := cells2 HAc.out
    have lp := lt_of HPb.out
    have lg := lt_of HAc.out
    have lo := lt_of HOb.out
    obtain ⟨x0, x1, x2, x3⟩ := cells4 HXb.out
    have lx := lt_of HXb.out
    have nRX : w.heap.size + 1 ≠ RX := by have := HLX.out; omega
    have nXR : ¬ RX = w.heap.size + 1 := fun e => nRX e.symm
    have nUP : ¬ UU = w.heap.size := by have := HLU2.out; omega
    have nPU : ¬ w.heap.size = UU := fun e => nUP e.symm
    obtain ⟨wt, hwt⟩ : ∃ z, z = wantC code st.pc := ⟨_, rfl⟩
    obtain ⟨pt, hpt⟩ : ∃ z, z = portC code st.pc := ⟨_, rfl⟩
    have WC := Lib.hid (fun (W : World) (hW : Below w.heap.size w W) => iwantat_any (.agg #[.int .i64 ni, .int .i64 no, c]) ⟨ni, no, code⟩ st.pc W ⟨_, rfl, HC.out.below hW⟩ ⟨Int.natCast_nonneg _, Int.ofNat_le.2 HG.out.pc⟩)
    simp only [Int.toNat_natCast] at WC
    rw [← hwt, ← hpt] at WC
    have HWT := Lib.hid hwt
    have HPT := Lib.hid hpt
    clear hwt hpt
    have CALL := Lib.hid (fun (W : World) (hW : Below w.heap.size w W) => WC.out W hW)
    clear WC
    by_cases w0 : wt = 0
    · subst w0
      have hst : stuckS code inp st = true := by unfold stuckS; rw [← HWT.out]; simp
      have hRv : R = (st, 0) := by
        rw [← HRun.out]
        cases f' with
        | zero => unfold runS; rw [if_pos hst, ← HWT.out]
        | succ n => unfold runS; rw [if_pos hst, ← HWT.out]
      have HOU := Lib.hid (show R.1 = st by rw [hRv])
      have HRS := Lib.hid (show R.2 = 0 by rw [hRv])
      have HRP := Lib.hid (show portR code R = pt by rw [hRv]; show (if (0 : Int) = 1 then 0 else portC code st.pc) = _; rw [if_neg (by decide)]; exact HPT.out.symm)
      clear hRv
      clear hst
      go_wp2_with (go_at_call 143; refine (CALL.out _ HBw.out).mono ?_; rintro e w6 ⟨rfl, hb6⟩; have hp6 := blk_in HPb.out hb6; have ha6 := blk_in HAc.out hb6; have ho6 := blk_in HOb.out hb6; obtain ⟨p0, p1, p2⟩ := cells3 hp6; obtain ⟨g0, g1⟩ := cells2 ha6; have lp := lt_of hp6; have lg := lt_of ha6; have lo := lt_of ho6; have HP6 := Lib.hid hp6; have HA6 := Lib.hid ha6; have HO6 := Lib.hid ho6; have hx6 := blk_in HXb.out hb6; have hr6 := blk_in HRb.out hb6; obtain ⟨x0, x1, x2, x3⟩ := cells4 hx6; have lx := lt_of hx6; have fx2 := fr_of hx6 2; have fx3 := fr_of hx6 3; obtain ⟨r0, r1, r2, r3⟩ := cells4 hr6; have lr := lt_of hr6; have fr0 := fr_of hr6 0; have fr1 := fr_of hr6 1; have fr2 := fr_of hr6 2; have fr3 := fr_of hr6 3; have HX6 := Lib.hid hx6; have HR6 := Lib.hid hr6; have HF6 := Lib.hid (HF.out.below hb6); have HB6 := Lib.hid (HBw.out.trans (hb6.mono HBw.out.size)); clear hb6 hp6 ha6 ho6 hx6 hr6)
      go_quiet (fail)
      go_wp2_with fail
      refine bodyPost_ret (v := .agg #[.slice (some ⟨BB, 0, none⟩) no no, .slice (some ⟨UU, 0, none⟩) ni ni, .int .i64 0, .int .i64 pt]) (by simp [results, Try.results154, go_sem, r0, r1, r2, r3]) rfl ⟨_, _, by rw [HRS.out, HRP.out], ?_, ?_⟩
      · rw [HOU.out]; exact EndP.out (EndP.set0 (EndP.set0 (EndP.set0 (EndP.set0 (EndP.setX (EndP.setX (EndP.drew ⟨HO6.out, HF6.out, ⟨_, HR6.out⟩, ⟨_, HX6.out⟩, by omega, by have := HLX.out; omega, HB6.out⟩ _) nRX _ _) nRX _ _) nRX _ _) nRX _ _) nRX _ _) nRX _ _) HW2.out hus
      · exact EndP.hb (EndP.set0 (EndP.set0 (EndP.set0 (EndP.set0 (EndP.setX (EndP.setX (EndP.drew ⟨HO6.out, HF6.out, ⟨_, HR6.out⟩, ⟨_, HX6.out⟩, by omega, by have := HLX.out; omega, HB6.out⟩ _) nRX _ _) nRX _ _) nRX _ _) nRX _ _) nRX _ _) nRX _ _)
    · obtain ⟨x, hx⟩ : ∃ x, code[st.pc]? = some x := by
        cases e : code[st.pc]? with
        | none => exact absurd (HWT.out.trans (by unfold wantC; rw [e])) w0
        | some x => exact ⟨x, rfl⟩
      have hwx := (wantC_at hx)
      have hxo := (okP_parts HOK.out).2 x (List.mem_of_getElem? hx)
      have hbd := of_decide_eq_true hxo
      simp only [] at hbd hxo
      have HX := Lib.hid hx
      have HXO := Lib.hid hxo
      have HWX := Lib.hid hwx
      have h11 : x.op ≠ 11 := fun e => w0 (by rw [HWT.out, hwx.1]; simp [wantI, e])
      have H11 := Lib.hid h11
      clear hx hxo hwx
      by_cases h1 : x.op = 1
      · have ew : wt = 2 := by rw [HWT.out, HWX.out.1]; unfold wantI; rw [if_neg h11, if_pos h1]
        have ep : pt = x.b := by rw [HPT.out, HWX.out.2]; unfold portI; rw [if_pos h1]
        obtain ⟨qb, hqb⟩ : ∃ q : Nat, x.b = q := ⟨x.b.toNat, by omega⟩
        have hqn : qb < ni := by omega
        have hin : inp.length = ni := by have := (areS_parts HS.out).1; omega
        rcases HIC.out with he | ⟨ib, ioff, rfl, hib, hic⟩
        · rw [he] at hin; simp at hin; omega
        · obtain ⟨xs, hxs⟩ : ∃ xs, inp[qb]? = some xs := ⟨_, List.getElem?_eq_getElem (by omega)⟩
          obtain ⟨iu, hiu, hsi⟩ := hic qb xs hxs
          obtain ⟨ta, tcap, rfl, _, _, _, htc⟩ := hsi
          have HUN := Lib.hid (show st.used.length = ni by have := HG.out.usedN; simp only [] at this; omega)
          have hxrow : row inp x.b = xs := by unfold row; rw [hqb, Int.toNat_natCast, List.getD_eq_getElem?_getD, hxs]; rfl
          have hub := HG.out.used qb (rg st.used (qb : Int)) (by unfold rg; rw [Int.toNat_natCast, List.getD_eq_getElem?_getD, List.getElem?_eq_getElem (by have := HUN.out; omega)]; rfl)
          rw [List.getD_eq_getElem?_getD, hxs] at hub
          simp only [Option.getD_some] at hub
          obtain ⟨m, hm⟩ : ∃ m : Nat, rg st.used (qb : Int) = m := ⟨(rg st.used (qb : Int)).toNat, by omega⟩
          obtain ⟨tl, htl⟩ : ∃ tl, tl = xs.length := ⟨_, rfl⟩
          have hxsS := (areS_parts HS.out).2 xs (List.mem_of_getElem? hxs)
          have htl4 : tl ≤ 400 := by rw [htl]; exact isS_len hxsS
          rw [← htl] at hiu
          rw [hm, ← htl] at hub
          have HM := Lib.hid hm
          have HIU := Lib.hid hiu
          have HTL := Lib.hid htl
          have HTC := Lib.hid htc
          have HXR := Lib.hid hxrow
          have hml : m ≤ tl := by omega
          have hstv : stuckS code inp st = decide (m = tl) := by unfold stuckS; rw [← HWT.out, ← HPT.out, ew, ep, hxrow, hqb, hm, ← htl, beqN]; simp
          subst ew
          rw [hqb] at ep
          subst ep
          clear w0 hic hxs hiu htc hub hm htl hxrow hxsS
          by_cases h4 : m = tl
          · have hst : stuckS code inp st = true := by rw [hstv]; exact decide_eq_true h4
            have d4 : ((m : Int) == (tl : Int)) = true := by simp; omega
            have hRv : R = (st, 2) := by
              rw [← HRun.out]
              cases f' with
              | zero => unfold runS; rw [if_pos hst, ← HWT.out]
              | succ n => unfold runS; rw [if_pos hst, ← HWT.out]
            have HOU := Lib.hid (show R.1 = st by rw [hRv])
            have HRS := Lib.hid (show R.2 = 2 by rw [hRv])
            have HRP := Lib.hid (show portR code R = (qb : Int) by rw [hRv]; show (if (2 : Int) = 1 then 0 else portC code st.pc) = _; rw [if_neg (by decide)]; exact HPT.out.symm)
            clear hRv
            clear hst hstv
            go_wp2_with (go_at_call 143; refine (CALL.out _ HBw.out).mono ?_; rintro e w6 ⟨rfl, hb6⟩; have hp6 := blk_in HPb.out hb6; have ha6 := blk_in HAc.out hb6; have ho6 := blk_in HOb.out hb6; obtain ⟨p0, p1, p2⟩ := cells3 hp6; obtain ⟨g0, g1⟩ := cells2 ha6; have lp := lt_of hp6; have lg := lt_of ha6; have lo := lt_of ho6; have HP6 := Lib.hid hp6; have HA6 := Lib.hid ha6; have HO6 := Lib.hid ho6; have hx6 := blk_in HXb.out hb6; have hr6 := blk_in HRb.out hb6; obtain ⟨x0, x1, x2, x3⟩ := cells4 hx6; have lx := lt_of hx6; have fx2 := fr_of hx6 2; have fx3 := fr_of hx6 3; obtain ⟨r0, r1, r2, r3⟩ := cells4 hr6; have lr := lt_of hr6; have fr0 := fr_of hr6 0; have fr1 := fr_of hr6 1; have fr2 := fr_of hr6 2; have fr3 := fr_of hr6 3; have HX6 := Lib.hid hx6; have HR6 := Lib.hid hr6; have HF6 := Lib.hid (HF.out.below hb6); have HB6 := Lib.hid (HBw.out.trans (hb6.mono HBw.out.size)); have cu := (fam_used HF6.out HUN.out qb (by omega)).1; rw [HM.out] at cu; have fu := (fam_used HF6.out HUN.out qb (by omega)).2; have lu := (own_lt (fam_usedO HF6.out) rfl); have ci := (HB6.out.cell (p := ⟨ib, ioff + qb, none⟩) hib).trans HIU.out; clear hb6 hp6 ha6 ho6 hx6 hr6)
            go_quiet (fail)
            go_wp2_with fail
            refine bodyPost_ret (v := .agg #[.slice (some ⟨BB, 0, none⟩) no no, .slice (some ⟨UU, 0, none⟩) ni ni, .int .i64 2, .int .i64 (qb : Int)]) (by simp [results, Try.results154, go_sem, r0, r1, r2, r3]) rfl ⟨_, _, by rw [HRS.out, HRP.out], ?_, ?_⟩
            · rw [HOU.out]; exact EndP.out (EndP.set0 (EndP.set0 (EndP.set0 (EndP.set0 (EndP.setX (EndP.setX (EndP.drew ⟨HO6.out, HF6.out, ⟨_, HR6.out⟩, ⟨_, HX6.out⟩, by omega, by have := HLX.out; omega, HB6.out⟩ _) nRX _ _) nRX _ _) nRX _ _) nRX _ _) nRX _ _) nRX _ _) HW2.out hus
            · exact EndP.hb (EndP.set0 (EndP.set0 (EndP.set0 (EndP.set0 (EndP.setX (EndP.setX (EndP.drew ⟨HO6.out, HF6.out, ⟨_, HR6.out⟩, ⟨_, HX6.out⟩, by omega, by have := HLX.out; omega, HB6.out⟩ _) nRX _ _) nRX _ _) nRX _ _) nRX _ _) nRX _ _) nRX _ _)
          · have hst : stuckS code inp st = false := by rw [hstv]; exact decide_eq_false h4
            have d4 : ((m : Int) == (tl : Int)) = false := by simp; omega
            by_cases hf0 : f' = 0
            · subst hf0
              have hRv : R = (st, 1) := by
                rw [← HRun.out]
                unfold runS; rw [if_neg (by rw [hst]; decide)]
              have HOU := Lib.hid (show R.1 = st by rw [hRv])
              have HRS := Lib.hid (show R.2 = 1 by rw [hRv])
              have HRP := Lib.hid (show portR code R = 0 by rw [hRv]; rfl)
              clear hRv
              clear hst hstv
              go_wp2_with (go_at_call 143; refine (CALL.out _ HBw.out).mono ?_; rintro e w6 ⟨rfl, hb6⟩; have hp6 := blk_in HPb.out hb6; have ha6 := blk_in HAc.out hb6; have ho6 := blk_in HOb.out hb6; obtain ⟨p0, p1, p2⟩ := cells3 hp6; obtain ⟨g0, g1⟩ := cells2 ha6; have lp := lt_of hp6; have lg := lt_of ha6; have lo := lt_of ho6; have HP6 := Lib.hid hp6; have HA6 := Lib.hid ha6; have HO6 := Lib.hid ho6; have hx6 := blk_in HXb.out hb6; have hr6 := blk_in HRb.out hb6; obtain ⟨x0, x1, x2, x3⟩ := cells4 hx6; have lx := lt_of hx6; have fx2 := fr_of hx6 2; have fx3 := fr_of hx6 3; obtain ⟨r0, r1, r2, r3⟩ := cells4 hr6; have lr := lt_of hr6; have fr0 := fr_of hr6 0; have fr1 := fr_of hr6 1; have fr2 := fr_of hr6 2; have fr3 := fr_of hr6 3; have HX6 := Lib.hid hx6; have HR6 := Lib.hid hr6; have HF6 := Lib.hid (HF.out.below hb6); have HB6 := Lib.hid (HBw.out.trans (hb6.mono HBw.out.size)); have cu := (fam_used HF6.out HUN.out qb (by omega)).1; rw [HM.out] at cu; have fu := (fam_used HF6.out HUN.out qb (by omega)).2; have lu := (own_lt (fam_usedO HF6.out) rfl); have ci := (HB6.out.cell (p := ⟨ib, ioff + qb, none⟩) hib).trans HIU.out; clear hb6 hp6 ha6 ho6 hx6 hr6)
              go_quiet (fail)
              go_wp2_with fail
              refine bodyPost_ret (v := .agg #[.slice (some ⟨BB, 0, none⟩) no no, .slice (some ⟨UU, 0, none⟩) ni ni, .int .i64 1, .int .i64 0]) (by simp [results, Try.results154, go_sem, r0, r1, r2, r3]) rfl ⟨_, _, by rw [HRS.out, HRP.out], ?_, ?_⟩
              · rw [HOU.out]; exact EndP.out (EndP.set0 (EndP.set0 (EndP.set0 (EndP.set0 (EndP.setX (EndP.drew ⟨HO6.out, HF6.out, ⟨_, HR6.out⟩, ⟨_, HX6.out⟩, by omega, by have := HLX.out; omega, HB6.out⟩ _) nRX _ _) nRX _ _) nRX _ _) nRX _ _) nRX _ _) HW2.out hus
              · exact EndP.hb (EndP.set0 (EndP.set0 (EndP.set0 (EndP.set0 (EndP.setX (EndP.drew ⟨HO6.out, HF6.out, ⟨_, HR6.out⟩, ⟨_, HX6.out⟩, by omega, by have := HLX.out; omega, HB6.out⟩ _) nRX _ _) nRX _ _) nRX _ _) nRX _ _) nRX _ _)
            · obtain ⟨n, rfl⟩ : ∃ n, f' = n + 1 := ⟨f' - 1, by omega⟩
              have HN1 := Lib.hid (show runS code inp n (stepS x inp st) = R by
                have := HRun.out
                unfold runS at this
                rw [if_neg (by rw [hst]; decide)] at this
                rwa [show insAt code st.pc = x by unfold insAt; rw [List.getD_eq_getElem?_getD, HX.out]; rfl] at this)
              have HG1 := Lib.hid (step_good (areS_parts HS.out).2 HG.out HX.out HXO.out (fun _ => by rw [HXR.out, hqb, HM.out, ← HTL.out]; omega) (fun e => by omega))
              have wn : wrap64 ((n : Int) + 1 - 1) = (n : Int) := by rw [show (n : Int) + 1 - 1 = n by omega]; exact IntWalk.wrap64_in _ (by omega)
              have dn : ((n : Int) + 1 == 0) = false := by simp; omega
              have wm : wrap64 ((m : Int) + 1) = (m : Int) + 1 := IntWalk.wrap64_in _ (by omega)
              have HPC := Lib.hid (pcI_bd HXO.out st.regs st.pc (by have := (List.getElem?_eq_some_iff.1 HX.out).1; show (st.pc : Int) + 1 ≤ (code.length : Int); omega)).1
              obtain ⟨tk, htk⟩ : ∃ z, z = xs.getD m 0 := ⟨_, rfl⟩
              have HSP := Lib.hid (show stepS x inp st = ⟨(pcI x st.regs st.pc).toNat, regsI x st.regs tk, st.outs, st.used.set qb ((m : Int) + 1)⟩ by
                have hh2 : x.op ≠ 2 := by omega
                unfold stepS tokS
                rw [if_pos h1, if_neg hh2, if_pos h1, HXR.out, hqb, Int.toNat_natCast, HM.out, htk]
                unfold rg
                rw [Int.toNat_natCast])
              clear hbd
              have hlt' : m < tl := Nat.lt_of_le_of_ne hml h4
              have hne : xs ≠ [] := fun he => by
                have h5 : tl = 0 := HTL.out.trans (by rw [he]; rfl)
                rw [h5] at hlt'
                exact Nat.not_lt_zero _ hlt'
              obtain ⟨tb, toff, hta, htb, htcell⟩ := HTC.out.resolve_left hne
              subst hta
              · have HTKC := Lib.hid (show w.cell? ⟨tb, toff + m, none⟩ = some (.int .i64 tk) by rw [htk]; exact htcell m (by rw [← HTL.out]; exact hlt'))
                have hml2 : m < tl := hlt'
                have im : (m : Int) < (tl : Int) := Int.ofNat_lt.2 hlt'
                clear hlt' hne
                have hqi : qb < inp.length := by rw [hin]; exact hqn
                have hqi2 : (qb : Int) < (inp.length : Int) := Int.ofNat_lt.2 hqi
                clear hin
                clear hst hstv hf0 h4 htcell htk hml
                go_wp2_with (go_at_call 143; refine (CALL.out _ HBw.out).mono ?_; rintro e w6 ⟨rfl, hb6⟩; have hp6 := blk_in HPb.out hb6; have ha6 := blk_in HAc.out hb6; have ho6 := blk_in HOb.out hb6; obtain ⟨p0, p1, p2⟩ := cells3 hp6; obtain ⟨g0, g1⟩ := cells2 ha6; have lp := lt_of hp6; have lg := lt_of ha6; have lo := lt_of ho6; have HP6 := Lib.hid hp6; have HA6 := Lib.hid ha6; have HO6 := Lib.hid ho6; have hx6 := blk_in HXb.out hb6; have hr6 := blk_in HRb.out hb6; obtain ⟨x0, x1, x2, x3⟩ := cells4 hx6; have lx := lt_of hx6; have fx2 := fr_of hx6 2; have fx3 := fr_of hx6 3; obtain ⟨r0, r1, r2, r3⟩ := cells4 hr6; have lr := lt_of hr6; have fr0 := fr_of hr6 0; have fr1 := fr_of hr6 1; have fr2 := fr_of hr6 2; have fr3 := fr_of hr6 3; have HX6 := Lib.hid hx6; have HR6 := Lib.hid hr6; have HF6 := Lib.hid (HF.out.below hb6); have HB6 := Lib.hid (HBw.out.trans (hb6.mono HBw.out.size)); have cu := (fam_used HF6.out HUN.out qb (by omega)).1; rw [HM.out] at cu; have fu := (fam_used HF6.out HUN.out qb (by omega)).2; have lu := (own_lt (fam_usedO HF6.out) rfl); have ct := (HB6.out.cell (p := ⟨tb, toff + m, none⟩) htb).trans HTKC.out; have ci := (HB6.out.cell (p := ⟨ib, ioff + qb, none⟩) hib).trans HIU.out; clear hb6 hp6 ha6 ho6 hx6 hr6)
                go_quiet (fail)
                go_wp2_with fail
                go_quiet (fail)
                go_wp2_with (go_at_call 162; have RR := fun (K : Nat) => read_rel (w6 := w6.drewN K) (q := qb) (n := (m : Int) + 1) HA6.out HO6.out (HF6.out.below (below_drewN w6 K)) HP6.out (Below.toDraw HB6.out K) HUN.out (by have := HUL.out; have := HS5.out; omega) HLU.out; refine (iexec_all w.heap.size w5.heap.size r rc _ ⟨ni, no, code⟩ st.pc x st.regs tk _ ⟨_, rfl, HC.out.below (RR _).2.2.2.2⟩ HOK.out HX.out H11.out (RR _).1 (fam_regs (RR _).2.2.1) HG.out.len HG.out.regs).mono ?_; rintro e w8 ⟨rfl, ha8, hr8, ht8⟩; have HA8 := Lib.hid ha8; have MK := Lib.hid (And.intro (exec_keep (RR _).1 (fam_regs (RR _).2.2.1) ht8 (read_keep (w6 := w6.drewN _) (fam_usedO (HF6.out.below (below_drewN w6 _))) HX6.out (by decide)) (by decide) (by decide)) (exec_keep (RR _).1 (fam_regs (RR _).2.2.1) ht8 (read_keep (w6 := w6.drewN _) (fam_usedO (HF6.out.below (below_drewN w6 _))) HR6.out (by decide)) (by decide) (by decide))); have M := Lib.hid (exec_rel (RR _).1 (RR _).2.1 (RR _).2.2.1 (RR _).2.2.2.1 (RR _).2.2.2.2 ht8 hr8 (by have := HB5.out.size; exact this) (by have := HB4.out.size; have := HRL.out; omega)); clear ha8 hr8 ht8 RR)
                go_wp2_with fail
                go_roundw
                case rel =>
                  refine ⟨n, stepS x inp st, us, by go_num, by omega, hus, HN1, HG1, ?_, Lib.hid M.out.1, ?_, Lib.hid M.out.2.2.1, Lib.hid MK.out.1, Lib.hid MK.out.2, Lib.hid M.out.2.2.2⟩
                  · rw [HSP.out]
                    have := HA8.out
                    rw [← Int.toNat_of_nonneg HPC.out] at this
                    exact Lib.hid this
                  · rw [HSP.out]; exact Lib.hid M.out.2.1
                case measure => first | (simp [intOf]; done) | (simp [intOf]; omega)
      · by_cases h2 : x.op = 2
        · have ew : wt = 3 := by rw [HWT.out, HWX.out.1]; unfold wantI; rw [if_neg h11, if_neg h1, if_pos h2]
          have ep : pt = x.b := by rw [HPT.out, HWX.out.2]; unfold portI; rw [if_neg h1, if_pos h2]
          obtain ⟨qb, hqb⟩ : ∃ q : Nat, x.b = q := ⟨x.b.toNat, by omega⟩
          have hqn : qb < no := by omega
          obtain ⟨u, hu⟩ : ∃ u, us[qb]? = some u := ⟨_, List.getElem?_eq_getElem (by omega)⟩
          have hou := fam_out HF.out hu
          obtain ⟨ua, uc, rfl⟩ := hou.shape
          obtain ⟨ul, hul⟩ : ∃ ul, ul = (st.outs.getD qb []).length := ⟨_, rfl⟩
          rw [← hul] at hu
          have HUQ := Lib.hid hu
          obtain ⟨G, hG⟩ : ∃ G, G = st.outs.getD qb [] := ⟨_, rfl⟩
          have HGG := Lib.hid hG
          have HUL := Lib.hid (show ul = G.length by rw [hG]; exact hul)
          clear hG
          have hul4 : ul ≤ 400 := by rw [hul]; exact isS_len (fam_outS HF.out HG.out hu)
          have hrow : (row st.outs x.b).length = ul := by unfold row; rw [hqb, Int.toNat_natCast, hul]
          have hstv : stuckS code inp st = decide (ul = 400) := by unfold stuckS; rw [← HWT.out, ← HPT.out, ew, ep, hrow, beq400]; simp
          subst ew
          rw [hqb] at ep
          subst ep
          clear w0 hou hu hul
          by_cases h4 : ul = 400
          · have hst : stuckS code inp st = true := by rw [hstv]; exact decide_eq_true h4
            have d4 : ((ul : Int) == 400) = true := by simp; omega
            have hRv : R = (st, 3) := by
              rw [← HRun.out]
              cases f' with
              | zero => unfold runS; rw [if_pos hst, ← HWT.out]
              | succ n => unfold runS; rw [if_pos hst, ← HWT.out]
            have HOU := Lib.hid (show R.1 = st by rw [hRv])
            have HRS := Lib.hid (show R.2 = 3 by rw [hRv])
            have HRP := Lib.hid (show portR code R = (qb : Int) by rw [hRv]; show (if (3 : Int) = 1 then 0 else portC code st.pc) = _; rw [if_neg (by decide)]; exact HPT.out.symm)
            clear hRv
            clear hst hstv
            go_wp2_with (go_at_call 143; refine (CALL.out _ HBw.out).mono ?_; rintro e w6 ⟨rfl, hb6⟩; have hp6 := blk_in HPb.out hb6; have ha6 := blk_in HAc.out hb6; have ho6 := blk_in HOb.out hb6; obtain ⟨p0, p1, p2⟩ := cells3 hp6; obtain ⟨g0, g1⟩ := cells2 ha6; have lp := lt_of hp6; have lg := lt_of ha6; have lo := lt_of ho6; have HP6 := Lib.hid hp6; have HA6 := Lib.hid ha6; have HO6 := Lib.hid ho6; have hx6 := blk_in HXb.out hb6; have hr6 := blk_in HRb.out hb6; obtain ⟨x0, x1, x2, x3⟩ := cells4 hx6; have lx := lt_of hx6; have fx2 := fr_of hx6 2; have fx3 := fr_of hx6 3; obtain ⟨r0, r1, r2, r3⟩ := cells4 hr6; have lr := lt_of hr6; have fr0 := fr_of hr6 0; have fr1 := fr_of hr6 1; have fr2 := fr_of hr6 2; have fr3 := fr_of hr6 3; have HX6 := Lib.hid hx6; have HR6 := Lib.hid hr6; have HF6 := Lib.hid (HF.out.below hb6); have HB6 := Lib.hid (HBw.out.trans (hb6.mono HBw.out.size)); have cu := cell_of ho6 qb; rw [show us.toArray[qb]? = some (.slice ua ul uc) by rw [List.getElem?_toArray]; exact HUQ.out] at cu; clear hb6 hp6 ha6 ho6 hx6 hr6)
            go_quiet (fail)
            go_wp2_with fail
            refine bodyPost_ret (v := .agg #[.slice (some ⟨BB, 0, none⟩) no no, .slice (some ⟨UU, 0, none⟩) ni ni, .int .i64 3, .int .i64 (qb : Int)]) (by simp [results, Try.results154, go_sem, r0, r1, r2, r3]) rfl ⟨_, _, by rw [HRS.out, HRP.out], ?_, ?_⟩
            · rw [HOU.out]; exact EndP.out (EndP.set0 (EndP.set0 (EndP.set0 (EndP.set0 (EndP.setX (EndP.setX (EndP.drew ⟨HO6.out, HF6.out, ⟨_, HR6.out⟩, ⟨_, HX6.out⟩, by omega, by have := HLX.out; omega, HB6.out⟩ _) nRX _ _) nRX _ _) nRX _ _) nRX _ _) nRX _ _) nRX _ _) HW2.out hus
            · exact EndP.hb (EndP.set0 (EndP.set0 (EndP.set0 (EndP.set0 (EndP.setX (EndP.setX (EndP.drew ⟨HO6.out, HF6.out, ⟨_, HR6.out⟩, ⟨_, HX6.out⟩, by omega, by have := HLX.out; omega, HB6.out⟩ _) nRX _ _) nRX _ _) nRX _ _) nRX _ _) nRX _ _) nRX _ _)
          · have hst : stuckS code inp st = false := by rw [hstv]; exact decide_eq_false h4
            have d4 : ((ul : Int) == 400) = false := by simp; omega
            by_cases hf0 : f' = 0
            · subst hf0
              have hRv : R = (st, 1) := by
                rw [← HRun.out]
                unfold runS; rw [if_neg (by rw [hst]; decide)]
              have HOU := Lib.hid (show R.1 = st by rw [hRv])
              have HRS := Lib.hid (show R.2 = 1 by rw [hRv])
              have HRP := Lib.hid (show portR code R = 0 by rw [hRv]; rfl)
              clear hRv
              clear hst hstv
              go_wp2_with (go_at_call 143; refine (CALL.out _ HBw.out).mono ?_; rintro e w6 ⟨rfl, hb6⟩; have hp6 := blk_in HPb.out hb6; have ha6 := blk_in HAc.out hb6; have ho6 := blk_in HOb.out hb6; obtain ⟨p0, p1, p2⟩ := cells3 hp6; obtain ⟨g0, g1⟩ := cells2 ha6; have lp := lt_of hp6; have lg := lt_of ha6; have lo := lt_of ho6; have HP6 := Lib.hid hp6; have HA6 := Lib.hid ha6; have HO6 := Lib.hid ho6; have hx6 := blk_in HXb.out hb6; have hr6 := blk_in HRb.out hb6; obtain ⟨x0, x1, x2, x3⟩ := cells4 hx6; have lx := lt_of hx6; have fx2 := fr_of hx6 2; have fx3 := fr_of hx6 3; obtain ⟨r0, r1, r2, r3⟩ := cells4 hr6; have lr := lt_of hr6; have fr0 := fr_of hr6 0; have fr1 := fr_of hr6 1; have fr2 := fr_of hr6 2; have fr3 := fr_of hr6 3; have HX6 := Lib.hid hx6; have HR6 := Lib.hid hr6; have HF6 := Lib.hid (HF.out.below hb6); have HB6 := Lib.hid (HBw.out.trans (hb6.mono HBw.out.size)); have cu := cell_of ho6 qb; rw [show us.toArray[qb]? = some (.slice ua ul uc) by rw [List.getElem?_toArray]; exact HUQ.out] at cu; clear hb6 hp6 ha6 ho6 hx6 hr6)
              go_quiet (fail)
              go_wp2_with fail
              refine bodyPost_ret (v := .agg #[.slice (some ⟨BB, 0, none⟩) no no, .slice (some ⟨UU, 0, none⟩) ni ni, .int .i64 1, .int .i64 0]) (by simp [results, Try.results154, go_sem, r0, r1, r2, r3]) rfl ⟨_, _, by rw [HRS.out, HRP.out], ?_, ?_⟩
              · rw [HOU.out]; exact EndP.out (EndP.set0 (EndP.set0 (EndP.set0 (EndP.set0 (EndP.setX (EndP.drew ⟨HO6.out, HF6.out, ⟨_, HR6.out⟩, ⟨_, HX6.out⟩, by omega, by have := HLX.out; omega, HB6.out⟩ _) nRX _ _) nRX _ _) nRX _ _) nRX _ _) nRX _ _) HW2.out hus
              · exact EndP.hb (EndP.set0 (EndP.set0 (EndP.set0 (EndP.set0 (EndP.setX (EndP.drew ⟨HO6.out, HF6.out, ⟨_, HR6.out⟩, ⟨_, HX6.out⟩, by omega, by have := HLX.out; omega, HB6.out⟩ _) nRX _ _) nRX _ _) nRX _ _) nRX _ _) nRX _ _)
            · obtain ⟨n, rfl⟩ : ∃ n, f' = n + 1 := ⟨f' - 1, by omega⟩
              have HN1 := Lib.hid (show runS code inp n (stepS x inp st) = R by
                have := HRun.out
                unfold runS at this
                rw [if_neg (by rw [hst]; decide)] at this
                rwa [show insAt code st.pc = x by unfold insAt; rw [List.getD_eq_getElem?_getD, HX.out]; rfl] at this)
              have HG1 := Lib.hid (step_good (areS_parts HS.out).2 HG.out HX.out HXO.out (fun e => absurd e h1) (fun _ => by rw [hrow]; omega))
              have wn : wrap64 ((n : Int) + 1 - 1) = (n : Int) := by rw [show (n : Int) + 1 - 1 = n by omega]; exact IntWalk.wrap64_in _ (by omega)
              have dn : ((n : Int) + 1 == 0) = false := by simp; omega
              have HPC := Lib.hid (pcI_bd HXO.out st.regs st.pc (by have := (List.getElem?_eq_some_iff.1 HX.out).1; show (st.pc : Int) + 1 ≤ (code.length : Int); omega)).1
              have HSP := Lib.hid (show stepS x inp st = ⟨(pcI x st.regs st.pc).toNat, regsI x st.regs 0, st.outs.set qb (G ++ [outI x st.regs]), st.used⟩ by
                rw [HGG.out]
                unfold stepS tokS
                rw [if_pos h2, if_neg h1, if_neg h1]
                unfold outI row
                rw [if_pos h2, hqb, Int.toNat_natCast])
              have HH4 := Lib.hid h4
              have HUL4 := Lib.hid hul4
              have HQN := Lib.hid hqn
              obtain ⟨ii, hi0, hz0, hz1, hz2⟩ := info_parts info
              clear hst hstv hf0 hbd hrow h4 hqb hul4
              go_wp2_with (go_at_call 143; refine (CALL.out _ HBw.out).mono ?_; rintro e w6 ⟨rfl, hb6⟩; have hp6 := blk_in HPb.out hb6; have ha6 := blk_in HAc.out hb6; have ho6 := blk_in HOb.out hb6; obtain ⟨p0, p1, p2⟩ := cells3 hp6; obtain ⟨g0, g1⟩ := cells2 ha6; have lp := lt_of hp6; have lg := lt_of ha6; have lo := lt_of ho6; have HP6 := Lib.hid hp6; have HA6 := Lib.hid ha6; have HO6 := Lib.hid ho6; have hx6 := blk_in HXb.out hb6; have hr6 := blk_in HRb.out hb6; obtain ⟨x0, x1, x2, x3⟩ := cells4 hx6; have lx := lt_of hx6; have fx2 := fr_of hx6 2; have fx3 := fr_of hx6 3; obtain ⟨r0, r1, r2, r3⟩ := cells4 hr6; have lr := lt_of hr6; have fr0 := fr_of hr6 0; have fr1 := fr_of hr6 1; have fr2 := fr_of hr6 2; have fr3 := fr_of hr6 3; have HX6 := Lib.hid hx6; have HR6 := Lib.hid hr6; have HF6 := Lib.hid (HF.out.below hb6); have HB6 := Lib.hid (HBw.out.trans (hb6.mono HBw.out.size)); have cu := cell_of ho6 qb; rw [show us.toArray[qb]? = some (.slice ua ul uc) by rw [List.getElem?_toArray]; exact HUQ.out] at cu; clear hb6 hp6 ha6 ho6 hx6 hr6)
              go_quiet (fail)
              go_wp2_with (go_at_call 162; refine (iexec_all w.heap.size w5.heap.size r rc _ ⟨ni, no, code⟩ st.pc x st.regs 0 _ ⟨_, rfl, HC.out.below (Below.toDraw HB6.out _)⟩ HOK.out HX.out H11.out HA6.out ((fam_regs HF6.out).below (below_drewN _ _)) HG.out.len HG.out.regs).mono ?_; rintro e w8 ⟨rfl, ha8, hr8, ht8⟩; have HT8 := Lib.hid ((Two.of_below (below_drewN w6 _)).trans ht8); have HA8 := Lib.hid ha8; have HR8 := Lib.hid hr8; clear ha8 hr8 ht8; have MK := Lib.hid (And.intro (exec_keep HA6.out (fam_regs HF6.out) HT8.out HX6.out (by decide) (by decide)) (exec_keep HA6.out (fam_regs HF6.out) HT8.out HR6.out (by decide) (by decide))); have M := Lib.hid (exec_rel HA6.out HO6.out HF6.out HP6.out HB6.out HT8.out HR8.out (by have := HB5.out.size; exact this) (by have := HB4.out.size; have := HRL.out; omega)); have ho8 := M.out.1; have cu8 := cell_of ho8 qb; rw [show us.toArray[qb]? = some (.slice ua ul uc) by rw [List.getElem?_toArray]; exact HUQ.out] at cu8; have l8 := lt_of ho8; have OU8 := Lib.hid (show Own w.heap.size w8 (.slice ua ul uc) G by rw [HGG.out]; exact fam_out M.out.2.1 HUQ.out); clear ho8)
              have hx8 := MK.out.1
              obtain ⟨y0, y1, y2, y3⟩ := cells4 hx8
              have lx8 := lt_of hx8
              have nXB : ¬ RX = BB := blk_ne hx8 M.out.1 (by decide)
              have nBX : ¬ BB = RX := fun e => nXB e.symm
              clear hx8
              have HGL := Lib.hid (show (G.length : Int) + 1 = ((G.length + 1 : Nat) : Int) by omega)
              refine wp_region_noPanic ?_
              refine wp_region_held_drew (S := fun w' => w'.cell? ⟨RX, 0, none⟩ = some (.slice (some ⟨BB, 0, none⟩) no no)) (by kernel_rfl) ?_ (fun hHeld => ?_)
              · (try dsimp only); go_keep
              refine wpAnyH_take (i := 0) (oi := _) (v := ?_) rfl (by kernel_rfl) (by kernel_rfl) (by kernel_rfl) (fun _ _ _ h => h) (Or.inl ⟨by rfl, ?_⟩) (by assumption) ?_
              rotate_left 1
              · intro w hSw; (try dsimp only at hSw); go_simp; try with_reducible rfl
              try simp only [Act.put, List.setIfInBounds_toArray]
              refine wpAnyH_take (i := 1) (oi := _) (v := ?_) rfl (by kernel_rfl) (by kernel_rfl) (by kernel_rfl) (fun _ _ _ h => h) (Or.inl ⟨by rfl, ?_⟩) (by assumption) ?_
              rotate_left 1
              · intro w hSw; (try dsimp only at hSw); go_simp; try with_reducible rfl
              try simp only [Act.put]
              refine wpAnyH_take (i := 2) (oi := _) (v := ?_) rfl (by kernel_rfl) (by kernel_rfl) (by kernel_rfl) (fun _ _ _ h => h) (Or.inl ⟨by rfl, ?_⟩) (by assumption) ?_
              rotate_left 1
              · intro w hSw; (try dsimp only at hSw); go_simp; try with_reducible rfl
              try simp only [Act.put]
              refine wpAnyH_take (i := 3) (oi := _) (v := ?_) rfl (by kernel_rfl) (by kernel_rfl) (by kernel_rfl) (fun _ _ _ h => h) (Or.inl ⟨by rfl, ?_⟩) (by assumption) ?_
              rotate_left 1
              · intro w hSw; (try dsimp only at hSw); go_simp; try with_reducible rfl
              try simp only [Act.put]
              refine wpAnyH_take (i := 4) (oi := _) (v := ?_) rfl (by kernel_rfl) (by kernel_rfl) (by kernel_rfl) (fun _ _ _ h => h) (Or.inl ⟨by rfl, ?_⟩) (by assumption) ?_
              rotate_left 1
              · intro w hSw; (try dsimp only at hSw); go_simp; try with_reducible rfl
              try simp only [Act.put]
              refine wpAnyH_take (i := 5) (oi := _) (v := ?_) rfl (by kernel_rfl) (by kernel_rfl) (by kernel_rfl) (fun _ _ _ h => h) (Or.inl ⟨by rfl, ?_⟩) (by assumption) ?_
              rotate_left 1
              · intro w hSw; (try dsimp only at hSw); go_simp; try with_reducible rfl
              try simp only [Act.put]
              refine wpAnyH_take (i := 6) (oi := _) (v := ?_) rfl (by kernel_rfl) (by kernel_rfl) (by kernel_rfl) (fun _ _ _ h => h) (Or.inl ⟨by rfl, ?_⟩) (by assumption) ?_
              rotate_left 1
              · intro w hSw; (try dsimp only at hSw); go_simp; try with_reducible rfl
              try simp only [Act.put]
              refine wpAnyH_take (i := 8) (oi := _) (v := ?_) rfl (by kernel_rfl) (by kernel_rfl) (by kernel_rfl) (fun _ _ _ h => h) (Or.inl ⟨by rfl, ?_⟩) (by assumption) ?_
              rotate_left 1
              · intro w hSw; (try dsimp only at hSw); go_simp; try with_reducible rfl
              try simp only [Act.put]
              refine wpAnyH_ready (rs := [7, 9]) (by kernel_rfl) (by simp) ?_
              refine AllReadyH.cons (o := _) rfl (fun K hK => ?_) ?_
              · go_simp
                refine hK.out _ _ ?_ (fun hHeld => ?_)
                · (try dsimp only); go_keep
                clear hK K
                try simp only [Act.put, List.setIfInBounds_toArray, List.set_cons_zero, List.set_cons_succ]
                refine wpAnyH_ready (rs := [9]) (by kernel_rfl) (by simp) ?_
                refine AllReadyH.cons (o := _) rfl (fun K hK => ?_) ?_
                · go_simp
                  refine hK.out _ _ ?_ (fun hHeld => ?_)
                  · (try dsimp only); go_keep
                  clear hK K
                  try simp only [Act.put, List.setIfInBounds_toArray, List.set_cons_zero, List.set_cons_succ]
                  refine wpAnyH_ready (rs := [10]) (by kernel_rfl) (by simp) ?_
                  refine AllReadyH.cons (o := _) rfl (fun K hK => ?_) ?_
                  · (refine Go.step_append_lies _ rfl (.tmp 106) (.tmp 108) 46 rfl w.heap.size 3 ii (.int .i64 0) 1 8 Try.underlying46 hi0 hz0 hz1 hz2 rfl (by decide) (.slice ua ul uc) G.length (vals G) rfl (World.ownsRow.alloc (show (World.drew w8).ownsRow _ _ _ _ _ _ from OU8.out) _) ⟨w8.heap.size, 0, none⟩ 1 1 [.int .i64 (outI x st.regs)] rfl rfl (one_src (World.drew w8) _) (one_one _) (by omega) (by have := HUL4.out; have := HUL.out; unfold maxLen; omega) (by have := HUL4.out; have := HUL.out; omega) (by have := M.out.2.2.2.size; simp; omega) (w8.heap.size + 1) (by simp) ?_; intro g gc w9 hown hgrow hor hglt; have OUT := write_rel2 (no := no) HA8.out M.out.1 M.out.2.1 M.out.2.2.1 M.out.2.2.2 HUQ.out HW2.out (by rw [← HGG.out]; exact hown) hgrow hor (by rw [← HGG.out]); have XK := Lib.hid (And.intro (write_keep (q := qb) (v' := .slice (some ⟨g, 0, none⟩) (G.length + 1) gc) MK.out.1 (by decide) (by decide) M.out.1 OU8.out hgrow) (write_keep (q := qb) (v' := .slice (some ⟨g, 0, none⟩) (G.length + 1) gc) MK.out.2 (by decide) (by decide) M.out.1 OU8.out hgrow)); have b9 := app_keep (w8 := World.drew w8) M.out.1 (by decide) (OU8.out.below (Below.refl _ _).drew) hgrow; have q9 := cell_of b9 qb; rw [show us.toArray[qb]? = some (.slice ua ul uc) by rw [List.getElem?_toArray]; exact HUQ.out] at q9; have f9 := fr_of b9 qb; have l9 := lt_of b9; have rx9 := app_keep (w8 := World.drew w8) MK.out.1 (by decide) (OU8.out.below (Below.refl _ _).drew) hgrow; obtain ⟨m0, m1, m2, m3⟩ := cells4 rx9; have lx9 := lt_of rx9; have OUTH := Lib.hid OUT; clear hown hgrow hor b9 rx9 OUT)
                    refine hK.out _ _ ?_ (fun hHeld => ?_)
                    · (try dsimp only); go_keep
                    clear hK K
                    try simp only [Act.put, List.setIfInBounds_toArray]
                    refine wpAnyH_take (i := 11) (oi := _) (v := ?_) rfl (by kernel_rfl) (by kernel_rfl) (by kernel_rfl) (fun _ _ _ h => h) (Or.inl ⟨by rfl, ?_⟩) (by assumption) ?_
                    rotate_left 1
                    · intro w hSw; (try dsimp only at hSw); go_simp; try with_reducible rfl
                    try simp only [Act.put]
                    refine wpAnyH_ready (rs := [12]) (by kernel_rfl) (by simp) ?_
                    refine AllReadyH.cons (o := _) rfl (fun K hK => ?_) ?_
                    · go_simp
                      refine hK.out _ _ ?_ (fun hHeld => ?_)
                      · (try dsimp only); go_keep
                      clear hK K
                      try simp only [Act.put, List.setIfInBounds_toArray, List.set_cons_zero, List.set_cons_succ]
                      refine wpAnyH_done (by kernel_rfl) ?_ _
                      refine NoPanic.normal ?_
                      go_wp2_with fail
                      go_roundw
                      case rel =>
                        refine ⟨n, stepS x inp st, _, by go_num, by omega, by rw [List.length_set]; exact hus, HN1, HG1, ?_, Lib.hid OUTH.out.2.1, ?_, Lib.hid OUTH.out.2.2.2.1, Lib.hid XK.out.1, Lib.hid XK.out.2, Lib.hid OUTH.out.2.2.2.2⟩
                        · rw [HSP.out]
                          have := OUTH.out.1
                          rw [← Int.toNat_of_nonneg HPC.out] at this
                          exact Lib.hid this
                        · rw [HSP.out]
                          have q := OUTH.out.2.2.1
                          rw [← HGG.out] at q
                          exact Lib.hid q
                      case measure => first | (simp [intOf]; done) | (simp [intOf]; omega)
                    exact AllReadyH.nil
                  exact AllReadyH.nil
                exact AllReadyH.nil
              refine AllReadyH.cons (o := _) rfl (fun K hK => ?_) ?_
              · go_simp
                refine hK.out _ _ ?_ (fun hHeld => ?_)
                · (try dsimp only); go_keep
                clear hK K
                try simp only [Act.put, List.setIfInBounds_toArray, List.set_cons_zero, List.set_cons_succ]
                refine wpAnyH_ready (rs := [7]) (by kernel_rfl) (by simp) ?_
                refine AllReadyH.cons (o := _) rfl (fun K hK => ?_) ?_
                · go_simp
                  refine hK.out _ _ ?_ (fun hHeld => ?_)
                  · (try dsimp only); go_keep
                  clear hK K
                  try simp only [Act.put, List.setIfInBounds_toArray, List.set_cons_zero, List.set_cons_succ]
                  refine wpAnyH_ready (rs := [10]) (by kernel_rfl) (by simp) ?_
                  refine AllReadyH.cons (o := _) rfl (fun K hK => ?_) ?_
                  · (refine Go.step_append_lies _ rfl (.tmp 106) (.tmp 108) 46 rfl w.heap.size 3 ii (.int .i64 0) 1 8 Try.underlying46 hi0 hz0 hz1 hz2 rfl (by decide) (.slice ua ul uc) G.length (vals G) rfl (World.ownsRow.alloc (show (World.drew w8).ownsRow _ _ _ _ _ _ from OU8.out) _) ⟨w8.heap.size, 0, none⟩ 1 1 [.int .i64 (outI x st.regs)] rfl rfl (one_src (World.drew w8) _) (one_one _) (by omega) (by have := HUL4.out; have := HUL.out; unfold maxLen; omega) (by have := HUL4.out; have := HUL.out; omega) (by have := M.out.2.2.2.size; simp; omega) (w8.heap.size + 1) (by simp) ?_; intro g gc w9 hown hgrow hor hglt; have OUT := write_rel2 (no := no) HA8.out M.out.1 M.out.2.1 M.out.2.2.1 M.out.2.2.2 HUQ.out HW2.out (by rw [← HGG.out]; exact hown) hgrow hor (by rw [← HGG.out]); have XK := Lib.hid (And.intro (write_keep (q := qb) (v' := .slice (some ⟨g, 0, none⟩) (G.length + 1) gc) MK.out.1 (by decide) (by decide) M.out.1 OU8.out hgrow) (write_keep (q := qb) (v' := .slice (some ⟨g, 0, none⟩) (G.length + 1) gc) MK.out.2 (by decide) (by decide) M.out.1 OU8.out hgrow)); have b9 := app_keep (w8 := World.drew w8) M.out.1 (by decide) (OU8.out.below (Below.refl _ _).drew) hgrow; have q9 := cell_of b9 qb; rw [show us.toArray[qb]? = some (.slice ua ul uc) by rw [List.getElem?_toArray]; exact HUQ.out] at q9; have f9 := fr_of b9 qb; have l9 := lt_of b9; have rx9 := app_keep (w8 := World.drew w8) MK.out.1 (by decide) (OU8.out.below (Below.refl _ _).drew) hgrow; obtain ⟨m0, m1, m2, m3⟩ := cells4 rx9; have lx9 := lt_of rx9; have OUTH := Lib.hid OUT; clear hown hgrow hor b9 rx9 OUT)
                    refine hK.out _ _ ?_ (fun hHeld => ?_)
                    · (try dsimp only); go_keep
                    clear hK K
                    try simp only [Act.put, List.setIfInBounds_toArray]
                    refine wpAnyH_take (i := 11) (oi := _) (v := ?_) rfl (by kernel_rfl) (by kernel_rfl) (by kernel_rfl) (fun _ _ _ h => h) (Or.inl ⟨by rfl, ?_⟩) (by assumption) ?_
                    rotate_left 1
                    · intro w hSw; (try dsimp only at hSw); go_simp; try with_reducible rfl
                    try simp only [Act.put]
                    refine wpAnyH_ready (rs := [12]) (by kernel_rfl) (by simp) ?_
                    refine AllReadyH.cons (o := _) rfl (fun K hK => ?_) ?_
                    · go_simp
                      refine hK.out _ _ ?_ (fun hHeld => ?_)
                      · (try dsimp only); go_keep
                      clear hK K
                      try simp only [Act.put, List.setIfInBounds_toArray, List.set_cons_zero, List.set_cons_succ]
                      refine wpAnyH_done (by kernel_rfl) ?_ _
                      refine NoPanic.normal ?_
                      go_wp2_with fail
                      go_roundw
                      case rel =>
                        refine ⟨n, stepS x inp st, _, by go_num, by omega, by rw [List.length_set]; exact hus, HN1, HG1, ?_, Lib.hid OUTH.out.2.1, ?_, Lib.hid OUTH.out.2.2.2.1, Lib.hid XK.out.1, Lib.hid XK.out.2, Lib.hid OUTH.out.2.2.2.2⟩
                        · rw [HSP.out]
                          have := OUTH.out.1
                          rw [← Int.toNat_of_nonneg HPC.out] at this
                          exact Lib.hid this
                        · rw [HSP.out]
                          have q := OUTH.out.2.2.1
                          rw [← HGG.out] at q
                          exact Lib.hid q
                      case measure => first | (simp [intOf]; done) | (simp [intOf]; omega)
                    exact AllReadyH.nil
                  exact AllReadyH.nil
                exact AllReadyH.nil
              exact AllReadyH.nil
        · have ew : wt = 1 := by rw [HWT.out, HWX.out.1]; unfold wantI; rw [if_neg h11, if_neg h1, if_neg h2]
          have ep : pt = 0 := by rw [HPT.out, HWX.out.2]; unfold portI; rw [if_neg h1, if_neg h2]
          have hst : stuckS code inp st = false := by unfold stuckS; rw [← HWT.out, ew]; rfl
          subst ew
          subst ep
          clear w0
          by_cases hf0 : f' = 0
          · subst hf0
            have hRv : R = (st, 1) := by
              rw [← HRun.out]
              unfold runS; rw [if_neg (by rw [hst]; decide)]
            have HOU := Lib.hid (show R.1 = st by rw [hRv])
            have HRS := Lib.hid (show R.2 = 1 by rw [hRv])
            have HRP := Lib.hid (show portR code R = 0 by rw [hRv]; rfl)
            clear hRv
            clear hst
            go_wp2_with (go_at_call 143; refine (CALL.out _ HBw.out).mono ?_; rintro e w6 ⟨rfl, hb6⟩; have hp6 := blk_in HPb.out hb6; have ha6 := blk_in HAc.out hb6; have ho6 := blk_in HOb.out hb6; obtain ⟨p0, p1, p2⟩ := cells3 hp6; obtain ⟨g0, g1⟩ := cells2 ha6; have lp := lt_of hp6; have lg := lt_of ha6; have lo := lt_of ho6; have HP6 := Lib.hid hp6; have HA6 := Lib.hid ha6; have HO6 := Lib.hid ho6; have hx6 := blk_in HXb.out hb6; have hr6 := blk_in HRb.out hb6; obtain ⟨x0, x1, x2, x3⟩ := cells4 hx6; have lx := lt_of hx6; have fx2 := fr_of hx6 2; have fx3 := fr_of hx6 3; obtain ⟨r0, r1, r2, r3⟩ := cells4 hr6; have lr := lt_of hr6; have fr0 := fr_of hr6 0; have fr1 := fr_of hr6 1; have fr2 := fr_of hr6 2; have fr3 := fr_of hr6 3; have HX6 := Lib.hid hx6; have HR6 := Lib.hid hr6; have HF6 := Lib.hid (HF.out.below hb6); have HB6 := Lib.hid (HBw.out.trans (hb6.mono HBw.out.size)); clear hb6 hp6 ha6 ho6 hx6 hr6)
            go_quiet (fail)
            go_wp2_with fail
            refine bodyPost_ret (v := .agg #[.slice (some ⟨BB, 0, none⟩) no no, .slice (some ⟨UU, 0, none⟩) ni ni, .int .i64 1, .int .i64 0]) (by simp [results, Try.results154, go_sem, r0, r1, r2, r3]) rfl ⟨_, _, by rw [HRS.out, HRP.out], ?_, ?_⟩
            · rw [HOU.out]; exact EndP.out (EndP.set0 (EndP.set0 (EndP.set0 (EndP.set0 (EndP.setX (EndP.drew ⟨HO6.out, HF6.out, ⟨_, HR6.out⟩, ⟨_, HX6.out⟩, by omega, by have := HLX.out; omega, HB6.out⟩ _) nRX _ _) nRX _ _) nRX _ _) nRX _ _) nRX _ _) HW2.out hus
            · exact EndP.hb (EndP.set0 (EndP.set0 (EndP.set0 (EndP.set0 (EndP.setX (EndP.drew ⟨HO6.out, HF6.out, ⟨_, HR6.out⟩, ⟨_, HX6.out⟩, by omega, by have := HLX.out; omega, HB6.out⟩ _) nRX _ _) nRX _ _) nRX _ _) nRX _ _) nRX _ _)
          · obtain ⟨n, rfl⟩ : ∃ n, f' = n + 1 := ⟨f' - 1, by omega⟩
            have HN1 := Lib.hid (show runS code inp n (stepS x inp st) = R by
              have := HRun.out
              unfold runS at this
              rw [if_neg (by rw [hst]; decide)] at this
              rwa [show insAt code st.pc = x by unfold insAt; rw [List.getD_eq_getElem?_getD, HX.out]; rfl] at this)
            have HG1 := Lib.hid (step_good (areS_parts HS.out).2 HG.out HX.out HXO.out (fun e => absurd e h1) (fun e => absurd e h2))
            have wn : wrap64 ((n : Int) + 1 - 1) = (n : Int) := by rw [show (n : Int) + 1 - 1 = n by omega]; exact IntWalk.wrap64_in _ (by omega)
            have dn : ((n : Int) + 1 == 0) = false := by simp; omega
            have HSP := Lib.hid (step_plain (inp := inp) (st := st) h1 h2)
            have HPC := Lib.hid (pcI_bd HXO.out st.regs st.pc (by have := (List.getElem?_eq_some_iff.1 HX.out).1; show (st.pc : Int) + 1 ≤ (code.length : Int); omega)).1
            clear hst hf0 hbd
            go_wp2_with (go_at_call 143; refine (CALL.out _ HBw.out).mono ?_; rintro e w6 ⟨rfl, hb6⟩; have hp6 := blk_in HPb.out hb6; have ha6 := blk_in HAc.out hb6; have ho6 := blk_in HOb.out hb6; obtain ⟨p0, p1, p2⟩ := cells3 hp6; obtain ⟨g0, g1⟩ := cells2 ha6; have lp := lt_of hp6; have lg := lt_of ha6; have lo := lt_of ho6; have HP6 := Lib.hid hp6; have HA6 := Lib.hid ha6; have HO6 := Lib.hid ho6; have hx6 := blk_in HXb.out hb6; have hr6 := blk_in HRb.out hb6; obtain ⟨x0, x1, x2, x3⟩ := cells4 hx6; have lx := lt_of hx6; have fx2 := fr_of hx6 2; have fx3 := fr_of hx6 3; obtain ⟨r0, r1, r2, r3⟩ := cells4 hr6; have lr := lt_of hr6; have fr0 := fr_of hr6 0; have fr1 := fr_of hr6 1; have fr2 := fr_of hr6 2; have fr3 := fr_of hr6 3; have HX6 := Lib.hid hx6; have HR6 := Lib.hid hr6; have HF6 := Lib.hid (HF.out.below hb6); have HB6 := Lib.hid (HBw.out.trans (hb6.mono HBw.out.size)); clear hb6 hp6 ha6 ho6 hx6 hr6)
            go_quiet (fail)
            go_wp2_with (go_at_call 162; refine (iexec_all w.heap.size w5.heap.size r rc _ ⟨ni, no, code⟩ st.pc x st.regs 0 _ ⟨_, rfl, HC.out.below (Below.toDraw HB6.out _)⟩ HOK.out HX.out H11.out HA6.out ((fam_regs HF6.out).below (below_drewN _ _)) HG.out.len HG.out.regs).mono ?_; rintro e w8 ⟨rfl, ha8, hr8, ht8⟩; have HT8 := Lib.hid ((Two.of_below (below_drewN w6 _)).trans ht8); have HA8 := Lib.hid ha8; have HR8 := Lib.hid hr8; clear ha8 hr8 ht8)
            have MK := Lib.hid (And.intro (exec_keep HA6.out (fam_regs HF6.out) HT8.out HX6.out (by decide) (by decide)) (exec_keep HA6.out (fam_regs HF6.out) HT8.out HR6.out (by decide) (by decide)))
            have M := Lib.hid (exec_rel HA6.out HO6.out HF6.out HP6.out HB6.out HT8.out HR8.out (by have := HB5.out.size; exact this) (by have := HB4.out.size; have := HRL.out; omega))
            go_wp2_with fail
            go_roundw
            case rel =>
              refine ⟨n, stepS x inp st, us, by go_num, by omega, hus, HN1, HG1, ?_, Lib.hid M.out.1, ?_, Lib.hid M.out.2.2.1, Lib.hid MK.out.1, Lib.hid MK.out.2, Lib.hid M.out.2.2.2⟩
              · rw [HSP.out]
                have := HA8.out
                rw [← Int.toNat_of_nonneg HPC.out] at this
                exact Lib.hid this
              · rw [HSP.out]; exact Lib.hid M.out.2.1
            case measure => first | (simp [intOf]; done) | (simp [intOf]; omega)
end Go.Proofs.Ytjphamgkigekkaa
