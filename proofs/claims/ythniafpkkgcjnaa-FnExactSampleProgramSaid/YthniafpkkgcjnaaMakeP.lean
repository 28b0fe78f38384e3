/-
  What the model's l2Make leaves: a program of lists of numbers. No statement of the seat is proved here.
-/
import Derived.Test.YthniafpkkgcjnaaSamp
import Derived.Test.YthniafpkkgcjnaaMake
import Derived.Deep.AppendLies
import Derived.Deep.RegionLaw
import Derived.Deep.Cut
import Derived.Deep.CutRange
import Derived.Deep.RegionHeld3
namespace Go.Proofs.Ythniafpkkgcjnaa
open Go.RowKit

/-- 'v' is a slice of slices of ints that reads as 'xss'. -/
def SlS (w : World) (v : Value) (xss : List (List Int)) : Prop :=
  ∃ (a : Option Addr) (cap : Nat), v = .slice a xss.length cap ∧ xss.length ≤ cap ∧ cap ≤ maxLen ∧ (a = none → cap = 0) ∧
    (xss = [] ∨ ∃ b off, a = some ⟨b, off, none⟩ ∧ b < w.heap.size ∧ ∀ i xs, xss[i]? = some xs → ∃ u, w.cell? ⟨b, off + i, none⟩ = some u ∧ Sl w u xs)

def mkIns (r : List Int) : Ins := ⟨r.getD 0 0, r.getD 1 0, r.getD 2 0, r.getD 3 0⟩
theorem mk_at (r : List Int) (h : 1 ≤ r.length) (j : Nat) (hj : j < 4) : (r ++ [0, 0, 0]).getD j 0 = r.getD j 0 := by
  simp only [List.getD_eq_getElem?_getD]
  by_cases h1 : j < r.length
  · rw [List.getElem?_append_left h1]
  · rw [List.getElem?_append_right (by omega), List.getElem?_eq_none (l := r) (by omega)]
    have : j - r.length = 0 ∨ j - r.length = 1 ∨ j - r.length = 2 := by omega
    rcases this with e | e | e <;> rw [e] <;> rfl
theorem take_map_step {R : List (List Int)} {k : Nat} {r : List Int} (h : R[k]? = some r) : (R.take (k + 1)).map mkIns = (R.take k).map mkIns ++ [mkIns r] := by
  have hk := (List.getElem?_eq_some_iff.1 h).1
  rw [List.take_succ_eq_append_getElem hk, (List.getElem?_eq_some_iff.1 h).2]; simp
theorem zero3_src (w : World) : ∀ j u, (vals [0, 0, 0])[j]? = some u → (w.alloc (.cells #[.int .i64 0, .int .i64 0, .int .i64 0] 3)).cell? ((⟨w.heap.size, 0, none⟩ : Addr).add j) = some u := by
  intro j u hj
  rw [Addr.add_lit, Nat.zero_add, cell_of (hp1 w _), ← Array.getElem?_toList]; exact hj

theorem wp_open {P : Program} {s : Code} {Q : Exit → Go.Act → World → Prop} {a : Go.Act} {w : World} (h : ∀ K' : Go.Act → World → Prop, (∀ a w, Q .normal a w → K' a w) → s.wp P (Exit.then K' Q) a w) : s.wp P Q a w := by
  refine wp_mono (h (fun a w => Q .normal a w) (fun _ _ q => q)) ?_
  intro e a' w' hq
  cases e <;> exact hq
theorem lit_ins (w : World) (a b c d : Int) : ∀ j u, [Value.int .i64 a, .int .i64 b, .int .i64 c, .int .i64 d][j]? = some u → (w.alloc (.cells #[.int .i64 a, .int .i64 b, .int .i64 c, .int .i64 d] 61)).cell? ((⟨w.heap.size, 0, none⟩ : Addr).add j) = some u := by
  intro j u hj
  rw [Addr.add_lit, Nat.zero_add, cell_of (hp1 w _)]
  rw [← Array.getElem?_toList]; exact hj
theorem one_ins (a b c d : Int) : ∀ u ∈ [Value.int .i64 a, .int .i64 b, .int .i64 c, .int .i64 d], u.oneCell' = true := by
  intro u hu; simp at hu; rcases hu with rfl | rfl | rfl | rfl <;> rfl
theorem lies_box {q : Nat} {w3 w4 : World} {cv : Value} {code : List Ins} {o A : Obj} (h : w3.heap[q + 1]? = some o) (hO : OwnI (q + 2) w3 cv code) (hg : ((World.drew w3).alloc A).grownBy w4 cv.ownBlock) : w4.heap[q + 1]? = some o := by
  have l := lt_of h
  rw [hg.block (q + 1) (by simp; omega) (fun e => by have := (hO.lt _ e.symm).1; omega)]
  exact (Below.heap_alloc (World.drew w3) A _ l).trans h
theorem lies_box0 {q : Nat} {w3 w4 : World} {cv : Value} {code : List Ins} {o A : Obj} (h : w3.heap[q]? = some o) (hO : OwnI (q + 2) w3 cv code) (hg : ((World.drew w3).alloc A).grownBy w4 cv.ownBlock) : w4.heap[q]? = some o := by
  have l := lt_of h
  rw [hg.block q (by simp; omega) (fun e => by have := (hO.lt _ e.symm).1; omega)]
  exact (Below.heap_alloc (World.drew w3) A _ l).trans h

theorem y_kept {lo l2 yb yo m c : Nat} {w3 w4 : World} {cv : Value} {xs : List Int} {code : List Ins} {A : Obj} (hyb : yb < w3.heap.size) (hy : Own lo w3 (.slice (some ⟨yb, yo, none⟩) m c) xs) (hO : OwnI l2 w3 cv code) (hg : ((World.drew w3).alloc A).grownBy w4 cv.ownBlock) :
    ∀ j, w4.cell? ⟨yb, j, none⟩ = w3.cell? ⟨yb, j, none⟩ := by
  intro j
  have hne : some yb ≠ cv.ownBlock := by
    intro e
    rcases hy.2 with ⟨h, _⟩ | ⟨g, cap, cur, h, _, hh, _⟩
    · simp at h
    · simp only [Value.slice.injEq, Option.some.injEq, Addr.mk.injEq, and_true] at h
      obtain ⟨⟨rfl, _⟩, _⟩ := h
      rcases hO.2 with ⟨rfl, _⟩ | ⟨g2, cap2, cur2, rfl, _, hh2, _⟩
      · simp [Value.ownBlock] at e
      · simp only [Value.ownBlock, Option.some.injEq] at e
        subst e
        rw [hh] at hh2
        simp at hh2
  have hb : w4.heap[yb]? = w3.heap[yb]? := by
    rw [hg.block yb (by simp; omega) hne]
    exact Below.heap_alloc (World.drew w3) A _ hyb
  simp only [World.cell?, hb]

theorem set2_blk {w : World} {g T : Nat} {u0 u1 u2 : Value} (h : w.heap[g]? = some (.cells #[u0, u1, u2] T)) (v : Value) : (w.setCell ⟨g, 2, none⟩ v).heap[g]? = some (.cells #[u0, u1, v] T) := by
  rw [heap_setCell_same w g 2 #[u0, u1, u2] T v h]; rfl
theorem make_rel {w wr w3 w4 : World} {cv u0 u1 : Value} {L : List Ins} {a b c d : Int} {g gc T : Nat} {A o0 : Obj} (HB : Below w.heap.size w wr) (HB3 : Below wr.heap.size wr w3) (HS : w.heap.size + 2 ≤ wr.heap.size) (O3 : OwnI (w.heap.size + 2) w3 cv L)
    (BB : w4.heap[w.heap.size + 1]? = some (.cells #[u0, u1, cv] T)) (BB0 : w4.heap[w.heap.size]? = some o0)
    (hown : w4.ownsRow (w.heap.size + 2) 61 4 (.slice (some ⟨g, 0, none⟩) (L.length + 1) gc) (L.length + 1) (cellsI L ++ [.int .i64 a, .int .i64 b, .int .i64 c, .int .i64 d])) (hg : ((World.drew w3).alloc A).grownBy w4 cv.ownBlock) :
    (w4.setCell ⟨w.heap.size + 1, 2, none⟩ (.slice (some ⟨g, 0, none⟩) (L.length + 1) gc)).heap[w.heap.size + 1]? = some (.cells #[u0, u1, .slice (some ⟨g, 0, none⟩) (L.length + 1) gc] T) ∧
    (w4.setCell ⟨w.heap.size + 1, 2, none⟩ (.slice (some ⟨g, 0, none⟩) (L.length + 1) gc)).heap[w.heap.size]? = some o0 ∧
    OwnI (w.heap.size + 2) (w4.setCell ⟨w.heap.size + 1, 2, none⟩ (.slice (some ⟨g, 0, none⟩) (L.length + 1) gc)) (.slice (some ⟨g, 0, none⟩) (L.length + 1) gc) (L ++ [⟨a, b, c, d⟩]) ∧
    Below w.heap.size w (w4.setCell ⟨w.heap.size + 1, 2, none⟩ (.slice (some ⟨g, 0, none⟩) (L.length + 1) gc)) ∧
    w.heap.size + 2 ≤ (w4.setCell ⟨w.heap.size + 1, 2, none⟩ (.slice (some ⟨g, 0, none⟩) (L.length + 1) gc)).heap.size := by
  have s3 := HB3.size
  have s4 := hg.size
  simp at s4
  refine ⟨set2_blk BB _, ?_, ?_, ?_, ?_⟩
  · rw [Below.heap_setCell _ _ _ _ (by show w.heap.size ≠ w.heap.size + 1; omega)]; exact BB0
  · unfold OwnI
    rw [List.length_append, cellsI_app]
    exact ownsRow_setCell_below hown (by show w.heap.size + 1 < _; omega) _
  · exact ((((HB.trans (HB3.mono HB.size)).drew.alloc (by show w.heap.size ≤ w3.heap.size; omega) A).grown hg (by simp; omega) (fun k e => by have := (O3.lt k e).1; omega))).setCell (by show w.heap.size ≤ w.heap.size + 1; omega) _
  · have : w4.heap.size = (w4.setCell ⟨w.heap.size + 1, 2, none⟩ (.slice (some ⟨g, 0, none⟩) (L.length + 1) gc)).heap.size := by simp [World.setCell]
    omega

set_option maxRecDepth 100000 in
set_option maxHeartbeats 40000000 in
theorem smake_any (i o : Int) (v : Value) (R : List (List Int)) (w : World) (h : SlS w v R) (hn : R.length ≤ 30) (hr : ∀ r ∈ R, 1 ≤ r.length ∧ r.length ≤ 4) :
    Calls Try.prog 103 #[.int .i64 i, .int .i64 o, v] w fun e w' => ∃ v', e = .returned v' ∧ PrgO w.heap.size w' v' ⟨i, o, R.map mkIns ++ [jump0]⟩ ∧ Below w.heap.size w w' := by
  obtain ⟨a, cap, rfl, _, _, _, hc⟩ := h
  obtain ⟨n, hnn⟩ : ∃ n, n = R.length := ⟨_, rfl⟩
  rw [← hnn] at hn ⊢
  have HN := Lib.hid hnn
  have HR := Lib.hid hr
  clear hnn hr
  obtain ⟨ii, hi, hz0, hz1, hz2⟩ := info_parts info
  obtain ⟨i0, hi', hy0, hy1, hy2⟩ := infoI_parts
  have hb0 := Lib.hid (((Below.refl w.heap.size w).al (.cells #[.int .i64 0, .int .i64 0, .slice none 0 0] 31)).al (.cells #[.int .i64 i, .int .i64 o, .slice none 0 0] 31))
  have hH := Lib.hid (hp2 w (.cells #[.int .i64 0, .int .i64 0, .slice none 0 0] 31) (.cells #[.int .i64 i, .int .i64 o, .slice none 0 0] 31))
  have hH1 := Lib.hid (hp21 w (.cells #[.int .i64 0, .int .i64 0, .slice none 0 0] 31) (.cells #[.int .i64 i, .int .i64 o, .slice none 0 0] 31))
  go_enter Try.func103, Try.ntmps103
  go_wp2_with fail
  go_loopw [16] (fun q wr => ∃ (k : Nat) (cv : Value), k ≤ n ∧ q = .int .i64 k ∧ Hid (wr.heap[w.heap.size + 1]? = some (.cells #[.int .i64 i, .int .i64 o, cv] 31)) ∧ Hid (wr.heap[w.heap.size]? = some (.cells #[.int .i64 0, .int .i64 0, .slice none 0 0] 31)) ∧
    Hid (OwnI (w.heap.size + 2) wr cv ((R.take k).map mkIns)) ∧ Hid (Below w.heap.size w wr) ∧ Hid (w.heap.size + 2 ≤ wr.heap.size)) (fun q _ => n - (intOf q).toNat)
  case atStart => exact ⟨0, _, Nat.zero_le _, rfl, hH, hH1, Lib.hid (OwnI.nil _ _), hb0, Lib.hid (by simp)⟩
  case round =>
    clear hb0 hH hH1
    obtain ⟨k, cv, hk, rfl, B, B0, O, HB, HS⟩ := hrel
    by_cases hlt : k < n
    · rcases hc with rfl | ⟨b, off, rfl, hbl, hcell⟩
      · exact absurd hlt (by have := HN.out; simp at this; omega)
      · obtain ⟨r, hrk⟩ : ∃ r, R[k]? = some r := ⟨_, List.getElem?_eq_getElem (by rw [← HN.out]; exact hlt)⟩
        obtain ⟨u, hu, hsu⟩ := hcell k r hrk
        have hck := (HB.out.cell (p := ⟨b, off + k, none⟩) hbl).trans hu
        have HU := Lib.hid (hsu.below HB.out)
        have HL := Lib.hid (HR.out r (List.mem_of_getElem? hrk))
        obtain ⟨L, hL⟩ : ∃ L, L = (R.take k).map mkIns := ⟨_, rfl⟩
        rw [← hL] at O
        have HCL := Lib.hid (show L.length = k by rw [hL, List.length_map, List.length_take]; have := HN.out; omega)
        have HTS := Lib.hid (show (R.take (k + 1)).map mkIns = L ++ [mkIns r] by rw [take_map_step hrk, hL])
        clear hL
        clear hcell hu hsu hrk
        go_wp2_with (first | (go_at_call 141; refine (l1copy_any _ r _ HU.out (by have := HL.out; omega)).mono ?_; rintro e w2 ⟨y0, rfl, oy, hb2⟩; have OY := Lib.hid oy; have HB2 := Lib.hid hb2; clear oy hb2) | (at_builtin; refine wpList_append_own_at _ rfl _ _ 23 rfl wr.heap.size 3 ii (.int .i64 0) 1 8 Try.underlying23 hi hz0 hz1 hz2 rfl (by decide) _ _ _ rfl (World.ownsRow.alloc OY.out _) ⟨w2.heap.size, 0, none⟩ 3 3 (vals [0, 0, 0]) rfl rfl (zero3_src _) (vals_one _) ?c3 ?c4 ?c5 ?_))
        case c3 => have := HL.out; unfold maxLen; omega
        case c4 => have := HL.out; omega
        case c5 => have := HB2.out.size; simp; omega
        intro y w3 hown hgrow _ hat
        have OW := Lib.hid (show Own wr.heap.size w3 y (r ++ [0, 0, 0]) from by unfold Own; rw [List.length_append, show vals (r ++ [0, 0, 0]) = vals r ++ vals [0, 0, 0] by simp [vals]]; exact hown)
        have HB3 := Lib.hid (((HB2.out.al _)).grown hgrow (by have := HB2.out.size; simp; omega) (fun q e => (OY.out.lt q e).1))
        clear hown hgrow hat
        go_wp2_with fail
        have B3 := blk_in B.out HB3.out
        have B03 := blk_in B0.out HB3.out
        obtain ⟨e0, e1, e2⟩ := cells3 B3
        have z2 := fr_of B3 2
        have lb3 := lt_of B3
        have HB33 := Lib.hid B3
        have HB03 := Lib.hid B03
        obtain ⟨m, hm⟩ : ∃ m, m = (r ++ [0, 0, 0]).length := ⟨_, rfl⟩
        have hm4 : 4 ≤ m := by rw [hm, List.length_append]; have := HL.out; simp; omega
        obtain ⟨ya, yc, rfl, hyl, _, _, hyc⟩ := OW.out.sl
        rw [← hm] at hyl ⊢
        rcases hyc with hyc | ⟨yb, yo, rfl, hyb, hyc⟩
        · simp at hyc
        · have hr1 := HL.out.1
          have q0 := hyc 0 (by omega)
          have q1 := hyc 1 (by omega)
          have q2 := hyc 2 (by omega)
          have q3 := hyc 3 (by omega)
          rw [mk_at r hr1 0 (by omega)] at q0
          rw [mk_at r hr1 1 (by omega)] at q1
          rw [mk_at r hr1 2 (by omega)] at q2
          rw [mk_at r hr1 3 (by omega)] at q3
          obtain ⟨v0, hv0⟩ : ∃ z, z = r.getD 0 0 := ⟨_, rfl⟩
          obtain ⟨v1, hv1⟩ : ∃ z, z = r.getD 1 0 := ⟨_, rfl⟩
          obtain ⟨v2, hv2⟩ : ∃ z, z = r.getD 2 0 := ⟨_, rfl⟩
          obtain ⟨v3, hv3⟩ : ∃ z, z = r.getD 3 0 := ⟨_, rfl⟩
          rw [← hv0] at q0
          rw [← hv1] at q1
          rw [← hv2] at q2
          rw [← hv3] at q3
          have HM := Lib.hid (show mkIns r = ⟨v0, v1, v2, v3⟩ by unfold mkIns; rw [← hv0, ← hv1, ← hv2, ← hv3])
          clear hyc B3 B03 hm hv0 hv1 hv2 hv3 hr1
          simp only [Nat.add_zero] at q0
          have O3 := Lib.hid (O.out.below HB3.out)
          have hbs : w.heap.size + 2 ≤ w3.heap.size := by have := HS.out; have := HB3.out.size; omega
          have HBS := Lib.hid hbs
          clear hbs
          have l0 : 0 < m := by omega
          have l1 : 1 < m := by omega
          have l2 : 2 < m := by omega
          have l3 : 3 < m := by omega
          have i1 : (1 : Int) < (m : Int) := by omega
          have i2 : (2 : Int) < (m : Int) := by omega
          have i3 : (3 : Int) < (m : Int) := by omega
          have n1 : ¬ w.heap.size + 1 = yb := by have := (OW.out.lt yb rfl).1; have := HS.out; omega
          have n2 : ¬ yb = w.heap.size + 1 := fun e => n1 e.symm
          refine wp_open ?_
          intro K9 hK9
          go_cut [16] from 16 to 42 (fun s16 wq => ∃ (cq : Value), s16 = .int .i64 k ∧ Hid (wq.heap[w.heap.size + 1]? = some (.cells #[.int .i64 i, .int .i64 o, cq] 31)) ∧ Hid (wq.heap[w.heap.size]? = some (.cells #[.int .i64 0, .int .i64 0, .slice none 0 0] 31)) ∧
            Hid (OwnI (w.heap.size + 2) wq cq (L ++ [mkIns r])) ∧ Hid (Below w.heap.size w wq) ∧ Hid (w.heap.size + 2 ≤ wq.heap.size))
          case first =>
            -- REGION6
            refine wp_region_noPanic ?_
            refine wp_region_held_drew (S := fun w' => w'.cell? ⟨yb, yo, none⟩ = some (.int .i64 v0) ∧ w'.cell? ⟨yb, yo + 1, none⟩ = some (.int .i64 v1) ∧ w'.cell? ⟨yb, yo + 2, none⟩ = some (.int .i64 v2) ∧ w'.cell? ⟨yb, yo + 3, none⟩ = some (.int .i64 v3)) (by kernel_rfl) ?_ (fun hHeld => ?_)
            · (try dsimp only); go_keep
            refine wpAnyH_take (i := 0) (oi := _) (v := ?_) rfl (by kernel_rfl) (by kernel_rfl) (by kernel_rfl) (fun _ _ _ h => h) (Or.inl ⟨by rfl, ?_⟩) (by assumption) ?_
            rotate_left 1
            · intro w hSw; (try dsimp only at hSw); go_simp; try with_reducible rfl
            try simp only [Act.put, List.setIfInBounds_toArray]
            refine wpAnyH_take (i := 2) (oi := _) (v := ?_) rfl (by kernel_rfl) (by kernel_rfl) (by kernel_rfl) (fun _ _ _ h => h) (Or.inl ⟨by rfl, ?_⟩) (by assumption) ?_
            rotate_left 1
            · intro w hSw; (try dsimp only at hSw); go_simp; try with_reducible rfl
            try simp only [Act.put]
            refine wpAnyH_take (i := 3) (oi := _) (v := ?_) rfl (by kernel_rfl) (by kernel_rfl) (by kernel_rfl) (fun _ _ _ h => h) (Or.inl ⟨by rfl, ?_⟩) (by assumption) ?_
            rotate_left 1
            · intro w hSw; (try dsimp only at hSw); go_simp; try with_reducible rfl
            try simp only [Act.put]
            refine wpAnyH_take (i := 4) (oi := _) (v := ?_) rfl (by kernel_rfl) (by kernel_rfl) (by kernel_rfl) (fun _ _ _ h => h) (Or.inl ⟨by rfl, ?_⟩) (by assumption) ?_
            rotate_left 1
            · intro w hSw; (try dsimp only at hSw); go_simp; try with_reducible rfl
            try simp only [Act.put]
            refine wpAnyH_take (i := 5) (oi := _) (v := ?_) rfl (by kernel_rfl) (by kernel_rfl) (by kernel_rfl) (fun _ _ _ h => h) (Or.inl ⟨by rfl, ?_⟩) (by assumption) ?_
            rotate_left 1
            · intro w hSw; (try dsimp only at hSw); go_simp; try with_reducible rfl
            try simp only [Act.put]
            refine wpAnyH_take (i := 6) (oi := _) (v := ?_) rfl (by kernel_rfl) (by kernel_rfl) (by kernel_rfl) (fun _ _ _ h => h) (Or.inl ⟨by rfl, ?_⟩) (by assumption) ?_
            rotate_left 1
            · intro w hSw; (try dsimp only at hSw); go_simp; try with_reducible rfl
            try simp only [Act.put]
            refine wpAnyH_take (i := 7) (oi := _) (v := ?_) rfl (by kernel_rfl) (by kernel_rfl) (by kernel_rfl) (fun _ _ _ h => h) (Or.inl ⟨by rfl, ?_⟩) (by assumption) ?_
            rotate_left 1
            · intro w hSw; (try dsimp only at hSw); go_simp; try with_reducible rfl
            try simp only [Act.put]
            refine wpAnyH_take (i := 8) (oi := _) (v := ?_) rfl (by kernel_rfl) (by kernel_rfl) (by kernel_rfl) (fun _ _ _ h => h) (Or.inl ⟨by rfl, ?_⟩) (by assumption) ?_
            rotate_left 1
            · intro w hSw; (try dsimp only at hSw); go_simp; try with_reducible rfl
            try simp only [Act.put]
            refine wpAnyH_take (i := 9) (oi := _) (v := ?_) rfl (by kernel_rfl) (by kernel_rfl) (by kernel_rfl) (fun _ _ _ h => h) (Or.inl ⟨by rfl, ?_⟩) (by assumption) ?_
            rotate_left 1
            · intro w hSw; (try dsimp only at hSw); go_simp; try with_reducible rfl
            try simp only [Act.put]
            refine wpAnyH_take (i := 10) (oi := _) (v := ?_) rfl (by kernel_rfl) (by kernel_rfl) (by kernel_rfl) (fun _ _ _ h => h) (Or.inl ⟨by rfl, ?_⟩) (by assumption) ?_
            rotate_left 1
            · intro w hSw; (try dsimp only at hSw); go_simp; try with_reducible rfl
            try simp only [Act.put]
            refine wpAnyH_take (i := 11) (oi := _) (v := ?_) rfl (by kernel_rfl) (by kernel_rfl) (by kernel_rfl) (fun _ _ _ h => h) (Or.inl ⟨by rfl, ?_⟩) (by assumption) ?_
            rotate_left 1
            · intro w hSw; (try dsimp only at hSw); go_simp; try with_reducible rfl
            try simp only [Act.put]
            refine wpAnyH_take (i := 12) (oi := _) (v := ?_) rfl (by kernel_rfl) (by kernel_rfl) (by kernel_rfl) (fun _ _ _ h => h) (Or.inl ⟨by rfl, ?_⟩) (by assumption) ?_
            rotate_left 1
            · intro w hSw; (try dsimp only at hSw); go_simp; try with_reducible rfl
            try simp only [Act.put]
            refine wpAnyH_take (i := 13) (oi := _) (v := ?_) rfl (by kernel_rfl) (by kernel_rfl) (by kernel_rfl) (fun _ _ _ h => h) (Or.inl ⟨by rfl, ?_⟩) (by assumption) ?_
            rotate_left 1
            · intro w hSw; (try dsimp only at hSw); go_simp; try with_reducible rfl
            try simp only [Act.put]
            refine wpAnyH_take (i := 14) (oi := _) (v := ?_) rfl (by kernel_rfl) (by kernel_rfl) (by kernel_rfl) (fun _ _ _ h => h) (Or.inl ⟨by rfl, ?_⟩) (by assumption) ?_
            rotate_left 1
            · intro w hSw; (try dsimp only at hSw); go_simp; try with_reducible rfl
            try simp only [Act.put]
            refine wpAnyH_ready (rs := [1, 15]) (by kernel_rfl) (by simp) ?_
            refine AllReadyH.cons (o := _) rfl (fun K hK => ?_) ?_
            · go_simp
              refine hK.out _ _ ?_ (fun hHeld => ?_)
              · (try dsimp only); go_keep
              clear hK K
              try simp only [Act.put, List.setIfInBounds_toArray, List.set_cons_zero, List.set_cons_succ]
              refine wpAnyH_ready (rs := [15]) (by kernel_rfl) (by simp) ?_
              refine AllReadyH.cons (o := _) rfl (fun K hK => ?_) ?_
              · go_simp
                refine hK.out _ _ ?_ (fun hHeld => ?_)
                · (try dsimp only); go_keep
                clear hK K
                try simp only [Act.put, List.setIfInBounds_toArray, List.set_cons_zero, List.set_cons_succ]
                refine wpAnyH_ready (rs := [16]) (by kernel_rfl) (by simp) ?_
                refine AllReadyH.cons (o := _) rfl (fun K hK => ?_) ?_
                · (refine Go.step_append_lies _ rfl (.tmp 25) (.tmp 39) 29 rfl (w.heap.size + 2) 61 i0 (.agg #[.int .i64 0, .int .i64 0, .int .i64 0, .int .i64 0]) 4 32 Try.underlying29 hi' hy0 hy1 hy2 rfl (by decide) cv L.length (cellsI L) rfl (World.ownsRow.alloc (show (World.drew w3).ownsRow _ _ _ _ _ _ from O3.out) _) ⟨w3.heap.size, 0, none⟩ 1 1 [.int .i64 v0, .int .i64 v1, .int .i64 v2, .int .i64 v3] rfl rfl (lit_ins (World.drew w3) v0 v1 v2 v3) (one_ins v0 v1 v2 v3) (by omega) (by have := HCL.out; unfold maxLen; omega) (by have := HCL.out; omega) (by have := HBS.out; simp; omega) (w3.heap.size + 1) (by simp) ?_; intro g gc w4 hown hgrow hor hglt; have BB := lies_box HB33.out O3.out hgrow; have BB0 := lies_box0 HB03.out O3.out hgrow; obtain ⟨d0, d1, d2⟩ := cells3 BB; have yk := y_kept hyb OW.out O3.out hgrow; have q0' := (yk yo).trans q0; have q1' := (yk (yo + 1)).trans q1; have q2' := (yk (yo + 2)).trans q2; have q3' := (yk (yo + 3)).trans q3; have y2 := fr_of BB 2; have HOW := Lib.hid hown; have HGR := Lib.hid hgrow; have HBB := Lib.hid BB; have HBB0 := Lib.hid BB0; clear hown hgrow hor BB BB0)
                  refine hK.out _ _ ?_ (fun hHeld => ?_)
                  · (try dsimp only); go_keep
                  clear hK K
                  try simp only [Act.put, List.setIfInBounds_toArray]
                  refine wpAnyH_take (i := 17) (oi := _) (v := ?_) rfl (by kernel_rfl) (by kernel_rfl) (by kernel_rfl) (fun _ _ _ h => h) (Or.inl ⟨by rfl, ?_⟩) (by assumption) ?_
                  rotate_left 1
                  · intro w hSw; (try dsimp only at hSw); go_simp; try with_reducible rfl
                  try simp only [Act.put]
                  refine wpAnyH_ready (rs := [18]) (by kernel_rfl) (by simp) ?_
                  refine AllReadyH.cons (o := _) rfl (fun K hK => ?_) ?_
                  · go_simp
                    refine hK.out _ _ ?_ (fun hHeld => ?_)
                    · (try dsimp only); go_keep
                    clear hK K
                    try simp only [Act.put, List.setIfInBounds_toArray, List.set_cons_zero, List.set_cons_succ]
                    refine wpAnyH_done (by kernel_rfl) ?_ _
                    refine NoPanic.normal ?_
                    go_wp2_with fail
                    go_meet
                    case rel =>
                      have M := make_rel HB.out HB3.out HS.out O3.out HBB.out HBB0.out HOW.out HGR.out
                      exact ⟨_, rfl, Lib.hid M.1, Lib.hid M.2.1, Lib.hid (by rw [HM.out]; exact M.2.2.1), Lib.hid M.2.2.2.1, Lib.hid M.2.2.2.2⟩
                  exact AllReadyH.nil
                exact AllReadyH.nil
              exact AllReadyH.nil
            refine AllReadyH.cons (o := _) rfl (fun K hK => ?_) ?_
            · go_simp
              refine hK.out _ _ ?_ (fun hHeld => ?_)
              · (try dsimp only); go_keep
              clear hK K
              try simp only [Act.put, List.setIfInBounds_toArray, List.set_cons_zero, List.set_cons_succ]
              refine wpAnyH_ready (rs := [1]) (by kernel_rfl) (by simp) ?_
              refine AllReadyH.cons (o := _) rfl (fun K hK => ?_) ?_
              · go_simp
                refine hK.out _ _ ?_ (fun hHeld => ?_)
                · (try dsimp only); go_keep
                clear hK K
                try simp only [Act.put, List.setIfInBounds_toArray, List.set_cons_zero, List.set_cons_succ]
                refine wpAnyH_ready (rs := [16]) (by kernel_rfl) (by simp) ?_
                refine AllReadyH.cons (o := _) rfl (fun K hK => ?_) ?_
                · (refine Go.step_append_lies _ rfl (.tmp 25) (.tmp 39) 29 rfl (w.heap.size + 2) 61 i0 (.agg #[.int .i64 0, .int .i64 0, .int .i64 0, .int .i64 0]) 4 32 Try.underlying29 hi' hy0 hy1 hy2 rfl (by decide) cv L.length (cellsI L) rfl (World.ownsRow.alloc (show (World.drew w3).ownsRow _ _ _ _ _ _ from O3.out) _) ⟨w3.heap.size, 0, none⟩ 1 1 [.int .i64 v0, .int .i64 v1, .int .i64 v2, .int .i64 v3] rfl rfl (lit_ins (World.drew w3) v0 v1 v2 v3) (one_ins v0 v1 v2 v3) (by omega) (by have := HCL.out; unfold maxLen; omega) (by have := HCL.out; omega) (by have := HBS.out; simp; omega) (w3.heap.size + 1) (by simp) ?_; intro g gc w4 hown hgrow hor hglt; have BB := lies_box HB33.out O3.out hgrow; have BB0 := lies_box0 HB03.out O3.out hgrow; obtain ⟨d0, d1, d2⟩ := cells3 BB; have yk := y_kept hyb OW.out O3.out hgrow; have q0' := (yk yo).trans q0; have q1' := (yk (yo + 1)).trans q1; have q2' := (yk (yo + 2)).trans q2; have q3' := (yk (yo + 3)).trans q3; have y2 := fr_of BB 2; have HOW := Lib.hid hown; have HGR := Lib.hid hgrow; have HBB := Lib.hid BB; have HBB0 := Lib.hid BB0; clear hown hgrow hor BB BB0)
                  refine hK.out _ _ ?_ (fun hHeld => ?_)
                  · (try dsimp only); go_keep
                  clear hK K
                  try simp only [Act.put, List.setIfInBounds_toArray]
                  refine wpAnyH_take (i := 17) (oi := _) (v := ?_) rfl (by kernel_rfl) (by kernel_rfl) (by kernel_rfl) (fun _ _ _ h => h) (Or.inl ⟨by rfl, ?_⟩) (by assumption) ?_
                  rotate_left 1
                  · intro w hSw; (try dsimp only at hSw); go_simp; try with_reducible rfl
                  try simp only [Act.put]
                  refine wpAnyH_ready (rs := [18]) (by kernel_rfl) (by simp) ?_
                  refine AllReadyH.cons (o := _) rfl (fun K hK => ?_) ?_
                  · go_simp
                    refine hK.out _ _ ?_ (fun hHeld => ?_)
                    · (try dsimp only); go_keep
                    clear hK K
                    try simp only [Act.put, List.setIfInBounds_toArray, List.set_cons_zero, List.set_cons_succ]
                    refine wpAnyH_done (by kernel_rfl) ?_ _
                    refine NoPanic.normal ?_
                    go_wp2_with fail
                    go_meet
                    case rel =>
                      have M := make_rel HB.out HB3.out HS.out O3.out HBB.out HBB0.out HOW.out HGR.out
                      exact ⟨_, rfl, Lib.hid M.1, Lib.hid M.2.1, Lib.hid (by rw [HM.out]; exact M.2.2.1), Lib.hid M.2.2.2.1, Lib.hid M.2.2.2.2⟩
                  exact AllReadyH.nil
                exact AllReadyH.nil
              exact AllReadyH.nil
            exact AllReadyH.nil
          case rest =>
            obtain ⟨cq, rfl, C1, C2, C3, C4, C5⟩ := hcut
            refine hK9 _ _ ?_
            go_wp2_with fail
            go_roundw
            case rel =>
              have C3' := Lib.hid (show OwnI (w.heap.size + 2) wc cq ((R.take (k + 1)).map mkIns) by rw [HTS.out]; exact C3.out)
              first
              | exact ⟨k + 1, cq, by omega, by go_num, C1, C2, C3', C4, C5⟩
              | exact ⟨_, _, _, _, _, _, _, _, _, _, _, _, _, _, _, _, _, _, _, _, _, _, _, _, _, _, _, _, ⟨k + 1, cq, by omega, by go_num, C1, C2, C3', C4, C5⟩, rfl⟩
            case measure => simp [intOf]; omega
    · obtain rfl : k = n := by omega
      have HE := Lib.hid (show (R.take k).map mkIns = R.map mkIns by rw [List.take_of_length_le (by rw [← HN.out]; exact Nat.le_refl _)])
      rw [HE.out] at O
      have HCL := Lib.hid (show (R.map mkIns).length = k by rw [List.length_map]; exact HN.out.symm)
      obtain ⟨c0, c1, c2⟩ := cells3 B.out
      obtain ⟨b0, b1, b2⟩ := cells3 B0.out
      have y2 := fr_of B.out 2
      have x0 := fr_of B0.out 0
      have x1 := fr_of B0.out 1
      have x2 := fr_of B0.out 2
      have l0 := lt_of B0.out
      have l1 := lt_of B.out
      go_wp2_with (at_builtin; refine wpList_append_own_at _ rfl _ _ 29 rfl (w.heap.size + 2) 61 i0 (.agg #[.int .i64 0, .int .i64 0, .int .i64 0, .int .i64 0]) 4 32 Try.underlying29 hi' hy0 hy1 hy2 rfl (by decide) cv (R.map mkIns).length (cellsI (R.map mkIns)) rfl (World.ownsRow.alloc O.out _) ⟨wr.heap.size, 0, none⟩ 1 1 [.int .i64 8, .int .i64 0, .int .i64 0, .int .i64 0] rfl rfl (lit_jump _) jump_one ?c3 ?c4 ?c5 ?_)
      case c3 => have := HCL.out; unfold maxLen; omega
      case c4 => have := HCL.out; omega
      case c5 => have := HS.out; simp; omega
      intro v' w4 hown hgrow _ hat
      have hl0 : ((wr.alloc (.cells #[.int .i64 8, .int .i64 0, .int .i64 0, .int .i64 0] 61)).heap)[w.heap.size + 1]? = _ := (Below.heap_alloc _ _ _ l1).trans B.out
      have hl1 : ((wr.alloc (.cells #[.int .i64 8, .int .i64 0, .int .i64 0, .int .i64 0] 61)).heap)[w.heap.size]? = _ := (Below.heap_alloc _ _ _ l0).trans B0.out
      have BB := (hgrow.block (w.heap.size + 1) (by simp; omega) (fun e => by have := (O.out.lt _ e.symm).1; omega)).trans hl0
      have BB0 := (hgrow.block w.heap.size (by simp; omega) (fun e => by have := (O.out.lt _ e.symm).1; omega)).trans hl1
      obtain ⟨d0, d1, d2⟩ := cells3 BB
      obtain ⟨e0, e1, e2⟩ := cells3 BB0
      have z2 := fr_of BB 2
      have f0 := fr_of BB0 0
      have f1 := fr_of BB0 1
      have f2 := fr_of BB0 2
      have O4 := Lib.hid (show OwnI (w.heap.size + 2) w4 v' (R.map mkIns ++ [jump0]) from by unfold OwnI; rw [List.length_append, cellsI_app, List.length_map]; exact hown)
      have HB4 := Lib.hid (((HB.out.alloc (by omega) (.cells #[.int .i64 8, .int .i64 0, .int .i64 0, .int .i64 0] 61))).grown hgrow (by simp; omega) (fun q e => by have := (O.out.lt _ e).1; omega))
      clear hown hgrow hat hl0 hl1 BB BB0 c0 c1 c2 b0 b1 b2 y2 x0 x1 x2
      obtain ⟨a', cc', rfl⟩ := O4.out.shape
      go_wp2_with fail
      refine bodyPost_ret (v := .agg #[.int .i64 i, .int .i64 o, .slice a' (R.map mkIns ++ [jump0]).length cc']) (by simp [results, Try.results103, go_sem, e0, e1, e2]) rfl ⟨_, rfl, ⟨_, rfl, ?_⟩, ?_⟩
      · exact (((((OwnI.setB O4.out (by simp) _).setB (by simp) _).setB (by simp) _).setB (by simp) _)).mono (by omega)
      · exact ((((HB4.out.setCell (by simp) _).setCell (by simp) _).setCell (by simp) _).setCell (by simp) _)
end Go.Proofs.Ythniafpkkgcjnaa
