/-
  The graph that the model draws. No statement of the seat is proved here.
-/
import Derived.Test.YtokhdnejaecejaaGcd
import Derived.Test.YtokhdnejaecejaaDraw
import Derived.Test.YtokhdnejaecejaaGrM
import Derived.Deep.RegionHeld3
import Derived.Deep.QuietTactic
import Derived.Deep.CutRange
namespace Go.Proofs.Ytokhdnejaecejaa
open Go.RowKit

theorem litE (w : World) (cs : Array Value) (T : Nat) : ∀ j u, cs.toList[j]? = some u → (w.alloc (.cells cs T)).cell? ((⟨w.heap.size, 0, none⟩ : Addr).add j) = some u := by
  intro j u hj
  rw [Addr.add_lit, Nat.zero_add, cell_of (hp1 w _), ← Array.getElem?_toList]; exact hj
theorem own_setE {lo : Nat} {w : World} {v : Value} {xs : List Int} {a : Addr} {u : Value} (h : Own lo w v xs) (hl : ∀ q, v.ownBlock = some q → q < a.block) : Own lo (w.setCell a u) v xs := by
  refine World.ownsRow.kept h (grown_setCell w a u) ?_
  cases hv : v.ownBlock with
  | none => exact .inl rfl
  | some k => right; intro e; have := hl k hv; simp at e; omega
theorem ownEd_setE {lo : Nat} {w : World} {v : Value} {xs : List Edg} {a : Addr} {u : Value} (h : OwnEd lo w v xs) (hl : ∀ q, v.ownBlock = some q → q < a.block) : OwnEd lo (w.setCell a u) v xs := by
  refine World.ownsRow.kept h (grown_setCell w a u) ?_
  cases hv : v.ownBlock with
  | none => exact .inl rfl
  | some k => right; intro e; have := hl k hv; simp at e; omega
theorem blk_set {w : World} {g : Nat} {o : Obj} {a : Addr} {u : Value} (h : w.heap[g]? = some o) (hne : g ≠ a.block) : (w.setCell a u).heap[g]? = some o := by
  rw [Below.heap_setCell w a u g hne]; exact h
theorem vals_at' {xs : List Int} {i : Nat} (h : i < xs.length) : (vals xs)[i]? = some (.int .i64 (xs.getD i 0)) := by simp [vals, List.getD, h]
theorem ownEd_nil (lo : Nat) (w : World) : OwnEd lo w (.slice none 0 0) [] := World.ownsRow_nil _ _ _ _
theorem ownEd_other {lo b : Nat} {w w' : World} {v : Value} {xs : List Edg} (h : OwnEd lo w v xs) (hg : w.grownBy w' (some b)) (hb : b < lo) : OwnEd lo w' v xs := by
  refine World.ownsRow.kept h hg ?_
  cases hv : v.ownBlock with
  | none => exact .inl rfl
  | some k => right; intro e; have := h.lt k hv; simp at e; omega
theorem blk_other {w w' : World} {g b : Nat} {o : Obj} (h : w.heap[g]? = some o) (hg : w.grownBy w' (some b)) (hne : g ≠ b) : w'.heap[g]? = some o :=
  (hg.block g (lt_of h) (fun e => hne (by injection e))).trans h

set_option maxRecDepth 100000 in
set_option maxHeartbeats 1000000 in
theorem sgraph_any (b : Nat) (bs : List Int) (w : World) (h : Cur w b bs) :
    Calls Try.prog 69 #[.pointer (some ⟨b, 0, none⟩)] w fun e w' => ∃ (v : Value) (g : Grf), e = .returned v ∧ GrO w.heap.size w' v g ∧ (0 ≤ g.nodes ∧ g.nodes ≤ 5) ∧ g.edges.length ≤ 5 ∧ Below b w w' := by
  have hbw := h.lt
  obtain ⟨RB, hRB⟩ : ∃ r, r = w.heap.size := ⟨_, rfl⟩
  obtain ⟨i0, hi, hz0, hz1, hz2⟩ := info_parts info
  obtain ⟨j0, hj, hy0, hy1, hy2⟩ := infoEd_parts
  go_enter Try.func69, Try.ntmps69
  go_upto_region 1 with fail
  have hcz := h.alloc (.cells #[.int .i64 0, .slice none 0 0] 29)
  have hrz := hp1 w (.cells #[.int .i64 0, .slice none 0 0] 29)
  have hbz : Below b w (w.alloc (.cells #[.int .i64 0, .slice none 0 0] 29)) := (Below.refl b w).alloc (by omega) _
  rw [← hRB] at hrz hbw ⊢
  have hRW : RB ≤ w.heap.size ∧ w.heap.size ≤ RB := by omega
  generalize hw0 : w.alloc (.cells #[.int .i64 0, .slice none 0 0] 29) = w0
  rw [hw0] at hcz hrz hbz
  have HC0 := Lib.hid hcz
  have HR0 := Lib.hid hrz
  have HB0 := Lib.hid hbz
  clear hcz hrz hbz hw0 h hRB
  go_wp2_with (go_at_call 108; refine (lbelow_any b bs 6 _ HC0.out (by omega) (by omega)).mono ?_; rintro e w1 ⟨n, rfl, n0, n1, hc, hg⟩; have HC1 := Lib.hid hc; have HB1 := Lib.hid (HB0.out.trans (below_grownb hg (by have := HB0.out.size; omega))); have HR1 := Lib.hid (blk_other HR0.out hg (by omega)); have hsz1 := hg.size; obtain ⟨nn, rfl⟩ : ∃ m : Nat, n = (m : Int) := ⟨n.toNat, by omega⟩; have hgbl := lt_of HR1.out; have HQ2 := Lib.hid (show Own (w1.heap.size + 1) ((w1.alloc (.cells #[.int .i64 nn, .slice none 0 0] 29)).alloc (.cells #[] 3)) (.slice (some ⟨w1.heap.size + 1, 0, none⟩) 0 0) [] by have q := lit0 (w1.alloc (.cells #[.int .i64 nn, .slice none 0 0] 29)); rw [show (w1.alloc (.cells #[.int .i64 nn, .slice none 0 0] 29)).heap.size = w1.heap.size + 1 by simp] at q; exact q); have HC2 := Lib.hid ((HC1.out.alloc (.cells #[.int .i64 nn, .slice none 0 0] 29)).alloc (.cells #[] 3)); have HG2 := Lib.hid (show ((w1.alloc (.cells #[.int .i64 nn, .slice none 0 0] 29)).alloc (.cells #[] 3)).heap[w1.heap.size]? = some (.cells #[.int .i64 nn, .slice none 0 0] 29) from hp21 w1 _ _); have HR2 := Lib.hid (blk_in HR1.out (((Below.refl w1.heap.size w1).al (.cells #[.int .i64 nn, .slice none 0 0] 29)).al (.cells #[] 3))); have HB2 := Lib.hid (HB1.out.trans ((((Below.refl w1.heap.size w1).al (.cells #[.int .i64 nn, .slice none 0 0] 29)).al (.cells #[] 3)).mono (by have := HB1.out.size; omega))); clear hc hg)
  go_loopw [4, 5] (fun u i wr => ∃ (k : Nat) (xs : List Int), k ≤ nn ∧ i = .int .i64 k ∧ Hid (Own (w1.heap.size + 1) wr u xs) ∧ Hid (xs.length = k) ∧ Hid (∀ x ∈ xs, 1 ≤ x ∧ x ≤ 4) ∧ Hid (Cur wr b bs) ∧ Hid (wr.heap[w1.heap.size]? = some (.cells #[.int .i64 nn, .slice none 0 0] 29)) ∧ Hid (wr.heap[RB]? = some (.cells #[.int .i64 0, .slice none 0 0] 29)) ∧ Hid (Below b w wr)) (fun _ i _ => nn - (intOf i).toNat)
  case atStart => exact ⟨0, [], Nat.zero_le _, rfl, HQ2, Lib.hid rfl, Lib.hid (fun x hx => by simp at hx), HC2, HG2, HR2, HB2⟩
  case round =>
    clear HQ2 HC2 HG2 HR2 HB2
    obtain ⟨k, xs, hk, rfl, HQ3, HL, HX, HC3, HG3, HR3, HB3⟩ := hrel
    obtain ⟨qa, qc, rfl⟩ := HQ3.out.shape
    rw [HL.out]
    have hqk := HQ3.out
    rw [HL.out] at hqk
    have HQ3 := Lib.hid hqk
    clear hqk
    obtain ⟨g0, g1⟩ := cells2 HG3.out
    have lg := lt_of HG3.out
    by_cases hlt : k < nn
    · have hwr := HB3.out.size
      go_wp2_with (first | (at_builtin; refine wpList_append_own_at _ rfl _ _ 33 rfl (w1.heap.size + 1) 3 i0 (.int .i64 0) 1 8 Try.underlying33 hi hz0 hz1 hz2 rfl (by decide) _ k (vals xs) rfl (World.ownsRow.alloc (show w4.ownsRow (w1.heap.size + 1) 3 1 (.slice qa k qc) k (vals xs) by have q := HQ4.out; unfold Own at q; rw [HL.out] at q; exact q) _) ⟨w4.heap.size, 0, none⟩ 1 1 [.int .i64 (1 + r)] rfl rfl (one_src _ _) (one_one _) ?c3 ?c4 ?c5 ?_) | (go_at_call 108; refine (lbelow_any b bs 4 _ HC3.out (by omega) (by omega)).mono ?_; rintro e w4 ⟨r, rfl, r0, r1, hc, hg⟩; have HC4 := Lib.hid hc; have HB4 := Lib.hid (HB3.out.trans (below_grownb hg (by have := HB3.out.size; omega))); have HQ4 := Lib.hid (own_other HQ3.out hg (by omega)); have HG4 := Lib.hid (blk_other HG3.out hg (by omega)); have HR4 := Lib.hid (blk_other HR3.out hg (by omega)); have hsz4 := hg.size; clear g0 g1 lg; have wr1 : wrap64 (1 + r) = 1 + r := IntWalk.wrap64_in _ (by omega); obtain ⟨g0, g1⟩ := cells2 HG4.out; have lg := lt_of HG4.out; clear hc hg))
      case c3 => unfold maxLen; omega
      case c4 => omega
      case c5 => have := lt_of HG4.out; simp; omega
      intro v' w5 hown hgrow _ _
      have hs4 := lt_of HG4.out
      have hr4 := lt_of HR4.out
      have R := app_rel (B := b) (L := xs) HB4.out (by omega) (by omega) HQ4.out (by rw [HL.out]; exact hown) hgrow
      have HQ5 := Lib.hid R.1
      have HB5 := Lib.hid R.2
      have HC5 := Lib.hid (cur_app HC4.out hgrow (fun q e => by have := (HQ4.out.lt q e).1; omega))
      have HG5 := Lib.hid (show w5.heap[w1.heap.size]? = some (.cells #[.int .i64 nn, .slice none 0 0] 29) by
        rw [hgrow.block w1.heap.size (by simp; omega) (fun e => by have := (HQ4.out.lt _ e.symm).1; omega)]
        exact (Below.heap_alloc _ _ _ hs4).trans HG4.out)
      have HR5 := Lib.hid (show w5.heap[RB]? = some (.cells #[.int .i64 0, .slice none 0 0] 29) by
        rw [hgrow.block RB (by simp; omega) (fun e => by have := (HQ4.out.lt _ e.symm).1; omega)]
        exact (Below.heap_alloc _ _ _ hr4).trans HR4.out)
      have HX5 := Lib.hid (show ∀ x ∈ xs ++ [1 + r], 1 ≤ x ∧ x ≤ 4 by
        intro x hx
        rw [List.mem_append] at hx
        rcases hx with q | q
        · exact HX.out x q
        · simp at q; omega)
      clear hown hgrow R hs4 hr4
      go_wp2_with fail
      go_roundw
      case rel => exact ⟨k + 1, xs ++ [1 + r], by omega, by go_num, HQ5, Lib.hid (by rw [List.length_append, HL.out]; rfl), HX5, HC5, HG5, HR5, HB5⟩
      case measure => simp [intOf]; omega
    · obtain rfl : k = nn := by omega
      go_wp2_with (go_at_call 108; refine (lbelow_any b bs 6 _ HC3.out (by omega) (by omega)).mono ?_; rintro e w6 ⟨kk, rfl, kk0, kk1, hc, hg⟩; have HC6 := Lib.hid hc; have HB6 := Lib.hid (HB3.out.trans (below_grownb hg (by have := HB3.out.size; omega))); have HQ6 := Lib.hid (own_other HQ3.out hg (by omega)); have HG6 := Lib.hid (blk_other HG3.out hg (by omega)); have HR6 := Lib.hid (blk_other HR3.out hg (by omega)); have hsz6 := hg.size; clear g0 g1 lg; clear hc hg)
      obtain ⟨k2, rfl⟩ : ∃ m : Nat, kk = (m : Int) := ⟨kk.toNat, by omega⟩
      have HAP6 := Lib.hid (show Apart (.slice qa k qc) (.slice none 0 0) from (apart_nil _).symm)
      go_loopw [6] (fun i wr => ∃ (k3 : Nat) (es : List Edg) (ea : Option Addr) (ec : Nat), k3 ≤ 5 ∧ i = .int .i64 k3 ∧ Hid (es.length + k3 ≤ 5) ∧ Hid (wr.heap[w1.heap.size]? = some (.cells #[.int .i64 k, .slice ea es.length ec] 29)) ∧ Hid (OwnEd (w1.heap.size + 1) wr (.slice ea es.length ec) es) ∧ Hid (Own (w1.heap.size + 1) wr (.slice qa k qc) xs) ∧ Hid (Apart (.slice qa k qc) (.slice ea es.length ec)) ∧ Hid (Cur wr b bs) ∧ Hid (wr.heap[RB]? = some (.cells #[.int .i64 0, .slice none 0 0] 29)) ∧ Hid (Below b w wr)) (fun i _ => (intOf i).toNat)
      case atStart => exact ⟨k2, [], none, 0, by omega, rfl, Lib.hid (by simp; omega), HG6, Lib.hid (ownEd_nil _ _), HQ6, HAP6, HC6, HR6, HB6⟩
      case round =>
        clear HC6 HR6 HB6 HQ6 HG6 HAP6 HC3 HR3 HB3 HQ3 HG3 hsz6
        obtain ⟨k3, es, ea, ec, hk3, rfl, HSUM, HG7, HE7, HQ7, HAP7, HC7, HR7, HB7⟩ := hrel
        obtain ⟨en, hen⟩ : ∃ z, z = es.length := ⟨_, rfl⟩
        rw [← hen] at HSUM HG7 HE7 HAP7
        have HEN := Lib.hid hen
        clear hen
        obtain ⟨g0, g1⟩ := cells2 HG7.out
        have lg := lt_of HG7.out
        by_cases hgo : 0 < k3 ∧ 0 < k
        · obtain ⟨h3, hk1⟩ := hgo
          have d1 : decide ((k3 : Int) > 0) = true := decide_eq_true (by omega)
          have d1' : decide (0 < (k3 : Int)) = true := decide_eq_true (by omega)
          have d1n : decide (0 < k3) = true := decide_eq_true h3
          have d2 : decide ((k : Int) > 0) = true := decide_eq_true (by omega)
          have d2' : decide (0 < (k : Int)) = true := decide_eq_true (by omega)
          have d2n : decide (0 < k) = true := decide_eq_true hk1
          have hw7 := HB7.out.size
          go_wp2_with (first | (go_at_call 108; refine (lbelow_any b bs k _ HC8.out (by omega) (by omega)).mono ?_; rintro e w9 ⟨rb, rfl, rb0, rb1, hc, hg⟩; have HC9 := Lib.hid hc; have HB9 := Lib.hid (HB8.out.trans (below_grownb hg (by have := HB8.out.size; omega))); have HQ9 := Lib.hid (own_other HQ8.out hg (by omega)); have HE9 := Lib.hid (ownEd_other HE8.out hg (by omega)); have HG9 := Lib.hid (blk_other HG8.out hg (by omega)); have HR9 := Lib.hid (blk_other HR8.out hg (by omega)); have hsz9 := hg.size; clear g0 g1 lg; obtain ⟨g0, g1⟩ := cells2 HG9.out; have lg := lt_of HG9.out; clear hc hg) | (go_at_call 108; refine (lbelow_any b bs k _ HC7.out (by omega) (by omega)).mono ?_; rintro e w8 ⟨ra, rfl, ra0, ra1, hc, hg⟩; have HC8 := Lib.hid hc; have HB8 := Lib.hid (HB7.out.trans (below_grownb hg (by have := HB7.out.size; omega))); have HQ8 := Lib.hid (own_other HQ7.out hg (by omega)); have HE8 := Lib.hid (ownEd_other HE7.out hg (by omega)); have HG8 := Lib.hid (blk_other HG7.out hg (by omega)); have HR8 := Lib.hid (blk_other HR7.out hg (by omega)); have hsz8 := hg.size; clear g0 g1 lg; obtain ⟨g0, g1⟩ := cells2 HG8.out; have lg := lt_of HG8.out; clear hc hg))
          obtain ⟨i1, rfl⟩ : ∃ m : Nat, ra = (m : Int) := ⟨ra.toNat, by omega⟩
          obtain ⟨i2, rfl⟩ : ∃ m : Nat, rb = (m : Int) := ⟨rb.toNat, by omega⟩
          have hi1 : i1 < k := by omega
          have hi2 : i2 < k := by omega
          obtain ⟨qg, rfl⟩ : ∃ g, qa = some ⟨g, 0, none⟩ := by
            rcases HQ9.out.2 with ⟨q, _⟩ | ⟨g, cap', cur, q, _⟩
            · simp only [Value.slice.injEq] at q; omega
            · simp only [Value.slice.injEq] at q; exact ⟨g, q.1⟩
          have HQR := Lib.hid (show w9.ownsRow (w1.heap.size + 1) 3 1 (.slice (some ⟨qg, 0, none⟩) k qc) k (vals xs) by have q := HQ9.out; unfold Own at q; rw [HL.out] at q; exact q)
          obtain ⟨m1, hm1⟩ : ∃ m : Nat, xs.getD i1 0 = (m : Int) ∧ 1 ≤ m ∧ m ≤ 4 := by
            have q := HX.out (xs.getD i1 0) (by have := HL.out; rw [show xs.getD i1 0 = xs[i1]'(by omega) by simp [List.getD, show i1 < xs.length by omega]]; exact List.getElem_mem _)
            exact ⟨(xs.getD i1 0).toNat, by omega, by omega, by omega⟩
          obtain ⟨m2, hm2⟩ : ∃ m : Nat, xs.getD i2 0 = (m : Int) ∧ 1 ≤ m ∧ m ≤ 4 := by
            have q := HX.out (xs.getD i2 0) (by have := HL.out; rw [show xs.getD i2 0 = xs[i2]'(by omega) by simp [List.getD, show i2 < xs.length by omega]]; exact List.getElem_mem _)
            exact ⟨(xs.getD i2 0).toNat, by omega, by omega, by omega⟩
          have q1 : w9.cell? ⟨qg, i1, none⟩ = some (.int .i64 (m1 : Int)) := by rw [HQR.out.cellAt i1 (by omega), vals_at' (by rw [HL.out]; exact hi1), hm1.1]
          have q2 : w9.cell? ⟨qg, i2, none⟩ = some (.int .i64 (m2 : Int)) := by rw [HQR.out.cellAt i2 (by omega), vals_at' (by rw [HL.out]; exact hi2), hm2.1]
          have HM1 := Lib.hid hm1
          have HM2 := Lib.hid hm2
          have hqgl : qg < w9.heap.size := (World.ownsRow.lt HQR.out _ rfl).2
          have HQL := Lib.hid (show ∀ q, (Value.slice (some ⟨qg, 0, none⟩) k qc).ownBlock = some q → q < w9.heap.size from fun q e => (World.ownsRow.lt HQR.out q e).2)
          have HEL := Lib.hid (show ∀ q, (Value.slice ea en ec).ownBlock = some q → q < w9.heap.size from fun q e => (HE9.out.lt q e).2)
          obtain ⟨d, hd⟩ : ∃ d, d = Nat.gcd m1 m2 := ⟨_, rfl⟩
          have HDG := Lib.hid (show 1 ≤ d ∧ d ≤ 4 by
            rw [hd]
            exact ⟨Nat.gcd_pos_of_pos_left _ (by omega), Nat.le_trans (Nat.gcd_le_left _ (by omega)) hm1.2.2⟩)
          have G := fun (W : World) => sgcd_any m1 m2 W (by have := HM1.out; omega) (by have := HM2.out; omega)
          rw [← hd] at G
          have HGC := Lib.hid G
          clear hm1 hm2 hd G
          go_cut [9] from 29 to 91 (fun s9 wz => s9 = .int .i64 (d : Int) ∧ Hid (Below w9.heap.size w9 wz))
          case first =>
            go_quiet ((go_at_call 109; exact Calls.quiet_of_same ((HGC.out _).mono fun _ _ hh => ⟨hh.1, hh.2.symm⟩)))
            all_goals
              go_wp2_with fail
              go_meet
              case rel => exact ⟨rfl, Lib.hid (Below.toDraw (Below.refl _ _) _)⟩
          case rest =>
            rename World => w10
            obtain ⟨rfl, hb10⟩ := hcut
            have hb10 := hb10.out
            have HC10 := Lib.hid (HC9.out.below (hb10.mono (by have := HC9.out.lt; omega)))
            have HQ10 := Lib.hid (HQ9.out.below hb10)
            have HE10 := Lib.hid (HE9.out.below hb10)
            have HG10 := Lib.hid (blk_in HG9.out hb10)
            have HR10 := Lib.hid (blk_in HR9.out hb10)
            have HB10 := Lib.hid (HB9.out.trans (hb10.mono (by have := HB9.out.size; omega)))
            have p1 := (hb10.cell (p := ⟨qg, i1, none⟩) hqgl).trans q1
            have p2 := (hb10.cell (p := ⟨qg, i2, none⟩) hqgl).trans q2
            have hz10 := hb10.size
            have hqg2 : qg < w10.heap.size := by omega
            have hgE : w1.heap.size < w10.heap.size := lt_of HG10.out
            have HQLE := Lib.hid (show ∀ q, (Value.slice (some ⟨qg, 0, none⟩) k qc).ownBlock = some q → q < w10.heap.size from fun q e => Nat.lt_of_lt_of_le (HQL.out q e) hz10)
            have HELE := Lib.hid (show ∀ q, (Value.slice ea en ec).ownBlock = some q → q < w10.heap.size from fun q e => Nat.lt_of_lt_of_le (HEL.out q e) hz10)
            have hd0 : ((d : Int) == 0) = false := by rw [beq_eq_false_iff_ne]; have := HDG.out; omega
            have hd1 : ¬ ((d : Int) = 0) := by have := HDG.out; omega
            have hd2 : ¬ (d = 0) := by have := HDG.out; omega
            clear q1 q2 hb10 g0 g1 lg hsz8 hsz9
            go_upto_region 13 with fail
            go_cut [10] from 29 to 91 (fun s10 wz => ∃ mk tk : Int, s10 = .pointer (some ⟨w10.heap.size, 0, none⟩) ∧ Hid (wz.heap[w10.heap.size]? = some (.cells #[.int .i64 (i1 : Int), .int .i64 (i2 : Int), .int .i64 (mk), .int .i64 (tk), .int .i64 (0)] 62)) ∧ Hid (Below w10.heap.size w10 wz))
            case first =>
              go_region_held3 (fun w' => w'.cell? ⟨qg, i1, none⟩ = some (.int .i64 (m1 : Int)) ∧ w'.cell? ⟨qg, i2, none⟩ = some (.int .i64 (m2 : Int))) (go_keep) (first | fail)
              all_goals
                go_wp2_with fail
                go_meet
                case rel => exact ⟨_, _, rfl, (by first | exact Lib.hid (hp1 _ _) | exact Lib.hid (hp1 (World.drew w10) _)), (by first | exact Lib.hid ((Below.refl _ _).al _) | exact Lib.hid ((Below.refl _ _).al _).drew | exact Lib.hid (((Below.refl _ _).drew).al _))⟩
            case rest =>
            rename World => w11
            obtain ⟨mk, tk, rfl, HX11, hb11⟩ := hcut
            have hb11 := hb11.out
            have HC11 := Lib.hid (HC10.out.below (hb11.mono (by have := HC10.out.lt; omega)))
            have HQ11 := Lib.hid (HQ10.out.below hb11)
            have HE11 := Lib.hid (HE10.out.below hb11)
            have HG11 := Lib.hid (blk_in HG10.out hb11)
            have HR11 := Lib.hid (blk_in HR10.out hb11)
            have HB11 := Lib.hid (HB10.out.trans (hb11.mono (by have := HB10.out.size; omega)))
            clear p1 p2 hb11 HC10 HQ10 HE10 HG10 HR10 HB10 HC9 HQ9 HE9 HG9 HR9 HB9 HC8 HQ8 HE8 HG8 HR8 HB8 HC7 HQ7 HE7 HG7 HR7 HB7 hd0 hd1 hd2
            go_upto_region 14 with fail
            go_cut [76] from 29 to 75 (fun s76 wz => ∃ c : Bool, s76 = .bool c ∧ Hid (wz.heap[w10.heap.size]? = some (.cells #[.int .i64 (i1 : Int), .int .i64 (i2 : Int), .int .i64 (mk), .int .i64 (tk), .int .i64 (0)] 62)) ∧ Hid (Cur wz b bs) ∧ Hid (Own (w1.heap.size + 1) wz (.slice (some ⟨qg, 0, none⟩) k qc) xs) ∧ Hid (OwnEd (w1.heap.size + 1) wz (.slice ea en ec) es) ∧ Hid (wz.heap[w1.heap.size]? = some (.cells #[.int .i64 k, .slice ea en ec] 29)) ∧ Hid (wz.heap[RB]? = some (.cells #[.int .i64 0, .slice none 0 0] 29)) ∧ Hid (Below b w wz))
            case first =>
              by_cases hle : i2 ≤ i1
              · have d3 : decide ((i2 : Int) ≤ (i1 : Int)) = true := decide_eq_true (by omega)
                have d3n : decide (i2 ≤ i1) = true := decide_eq_true hle
                go_wp2_with fail
                go_meet
                case rel => exact ⟨true, rfl, HX11, HC11, HQ11, HE11, HG11, HR11, HB11⟩
              · have d3 : decide ((i2 : Int) ≤ (i1 : Int)) = false := decide_eq_false (by omega)
                have d3n : decide (i2 ≤ i1) = false := decide_eq_false hle
                go_wp2_with (go_at_call 110; refine (once_any b bs 4 _ HC11.out (by omega) (by omega)).mono ?_; rintro e w12 ⟨c, rfl, hc, hg⟩; have HC12 := Lib.hid hc; have HB12 := Lib.hid (HB11.out.trans (below_grownb hg (by have := HB11.out.size; omega))); have HQ12 := Lib.hid (own_other HQ11.out hg (by omega)); have HE12 := Lib.hid (ownEd_other HE11.out hg (by omega)); have HG12 := Lib.hid (blk_other HG11.out hg (by omega)); have HR12 := Lib.hid (blk_other HR11.out hg (by omega)); have HX12 := Lib.hid (blk_other HX11.out hg (by omega)); clear hc hg)
                go_meet
                case rel => exact ⟨c, rfl, HX12, HC12, HQ12, HE12, HG12, HR12, HB12⟩
            case rest =>
            rename World => w13
            obtain ⟨c, rfl, HX13, HC13, HQ13, HE13, HG13, HR13, HB13⟩ := hcut
            clear HX11 HC11 HQ11 HE11 HG11 HR11 HB11
            go_upto_if 76 with fail
            go_cut [10] from 77 to 91 (fun s10 wz => ∃ tok : Int, s10 = .pointer (some ⟨w10.heap.size, 0, none⟩) ∧ Hid (wz.heap[w10.heap.size]? = some (.cells #[.int .i64 (i1 : Int), .int .i64 (i2 : Int), .int .i64 (mk), .int .i64 (tk), .int .i64 (tok)] 62)) ∧ Hid (Cur wz b bs) ∧ Hid (Own (w1.heap.size + 1) wz (.slice (some ⟨qg, 0, none⟩) k qc) xs) ∧ Hid (OwnEd (w1.heap.size + 1) wz (.slice ea en ec) es) ∧ Hid (wz.heap[w1.heap.size]? = some (.cells #[.int .i64 k, .slice ea en ec] 29)) ∧ Hid (wz.heap[RB]? = some (.cells #[.int .i64 0, .slice none 0 0] 29)) ∧ Hid (Below b w wz))
            case first =>
              cases c with
              | false => go_wp2_with fail; go_meet; case rel => exact ⟨0, rfl, HX13, HC13, HQ13, HE13, HG13, HR13, HB13⟩
              | true =>
                go_wp2_with (go_at_call 108; refine (lbelow_any b bs 12 _ HC13.out (by omega) (by omega)).mono ?_; rintro e w14 ⟨r, rfl, r0, r1, hc, hg⟩; have HC14 := Lib.hid hc; have HB14 := Lib.hid (HB13.out.trans (below_grownb hg (by have := HB13.out.size; omega))); have HQ14 := Lib.hid (own_other HQ13.out hg (by omega)); have HE14 := Lib.hid (ownEd_other HE13.out hg (by omega)); have HG14 := Lib.hid (blk_other HG13.out hg (by omega)); have HR14 := Lib.hid (blk_other HR13.out hg (by omega)); have HX14 := Lib.hid (blk_other HX13.out hg (by omega)); obtain ⟨t0, t1, t2, t3, t4⟩ := cells5 HX14.out; have lt5 := lt_of HX14.out; have fz2 := fr_of HX14.out 2; have fz4 := fr_of HX14.out 4; clear hc hg)
                go_meet
                case rel => exact ⟨r, rfl, Lib.hid (heap_setCell_same w14 w10.heap.size 4 _ _ (.int .i64 r) HX14.out), Lib.hid (HC14.out.below ((Below.refl (b + 1) w14).setCell (p := ⟨w10.heap.size, 4, none⟩) (by show b + 1 ≤ w10.heap.size; omega) (.int .i64 r))), Lib.hid (own_setE HQ14.out HQLE.out), Lib.hid (ownEd_setE HE14.out HELE.out), Lib.hid (blk_set HG14.out (by show w1.heap.size ≠ w10.heap.size; omega)), Lib.hid (blk_set HR14.out (by show RB ≠ w10.heap.size; omega)), Lib.hid (HB14.out.setCell (p := ⟨w10.heap.size, 4, none⟩) (by show b ≤ w10.heap.size; omega) (.int .i64 r))⟩
            case rest =>
            rename World => w15
            obtain ⟨tok, rfl, HX15, HC15, HQ15, HE15, HG15, HR15, HB15⟩ := hcut
            clear HX13 HC13 HQ13 HE13 HG13 HR13 HB13
            go_upto_region 16 with fail
            go_cut [81] from 77 to 80 (fun s81 wz => ∃ c : Bool, s81 = .bool c ∧ Hid (wz.heap[w10.heap.size]? = some (.cells #[.int .i64 (i1 : Int), .int .i64 (i2 : Int), .int .i64 (mk), .int .i64 (tk), .int .i64 (tok)] 62)) ∧ Hid (Cur wz b bs) ∧ Hid (Own (w1.heap.size + 1) wz (.slice (some ⟨qg, 0, none⟩) k qc) xs) ∧ Hid (OwnEd (w1.heap.size + 1) wz (.slice ea en ec) es) ∧ Hid (wz.heap[w1.heap.size]? = some (.cells #[.int .i64 k, .slice ea en ec] 29)) ∧ Hid (wz.heap[RB]? = some (.cells #[.int .i64 0, .slice none 0 0] 29)) ∧ Hid (Below b w wz))
            case first =>
              go_wp2_with (go_at_call 110; refine (once_any b bs 15 _ HC15.out (by omega) (by omega)).mono ?_; rintro e w16 ⟨c2, rfl, hc, hg⟩; have HC16 := Lib.hid hc; have HB16 := Lib.hid (HB15.out.trans (below_grownb hg (by have := HB15.out.size; omega))); have HQ16 := Lib.hid (own_other HQ15.out hg (by omega)); have HE16 := Lib.hid (ownEd_other HE15.out hg (by omega)); have HG16 := Lib.hid (blk_other HG15.out hg (by omega)); have HR16 := Lib.hid (blk_other HR15.out hg (by omega)); have HX16 := Lib.hid (blk_other HX15.out hg (by omega)); clear hc hg)
              go_meet
              case rel => exact ⟨c2, rfl, HX16, HC16, HQ16, HE16, HG16, HR16, HB16⟩
            case rest =>
            rename World => w17
            obtain ⟨c2, rfl, HX17, HC17, HQ17, HE17, HG17, HR17, HB17⟩ := hcut
            clear HX15 HC15 HQ15 HE15 HG15 HR15 HB15
            go_upto_if 81 with fail
            go_cut [10] from 82 to 91 (fun s10 wz => ∃ mk : Int, s10 = .pointer (some ⟨w10.heap.size, 0, none⟩) ∧ Hid (wz.heap[w10.heap.size]? = some (.cells #[.int .i64 (i1 : Int), .int .i64 (i2 : Int), .int .i64 (mk), .int .i64 (tk), .int .i64 (tok)] 62)) ∧ Hid (Cur wz b bs) ∧ Hid (Own (w1.heap.size + 1) wz (.slice (some ⟨qg, 0, none⟩) k qc) xs) ∧ Hid (OwnEd (w1.heap.size + 1) wz (.slice ea en ec) es) ∧ Hid (wz.heap[w1.heap.size]? = some (.cells #[.int .i64 k, .slice ea en ec] 29)) ∧ Hid (wz.heap[RB]? = some (.cells #[.int .i64 0, .slice none 0 0] 29)) ∧ Hid (Below b w wz))
            case first =>
              cases c2 with
              | false => go_wp2_with fail; go_meet; case rel => exact ⟨mk, rfl, HX17, HC17, HQ17, HE17, HG17, HR17, HB17⟩
              | true =>
                go_wp2_with (go_at_call 108; refine (lbelow_any b bs 5 _ HC17.out (by omega) (by omega)).mono ?_; rintro e w18 ⟨r, rfl, r0, r1, hc, hg⟩; have HC18 := Lib.hid hc; have HB18 := Lib.hid (HB17.out.trans (below_grownb hg (by have := HB17.out.size; omega))); have HQ18 := Lib.hid (own_other HQ17.out hg (by omega)); have HE18 := Lib.hid (ownEd_other HE17.out hg (by omega)); have HG18 := Lib.hid (blk_other HG17.out hg (by omega)); have HR18 := Lib.hid (blk_other HR17.out hg (by omega)); have HX18 := Lib.hid (blk_other HX17.out hg (by omega)); obtain ⟨t0, t1, t2, t3, t4⟩ := cells5 HX18.out; have lt5 := lt_of HX18.out; have fz2 := fr_of HX18.out 2; have fz4 := fr_of HX18.out 4; have wr5 : wrap64 (1 + r) = 1 + r := IntWalk.wrap64_in _ (by omega); clear hc hg)
                go_meet
                case rel => exact ⟨1 + r, rfl, Lib.hid (heap_setCell_same w18 w10.heap.size 2 _ _ (.int .i64 (1 + r)) HX18.out), Lib.hid (HC18.out.below ((Below.refl (b + 1) w18).setCell (p := ⟨w10.heap.size, 2, none⟩) (by show b + 1 ≤ w10.heap.size; omega) (.int .i64 (1 + r)))), Lib.hid (own_setE HQ18.out HQLE.out), Lib.hid (ownEd_setE HE18.out HELE.out), Lib.hid (blk_set HG18.out (by show w1.heap.size ≠ w10.heap.size; omega)), Lib.hid (blk_set HR18.out (by show RB ≠ w10.heap.size; omega)), Lib.hid (HB18.out.setCell (p := ⟨w10.heap.size, 2, none⟩) (by show b ≤ w10.heap.size; omega) (.int .i64 (1 + r)))⟩
            case rest =>
            rename World => w19
            obtain ⟨mk2, rfl, HX19, HC19, HQ19, HE19, HG19, HR19, HB19⟩ := hcut
            clear HX17 HC17 HQ17 HE17 HG17 HR17 HB17
            obtain ⟨t0, t1, t2, t3, t4⟩ := cells5 HX19.out
            have lt5 := lt_of HX19.out
            obtain ⟨g0, g1⟩ := cells2 HG19.out
            have lg := lt_of HG19.out
            have fg1 := fr_of HG19.out 1
            have lr := lt_of HR19.out
            have wk3 : wrap64 ((k3 : Int) - 1) = (k3 : Int) - 1 := IntWalk.wrap64_in _ (by omega)
            have hen5 : en + 1 ≤ 6 := by have := HSUM.out; omega
            have HEO := Lib.hid (show w19.ownsRow (w1.heap.size + 1) 62 5 (.slice ea en ec) en (cellsEd es) by have q := HE19.out; unfold OwnEd at q; rw [← HEN.out] at q; exact q)
            have hwb := HB19.out.size
            go_wp2_with (at_builtin; refine wpList_append_own_at _ rfl _ _ 27 rfl (w1.heap.size + 1) 62 j0 (.agg #[.int .i64 0, .int .i64 0, .int .i64 0, .int .i64 0, .int .i64 0]) 5 40 Try.underlying27 hj hy0 hy1 hy2 rfl (by decide) _ en (cellsEd es) rfl (World.ownsRow.alloc HEO.out _) ⟨w19.heap.size, 0, none⟩ 1 1 [.int .i64 (i1 : Int), .int .i64 (i2 : Int), .int .i64 mk2, .int .i64 tk, .int .i64 tok] rfl rfl (litE w19 #[.int .i64 (i1 : Int), .int .i64 (i2 : Int), .int .i64 mk2, .int .i64 tk, .int .i64 tok] 62) (by intro u hu; simp at hu; rcases hu with rfl | rfl | rfl | rfl | rfl <;> rfl) ?c3 ?c4 ?c5 ?_)
            case c3 => unfold maxLen; omega
            case c4 => omega
            case c5 => simp; omega
            intro v' w20 hown hgrow _ hat
            have A := app_other HQ19.out HAP7.out hgrow (by simpa using hat)
            have HQ20 := Lib.hid A.1
            have HAP20 := Lib.hid A.2
            have HC20 := Lib.hid (cur_app HC19.out hgrow (fun q e => by have := (World.ownsRow.lt HEO.out q e).1; omega))
            have HG20 := Lib.hid (show w20.heap[w1.heap.size]? = some (.cells #[.int .i64 k, .slice ea en ec] 29) by
              rw [hgrow.block w1.heap.size (by simp; omega) (fun e => by have := (World.ownsRow.lt HEO.out _ e.symm).1; omega)]
              exact (Below.heap_alloc _ _ _ lg).trans HG19.out)
            have HR20 := Lib.hid (show w20.heap[RB]? = some (.cells #[.int .i64 0, .slice none 0 0] 29) by
              rw [hgrow.block RB (by simp; omega) (fun e => by have := (World.ownsRow.lt HEO.out _ e.symm).1; omega)]
              exact (Below.heap_alloc _ _ _ lr).trans HR19.out)
            have HB20 := Lib.hid ((HB19.out.alloc (by omega) (.cells #[.int .i64 (i1 : Int), .int .i64 (i2 : Int), .int .i64 mk2, .int .i64 tk, .int .i64 tok] 62)).grown hgrow (by simp; omega) (fun q e => by have := (World.ownsRow.lt HEO.out q e).1; omega))
            have HE20 := Lib.hid (show w20.ownsRow (w1.heap.size + 1) 62 5 v' (en + 1) (cellsEd (es ++ [⟨(i1 : Int), (i2 : Int), mk2, tk, tok⟩])) by rw [cellsEd_app]; exact hown)
            obtain ⟨eg, ec2, rfl⟩ : ∃ g c, v' = .slice (some ⟨g, 0, none⟩) (en + 1) c := by
              rcases HE20.out.2 with ⟨_, q⟩ | ⟨g, c, cur, q, _⟩
              · omega
              · exact ⟨g, c, q⟩
            have HLN := Lib.hid (show (es ++ [(⟨(i1 : Int), (i2 : Int), mk2, tk, tok⟩ : Edg)]).length = en + 1 by rw [List.length_append, ← HEN.out]; rfl)
            clear hown hgrow hat A g0 g1
            obtain ⟨g0, g1⟩ := cells2 HG20.out
            have lg2 := lt_of HG20.out
            have fg2 := fr_of HG20.out 1
            clear lg fg1
            go_wp2_with fail
            go_roundw
            case rel =>
              refine ⟨k3 - 1, es ++ [⟨(i1 : Int), (i2 : Int), mk2, tk, tok⟩], some ⟨eg, 0, none⟩, ec2, by omega, ?_, ?_, ?_, ?_, ?_, ?_, ?_, ?_, ?_⟩
              · first | go_num | (congr 1; omega)
              · exact Lib.hid (by rw [HLN.out]; have := HSUM.out; omega)
              · rw [HLN.out]; exact Lib.hid (heap_setCell_same w20 w1.heap.size 1 _ _ _ HG20.out)
              · rw [HLN.out]; exact Lib.hid (by unfold OwnEd; rw [HLN.out]; exact ownsRow_setCell_below HE20.out (by show w1.heap.size < w1.heap.size + 1; omega) _)
              · exact Lib.hid (Own.setB HQ20.out (a := ⟨w1.heap.size, 1, none⟩) (by show w1.heap.size < w1.heap.size + 1; omega) _)
              · rw [HLN.out]; exact HAP20
              · exact Lib.hid (HC20.out.below ((Below.refl (b + 1) w20).setCell (p := ⟨w1.heap.size, 1, none⟩) (by show b + 1 ≤ w1.heap.size; omega) _))
              · exact Lib.hid (blk_set HR20.out (by show RB ≠ w1.heap.size; omega))
              · exact Lib.hid (HB20.out.setCell (p := ⟨w1.heap.size, 1, none⟩) (by show b ≤ w1.heap.size; omega) _)
            case measure => simp [intOf]; omega
        · have hend : k3 = 0 ∨ k = 0 := by omega
          have HEND := Lib.hid hend
          clear hend hgo
          obtain ⟨r0, r1⟩ := cells2 HR7.out
          have lr := lt_of HR7.out
          have fr0 := fr_of HR7.out 0
          have fr1 := fr_of HR7.out 1
          have hfin : ∀ (v : Value), v = .agg #[.int .i64 k, .slice ea en ec] → True := fun _ _ => trivial
          have HF := Lib.hid (show GrO w.heap.size (((wr.setCell ⟨RB, 0, none⟩ (.int .i64 k))).setCell ⟨RB, 1, none⟩ (.slice ea en ec)) (.agg #[.int .i64 k, .slice ea en ec]) ⟨k, es⟩ from ⟨_, rfl, by
            have q := HE7.out
            have q2 := ownsRow_setCell_below (ownsRow_setCell_below q (a := ⟨RB, 0, none⟩) (by show RB < w1.heap.size + 1; omega) (.int .i64 k)) (a := ⟨RB, 1, none⟩) (by show RB < w1.heap.size + 1; omega) (.slice ea en ec)
            exact row_mono q2 (by have := HB1.out.size; have := hsz1; have := HB0.out.size; omega)⟩)
          have HBF := Lib.hid (((HB7.out.setCell (p := ⟨RB, 0, none⟩) (by show b ≤ RB; omega) (.int .i64 k))).setCell (p := ⟨RB, 1, none⟩) (by show b ≤ RB; omega) (.slice ea en ec))
          clear hfin
          by_cases h3 : 0 < k3
          · have d1 : decide ((k3 : Int) > 0) = true := decide_eq_true (by omega)
            have d1' : decide (0 < (k3 : Int)) = true := decide_eq_true (by omega)
            have d1n : decide (0 < k3) = true := decide_eq_true h3
            have hk0 : ¬ 0 < k := by have := HEND.out; omega
            have d2 : decide ((k : Int) > 0) = false := decide_eq_false (by omega)
            have d2' : decide (0 < (k : Int)) = false := decide_eq_false (by omega)
            have d2n : decide (0 < k) = false := decide_eq_false hk0
            go_wp2_with fail
            refine bodyPost_ret (v := .agg #[.int .i64 k, .slice ea en ec]) (by simp [results, Try.results69, go_sem, r0, r1]) rfl ⟨_, ⟨k, es⟩, rfl, HF.out, by simp only []; omega, by simp only []; have := HSUM.out; have := HEN.out; omega, HBF.out⟩
          · have d1 : decide ((k3 : Int) > 0) = false := decide_eq_false (by omega)
            have d1' : decide (0 < (k3 : Int)) = false := decide_eq_false (by omega)
            have d1n : decide (0 < k3) = false := decide_eq_false h3
            go_wp2_with fail
            refine bodyPost_ret (v := .agg #[.int .i64 k, .slice ea en ec]) (by simp [results, Try.results69, go_sem, r0, r1]) rfl ⟨_, ⟨k, es⟩, rfl, HF.out, by simp only []; omega, by simp only []; have := HSUM.out; have := HEN.out; omega, HBF.out⟩


set_option maxRecDepth 100000 in
set_option maxHeartbeats 1600000 in
theorem smakeg_any (v : Value) (bs : List Int) (w : World) (h : Sb w v bs) (hs : bs.length ≤ 1048576) :
    Calls Try.prog 37 #[v] w fun e w' => ∃ (u : Value) (g : Grf), e = .returned u ∧ GrV w' u g ∧ (0 ≤ g.nodes ∧ g.nodes ≤ 5) ∧ g.edges.length ≤ 5 ∧ Below w.heap.size w w' := by
  have HS := Lib.hid h
  have hbz := (Below.refl w.heap.size w).al (.cells #[.int .i64 0, .slice none 0 0] 29)
  have hrz := hp1 w (.cells #[.int .i64 0, .slice none 0 0] 29)
  obtain ⟨a, cap, rfl, _⟩ := h
  obtain ⟨bl, hbl⟩ : ∃ l, l = bs.length := ⟨_, rfl⟩
  have HBL := Lib.hid hbl
  rw [← hbl] at HS ⊢
  clear hbl
  go_enter Try.func37, Try.ntmps37
  go_upto_region 1 with fail
  generalize hw0 : w.alloc (.cells #[.int .i64 0, .slice none 0 0] 29) = w0
  rw [hw0] at hbz hrz
  clear hw0
  have hbz := Lib.hid hbz
  have hrz := Lib.hid hrz
  have hl0 := lt_of hrz.out
  go_wp2_with (first | (go_at_call 70; refine (new_any _ bs _ (HS.out.below hbz.out) hs).mono ?_; rintro e w1 ⟨rfl, hc, hb1⟩; have HC1 := Lib.hid hc; have HB1 := Lib.hid (hbz.out.trans (hb1.mono hbz.out.size)); have HR1 := Lib.hid (blk_in hrz.out hb1); clear hc hb1) | (go_at_call 69; refine (sgraph_any _ bs _ HC1.out).mono ?_; rintro e w2 ⟨u, g, rfl, hg, hn, he, hb2⟩; have HB2 := Lib.hid (HB1.out.trans (hb2.mono (Nat.le_of_lt hl0))); have HR2 := Lib.hid ((hb2.block w.heap.size hl0).trans HR1.out); have HN := Lib.hid hn; have HE := Lib.hid he; have HG := Lib.hid hg; obtain ⟨ga, gb, rfl⟩ := hg.v.shape; obtain ⟨r0, r1⟩ := cells2 HR2.out; have lr := lt_of HR2.out; have fr0 := fr_of HR2.out 0; have fr1 := fr_of HR2.out 1; have hs12 := Lib.hid (lt_of HR1.out); clear hg hn he hb2))
  have HF := Lib.hid (show GrV ((w2.setCell ⟨w.heap.size, 0, none⟩ (.int .i64 g.nodes)).setCell ⟨w.heap.size, 1, none⟩ (.slice ga g.edges.length gb)) (.agg #[.int .i64 g.nodes, .slice ga g.edges.length gb]) g by
    obtain ⟨c, hc, ho⟩ := HG.out
    simp only [Value.agg.injEq, Array.mk.injEq, List.cons.injEq, and_true, true_and] at hc
    subst hc
    exact ⟨_, rfl, ((ho.setB (a := ⟨w.heap.size, 0, none⟩) (by show w.heap.size < w1.heap.size; exact hs12.out) _).setB (a := ⟨w.heap.size, 1, none⟩) (by show w.heap.size < w1.heap.size; exact hs12.out) _).sl⟩)
  have HBF := Lib.hid ((HB2.out.setCell (p := ⟨w.heap.size, 0, none⟩) (Nat.le_refl _) (.int .i64 g.nodes)).setCell (p := ⟨w.heap.size, 1, none⟩) (Nat.le_refl _) (.slice ga g.edges.length gb))
  go_wp2_with fail
  refine bodyPost_ret (v := .agg #[.int .i64 g.nodes, .slice ga g.edges.length gb]) (by simp [results, Try.results37, go_sem, r0, r1]) rfl ⟨_, g, rfl, HF.out, HN.out, HE.out, HBF.out⟩

end Go.Proofs.Ytokhdnejaecejaa
