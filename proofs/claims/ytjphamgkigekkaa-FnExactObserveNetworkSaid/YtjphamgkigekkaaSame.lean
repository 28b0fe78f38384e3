/-
  Lists of streams held against each other, by the model and by the program. No statement of the seat is proved here.
-/
import Derived.Test.YtjphamgkigekkaaGrid
import Derived.Test.YtjphamgkigekkaaNetA
import Derived.Test.YtjphamgkigekkaaEq2
import Derived.Test.YtjphamgkigekkaaPrefix
import Derived.Deep.QuietTactic
import Derived.BigQuiet
namespace Go.Proofs.Ytjphamgkigekkaa
open Go.RowKit

theorem beg_eq {xs ys : List Int} (h : xs.length = ys.length) : begB xs ys = decide (xs = ys) := by
  by_cases e : xs = ys
  · subst e
    rw [decide_eq_true rfl]
    simp [begB]
  · rw [decide_eq_false e]
    unfold begB
    rw [decide_eq_false]
    intro q
    apply e
    have := q.2
    rwa [h, List.take_length] at this
theorem ne_take {g h : List (List Int)} {k : Nat} {x y : List Int} (hx : g[k]? = some x) (hy : h[k]? = some y) (hn : x ≠ y) : decide (g = h) = false :=
  decide_eq_false (fun e => hn (by rw [e, hy] at hx; exact (Option.some.inj hx).symm))
theorem eq_take {g h : List (List Int)} {k : Nat} {x : List Int} (ht : g.take k = h.take k) (hx : g[k]? = some x) (hy : h[k]? = some x) : g.take (k + 1) = h.take (k + 1) := by
  obtain ⟨h1, e1⟩ := List.getElem?_eq_some_iff.1 hx
  obtain ⟨h2, e2⟩ := List.getElem?_eq_some_iff.1 hy
  rw [List.take_succ_eq_append_getElem h1, List.take_succ_eq_append_getElem h2, ht, e1, e2]

set_option maxRecDepth 100000 in
set_option maxHeartbeats 1600000 in
theorem same_any (v u : Value) (g h : List (List Int)) (w : World) (hg : SlR w v g) (hh : SlR w u h) :
    Calls Try.prog 72 #[v, u] w fun e w' => e = .returned (.bool (decide (g = h))) ∧ w = w' := by
  obtain ⟨R, hR⟩ : ∃ R, R = decide (g = h) := ⟨_, rfl⟩
  rw [← hR]
  have HR := Lib.hid hR
  clear hR
  obtain ⟨a, cap, rfl, _, hm, _, hc⟩ := hg
  obtain ⟨b, cap2, rfl, _, hm2, _, hc2⟩ := hh
  have hm' : g.length ≤ 9223372036854775807 := by unfold maxLen at hm; omega
  have hm2' : h.length ≤ 9223372036854775807 := by unfold maxLen at hm2; omega
  clear hm hm2
  obtain ⟨m, hmm⟩ : ∃ m, m = g.length := ⟨_, rfl⟩
  obtain ⟨m2, hmm2⟩ : ∃ m, m = h.length := ⟨_, rfl⟩
  rw [← hmm] at hm' ⊢
  rw [← hmm2] at hm2' ⊢
  have HM := Lib.hid hmm
  have HM2 := Lib.hid hmm2
  clear hmm hmm2
  by_cases he : m = m2
  · subst he
    go_enter Try.func72, Try.ntmps72
    go_wp2_with fail
    go_loop [14] (fun i => ∃ k : Nat, k ≤ m ∧ i = .int .i64 k ∧ Hid (g.take k = h.take k)) (fun i => m - (intOf i).toNat)
    case atStart => exact ⟨0, Nat.zero_le _, rfl, Lib.hid rfl⟩
    case round =>
      obtain ⟨k, hk, rfl, HA⟩ := hrel
      by_cases hlt : k < m
      · rcases hc with rfl | ⟨gb, off, rfl, hbl, hcell⟩
        · exact absurd hlt (by have := HM.out; simp at this; omega)
        · rcases hc2 with rfl | ⟨hb, off2, rfl, hbl2, hcell2⟩
          · exact absurd hlt (by have := HM2.out; simp at this; omega)
          · obtain ⟨x, hx⟩ : ∃ x, g[k]? = some x := ⟨_, List.getElem?_eq_getElem (by rw [← HM.out]; exact hlt)⟩
            obtain ⟨y, hy⟩ : ∃ y, h[k]? = some y := ⟨_, List.getElem?_eq_getElem (by rw [← HM2.out]; exact hlt)⟩
            obtain ⟨u1, c0, ee⟩ := hcell k x hx
            obtain ⟨u2, d0, ff⟩ := hcell2 k y hy
            have C := Lib.hid (begins_any u1 u2 x y w ee ff)
            obtain ⟨a1, k1, rfl⟩ := Sl.shape ee
            obtain ⟨a2, k2, rfl⟩ := Sl.shape ff
            have HX := Lib.hid hx
            have HY := Lib.hid hy
            obtain ⟨n1, hn1⟩ : ∃ z, z = x.length := ⟨_, rfl⟩
            obtain ⟨n2, hn2⟩ : ∃ z, z = y.length := ⟨_, rfl⟩
            rw [← hn1, ← hn2] at C
            rw [← hn1] at c0
            rw [← hn2] at d0
            have HN1 := Lib.hid hn1
            have HN2 := Lib.hid hn2
            clear hx hy hcell hcell2 ee ff hn1 hn2
            by_cases hl : n1 = n2
            · subst hl
              rw [beg_eq (HN1.out.symm.trans HN2.out)] at C
              by_cases hxy : x = y
              · rw [decide_eq_true hxy] at C
                have HE := Lib.hid (eq_take HA.out HX.out (by rw [hxy]; exact HY.out))
                clear hxy
                go_wp2_with (go_at_call 90; with_reducible refine C.out.mono ?_; rintro e w2 ⟨rfl, rfl⟩)
                go_round
                case rel => exact ⟨k + 1, by omega, by go_num, HE⟩
                case measure => simp [intOf]; omega
              · rw [decide_eq_false hxy] at C
                have HE := Lib.hid (ne_take HX.out HY.out hxy)
                clear hxy
                go_wp2_with (go_at_call 90; with_reducible refine C.out.mono ?_; rintro e w2 ⟨rfl, rfl⟩)
                go_ret
                exact ⟨ret_bool (by rw [HR.out, HE.out]), rfl⟩
            · have d : ((n1 : Int) == (n2 : Int)) = false := by simpa using fun e : (n1 : Int) = n2 => hl (by omega)
              have HE := Lib.hid (ne_take HX.out HY.out (fun e => hl (by rw [HN1.out, HN2.out, e])))
              go_wp2_with fail
              go_ret
              exact ⟨ret_bool (by rw [HR.out, HE.out]), rfl⟩
      · have HE := Lib.hid (show decide (g = h) = true from decide_eq_true (by have := HA.out; rwa [List.take_of_length_le (by rw [← HM.out]; omega), List.take_of_length_le (by rw [← HM2.out]; omega)] at this))
        go_wp2_with fail
        go_ret
        exact ⟨ret_bool (by rw [HR.out, HE.out]), rfl⟩
  · have d : ((m : Int) == (m2 : Int)) = false := by simpa using fun e : (m : Int) = m2 => he (by omega)
    have HE := Lib.hid (show decide (g = h) = false from decide_eq_false (fun e => he (by rw [HM.out, HM2.out, e])))
    go_enter Try.func72, Try.ntmps72
    go_wp2_with fail
    go_ret
    exact ⟨ret_bool (by rw [HR.out, HE.out]), rfl⟩

set_option maxRecDepth 100000 in
set_option maxHeartbeats 1600000 in
theorem ieqs_any (v u : Value) (g h : List (List Int)) (w : World) (hg : SlR w v g) (hh : SlR w u h) :
    Calls Try.prog 129 #[v, u, .func (.func 130) #[] #[]] w fun e w' => e = .returned (.bool (decide (g = h))) ∧ Below w.heap.size w w' := by
  obtain ⟨R, hR⟩ : ∃ R, R = (decide (g = h)) := ⟨_, rfl⟩
  rw [← hR]
  have HR := Lib.hid hR
  clear hR
  obtain ⟨a, cap, rfl, _, hm, _, hc⟩ := hg
  obtain ⟨b, cap2, rfl, _, hm2, _, hc2⟩ := hh
  have hm' : g.length ≤ 9223372036854775807 := by unfold maxLen at hm; omega
  have hm2' : h.length ≤ 9223372036854775807 := by unfold maxLen at hm2; omega
  clear hm hm2
  obtain ⟨m, hmm⟩ : ∃ m, m = g.length := ⟨_, rfl⟩
  obtain ⟨m2, hmm2⟩ : ∃ m, m = h.length := ⟨_, rfl⟩
  rw [← hmm] at hm' ⊢
  rw [← hmm2] at hm2' ⊢
  have HM := Lib.hid hmm
  have HM2 := Lib.hid hmm2
  clear hmm hmm2
  by_cases he : m = m2
  · have HE := Lib.hid he
    subst he
    go_enter Try.func129, Try.ntmps129
    go_wp2_with fail
    go_loopw [17] (fun i wr => ∃ k : Nat, k ≤ m ∧ i = .int .i64 k ∧ Hid (g.take k = h.take k) ∧ Hid (Below w.heap.size w wr)) (fun i _ => m - (intOf i).toNat)
    case atStart => exact ⟨0, Nat.zero_le _, rfl, Lib.hid rfl, Lib.hid (Below.refl _ _)⟩
    case round =>
      obtain ⟨k, hk, rfl, HA, HB⟩ := hrel
      by_cases hlt : k < m
      · rcases hc with rfl | ⟨gb, off, rfl, hbl, hcell⟩
        · exact absurd hlt (by have := HM.out; simp at this; omega)
        · rcases hc2 with rfl | ⟨hb, off2, rfl, hbl2, hcell2⟩
          · exact absurd hlt (by have := HM2.out; simp at this; omega)
          · obtain ⟨x, hx⟩ : ∃ x, g[k]? = some x := ⟨_, List.getElem?_eq_getElem (by rw [← HM.out]; exact hlt)⟩
            obtain ⟨y, hy⟩ : ∃ y, h[k]? = some y := ⟨_, List.getElem?_eq_getElem (by rw [← HM2.out]; exact hlt)⟩
            obtain ⟨u1, e0, ee⟩ := hcell k x hx
            obtain ⟨u2, f0, ff⟩ := hcell2 k y hy
            have c0 := (HB.out.cell (p := ⟨gb, off + k, none⟩) hbl).trans e0
            have d0 := (HB.out.cell (p := ⟨hb, off2 + k, none⟩) hbl2).trans f0
            have hbk : gb < wr.heap.size := Nat.lt_of_lt_of_le hbl HB.out.size
            have hbk2 : hb < wr.heap.size := Nat.lt_of_lt_of_le hbl2 HB.out.size
            have C := Lib.hid (equal_any u1 u2 x y wr (ee.below HB.out) (ff.below HB.out))
            have HX := Lib.hid hx
            have HY := Lib.hid hy
            clear hx hy hcell hcell2 e0 f0 ee ff
            by_cases hxy : x = y
            · rw [decide_eq_true hxy] at C
              have HQ := Lib.hid (eq_take HA.out HX.out (by rw [hxy]; exact HY.out))
              clear hxy
              go_wp2_with (go_at_call 130; with_reducible refine C.out.mono ?_; rintro e w2 ⟨rfl, zm, rfl⟩; have HB1 := Lib.hid (Below.toDraw HB.out zm))
              go_roundw
              case rel => exact ⟨k + 1, by omega, by go_num, HQ, HB1⟩
              case measure => simp [intOf]; omega
            · rw [decide_eq_false hxy] at C
              have HQ := Lib.hid (ne_take HX.out HY.out hxy)
              clear hxy
              go_wp2_with (go_at_call 130; with_reducible refine C.out.mono ?_; rintro e w2 ⟨rfl, zm, rfl⟩; have HB1 := Lib.hid (Below.toDraw HB.out zm))
              go_ret
              exact ⟨ret_bool (by rw [HR.out, HQ.out]), HB1.out⟩
      · have HQ := Lib.hid (show decide (g = h) = true from decide_eq_true (by have := HA.out; rwa [List.take_of_length_le (by rw [← HM.out]; omega), List.take_of_length_le (by rw [← HM2.out]; omega)] at this))
        go_wp2_with fail
        go_ret
        exact ⟨ret_bool (by rw [HR.out, HQ.out]), HB.out⟩
  · have d : ((m : Int) == (m2 : Int)) = false := by simpa using fun e : (m : Int) = m2 => he (by omega)
    have HE := Lib.hid he
    go_enter Try.func129, Try.ntmps129
    go_wp2_with fail
    go_ret
    exact ⟨ret_bool (by rw [HR.out, decide_eq_false (fun e => HE.out (by rw [HM.out, HM2.out, e]))]), Below.refl _ _⟩


set_option maxHeartbeats 400000 in
theorem iareq_any (v u : Value) (g h : List (List Int)) (w : World) (hg : SlR w v g) (hh : SlR w u h) :
    Calls Try.prog 74 #[v, u] w fun e w' => e = .returned (.bool (decide (g = h))) ∧ Below w.heap.size w w' := by
  have C := Lib.hid (ieqs_any v u g h w hg hh)
  obtain ⟨r, hr⟩ : ∃ r, r = decide (g = h) := ⟨_, rfl⟩
  rw [← hr] at C ⊢
  clear hr hg hh
  go_enter Try.func74, Try.ntmps74
  go_wp2_with (go_at_call 129; with_reducible refine C.out.mono ?_; rintro e w2 ⟨rfl, hb1⟩; have HB1 := Lib.hid hb1; clear hb1)
  go_ret
  exact ⟨rfl, HB1.out⟩
end Go.Proofs.Ytjphamgkigekkaa
