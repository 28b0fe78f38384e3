/-
  What the two functions IsProgram answer. No statement of the seat is proved here.
-/
import Derived.Test.YtkeoefbkeommhaaIns2
import Derived.Test.YtkeoefbkeommhaaPrg
namespace Go.Proofs.Ytkeoefbkeommhaa
open Go.RowKit

theorem okP_is {i o : Int} {code : List Ins} (h : (0 ≤ i ∧ i ≤ 3) ∧ (0 ≤ o ∧ o ≤ 3) ∧ 1 ≤ code.length ∧ code.length ≤ 24) : okP ⟨i, o, code⟩ = code.all (okI i o code.length) := by
  unfold okP; simp only []; rw [decide_eq_true h]; simp
theorem okP_no {i o : Int} {code : List Ins} (h : ¬ ((0 ≤ i ∧ i ≤ 3) ∧ (0 ≤ o ∧ o ≤ 3) ∧ 1 ≤ code.length ∧ code.length ≤ 24)) : okP ⟨i, o, code⟩ = false := by
  unfold okP; simp only []; rw [decide_eq_false h]; simp
theorem allI_step {q : Ins → Bool} {xs : List Ins} {k : Nat} {x : Ins} (hx : xs[k]? = some x) (ha : (xs.take k).all q = true) (hp : q x = true) : (xs.take (k + 1)).all q = true := by
  have hk := (List.getElem?_eq_some_iff.1 hx).1
  rw [List.take_succ_eq_append_getElem hk, (List.getElem?_eq_some_iff.1 hx).2]; simp at ha ⊢; exact ⟨ha, hp⟩
theorem allI_no {q : Ins → Bool} {xs : List Ins} {k : Nat} {x : Ins} (hx : xs[k]? = some x) (hp : q x = false) : xs.all q = false := by
  rw [List.all_eq_false]
  exact ⟨x, List.mem_of_getElem? hx, by simp [hp]⟩
theorem allI_end {q : Ins → Bool} {xs : List Ins} {k : Nat} (h : ¬ k < xs.length) (ha : (xs.take k).all q = true) : xs.all q = true := by
  rwa [List.take_of_length_le (by omega)] at ha

set_option maxHeartbeats 400000 in
theorem iports_any (n : Int) (w : World) :
    Calls Try.prog 154 #[.int .i64 n] w fun e w' => e = .returned (.bool (inB 0 3 n)) ∧ w = w' := by
  have h1 := @inB_yes 0 3 n
  have h2 := @inB_lo 0 3 n
  have h3 := @inB_hi 0 3 n
  generalize inB 0 3 n = r at *
  by_cases c1 : n < 0
  · have e := h2 c1
    clear h1 h2 h3
    subst e
    have c1' : decide (0 ≤ n) = false := decide_eq_false (by omega)
    go_enter Try.func154, Try.ntmps154
    go_wp2
    go_ret
    exact ⟨rfl, rfl⟩
  · have c1' : decide (0 ≤ n) = true := decide_eq_true (by omega)
    by_cases c2 : n ≤ 3
    · have e := h1 (by omega) (by omega)
      clear h1 h2 h3
      subst e
      have c2' : decide (n ≤ 3) = true := decide_eq_true c2
      go_enter Try.func154, Try.ntmps154
      go_wp2
      go_ret
      exact ⟨rfl, rfl⟩
    · have e := h3 (by omega)
      clear h1 h2 h3
      subst e
      have c2' : decide (n ≤ 3) = false := decide_eq_false c2
      go_enter Try.func154, Try.ntmps154
      go_wp2
      go_ret
      exact ⟨rfl, rfl⟩


set_option maxRecDepth 100000 in
set_option maxHeartbeats 4000000 in
theorem iisp_any (v : Value) (p : Prg) (w : World) (h : PrgV w v p) :
    Calls Try.prog 108 #[v] w fun e w' => e = .returned (.bool (okP p)) ∧ Below w.heap.size w w' := by
  obtain ⟨c, rfl, hc⟩ := h
  obtain ⟨i, o, code⟩ := p
  simp only [] at hc ⊢
  have hl0 : code.length ≤ 9223372036854775807 := by obtain ⟨_, _, _, h1, h2, _⟩ := hc; unfold maxLen at h2; omega
  obtain ⟨n, hn⟩ : ∃ n, n = code.length := ⟨_, rfl⟩
  obtain ⟨a, cap, rfl, _, _, _, hrest⟩ := hc
  obtain ⟨r, hr⟩ : ∃ r, r = okP ⟨i, o, code⟩ := ⟨_, rfl⟩
  rw [← hr]
  have HR := Lib.hid hr
  rw [← hn] at hl0 ⊢
  have HN := Lib.hid hn
  clear hr hn
  have hb := (Below.refl w.heap.size w).al (.cells #[.int .i64 i, .int .i64 o, .slice a n cap] 79)
  have hH := Lib.hid (hp1 w (.cells #[.int .i64 i, .int .i64 o, .slice a n cap] 79))
  cases q0 : inB 0 3 i with
  | false =>
    go_enter Try.func108, Try.ntmps108
    go_wp2_with (first | (go_at_call 154; refine (iports_any _ _).mono ?_; rintro e w' ⟨rfl, rfl⟩))
    go_ret
    exact ⟨ret_bool (HR.out.trans (okP_no (by have := HN.out; have := inB_f q0; omega))), hb⟩
  | true =>
    cases q1 : inB 0 3 o with
    | false =>
      go_enter Try.func108, Try.ntmps108
      go_wp2_with (first | (go_at_call 154; refine (iports_any _ _).mono ?_; rintro e w' ⟨rfl, rfl⟩))
      go_ret
      exact ⟨ret_bool (HR.out.trans (okP_no (by have := HN.out; have := inB_f q1; omega))), hb⟩
    | true =>
      by_cases q2 : n = 0
      · subst q2
        go_enter Try.func108, Try.ntmps108
        go_wp2_with (first | (go_at_call 154; refine (iports_any _ _).mono ?_; rintro e w' ⟨rfl, rfl⟩))
        go_ret
        exact ⟨ret_bool (HR.out.trans (okP_no (by have := HN.out;  omega))), hb⟩
      · have d2 : ((n : Int) == 0) = false := by simp; omega
        by_cases q3 : n ≤ 24
        · have d3 : decide ((n : Int) > 24) = false := decide_eq_false (by omega)
          have d4 : decide (24 < (n : Int)) = false := decide_eq_false (by omega)
          have hi := inB_t q0
          have ho := inB_t q1
          have hE := Lib.hid (HR.out.trans (okP_is (by rw [← HN.out]; refine ⟨hi, ho, ?_⟩; omega)))
          have HB := Lib.hid hb
          have HI := Lib.hid hi
          have HO := Lib.hid ho
          clear hb hi ho
          go_enter Try.func108, Try.ntmps108
          go_wp2_with (first | (go_at_call 154; refine (iports_any _ _).mono ?_; rintro e w' ⟨rfl, rfl⟩))
          go_loopw [30] (fun i' wr => ∃ k : Nat, k ≤ n ∧ i' = .int .i64 k ∧ Hid ((code.take k).all (okI i o code.length) = true) ∧ Hid (Below (w.heap.size + 1) (w.alloc (.cells #[.int .i64 i, .int .i64 o, .slice a n cap] 79)) wr)) (fun i' _ => n - (intOf i').toNat)
          case atStart => exact ⟨0, Nat.zero_le _, rfl, by simp [Hid], Lib.hid (Below.refl _ _)⟩
          case round =>
            obtain ⟨k, hk, rfl, hA, hW⟩ := hrel
            by_cases hlt : k < n
            · rcases hrest with rfl | ⟨b, off, rfl, hbl, hcell⟩
              · exact absurd hlt (by have := HN.out; simp at this; omega)
              · obtain ⟨x, hx⟩ : ∃ x, code[k]? = some x := ⟨_, List.getElem?_eq_getElem (by rw [← HN.out]; exact hlt)⟩
                obtain ⟨e0, e1, e2, e3⟩ := hcell k x hx
                have hob : ∀ j u, w.cell? ⟨b, j, none⟩ = some u → wr.cell? ⟨b, j, none⟩ = some u := fun j u hu => (hW.out.cell (p := ⟨b, j, none⟩) (by show b < _; omega)).trans (((HB.out).cell (p := ⟨b, j, none⟩) hbl).trans hu)
                have c0 := hob _ _ e0
                have c1 := hob _ _ e1
                have c2 := hob _ _ e2
                have c3 := hob _ _ e3
                have B := blk_in hH.out (hW.out.mono (by simp))
                have p0 := cell_of B 0
                have p1 := cell_of B 1
                have p2 := cell_of B 2
                simp at p0 p1 p2
                have HX := Lib.hid hx
                clear hx hcell e0 e1 e2 e3 hob B
                have HWS := Lib.hid hW.out.size
                have hlt0 : w.heap.size < wr.heap.size := by have := HWS.out; simp at this; omega
                obtain ⟨xo, xa, xb, xc⟩ := x
                simp only [] at c0 c1 c2 c3
                cases ht : okI i o n ⟨xo, xa, xb, xc⟩ with
                | true =>
                  go_wp2_with (go_at_call 155; refine (iins_any _ _ _ _ _ _ _ _ _ _).mono ?_; rintro e w2 ⟨rfl, hb1⟩; have HB1 := Lib.hid hb1; clear hb1; rw [ht])
                  go_roundw
                  case rel => exact ⟨k + 1, by omega, by go_num, Lib.hid (allI_step HX.out hA.out (by rw [← HN.out]; exact ht)), Lib.hid (hW.out.trans ((((Below.refl _ _).al _).trans (HB1.out.mono (by simp))).mono (by have := HWS.out; simp at this; omega)))⟩
                  case measure => simp [intOf]; omega
                | false =>
                  go_wp2_with (go_at_call 155; refine (iins_any _ _ _ _ _ _ _ _ _ _).mono ?_; rintro e w2 ⟨rfl, hb1⟩; have HB1 := Lib.hid hb1; clear hb1; rw [ht])
                  go_ret
                  exact ⟨ret_bool (hE.out.trans (allI_no HX.out (by rw [← HN.out]; exact ht))), HB.out.trans ((hW.out.trans ((((Below.refl _ _).al _).trans (HB1.out.mono (by simp))).mono (by have := HWS.out; simp at this; omega))).mono (by omega))⟩
            · go_wp2_with fail
              go_ret
              exact ⟨ret_bool (hE.out.trans (allI_end (by rw [← HN.out]; exact hlt) hA.out)), HB.out.trans (hW.out.mono (by omega))⟩
        · have d3 : decide ((n : Int) > 24) = true := decide_eq_true (by omega)
          have d4 : decide (24 < (n : Int)) = true := decide_eq_true (by omega)
          go_enter Try.func108, Try.ntmps108
          go_wp2_with (first | (go_at_call 154; refine (iports_any _ _).mono ?_; rintro e w' ⟨rfl, rfl⟩))
          go_ret
          exact ⟨ret_bool (HR.out.trans (okP_no (by have := HN.out;  omega))), hb⟩

set_option maxRecDepth 100000 in
set_option maxHeartbeats 4000000 in
theorem sisp_any (v : Value) (p : Prg) (w : World) (h : PrgV w v p) :
    Calls Try.prog 101 #[v] w fun e w' => e = .returned (.bool (okP p)) ∧ Below w.heap.size w w' := by
  obtain ⟨c, rfl, hc⟩ := h
  obtain ⟨i, o, code⟩ := p
  simp only [] at hc ⊢
  have hl0 : code.length ≤ 9223372036854775807 := by obtain ⟨_, _, _, h1, h2, _⟩ := hc; unfold maxLen at h2; omega
  obtain ⟨n, hn⟩ : ∃ n, n = code.length := ⟨_, rfl⟩
  obtain ⟨a, cap, rfl, _, _, _, hrest⟩ := hc
  obtain ⟨r, hr⟩ : ∃ r, r = okP ⟨i, o, code⟩ := ⟨_, rfl⟩
  rw [← hr]
  have HR := Lib.hid hr
  rw [← hn] at hl0 ⊢
  have HN := Lib.hid hn
  clear hr hn
  have hb := (Below.refl w.heap.size w).al (.cells #[.int .i64 i, .int .i64 o, .slice a n cap] 79)
  have hH := Lib.hid (hp1 w (.cells #[.int .i64 i, .int .i64 o, .slice a n cap] 79))
  cases q0 : inB 0 3 i with
  | false =>
    go_enter Try.func101, Try.ntmps101
    go_wp2_with (first | (go_at_call 46; refine (sin_any _ _ _ _).mono ?_; rintro e w' ⟨rfl, rfl⟩))
    go_ret
    exact ⟨ret_bool (HR.out.trans (okP_no (by have := HN.out; have := inB_f q0; omega))), hb⟩
  | true =>
    cases q1 : inB 0 3 o with
    | false =>
      go_enter Try.func101, Try.ntmps101
      go_wp2_with (first | (go_at_call 46; refine (sin_any _ _ _ _).mono ?_; rintro e w' ⟨rfl, rfl⟩))
      go_ret
      exact ⟨ret_bool (HR.out.trans (okP_no (by have := HN.out; have := inB_f q1; omega))), hb⟩
    | true =>
      cases q2 : inB 1 24 n with
      | false =>
        go_enter Try.func101, Try.ntmps101
        go_wp2_with (first | (go_at_call 46; refine (sin_any _ _ _ _).mono ?_; rintro e w' ⟨rfl, rfl⟩))
        go_ret
        exact ⟨ret_bool (HR.out.trans (okP_no (by have := HN.out; have := inB_f q2; omega))), hb⟩
      | true =>
        have q3 := inB_t q2
        have hi := inB_t q0
        have ho := inB_t q1
        have hE := Lib.hid (HR.out.trans (okP_is (by rw [← HN.out]; refine ⟨hi, ho, ?_⟩; omega)))
        have HB := Lib.hid hb
        have HI := Lib.hid hi
        have HO := Lib.hid ho
        clear hb hi ho
        go_enter Try.func101, Try.ntmps101
        go_wp2_with (first | (go_at_call 46; refine (sin_any _ _ _ _).mono ?_; rintro e w' ⟨rfl, rfl⟩))
        go_loopw [25] (fun i' wr => ∃ k : Nat, k ≤ n ∧ i' = .int .i64 k ∧ Hid ((code.take k).all (okI i o code.length) = true) ∧ Hid (Below (w.heap.size + 1) (w.alloc (.cells #[.int .i64 i, .int .i64 o, .slice a n cap] 79)) wr)) (fun i' _ => n - (intOf i').toNat)
        case atStart => exact ⟨0, Nat.zero_le _, rfl, by simp [Hid], Lib.hid (Below.refl _ _)⟩
        case round =>
          obtain ⟨k, hk, rfl, hA, hW⟩ := hrel
          by_cases hlt : k < n
          · rcases hrest with rfl | ⟨b, off, rfl, hbl, hcell⟩
            · exact absurd hlt (by have := HN.out; simp at this; omega)
            · obtain ⟨x, hx⟩ : ∃ x, code[k]? = some x := ⟨_, List.getElem?_eq_getElem (by rw [← HN.out]; exact hlt)⟩
              obtain ⟨e0, e1, e2, e3⟩ := hcell k x hx
              have hob : ∀ j u, w.cell? ⟨b, j, none⟩ = some u → wr.cell? ⟨b, j, none⟩ = some u := fun j u hu => (hW.out.cell (p := ⟨b, j, none⟩) (by show b < _; omega)).trans (((HB.out).cell (p := ⟨b, j, none⟩) hbl).trans hu)
              have c0 := hob _ _ e0
              have c1 := hob _ _ e1
              have c2 := hob _ _ e2
              have c3 := hob _ _ e3
              have B := blk_in hH.out (hW.out.mono (by simp))
              have p0 := cell_of B 0
              have p1 := cell_of B 1
              have p2 := cell_of B 2
              simp at p0 p1 p2
              have HX := Lib.hid hx
              clear hx hcell e0 e1 e2 e3 hob B
              have HWS := Lib.hid hW.out.size
              have hlt0 : w.heap.size < wr.heap.size := by have := HWS.out; simp at this; omega
              obtain ⟨xo, xa, xb, xc⟩ := x
              simp only [] at c0 c1 c2 c3
              cases ht : okI i o n ⟨xo, xa, xb, xc⟩ with
              | true =>
                go_wp2_with (go_at_call 151; refine (sins_any _ _ _ _ _ _ _ _ _ _ HI.out HO.out).mono ?_; rintro e w2 ⟨rfl, hb1⟩; have HB1 := Lib.hid hb1; clear hb1; rw [ht])
                go_roundw
                case rel => exact ⟨k + 1, by omega, by go_num, Lib.hid (allI_step HX.out hA.out (by rw [← HN.out]; exact ht)), Lib.hid (hW.out.trans ((((Below.refl _ _).al _).trans (HB1.out.mono (by simp))).mono (by have := HWS.out; simp at this; omega)))⟩
                case measure => simp [intOf]; omega
              | false =>
                go_wp2_with (go_at_call 151; refine (sins_any _ _ _ _ _ _ _ _ _ _ HI.out HO.out).mono ?_; rintro e w2 ⟨rfl, hb1⟩; have HB1 := Lib.hid hb1; clear hb1; rw [ht])
                go_ret
                exact ⟨ret_bool (hE.out.trans (allI_no HX.out (by rw [← HN.out]; exact ht))), HB.out.trans ((hW.out.trans ((((Below.refl _ _).al _).trans (HB1.out.mono (by simp))).mono (by have := HWS.out; simp at this; omega))).mono (by omega))⟩
          · go_wp2_with fail
            go_ret
            exact ⟨ret_bool (hE.out.trans (allI_end (by rw [← HN.out]; exact hlt) hA.out)), HB.out.trans (hW.out.mono (by omega))⟩

end Go.Proofs.Ytkeoefbkeommhaa
