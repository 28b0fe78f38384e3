/-
  What the tests of one instruction answer, in the program and in its model. No statement of the seat is proved here.
-/
import Derived.Test.YtkeoefbkeommhaaPrw
import Derived.Test.YtkeoefbkeommhaaBas
import Derived.Deep.QuietTactic
import Derived.BigQuiet
import Derived.Deep.Cut
namespace Go.Proofs.Ytkeoefbkeommhaa
open Go.RowKit

theorem cell_new (w : World) (vs : Array Value) (T k : Nat) : (w.alloc (.cells vs T)).cell? ⟨w.heap.size, k, none⟩ = vs[k]? := by
  unfold World.cell?
  rw [heap_alloc_new]
  simp
theorem cell_two (w : World) (o : Obj) (vs : Array Value) (T k : Nat) : ((w.alloc o).alloc (.cells vs T)).cell? ⟨w.heap.size + 1, k, none⟩ = vs[k]? := by
  have := cell_new (w.alloc o) vs T k
  rwa [show (w.alloc o).heap.size = w.heap.size + 1 by simp] at this
def insV (x : Ins) : Value := .agg #[.int .i64 x.op, .int .i64 x.a, .int .i64 x.b, .int .i64 x.c]
def inB (lo hi n : Int) : Bool := decide (lo ≤ n ∧ n ≤ hi)
theorem inB_yes {lo hi n : Int} (h : lo ≤ n) (k : n ≤ hi) : inB lo hi n = true := decide_eq_true ⟨h, k⟩
theorem inB_lo {lo hi n : Int} (h : n < lo) : inB lo hi n = false := decide_eq_false (by omega)
theorem inB_hi {lo hi n : Int} (h : hi < n) : inB lo hi n = false := decide_eq_false (by omega)
theorem inB_t {lo hi n : Int} (h : inB lo hi n = true) : lo ≤ n ∧ n ≤ hi := of_decide_eq_true h
theorem inB_f {lo hi n : Int} (h : inB lo hi n = false) : ¬ (lo ≤ n ∧ n ≤ hi) := of_decide_eq_false h
theorem tok_t {n : Int} (h : isTok n = true) : -999999 ≤ n ∧ n ≤ 999999 := of_decide_eq_true h
theorem tok_f {n : Int} (h : isTok n = false) : ¬ (-999999 ≤ n ∧ n ≤ 999999) := of_decide_eq_false h
theorem okI_is {i o n : Int} {x : Ins} {b : Bool} (h : b = true ↔ ((x.op = 1 ∧ (0 ≤ x.a ∧ x.a ≤ 3) ∧ (0 ≤ x.b ∧ x.b < i) ∧ x.c = 0) ∨
    (x.op = 2 ∧ (0 ≤ x.a ∧ x.a ≤ 3) ∧ (0 ≤ x.b ∧ x.b < o) ∧ x.c = 0) ∨
    (x.op = 3 ∧ (0 ≤ x.a ∧ x.a ≤ 3) ∧ (-999999 ≤ x.b ∧ x.b ≤ 999999) ∧ x.c = 0) ∨
    ((4 ≤ x.op ∧ x.op ≤ 7) ∧ (0 ≤ x.a ∧ x.a ≤ 3) ∧ (0 ≤ x.b ∧ x.b ≤ 3) ∧ (0 ≤ x.c ∧ x.c ≤ 3)) ∨
    (x.op = 8 ∧ x.a = 0 ∧ (0 ≤ x.b ∧ x.b ≤ n) ∧ x.c = 0) ∨
    ((9 ≤ x.op ∧ x.op ≤ 10) ∧ (0 ≤ x.a ∧ x.a ≤ 3) ∧ (0 ≤ x.b ∧ x.b ≤ n) ∧ x.c = 0) ∨
    (x.op = 11 ∧ x.a = 0 ∧ x.b = 0 ∧ x.c = 0))) : okI i o n x = b := by
  unfold okI
  cases b
  · exact decide_eq_false (fun hh => by have := h.2 hh; cases this)
  · exact decide_eq_true (h.1 rfl)


set_option maxHeartbeats 400000 in
theorem sin_any (n lo hi : Int) (w : World) :
    Calls Try.prog 46 #[.int .i64 n, .int .i64 lo, .int .i64 hi] w fun e w' => e = .returned (.bool (inB lo hi n)) ∧ w = w' := by
  have h1 := @inB_yes lo hi n
  have h2 := @inB_lo lo hi n
  have h3 := @inB_hi lo hi n
  generalize inB lo hi n = r at *
  by_cases c1 : n < lo
  · have e := h2 c1
    clear h1 h2 h3
    subst e
    have c1' : decide (lo ≤ n) = false := decide_eq_false (by omega)
    go_enter Try.func46, Try.ntmps46
    go_wp2
    go_ret
    exact ⟨rfl, rfl⟩
  · have c1' : decide (lo ≤ n) = true := decide_eq_true (by omega)
    by_cases c2 : n ≤ hi
    · have e := h1 (by omega) c2
      clear h1 h2 h3
      subst e
      have c2' : decide (n ≤ hi) = true := decide_eq_true c2
      go_enter Try.func46, Try.ntmps46
      go_wp2
      go_ret
      exact ⟨rfl, rfl⟩
    · have e := h3 (by omega)
      clear h1 h2 h3
      subst e
      have c2' : decide (n ≤ hi) = false := decide_eq_false c2
      go_enter Try.func46, Try.ntmps46
      go_wp2
      go_ret
      exact ⟨rfl, rfl⟩

set_option maxHeartbeats 400000 in
theorem ireg_any (n : Int) (w : World) :
    Calls Try.prog 164 #[.int .i64 n] w fun e w' => e = .returned (.bool (inB 0 3 n)) ∧ w = w' := by
  have h1 := @inB_yes 0 3 n
  have h2 := @inB_lo 0 3 n
  have h3 := @inB_hi 0 3 n
  generalize inB 0 3 n = r at *
  by_cases c1 : n < 0
  · have e := h2 c1
    clear h1 h2 h3
    subst e
    have c1' : decide (0 ≤ n) = false := decide_eq_false (by omega)
    go_enter Try.func164, Try.ntmps164
    go_wp2
    go_ret
    exact ⟨rfl, rfl⟩
  · have c1' : decide (0 ≤ n) = true := decide_eq_true (by omega)
    by_cases c2 : n < 4
    · have e := h1 (by omega) (by omega)
      clear h1 h2 h3
      subst e
      have c2' : decide (n < 4) = true := decide_eq_true c2
      go_enter Try.func164, Try.ntmps164
      go_wp2
      go_ret
      exact ⟨rfl, rfl⟩
    · have e := h3 (by omega)
      clear h1 h2 h3
      subst e
      have c2' : decide (n < 4) = false := decide_eq_false c2
      go_enter Try.func164, Try.ntmps164
      go_wp2
      go_ret
      exact ⟨rfl, rfl⟩

set_option maxHeartbeats 400000 in
theorem iplace_any (i o : Int) (pa : Option Addr) (m c : Nat) (n : Int) (w : World) :
    Calls Try.prog 165 #[.agg #[.int .i64 i, .int .i64 o, .slice pa m c], .int .i64 n] w fun e w' => e = .returned (.bool (inB 0 m n)) ∧ Below w.heap.size w w' := by
  have h1 := @inB_yes 0 m n
  have h2 := @inB_lo 0 m n
  have h3 := @inB_hi 0 m n
  have hb := (Below.refl w.heap.size w).alloc (Nat.le_refl _) (.cells #[.int .i64 i, .int .i64 o, .slice pa m c] 79)
  generalize inB 0 m n = r at *
  by_cases c1 : n < 0
  · have e := h2 c1
    clear h1 h2 h3
    subst e
    have c1' : decide (0 ≤ n) = false := decide_eq_false (by omega)
    go_enter Try.func165, Try.ntmps165
    go_wp2
    go_ret
    exact ⟨rfl, hb⟩
  · have c1' : decide (0 ≤ n) = true := decide_eq_true (by omega)
    by_cases c2 : n ≤ m
    · have e := h1 (by omega) (by omega)
      clear h1 h2 h3
      subst e
      have c2' : decide (n ≤ (m : Int)) = true := decide_eq_true c2
      go_enter Try.func165, Try.ntmps165
      go_wp2
      go_ret
      exact ⟨rfl, hb⟩
    · have e := h3 (by omega)
      clear h1 h2 h3
      subst e
      have c2' : decide (n ≤ (m : Int)) = false := decide_eq_false c2
      go_enter Try.func165, Try.ntmps165
      go_wp2
      go_ret
      exact ⟨rfl, hb⟩


set_option maxRecDepth 100000 in
set_option maxHeartbeats 8000000 in
theorem iins_any (i o : Int) (pa : Option Addr) (m cp : Nat) (op a b c : Int) (w : World) :
    Calls Try.prog 155 #[.agg #[.int .i64 i, .int .i64 o, .slice pa m cp], .agg #[.int .i64 op, .int .i64 a, .int .i64 b, .int .i64 c]] w fun e w' => e = .returned (.bool (okI i o m ⟨op, a, b, c⟩)) ∧ Below w.heap.size w w' := by
  have hB := Lib.hid (((Below.refl w.heap.size w).alloc (Nat.le_refl _) (.cells #[.int .i64 i, .int .i64 o, .slice pa m cp] 79)).alloc (by simp) (.cells #[.int .i64 op, .int .i64 a, .int .i64 b, .int .i64 c] 156))
  obtain ⟨r, hr⟩ : ∃ r, r = okI i o m ⟨op, a, b, c⟩ := ⟨_, rfl⟩
  rw [← hr]
  have HR := Lib.hid hr
  clear hr
  by_cases hop : 1 ≤ op ∧ op ≤ 11
  · have hop' : op = 1 ∨ op = 2 ∨ op = 3 ∨ op = 4 ∨ op = 5 ∨ op = 6 ∨ op = 7 ∨ op = 8 ∨ op = 9 ∨ op = 10 ∨ op = 11 := by omega
    clear hop
    rcases hop' with rfl | rfl | rfl | rfl | rfl | rfl | rfl | rfl | rfl | rfl | rfl
    · cases q0 : inB 0 3 a with
      | false =>
        have f0 := Lib.hid (inB_f q0)
        go_enter Try.func155, Try.ntmps155
        go_wp2_with (first | (go_at_call 164; refine (ireg_any _ _).mono ?_; rintro e w' ⟨rfl, rfl⟩) | (go_at_call 156; refine (itok_any _ _).mono ?_; rintro e w' ⟨rfl, rfl⟩) | (go_at_call 165; refine (iplace_any _ _ _ _ _ _ _).mono ?_; rintro e w1 ⟨rfl, hb1⟩; have hx3 := (hb1.cell (p := ⟨w.heap.size + 1, 3, none⟩) (by simp)).trans (cell_two _ _ _ _ 3)))
        go_ret
        refine ⟨ret_bool (HR.out.trans (okI_is ?_)), ?_⟩
        · have := f0.out; simp at * <;> omega
        · first | exact hB.out | exact hB.out.trans (hb1.mono (by simp; omega))
      | true =>
        have f0 := Lib.hid (inB_t q0)
        by_cases q1 : 0 ≤ b
        · have f1 := Lib.hid q1
          have d1 : decide (0 ≤ b) = true := decide_eq_true q1
          by_cases q2 : b < i
          · have f2 := Lib.hid q2
            have d2 : decide (b < i) = true := decide_eq_true q2
            by_cases q3 : c = 0
            · have f3 := Lib.hid q3
              subst q3
              go_enter Try.func155, Try.ntmps155
              go_wp2_with (first | (go_at_call 164; refine (ireg_any _ _).mono ?_; rintro e w' ⟨rfl, rfl⟩) | (go_at_call 156; refine (itok_any _ _).mono ?_; rintro e w' ⟨rfl, rfl⟩) | (go_at_call 165; refine (iplace_any _ _ _ _ _ _ _).mono ?_; rintro e w1 ⟨rfl, hb1⟩; have hx3 := (hb1.cell (p := ⟨w.heap.size + 1, 3, none⟩) (by simp)).trans (cell_two _ _ _ _ 3)))
              go_ret
              refine ⟨ret_bool (HR.out.trans (okI_is ?_)), ?_⟩
              · have := f3.out; have := f2.out; have := f1.out; have := f0.out; simp at * <;> omega
              · first | exact hB.out | exact hB.out.trans (hb1.mono (by simp; omega))
            · have f3 := Lib.hid q3
              have d3 : (c == 0) = false := by simpa using q3
              go_enter Try.func155, Try.ntmps155
              go_wp2_with (first | (go_at_call 164; refine (ireg_any _ _).mono ?_; rintro e w' ⟨rfl, rfl⟩) | (go_at_call 156; refine (itok_any _ _).mono ?_; rintro e w' ⟨rfl, rfl⟩) | (go_at_call 165; refine (iplace_any _ _ _ _ _ _ _).mono ?_; rintro e w1 ⟨rfl, hb1⟩; have hx3 := (hb1.cell (p := ⟨w.heap.size + 1, 3, none⟩) (by simp)).trans (cell_two _ _ _ _ 3)))
              go_ret
              refine ⟨ret_bool (HR.out.trans (okI_is ?_)), ?_⟩
              · have := f3.out; have := f2.out; have := f1.out; have := f0.out; simp at * <;> omega
              · first | exact hB.out | exact hB.out.trans (hb1.mono (by simp; omega))
          · have f2 := Lib.hid q2
            have d2 : decide (b < i) = false := decide_eq_false q2
            go_enter Try.func155, Try.ntmps155
            go_wp2_with (first | (go_at_call 164; refine (ireg_any _ _).mono ?_; rintro e w' ⟨rfl, rfl⟩) | (go_at_call 156; refine (itok_any _ _).mono ?_; rintro e w' ⟨rfl, rfl⟩) | (go_at_call 165; refine (iplace_any _ _ _ _ _ _ _).mono ?_; rintro e w1 ⟨rfl, hb1⟩; have hx3 := (hb1.cell (p := ⟨w.heap.size + 1, 3, none⟩) (by simp)).trans (cell_two _ _ _ _ 3)))
            go_ret
            refine ⟨ret_bool (HR.out.trans (okI_is ?_)), ?_⟩
            · have := f2.out; have := f1.out; have := f0.out; simp at * <;> omega
            · first | exact hB.out | exact hB.out.trans (hb1.mono (by simp; omega))
        · have f1 := Lib.hid q1
          have d1 : decide (0 ≤ b) = false := decide_eq_false q1
          go_enter Try.func155, Try.ntmps155
          go_wp2_with (first | (go_at_call 164; refine (ireg_any _ _).mono ?_; rintro e w' ⟨rfl, rfl⟩) | (go_at_call 156; refine (itok_any _ _).mono ?_; rintro e w' ⟨rfl, rfl⟩) | (go_at_call 165; refine (iplace_any _ _ _ _ _ _ _).mono ?_; rintro e w1 ⟨rfl, hb1⟩; have hx3 := (hb1.cell (p := ⟨w.heap.size + 1, 3, none⟩) (by simp)).trans (cell_two _ _ _ _ 3)))
          go_ret
          refine ⟨ret_bool (HR.out.trans (okI_is ?_)), ?_⟩
          · have := f1.out; have := f0.out; simp at * <;> omega
          · first | exact hB.out | exact hB.out.trans (hb1.mono (by simp; omega))
    · cases q0 : inB 0 3 a with
      | false =>
        have f0 := Lib.hid (inB_f q0)
        go_enter Try.func155, Try.ntmps155
        go_wp2_with (first | (go_at_call 164; refine (ireg_any _ _).mono ?_; rintro e w' ⟨rfl, rfl⟩) | (go_at_call 156; refine (itok_any _ _).mono ?_; rintro e w' ⟨rfl, rfl⟩) | (go_at_call 165; refine (iplace_any _ _ _ _ _ _ _).mono ?_; rintro e w1 ⟨rfl, hb1⟩; have hx3 := (hb1.cell (p := ⟨w.heap.size + 1, 3, none⟩) (by simp)).trans (cell_two _ _ _ _ 3)))
        go_ret
        refine ⟨ret_bool (HR.out.trans (okI_is ?_)), ?_⟩
        · have := f0.out; simp at * <;> omega
        · first | exact hB.out | exact hB.out.trans (hb1.mono (by simp; omega))
      | true =>
        have f0 := Lib.hid (inB_t q0)
        by_cases q1 : 0 ≤ b
        · have f1 := Lib.hid q1
          have d1 : decide (0 ≤ b) = true := decide_eq_true q1
          by_cases q2 : b < o
          · have f2 := Lib.hid q2
            have d2 : decide (b < o) = true := decide_eq_true q2
            by_cases q3 : c = 0
            · have f3 := Lib.hid q3
              subst q3
              go_enter Try.func155, Try.ntmps155
              go_wp2_with (first | (go_at_call 164; refine (ireg_any _ _).mono ?_; rintro e w' ⟨rfl, rfl⟩) | (go_at_call 156; refine (itok_any _ _).mono ?_; rintro e w' ⟨rfl, rfl⟩) | (go_at_call 165; refine (iplace_any _ _ _ _ _ _ _).mono ?_; rintro e w1 ⟨rfl, hb1⟩; have hx3 := (hb1.cell (p := ⟨w.heap.size + 1, 3, none⟩) (by simp)).trans (cell_two _ _ _ _ 3)))
              go_ret
              refine ⟨ret_bool (HR.out.trans (okI_is ?_)), ?_⟩
              · have := f3.out; have := f2.out; have := f1.out; have := f0.out; simp at * <;> omega
              · first | exact hB.out | exact hB.out.trans (hb1.mono (by simp; omega))
            · have f3 := Lib.hid q3
              have d3 : (c == 0) = false := by simpa using q3
              go_enter Try.func155, Try.ntmps155
              go_wp2_with (first | (go_at_call 164; refine (ireg_any _ _).mono ?_; rintro e w' ⟨rfl, rfl⟩) | (go_at_call 156; refine (itok_any _ _).mono ?_; rintro e w' ⟨rfl, rfl⟩) | (go_at_call 165; refine (iplace_any _ _ _ _ _ _ _).mono ?_; rintro e w1 ⟨rfl, hb1⟩; have hx3 := (hb1.cell (p := ⟨w.heap.size + 1, 3, none⟩) (by simp)).trans (cell_two _ _ _ _ 3)))
              go_ret
              refine ⟨ret_bool (HR.out.trans (okI_is ?_)), ?_⟩
              · have := f3.out; have := f2.out; have := f1.out; have := f0.out; simp at * <;> omega
              · first | exact hB.out | exact hB.out.trans (hb1.mono (by simp; omega))
          · have f2 := Lib.hid q2
            have d2 : decide (b < o) = false := decide_eq_false q2
            go_enter Try.func155, Try.ntmps155
            go_wp2_with (first | (go_at_call 164; refine (ireg_any _ _).mono ?_; rintro e w' ⟨rfl, rfl⟩) | (go_at_call 156; refine (itok_any _ _).mono ?_; rintro e w' ⟨rfl, rfl⟩) | (go_at_call 165; refine (iplace_any _ _ _ _ _ _ _).mono ?_; rintro e w1 ⟨rfl, hb1⟩; have hx3 := (hb1.cell (p := ⟨w.heap.size + 1, 3, none⟩) (by simp)).trans (cell_two _ _ _ _ 3)))
            go_ret
            refine ⟨ret_bool (HR.out.trans (okI_is ?_)), ?_⟩
            · have := f2.out; have := f1.out; have := f0.out; simp at * <;> omega
            · first | exact hB.out | exact hB.out.trans (hb1.mono (by simp; omega))
        · have f1 := Lib.hid q1
          have d1 : decide (0 ≤ b) = false := decide_eq_false q1
          go_enter Try.func155, Try.ntmps155
          go_wp2_with (first | (go_at_call 164; refine (ireg_any _ _).mono ?_; rintro e w' ⟨rfl, rfl⟩) | (go_at_call 156; refine (itok_any _ _).mono ?_; rintro e w' ⟨rfl, rfl⟩) | (go_at_call 165; refine (iplace_any _ _ _ _ _ _ _).mono ?_; rintro e w1 ⟨rfl, hb1⟩; have hx3 := (hb1.cell (p := ⟨w.heap.size + 1, 3, none⟩) (by simp)).trans (cell_two _ _ _ _ 3)))
          go_ret
          refine ⟨ret_bool (HR.out.trans (okI_is ?_)), ?_⟩
          · have := f1.out; have := f0.out; simp at * <;> omega
          · first | exact hB.out | exact hB.out.trans (hb1.mono (by simp; omega))
    · cases q0 : inB 0 3 a with
      | false =>
        have f0 := Lib.hid (inB_f q0)
        go_enter Try.func155, Try.ntmps155
        go_wp2_with (first | (go_at_call 164; refine (ireg_any _ _).mono ?_; rintro e w' ⟨rfl, rfl⟩) | (go_at_call 156; refine (itok_any _ _).mono ?_; rintro e w' ⟨rfl, rfl⟩) | (go_at_call 165; refine (iplace_any _ _ _ _ _ _ _).mono ?_; rintro e w1 ⟨rfl, hb1⟩; have hx3 := (hb1.cell (p := ⟨w.heap.size + 1, 3, none⟩) (by simp)).trans (cell_two _ _ _ _ 3)))
        go_ret
        refine ⟨ret_bool (HR.out.trans (okI_is ?_)), ?_⟩
        · have := f0.out; simp at * <;> omega
        · first | exact hB.out | exact hB.out.trans (hb1.mono (by simp; omega))
      | true =>
        have f0 := Lib.hid (inB_t q0)
        cases q1 : isTok b with
        | false =>
          have f1 := Lib.hid (tok_f q1)
          go_enter Try.func155, Try.ntmps155
          go_wp2_with (first | (go_at_call 164; refine (ireg_any _ _).mono ?_; rintro e w' ⟨rfl, rfl⟩) | (go_at_call 156; refine (itok_any _ _).mono ?_; rintro e w' ⟨rfl, rfl⟩) | (go_at_call 165; refine (iplace_any _ _ _ _ _ _ _).mono ?_; rintro e w1 ⟨rfl, hb1⟩; have hx3 := (hb1.cell (p := ⟨w.heap.size + 1, 3, none⟩) (by simp)).trans (cell_two _ _ _ _ 3)))
          go_ret
          refine ⟨ret_bool (HR.out.trans (okI_is ?_)), ?_⟩
          · have := f1.out; have := f0.out; simp at * <;> omega
          · first | exact hB.out | exact hB.out.trans (hb1.mono (by simp; omega))
        | true =>
          have f1 := Lib.hid (tok_t q1)
          by_cases q2 : c = 0
          · have f2 := Lib.hid q2
            subst q2
            go_enter Try.func155, Try.ntmps155
            go_wp2_with (first | (go_at_call 164; refine (ireg_any _ _).mono ?_; rintro e w' ⟨rfl, rfl⟩) | (go_at_call 156; refine (itok_any _ _).mono ?_; rintro e w' ⟨rfl, rfl⟩) | (go_at_call 165; refine (iplace_any _ _ _ _ _ _ _).mono ?_; rintro e w1 ⟨rfl, hb1⟩; have hx3 := (hb1.cell (p := ⟨w.heap.size + 1, 3, none⟩) (by simp)).trans (cell_two _ _ _ _ 3)))
            go_ret
            refine ⟨ret_bool (HR.out.trans (okI_is ?_)), ?_⟩
            · have := f2.out; have := f1.out; have := f0.out; simp at * <;> omega
            · first | exact hB.out | exact hB.out.trans (hb1.mono (by simp; omega))
          · have f2 := Lib.hid q2
            have d2 : (c == 0) = false := by simpa using q2
            go_enter Try.func155, Try.ntmps155
            go_wp2_with (first | (go_at_call 164; refine (ireg_any _ _).mono ?_; rintro e w' ⟨rfl, rfl⟩) | (go_at_call 156; refine (itok_any _ _).mono ?_; rintro e w' ⟨rfl, rfl⟩) | (go_at_call 165; refine (iplace_any _ _ _ _ _ _ _).mono ?_; rintro e w1 ⟨rfl, hb1⟩; have hx3 := (hb1.cell (p := ⟨w.heap.size + 1, 3, none⟩) (by simp)).trans (cell_two _ _ _ _ 3)))
            go_ret
            refine ⟨ret_bool (HR.out.trans (okI_is ?_)), ?_⟩
            · have := f2.out; have := f1.out; have := f0.out; simp at * <;> omega
            · first | exact hB.out | exact hB.out.trans (hb1.mono (by simp; omega))
    · cases q0 : inB 0 3 a with
      | false =>
        have f0 := Lib.hid (inB_f q0)
        go_enter Try.func155, Try.ntmps155
        go_wp2_with (first | (go_at_call 164; refine (ireg_any _ _).mono ?_; rintro e w' ⟨rfl, rfl⟩) | (go_at_call 156; refine (itok_any _ _).mono ?_; rintro e w' ⟨rfl, rfl⟩) | (go_at_call 165; refine (iplace_any _ _ _ _ _ _ _).mono ?_; rintro e w1 ⟨rfl, hb1⟩; have hx3 := (hb1.cell (p := ⟨w.heap.size + 1, 3, none⟩) (by simp)).trans (cell_two _ _ _ _ 3)))
        go_ret
        refine ⟨ret_bool (HR.out.trans (okI_is ?_)), ?_⟩
        · have := f0.out; simp at * <;> omega
        · first | exact hB.out | exact hB.out.trans (hb1.mono (by simp; omega))
      | true =>
        have f0 := Lib.hid (inB_t q0)
        cases q1 : inB 0 3 b with
        | false =>
          have f1 := Lib.hid (inB_f q1)
          go_enter Try.func155, Try.ntmps155
          go_wp2_with (first | (go_at_call 164; refine (ireg_any _ _).mono ?_; rintro e w' ⟨rfl, rfl⟩) | (go_at_call 156; refine (itok_any _ _).mono ?_; rintro e w' ⟨rfl, rfl⟩) | (go_at_call 165; refine (iplace_any _ _ _ _ _ _ _).mono ?_; rintro e w1 ⟨rfl, hb1⟩; have hx3 := (hb1.cell (p := ⟨w.heap.size + 1, 3, none⟩) (by simp)).trans (cell_two _ _ _ _ 3)))
          go_ret
          refine ⟨ret_bool (HR.out.trans (okI_is ?_)), ?_⟩
          · have := f1.out; have := f0.out; simp at * <;> omega
          · first | exact hB.out | exact hB.out.trans (hb1.mono (by simp; omega))
        | true =>
          have f1 := Lib.hid (inB_t q1)
          cases q2 : inB 0 3 c with
          | false =>
            have f2 := Lib.hid (inB_f q2)
            go_enter Try.func155, Try.ntmps155
            go_wp2_with (first | (go_at_call 164; refine (ireg_any _ _).mono ?_; rintro e w' ⟨rfl, rfl⟩) | (go_at_call 156; refine (itok_any _ _).mono ?_; rintro e w' ⟨rfl, rfl⟩) | (go_at_call 165; refine (iplace_any _ _ _ _ _ _ _).mono ?_; rintro e w1 ⟨rfl, hb1⟩; have hx3 := (hb1.cell (p := ⟨w.heap.size + 1, 3, none⟩) (by simp)).trans (cell_two _ _ _ _ 3)))
            go_ret
            refine ⟨ret_bool (HR.out.trans (okI_is ?_)), ?_⟩
            · have := f2.out; have := f1.out; have := f0.out; simp at * <;> omega
            · first | exact hB.out | exact hB.out.trans (hb1.mono (by simp; omega))
          | true =>
            have f2 := Lib.hid (inB_t q2)
            go_enter Try.func155, Try.ntmps155
            go_wp2_with (first | (go_at_call 164; refine (ireg_any _ _).mono ?_; rintro e w' ⟨rfl, rfl⟩) | (go_at_call 156; refine (itok_any _ _).mono ?_; rintro e w' ⟨rfl, rfl⟩) | (go_at_call 165; refine (iplace_any _ _ _ _ _ _ _).mono ?_; rintro e w1 ⟨rfl, hb1⟩; have hx3 := (hb1.cell (p := ⟨w.heap.size + 1, 3, none⟩) (by simp)).trans (cell_two _ _ _ _ 3)))
            go_ret
            refine ⟨ret_bool (HR.out.trans (okI_is ?_)), ?_⟩
            · have := f2.out; have := f1.out; have := f0.out; simp at * <;> omega
            · first | exact hB.out | exact hB.out.trans (hb1.mono (by simp; omega))
    · cases q0 : inB 0 3 a with
      | false =>
        have f0 := Lib.hid (inB_f q0)
        go_enter Try.func155, Try.ntmps155
        go_wp2_with (first | (go_at_call 164; refine (ireg_any _ _).mono ?_; rintro e w' ⟨rfl, rfl⟩) | (go_at_call 156; refine (itok_any _ _).mono ?_; rintro e w' ⟨rfl, rfl⟩) | (go_at_call 165; refine (iplace_any _ _ _ _ _ _ _).mono ?_; rintro e w1 ⟨rfl, hb1⟩; have hx3 := (hb1.cell (p := ⟨w.heap.size + 1, 3, none⟩) (by simp)).trans (cell_two _ _ _ _ 3)))
        go_ret
        refine ⟨ret_bool (HR.out.trans (okI_is ?_)), ?_⟩
        · have := f0.out; simp at * <;> omega
        · first | exact hB.out | exact hB.out.trans (hb1.mono (by simp; omega))
      | true =>
        have f0 := Lib.hid (inB_t q0)
        cases q1 : inB 0 3 b with
        | false =>
          have f1 := Lib.hid (inB_f q1)
          go_enter Try.func155, Try.ntmps155
          go_wp2_with (first | (go_at_call 164; refine (ireg_any _ _).mono ?_; rintro e w' ⟨rfl, rfl⟩) | (go_at_call 156; refine (itok_any _ _).mono ?_; rintro e w' ⟨rfl, rfl⟩) | (go_at_call 165; refine (iplace_any _ _ _ _ _ _ _).mono ?_; rintro e w1 ⟨rfl, hb1⟩; have hx3 := (hb1.cell (p := ⟨w.heap.size + 1, 3, none⟩) (by simp)).trans (cell_two _ _ _ _ 3)))
          go_ret
          refine ⟨ret_bool (HR.out.trans (okI_is ?_)), ?_⟩
          · have := f1.out; have := f0.out; simp at * <;> omega
          · first | exact hB.out | exact hB.out.trans (hb1.mono (by simp; omega))
        | true =>
          have f1 := Lib.hid (inB_t q1)
          cases q2 : inB 0 3 c with
          | false =>
            have f2 := Lib.hid (inB_f q2)
            go_enter Try.func155, Try.ntmps155
            go_wp2_with (first | (go_at_call 164; refine (ireg_any _ _).mono ?_; rintro e w' ⟨rfl, rfl⟩) | (go_at_call 156; refine (itok_any _ _).mono ?_; rintro e w' ⟨rfl, rfl⟩) | (go_at_call 165; refine (iplace_any _ _ _ _ _ _ _).mono ?_; rintro e w1 ⟨rfl, hb1⟩; have hx3 := (hb1.cell (p := ⟨w.heap.size + 1, 3, none⟩) (by simp)).trans (cell_two _ _ _ _ 3)))
            go_ret
            refine ⟨ret_bool (HR.out.trans (okI_is ?_)), ?_⟩
            · have := f2.out; have := f1.out; have := f0.out; simp at * <;> omega
            · first | exact hB.out | exact hB.out.trans (hb1.mono (by simp; omega))
          | true =>
            have f2 := Lib.hid (inB_t q2)
            go_enter Try.func155, Try.ntmps155
            go_wp2_with (first | (go_at_call 164; refine (ireg_any _ _).mono ?_; rintro e w' ⟨rfl, rfl⟩) | (go_at_call 156; refine (itok_any _ _).mono ?_; rintro e w' ⟨rfl, rfl⟩) | (go_at_call 165; refine (iplace_any _ _ _ _ _ _ _).mono ?_; rintro e w1 ⟨rfl, hb1⟩; have hx3 := (hb1.cell (p := ⟨w.heap.size + 1, 3, none⟩) (by simp)).trans (cell_two _ _ _ _ 3)))
            go_ret
            refine ⟨ret_bool (HR.out.trans (okI_is ?_)), ?_⟩
            · have := f2.out; have := f1.out; have := f0.out; simp at * <;> omega
            · first | exact hB.out | exact hB.out.trans (hb1.mono (by simp; omega))
    · cases q0 : inB 0 3 a with
      | false =>
        have f0 := Lib.hid (inB_f q0)
        go_enter Try.func155, Try.ntmps155
        go_wp2_with (first | (go_at_call 164; refine (ireg_any _ _).mono ?_; rintro e w' ⟨rfl, rfl⟩) | (go_at_call 156; refine (itok_any _ _).mono ?_; rintro e w' ⟨rfl, rfl⟩) | (go_at_call 165; refine (iplace_any _ _ _ _ _ _ _).mono ?_; rintro e w1 ⟨rfl, hb1⟩; have hx3 := (hb1.cell (p := ⟨w.heap.size + 1, 3, none⟩) (by simp)).trans (cell_two _ _ _ _ 3)))
        go_ret
        refine ⟨ret_bool (HR.out.trans (okI_is ?_)), ?_⟩
        · have := f0.out; simp at * <;> omega
        · first | exact hB.out | exact hB.out.trans (hb1.mono (by simp; omega))
      | true =>
        have f0 := Lib.hid (inB_t q0)
        cases q1 : inB 0 3 b with
        | false =>
          have f1 := Lib.hid (inB_f q1)
          go_enter Try.func155, Try.ntmps155
          go_wp2_with (first | (go_at_call 164; refine (ireg_any _ _).mono ?_; rintro e w' ⟨rfl, rfl⟩) | (go_at_call 156; refine (itok_any _ _).mono ?_; rintro e w' ⟨rfl, rfl⟩) | (go_at_call 165; refine (iplace_any _ _ _ _ _ _ _).mono ?_; rintro e w1 ⟨rfl, hb1⟩; have hx3 := (hb1.cell (p := ⟨w.heap.size + 1, 3, none⟩) (by simp)).trans (cell_two _ _ _ _ 3)))
          go_ret
          refine ⟨ret_bool (HR.out.trans (okI_is ?_)), ?_⟩
          · have := f1.out; have := f0.out; simp at * <;> omega
          · first | exact hB.out | exact hB.out.trans (hb1.mono (by simp; omega))
        | true =>
          have f1 := Lib.hid (inB_t q1)
          cases q2 : inB 0 3 c with
          | false =>
            have f2 := Lib.hid (inB_f q2)
            go_enter Try.func155, Try.ntmps155
            go_wp2_with (first | (go_at_call 164; refine (ireg_any _ _).mono ?_; rintro e w' ⟨rfl, rfl⟩) | (go_at_call 156; refine (itok_any _ _).mono ?_; rintro e w' ⟨rfl, rfl⟩) | (go_at_call 165; refine (iplace_any _ _ _ _ _ _ _).mono ?_; rintro e w1 ⟨rfl, hb1⟩; have hx3 := (hb1.cell (p := ⟨w.heap.size + 1, 3, none⟩) (by simp)).trans (cell_two _ _ _ _ 3)))
            go_ret
            refine ⟨ret_bool (HR.out.trans (okI_is ?_)), ?_⟩
            · have := f2.out; have := f1.out; have := f0.out; simp at * <;> omega
            · first | exact hB.out | exact hB.out.trans (hb1.mono (by simp; omega))
          | true =>
            have f2 := Lib.hid (inB_t q2)
            go_enter Try.func155, Try.ntmps155
            go_wp2_with (first | (go_at_call 164; refine (ireg_any _ _).mono ?_; rintro e w' ⟨rfl, rfl⟩) | (go_at_call 156; refine (itok_any _ _).mono ?_; rintro e w' ⟨rfl, rfl⟩) | (go_at_call 165; refine (iplace_any _ _ _ _ _ _ _).mono ?_; rintro e w1 ⟨rfl, hb1⟩; have hx3 := (hb1.cell (p := ⟨w.heap.size + 1, 3, none⟩) (by simp)).trans (cell_two _ _ _ _ 3)))
            go_ret
            refine ⟨ret_bool (HR.out.trans (okI_is ?_)), ?_⟩
            · have := f2.out; have := f1.out; have := f0.out; simp at * <;> omega
            · first | exact hB.out | exact hB.out.trans (hb1.mono (by simp; omega))
    · cases q0 : inB 0 3 a with
      | false =>
        have f0 := Lib.hid (inB_f q0)
        go_enter Try.func155, Try.ntmps155
        go_wp2_with (first | (go_at_call 164; refine (ireg_any _ _).mono ?_; rintro e w' ⟨rfl, rfl⟩) | (go_at_call 156; refine (itok_any _ _).mono ?_; rintro e w' ⟨rfl, rfl⟩) | (go_at_call 165; refine (iplace_any _ _ _ _ _ _ _).mono ?_; rintro e w1 ⟨rfl, hb1⟩; have hx3 := (hb1.cell (p := ⟨w.heap.size + 1, 3, none⟩) (by simp)).trans (cell_two _ _ _ _ 3)))
        go_ret
        refine ⟨ret_bool (HR.out.trans (okI_is ?_)), ?_⟩
        · have := f0.out; simp at * <;> omega
        · first | exact hB.out | exact hB.out.trans (hb1.mono (by simp; omega))
      | true =>
        have f0 := Lib.hid (inB_t q0)
        cases q1 : inB 0 3 b with
        | false =>
          have f1 := Lib.hid (inB_f q1)
          go_enter Try.func155, Try.ntmps155
          go_wp2_with (first | (go_at_call 164; refine (ireg_any _ _).mono ?_; rintro e w' ⟨rfl, rfl⟩) | (go_at_call 156; refine (itok_any _ _).mono ?_; rintro e w' ⟨rfl, rfl⟩) | (go_at_call 165; refine (iplace_any _ _ _ _ _ _ _).mono ?_; rintro e w1 ⟨rfl, hb1⟩; have hx3 := (hb1.cell (p := ⟨w.heap.size + 1, 3, none⟩) (by simp)).trans (cell_two _ _ _ _ 3)))
          go_ret
          refine ⟨ret_bool (HR.out.trans (okI_is ?_)), ?_⟩
          · have := f1.out; have := f0.out; simp at * <;> omega
          · first | exact hB.out | exact hB.out.trans (hb1.mono (by simp; omega))
        | true =>
          have f1 := Lib.hid (inB_t q1)
          cases q2 : inB 0 3 c with
          | false =>
            have f2 := Lib.hid (inB_f q2)
            go_enter Try.func155, Try.ntmps155
            go_wp2_with (first | (go_at_call 164; refine (ireg_any _ _).mono ?_; rintro e w' ⟨rfl, rfl⟩) | (go_at_call 156; refine (itok_any _ _).mono ?_; rintro e w' ⟨rfl, rfl⟩) | (go_at_call 165; refine (iplace_any _ _ _ _ _ _ _).mono ?_; rintro e w1 ⟨rfl, hb1⟩; have hx3 := (hb1.cell (p := ⟨w.heap.size + 1, 3, none⟩) (by simp)).trans (cell_two _ _ _ _ 3)))
            go_ret
            refine ⟨ret_bool (HR.out.trans (okI_is ?_)), ?_⟩
            · have := f2.out; have := f1.out; have := f0.out; simp at * <;> omega
            · first | exact hB.out | exact hB.out.trans (hb1.mono (by simp; omega))
          | true =>
            have f2 := Lib.hid (inB_t q2)
            go_enter Try.func155, Try.ntmps155
            go_wp2_with (first | (go_at_call 164; refine (ireg_any _ _).mono ?_; rintro e w' ⟨rfl, rfl⟩) | (go_at_call 156; refine (itok_any _ _).mono ?_; rintro e w' ⟨rfl, rfl⟩) | (go_at_call 165; refine (iplace_any _ _ _ _ _ _ _).mono ?_; rintro e w1 ⟨rfl, hb1⟩; have hx3 := (hb1.cell (p := ⟨w.heap.size + 1, 3, none⟩) (by simp)).trans (cell_two _ _ _ _ 3)))
            go_ret
            refine ⟨ret_bool (HR.out.trans (okI_is ?_)), ?_⟩
            · have := f2.out; have := f1.out; have := f0.out; simp at * <;> omega
            · first | exact hB.out | exact hB.out.trans (hb1.mono (by simp; omega))
    · by_cases q0 : a = 0
      · have f0 := Lib.hid q0
        subst q0
        cases q1 : inB 0 m b with
        | false =>
          have f1 := Lib.hid (inB_f q1)
          go_enter Try.func155, Try.ntmps155
          go_wp2_with (first | (go_at_call 164; refine (ireg_any _ _).mono ?_; rintro e w' ⟨rfl, rfl⟩) | (go_at_call 156; refine (itok_any _ _).mono ?_; rintro e w' ⟨rfl, rfl⟩) | (go_at_call 165; refine (iplace_any _ _ _ _ _ _ _).mono ?_; rintro e w1 ⟨rfl, hb1⟩; have hx3 := (hb1.cell (p := ⟨w.heap.size + 1, 3, none⟩) (by simp)).trans (cell_two _ _ _ _ 3)))
          go_ret
          refine ⟨ret_bool (HR.out.trans (okI_is ?_)), ?_⟩
          · have := f1.out; have := f0.out; simp at * <;> omega
          · first | exact hB.out | exact hB.out.trans (hb1.mono (by simp; omega))
        | true =>
          have f1 := Lib.hid (inB_t q1)
          by_cases q2 : c = 0
          · have f2 := Lib.hid q2
            subst q2
            go_enter Try.func155, Try.ntmps155
            go_wp2_with (first | (go_at_call 164; refine (ireg_any _ _).mono ?_; rintro e w' ⟨rfl, rfl⟩) | (go_at_call 156; refine (itok_any _ _).mono ?_; rintro e w' ⟨rfl, rfl⟩) | (go_at_call 165; refine (iplace_any _ _ _ _ _ _ _).mono ?_; rintro e w1 ⟨rfl, hb1⟩; have hx3 := (hb1.cell (p := ⟨w.heap.size + 1, 3, none⟩) (by simp)).trans (cell_two _ _ _ _ 3)))
            go_ret
            refine ⟨ret_bool (HR.out.trans (okI_is ?_)), ?_⟩
            · have := f2.out; have := f1.out; have := f0.out; simp at * <;> omega
            · first | exact hB.out | exact hB.out.trans (hb1.mono (by simp; omega))
          · have f2 := Lib.hid q2
            have d2 : (c == 0) = false := by simpa using q2
            go_enter Try.func155, Try.ntmps155
            go_wp2_with (first | (go_at_call 164; refine (ireg_any _ _).mono ?_; rintro e w' ⟨rfl, rfl⟩) | (go_at_call 156; refine (itok_any _ _).mono ?_; rintro e w' ⟨rfl, rfl⟩) | (go_at_call 165; refine (iplace_any _ _ _ _ _ _ _).mono ?_; rintro e w1 ⟨rfl, hb1⟩; have hx3 := (hb1.cell (p := ⟨w.heap.size + 1, 3, none⟩) (by simp)).trans (cell_two _ _ _ _ 3)))
            go_ret
            refine ⟨ret_bool (HR.out.trans (okI_is ?_)), ?_⟩
            · have := f2.out; have := f1.out; have := f0.out; simp at * <;> omega
            · first | exact hB.out | exact hB.out.trans (hb1.mono (by simp; omega))
      · have f0 := Lib.hid q0
        have d0 : (a == 0) = false := by simpa using q0
        go_enter Try.func155, Try.ntmps155
        go_wp2_with (first | (go_at_call 164; refine (ireg_any _ _).mono ?_; rintro e w' ⟨rfl, rfl⟩) | (go_at_call 156; refine (itok_any _ _).mono ?_; rintro e w' ⟨rfl, rfl⟩) | (go_at_call 165; refine (iplace_any _ _ _ _ _ _ _).mono ?_; rintro e w1 ⟨rfl, hb1⟩; have hx3 := (hb1.cell (p := ⟨w.heap.size + 1, 3, none⟩) (by simp)).trans (cell_two _ _ _ _ 3)))
        go_ret
        refine ⟨ret_bool (HR.out.trans (okI_is ?_)), ?_⟩
        · have := f0.out; simp at * <;> omega
        · first | exact hB.out | exact hB.out.trans (hb1.mono (by simp; omega))
    · cases q0 : inB 0 3 a with
      | false =>
        have f0 := Lib.hid (inB_f q0)
        go_enter Try.func155, Try.ntmps155
        go_wp2_with (first | (go_at_call 164; refine (ireg_any _ _).mono ?_; rintro e w' ⟨rfl, rfl⟩) | (go_at_call 156; refine (itok_any _ _).mono ?_; rintro e w' ⟨rfl, rfl⟩) | (go_at_call 165; refine (iplace_any _ _ _ _ _ _ _).mono ?_; rintro e w1 ⟨rfl, hb1⟩; have hx3 := (hb1.cell (p := ⟨w.heap.size + 1, 3, none⟩) (by simp)).trans (cell_two _ _ _ _ 3)))
        go_ret
        refine ⟨ret_bool (HR.out.trans (okI_is ?_)), ?_⟩
        · have := f0.out; simp at * <;> omega
        · first | exact hB.out | exact hB.out.trans (hb1.mono (by simp; omega))
      | true =>
        have f0 := Lib.hid (inB_t q0)
        cases q1 : inB 0 m b with
        | false =>
          have f1 := Lib.hid (inB_f q1)
          go_enter Try.func155, Try.ntmps155
          go_wp2_with (first | (go_at_call 164; refine (ireg_any _ _).mono ?_; rintro e w' ⟨rfl, rfl⟩) | (go_at_call 156; refine (itok_any _ _).mono ?_; rintro e w' ⟨rfl, rfl⟩) | (go_at_call 165; refine (iplace_any _ _ _ _ _ _ _).mono ?_; rintro e w1 ⟨rfl, hb1⟩; have hx3 := (hb1.cell (p := ⟨w.heap.size + 1, 3, none⟩) (by simp)).trans (cell_two _ _ _ _ 3)))
          go_ret
          refine ⟨ret_bool (HR.out.trans (okI_is ?_)), ?_⟩
          · have := f1.out; have := f0.out; simp at * <;> omega
          · first | exact hB.out | exact hB.out.trans (hb1.mono (by simp; omega))
        | true =>
          have f1 := Lib.hid (inB_t q1)
          by_cases q2 : c = 0
          · have f2 := Lib.hid q2
            subst q2
            go_enter Try.func155, Try.ntmps155
            go_wp2_with (first | (go_at_call 164; refine (ireg_any _ _).mono ?_; rintro e w' ⟨rfl, rfl⟩) | (go_at_call 156; refine (itok_any _ _).mono ?_; rintro e w' ⟨rfl, rfl⟩) | (go_at_call 165; refine (iplace_any _ _ _ _ _ _ _).mono ?_; rintro e w1 ⟨rfl, hb1⟩; have hx3 := (hb1.cell (p := ⟨w.heap.size + 1, 3, none⟩) (by simp)).trans (cell_two _ _ _ _ 3)))
            go_ret
            refine ⟨ret_bool (HR.out.trans (okI_is ?_)), ?_⟩
            · have := f2.out; have := f1.out; have := f0.out; simp at * <;> omega
            · first | exact hB.out | exact hB.out.trans (hb1.mono (by simp; omega))
          · have f2 := Lib.hid q2
            have d2 : (c == 0) = false := by simpa using q2
            go_enter Try.func155, Try.ntmps155
            go_wp2_with (first | (go_at_call 164; refine (ireg_any _ _).mono ?_; rintro e w' ⟨rfl, rfl⟩) | (go_at_call 156; refine (itok_any _ _).mono ?_; rintro e w' ⟨rfl, rfl⟩) | (go_at_call 165; refine (iplace_any _ _ _ _ _ _ _).mono ?_; rintro e w1 ⟨rfl, hb1⟩; have hx3 := (hb1.cell (p := ⟨w.heap.size + 1, 3, none⟩) (by simp)).trans (cell_two _ _ _ _ 3)))
            go_ret
            refine ⟨ret_bool (HR.out.trans (okI_is ?_)), ?_⟩
            · have := f2.out; have := f1.out; have := f0.out; simp at * <;> omega
            · first | exact hB.out | exact hB.out.trans (hb1.mono (by simp; omega))
    · cases q0 : inB 0 3 a with
      | false =>
        have f0 := Lib.hid (inB_f q0)
        go_enter Try.func155, Try.ntmps155
        go_wp2_with (first | (go_at_call 164; refine (ireg_any _ _).mono ?_; rintro e w' ⟨rfl, rfl⟩) | (go_at_call 156; refine (itok_any _ _).mono ?_; rintro e w' ⟨rfl, rfl⟩) | (go_at_call 165; refine (iplace_any _ _ _ _ _ _ _).mono ?_; rintro e w1 ⟨rfl, hb1⟩; have hx3 := (hb1.cell (p := ⟨w.heap.size + 1, 3, none⟩) (by simp)).trans (cell_two _ _ _ _ 3)))
        go_ret
        refine ⟨ret_bool (HR.out.trans (okI_is ?_)), ?_⟩
        · have := f0.out; simp at * <;> omega
        · first | exact hB.out | exact hB.out.trans (hb1.mono (by simp; omega))
      | true =>
        have f0 := Lib.hid (inB_t q0)
        cases q1 : inB 0 m b with
        | false =>
          have f1 := Lib.hid (inB_f q1)
          go_enter Try.func155, Try.ntmps155
          go_wp2_with (first | (go_at_call 164; refine (ireg_any _ _).mono ?_; rintro e w' ⟨rfl, rfl⟩) | (go_at_call 156; refine (itok_any _ _).mono ?_; rintro e w' ⟨rfl, rfl⟩) | (go_at_call 165; refine (iplace_any _ _ _ _ _ _ _).mono ?_; rintro e w1 ⟨rfl, hb1⟩; have hx3 := (hb1.cell (p := ⟨w.heap.size + 1, 3, none⟩) (by simp)).trans (cell_two _ _ _ _ 3)))
          go_ret
          refine ⟨ret_bool (HR.out.trans (okI_is ?_)), ?_⟩
          · have := f1.out; have := f0.out; simp at * <;> omega
          · first | exact hB.out | exact hB.out.trans (hb1.mono (by simp; omega))
        | true =>
          have f1 := Lib.hid (inB_t q1)
          by_cases q2 : c = 0
          · have f2 := Lib.hid q2
            subst q2
            go_enter Try.func155, Try.ntmps155
            go_wp2_with (first | (go_at_call 164; refine (ireg_any _ _).mono ?_; rintro e w' ⟨rfl, rfl⟩) | (go_at_call 156; refine (itok_any _ _).mono ?_; rintro e w' ⟨rfl, rfl⟩) | (go_at_call 165; refine (iplace_any _ _ _ _ _ _ _).mono ?_; rintro e w1 ⟨rfl, hb1⟩; have hx3 := (hb1.cell (p := ⟨w.heap.size + 1, 3, none⟩) (by simp)).trans (cell_two _ _ _ _ 3)))
            go_ret
            refine ⟨ret_bool (HR.out.trans (okI_is ?_)), ?_⟩
            · have := f2.out; have := f1.out; have := f0.out; simp at * <;> omega
            · first | exact hB.out | exact hB.out.trans (hb1.mono (by simp; omega))
          · have f2 := Lib.hid q2
            have d2 : (c == 0) = false := by simpa using q2
            go_enter Try.func155, Try.ntmps155
            go_wp2_with (first | (go_at_call 164; refine (ireg_any _ _).mono ?_; rintro e w' ⟨rfl, rfl⟩) | (go_at_call 156; refine (itok_any _ _).mono ?_; rintro e w' ⟨rfl, rfl⟩) | (go_at_call 165; refine (iplace_any _ _ _ _ _ _ _).mono ?_; rintro e w1 ⟨rfl, hb1⟩; have hx3 := (hb1.cell (p := ⟨w.heap.size + 1, 3, none⟩) (by simp)).trans (cell_two _ _ _ _ 3)))
            go_ret
            refine ⟨ret_bool (HR.out.trans (okI_is ?_)), ?_⟩
            · have := f2.out; have := f1.out; have := f0.out; simp at * <;> omega
            · first | exact hB.out | exact hB.out.trans (hb1.mono (by simp; omega))
    · by_cases q0 : a = 0
      · have f0 := Lib.hid q0
        subst q0
        by_cases q1 : b = 0
        · have f1 := Lib.hid q1
          subst q1
          by_cases q2 : c = 0
          · have f2 := Lib.hid q2
            subst q2
            go_enter Try.func155, Try.ntmps155
            go_wp2_with (first | (go_at_call 164; refine (ireg_any _ _).mono ?_; rintro e w' ⟨rfl, rfl⟩) | (go_at_call 156; refine (itok_any _ _).mono ?_; rintro e w' ⟨rfl, rfl⟩) | (go_at_call 165; refine (iplace_any _ _ _ _ _ _ _).mono ?_; rintro e w1 ⟨rfl, hb1⟩; have hx3 := (hb1.cell (p := ⟨w.heap.size + 1, 3, none⟩) (by simp)).trans (cell_two _ _ _ _ 3)))
            go_ret
            refine ⟨ret_bool (HR.out.trans (okI_is ?_)), ?_⟩
            · have := f2.out; have := f1.out; have := f0.out; simp at * <;> omega
            · first | exact hB.out | exact hB.out.trans (hb1.mono (by simp; omega))
          · have f2 := Lib.hid q2
            have d2 : (c == 0) = false := by simpa using q2
            go_enter Try.func155, Try.ntmps155
            go_wp2_with (first | (go_at_call 164; refine (ireg_any _ _).mono ?_; rintro e w' ⟨rfl, rfl⟩) | (go_at_call 156; refine (itok_any _ _).mono ?_; rintro e w' ⟨rfl, rfl⟩) | (go_at_call 165; refine (iplace_any _ _ _ _ _ _ _).mono ?_; rintro e w1 ⟨rfl, hb1⟩; have hx3 := (hb1.cell (p := ⟨w.heap.size + 1, 3, none⟩) (by simp)).trans (cell_two _ _ _ _ 3)))
            go_ret
            refine ⟨ret_bool (HR.out.trans (okI_is ?_)), ?_⟩
            · have := f2.out; have := f1.out; have := f0.out; simp at * <;> omega
            · first | exact hB.out | exact hB.out.trans (hb1.mono (by simp; omega))
        · have f1 := Lib.hid q1
          have d1 : (b == 0) = false := by simpa using q1
          go_enter Try.func155, Try.ntmps155
          go_wp2_with (first | (go_at_call 164; refine (ireg_any _ _).mono ?_; rintro e w' ⟨rfl, rfl⟩) | (go_at_call 156; refine (itok_any _ _).mono ?_; rintro e w' ⟨rfl, rfl⟩) | (go_at_call 165; refine (iplace_any _ _ _ _ _ _ _).mono ?_; rintro e w1 ⟨rfl, hb1⟩; have hx3 := (hb1.cell (p := ⟨w.heap.size + 1, 3, none⟩) (by simp)).trans (cell_two _ _ _ _ 3)))
          go_ret
          refine ⟨ret_bool (HR.out.trans (okI_is ?_)), ?_⟩
          · have := f1.out; have := f0.out; simp at * <;> omega
          · first | exact hB.out | exact hB.out.trans (hb1.mono (by simp; omega))
      · have f0 := Lib.hid q0
        have d0 : (a == 0) = false := by simpa using q0
        go_enter Try.func155, Try.ntmps155
        go_wp2_with (first | (go_at_call 164; refine (ireg_any _ _).mono ?_; rintro e w' ⟨rfl, rfl⟩) | (go_at_call 156; refine (itok_any _ _).mono ?_; rintro e w' ⟨rfl, rfl⟩) | (go_at_call 165; refine (iplace_any _ _ _ _ _ _ _).mono ?_; rintro e w1 ⟨rfl, hb1⟩; have hx3 := (hb1.cell (p := ⟨w.heap.size + 1, 3, none⟩) (by simp)).trans (cell_two _ _ _ _ 3)))
        go_ret
        refine ⟨ret_bool (HR.out.trans (okI_is ?_)), ?_⟩
        · have := f0.out; simp at * <;> omega
        · first | exact hB.out | exact hB.out.trans (hb1.mono (by simp; omega))
  · have k : ∀ q, 1 ≤ q → q ≤ 11 → (op == q) = false := fun q h1 h2 => by simp; omega
    have k1 := k 1 (by omega) (by omega)
    have k2 := k 2 (by omega) (by omega)
    have k3 := k 3 (by omega) (by omega)
    have k4 := k 4 (by omega) (by omega)
    have k5 := k 5 (by omega) (by omega)
    have k6 := k 6 (by omega) (by omega)
    have k7 := k 7 (by omega) (by omega)
    have k8 := k 8 (by omega) (by omega)
    have k9 := k 9 (by omega) (by omega)
    have k10 := k 10 (by omega) (by omega)
    have k11 := k 11 (by omega) (by omega)
    have f0 := Lib.hid hop
    clear hop k
    go_enter Try.func155, Try.ntmps155
    go_wp2_with (first | (go_at_call 164; refine (ireg_any _ _).mono ?_; rintro e w' ⟨rfl, rfl⟩) | (go_at_call 156; refine (itok_any _ _).mono ?_; rintro e w' ⟨rfl, rfl⟩) | (go_at_call 165; refine (iplace_any _ _ _ _ _ _ _).mono ?_; rintro e w1 ⟨rfl, hb1⟩; have hx3 := (hb1.cell (p := ⟨w.heap.size + 1, 3, none⟩) (by simp)).trans (cell_two _ _ _ _ 3)))
    go_ret
    refine ⟨ret_bool (HR.out.trans (okI_is ?_)), ?_⟩
    · have := f0.out; simp at * <;> omega
    · first | exact hB.out | exact hB.out.trans (hb1.mono (by simp; omega))

end Go.Proofs.Ytkeoefbkeommhaa
