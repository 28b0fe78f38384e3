/-
  What the model's test of one instruction answers. No statement of the seat is proved here.
-/
import Derived.Test.YtkeoefbkeommhaaIns
namespace Go.Proofs.Ytkeoefbkeommhaa
open Go.RowKit


set_option maxRecDepth 100000 in
set_option maxHeartbeats 8000000 in
theorem sins_any (i o : Int) (pa : Option Addr) (m cp : Nat) (op a b c : Int) (w : World) (hi : 0 ≤ i ∧ i ≤ 3) (ho : 0 ≤ o ∧ o ≤ 3) :
    Calls Try.prog 151 #[.agg #[.int .i64 i, .int .i64 o, .slice pa m cp], .agg #[.int .i64 op, .int .i64 a, .int .i64 b, .int .i64 c]] w fun e w' => e = .returned (.bool (okI i o m ⟨op, a, b, c⟩)) ∧ Below w.heap.size w w' := by
  have hB := Lib.hid (((Below.refl w.heap.size w).alloc (Nat.le_refl _) (.cells #[.int .i64 i, .int .i64 o, .slice pa m cp] 79)).alloc (by simp) (.cells #[.int .i64 op, .int .i64 a, .int .i64 b, .int .i64 c] 156))
  obtain ⟨r, hr⟩ : ∃ r, r = okI i o m ⟨op, a, b, c⟩ := ⟨_, rfl⟩
  obtain ⟨rb, hrb⟩ : ∃ r, r = (inB 0 3 a && inB 0 3 b && inB 0 3 c) := ⟨_, rfl⟩
  obtain ⟨pl, hpl⟩ : ∃ r, r = (inB 0 m b && (c == 0)) := ⟨_, rfl⟩
  rw [← hr]
  have HR := Lib.hid hr
  have HRB := Lib.hid hrb
  have HPL := Lib.hid hpl
  clear hr hrb hpl
  have HI := Lib.hid hi
  have HO := Lib.hid ho
  have wi : wrap64 (i - 1) = i - 1 := IntWalk.wrap64_in _ (by omega)
  have wo : wrap64 (o - 1) = o - 1 := IntWalk.wrap64_in _ (by omega)
  clear hi ho
  go_enter Try.func151, Try.ntmps151
  go_upto_region 1 with fail
  go_cut [5] from 7 (fun s5 wr => s5 = .bool rb ∧ wr = (w.alloc (.cells #[.int .i64 i, .int .i64 o, .slice pa m cp] 79)).alloc (.cells #[.int .i64 op, .int .i64 a, .int .i64 b, .int .i64 c] 156))
  case first =>
    cases qa : inB 0 3 a with
    | false => go_wp2_with (first | (go_at_call 46; refine (sin_any _ _ _ _).mono ?_; rintro e w' ⟨rfl, rfl⟩) | (go_at_call 152; refine (stok_any _ _).mono ?_; rintro e w' ⟨rfl, rfl⟩)); go_meet; case rel => exact ⟨by simp [HRB.out, qa], rfl⟩
    | true =>
      cases qb : inB 0 3 b with
      | false => go_wp2_with (first | (go_at_call 46; refine (sin_any _ _ _ _).mono ?_; rintro e w' ⟨rfl, rfl⟩) | (go_at_call 152; refine (stok_any _ _).mono ?_; rintro e w' ⟨rfl, rfl⟩)); go_meet; case rel => exact ⟨by simp [HRB.out, qa, qb], rfl⟩
      | true => go_wp2_with (first | (go_at_call 46; refine (sin_any _ _ _ _).mono ?_; rintro e w' ⟨rfl, rfl⟩) | (go_at_call 152; refine (stok_any _ _).mono ?_; rintro e w' ⟨rfl, rfl⟩)); go_meet; case rel => exact ⟨by simp [HRB.out, qa, qb], rfl⟩
  case rest =>
    obtain ⟨rfl, rfl⟩ := hcut
    go_upto_region 2 with fail
    go_cut [6] from 7 (fun s6 wr => s6 = .bool pl ∧ wr = (w.alloc (.cells #[.int .i64 i, .int .i64 o, .slice pa m cp] 79)).alloc (.cells #[.int .i64 op, .int .i64 a, .int .i64 b, .int .i64 c] 156))
    case first =>
      cases qb : inB 0 m b with
      | false => go_wp2_with (first | (go_at_call 46; refine (sin_any _ _ _ _).mono ?_; rintro e w' ⟨rfl, rfl⟩) | (go_at_call 152; refine (stok_any _ _).mono ?_; rintro e w' ⟨rfl, rfl⟩)); go_meet; case rel => exact ⟨by simp [HPL.out, qb], rfl⟩
      | true => go_wp2_with (first | (go_at_call 46; refine (sin_any _ _ _ _).mono ?_; rintro e w' ⟨rfl, rfl⟩) | (go_at_call 152; refine (stok_any _ _).mono ?_; rintro e w' ⟨rfl, rfl⟩)); go_meet; case rel => exact ⟨by simp [HPL.out, qb], rfl⟩
    case rest =>
      obtain ⟨rfl, rfl⟩ := hcut
      have FB := Lib.hid (show rb = true ↔ ((0 ≤ a ∧ a ≤ 3) ∧ (0 ≤ b ∧ b ≤ 3) ∧ (0 ≤ c ∧ c ≤ 3)) by rw [HRB.out]; simp [inB, and_assoc])
      have FP := Lib.hid (show pl = true ↔ ((0 ≤ b ∧ b ≤ m) ∧ c = 0) by rw [HPL.out]; simp [inB])
      clear HRB HPL
      by_cases hop : 1 ≤ op ∧ op ≤ 11
      · have hop' : op = 1 ∨ op = 2 ∨ op = 3 ∨ op = 4 ∨ op = 5 ∨ op = 6 ∨ op = 7 ∨ op = 8 ∨ op = 9 ∨ op = 10 ∨ op = 11 := by omega
        clear hop
        rcases hop' with rfl | rfl | rfl | rfl | rfl | rfl | rfl | rfl | rfl | rfl | rfl
        · cases q0 : inB 0 3 a with
          | false =>
            have f0 := Lib.hid (inB_f q0)
            go_wp2_with (first | (go_at_call 46; refine (sin_any _ _ _ _).mono ?_; rintro e w' ⟨rfl, rfl⟩) | (go_at_call 152; refine (stok_any _ _).mono ?_; rintro e w' ⟨rfl, rfl⟩))
            go_ret
            refine ⟨ret_bool (HR.out.trans (okI_is ?_)), hB.out⟩
            have := f0.out; have := HI.out; have := HO.out; clear FB FP; simp at * <;> omega
          | true =>
            have f0 := Lib.hid (inB_t q0)
            cases q1 : inB 0 (i - 1) b with
            | false =>
              have f1 := Lib.hid (inB_f q1)
              go_wp2_with (first | (go_at_call 46; refine (sin_any _ _ _ _).mono ?_; rintro e w' ⟨rfl, rfl⟩) | (go_at_call 152; refine (stok_any _ _).mono ?_; rintro e w' ⟨rfl, rfl⟩))
              go_ret
              refine ⟨ret_bool (HR.out.trans (okI_is ?_)), hB.out⟩
              have := f0.out; have := f1.out; have := HI.out; have := HO.out; clear FB FP; simp at * <;> omega
            | true =>
              have f1 := Lib.hid (inB_t q1)
              go_wp2_with (first | (go_at_call 46; refine (sin_any _ _ _ _).mono ?_; rintro e w' ⟨rfl, rfl⟩) | (go_at_call 152; refine (stok_any _ _).mono ?_; rintro e w' ⟨rfl, rfl⟩))
              go_ret
              refine ⟨ret_bool (HR.out.trans (okI_is ?_)), hB.out⟩
              have := f0.out; have := f1.out; have := HI.out; have := HO.out; clear FB FP; simp at * <;> omega
        · cases q0 : inB 0 3 a with
          | false =>
            have f0 := Lib.hid (inB_f q0)
            go_wp2_with (first | (go_at_call 46; refine (sin_any _ _ _ _).mono ?_; rintro e w' ⟨rfl, rfl⟩) | (go_at_call 152; refine (stok_any _ _).mono ?_; rintro e w' ⟨rfl, rfl⟩))
            go_ret
            refine ⟨ret_bool (HR.out.trans (okI_is ?_)), hB.out⟩
            have := f0.out; have := HI.out; have := HO.out; clear FB FP; simp at * <;> omega
          | true =>
            have f0 := Lib.hid (inB_t q0)
            cases q1 : inB 0 (o - 1) b with
            | false =>
              have f1 := Lib.hid (inB_f q1)
              go_wp2_with (first | (go_at_call 46; refine (sin_any _ _ _ _).mono ?_; rintro e w' ⟨rfl, rfl⟩) | (go_at_call 152; refine (stok_any _ _).mono ?_; rintro e w' ⟨rfl, rfl⟩))
              go_ret
              refine ⟨ret_bool (HR.out.trans (okI_is ?_)), hB.out⟩
              have := f0.out; have := f1.out; have := HI.out; have := HO.out; clear FB FP; simp at * <;> omega
            | true =>
              have f1 := Lib.hid (inB_t q1)
              go_wp2_with (first | (go_at_call 46; refine (sin_any _ _ _ _).mono ?_; rintro e w' ⟨rfl, rfl⟩) | (go_at_call 152; refine (stok_any _ _).mono ?_; rintro e w' ⟨rfl, rfl⟩))
              go_ret
              refine ⟨ret_bool (HR.out.trans (okI_is ?_)), hB.out⟩
              have := f0.out; have := f1.out; have := HI.out; have := HO.out; clear FB FP; simp at * <;> omega
        · cases q0 : inB 0 3 a with
          | false =>
            have f0 := Lib.hid (inB_f q0)
            go_wp2_with (first | (go_at_call 46; refine (sin_any _ _ _ _).mono ?_; rintro e w' ⟨rfl, rfl⟩) | (go_at_call 152; refine (stok_any _ _).mono ?_; rintro e w' ⟨rfl, rfl⟩))
            go_ret
            refine ⟨ret_bool (HR.out.trans (okI_is ?_)), hB.out⟩
            have := f0.out; have := HI.out; have := HO.out; clear FB FP; simp at * <;> omega
          | true =>
            have f0 := Lib.hid (inB_t q0)
            cases q1 : isTok b with
            | false =>
              have f1 := Lib.hid (tok_f q1)
              go_wp2_with (first | (go_at_call 46; refine (sin_any _ _ _ _).mono ?_; rintro e w' ⟨rfl, rfl⟩) | (go_at_call 152; refine (stok_any _ _).mono ?_; rintro e w' ⟨rfl, rfl⟩))
              go_ret
              refine ⟨ret_bool (HR.out.trans (okI_is ?_)), hB.out⟩
              have := f0.out; have := f1.out; have := HI.out; have := HO.out; clear FB FP; simp at * <;> omega
            | true =>
              have f1 := Lib.hid (tok_t q1)
              go_wp2_with (first | (go_at_call 46; refine (sin_any _ _ _ _).mono ?_; rintro e w' ⟨rfl, rfl⟩) | (go_at_call 152; refine (stok_any _ _).mono ?_; rintro e w' ⟨rfl, rfl⟩))
              go_ret
              refine ⟨ret_bool (HR.out.trans (okI_is ?_)), hB.out⟩
              have := f0.out; have := f1.out; have := HI.out; have := HO.out; clear FB FP; simp at * <;> omega
        · go_wp2_with (first | (go_at_call 46; refine (sin_any _ _ _ _).mono ?_; rintro e w' ⟨rfl, rfl⟩) | (go_at_call 152; refine (stok_any _ _).mono ?_; rintro e w' ⟨rfl, rfl⟩))
          go_ret
          refine ⟨ret_bool (HR.out.trans (okI_is ?_)), hB.out⟩
          have := HI.out; have := HO.out; rw [FB.out]; clear FB FP; simp at * <;> omega
        · go_wp2_with (first | (go_at_call 46; refine (sin_any _ _ _ _).mono ?_; rintro e w' ⟨rfl, rfl⟩) | (go_at_call 152; refine (stok_any _ _).mono ?_; rintro e w' ⟨rfl, rfl⟩))
          go_ret
          refine ⟨ret_bool (HR.out.trans (okI_is ?_)), hB.out⟩
          have := HI.out; have := HO.out; rw [FB.out]; clear FB FP; simp at * <;> omega
        · go_wp2_with (first | (go_at_call 46; refine (sin_any _ _ _ _).mono ?_; rintro e w' ⟨rfl, rfl⟩) | (go_at_call 152; refine (stok_any _ _).mono ?_; rintro e w' ⟨rfl, rfl⟩))
          go_ret
          refine ⟨ret_bool (HR.out.trans (okI_is ?_)), hB.out⟩
          have := HI.out; have := HO.out; rw [FB.out]; clear FB FP; simp at * <;> omega
        · go_wp2_with (first | (go_at_call 46; refine (sin_any _ _ _ _).mono ?_; rintro e w' ⟨rfl, rfl⟩) | (go_at_call 152; refine (stok_any _ _).mono ?_; rintro e w' ⟨rfl, rfl⟩))
          go_ret
          refine ⟨ret_bool (HR.out.trans (okI_is ?_)), hB.out⟩
          have := HI.out; have := HO.out; rw [FB.out]; clear FB FP; simp at * <;> omega
        · by_cases q0 : a = 0
          · have f0 := Lib.hid q0
            subst q0
            go_wp2_with (first | (go_at_call 46; refine (sin_any _ _ _ _).mono ?_; rintro e w' ⟨rfl, rfl⟩) | (go_at_call 152; refine (stok_any _ _).mono ?_; rintro e w' ⟨rfl, rfl⟩))
            go_ret
            refine ⟨ret_bool (HR.out.trans (okI_is ?_)), hB.out⟩
            have := f0.out; have := HI.out; have := HO.out; rw [FP.out]; clear FB FP; simp at * <;> omega
          · have f0 := Lib.hid q0
            have d0 : (a == 0) = false := by simpa using q0
            go_wp2_with (first | (go_at_call 46; refine (sin_any _ _ _ _).mono ?_; rintro e w' ⟨rfl, rfl⟩) | (go_at_call 152; refine (stok_any _ _).mono ?_; rintro e w' ⟨rfl, rfl⟩))
            go_ret
            refine ⟨ret_bool (HR.out.trans (okI_is ?_)), hB.out⟩
            have := f0.out; have := HI.out; have := HO.out; clear FB FP; simp at * <;> omega
        · cases q0 : inB 0 3 a with
          | false =>
            have f0 := Lib.hid (inB_f q0)
            go_wp2_with (first | (go_at_call 46; refine (sin_any _ _ _ _).mono ?_; rintro e w' ⟨rfl, rfl⟩) | (go_at_call 152; refine (stok_any _ _).mono ?_; rintro e w' ⟨rfl, rfl⟩))
            go_ret
            refine ⟨ret_bool (HR.out.trans (okI_is ?_)), hB.out⟩
            have := f0.out; have := HI.out; have := HO.out; clear FB FP; simp at * <;> omega
          | true =>
            have f0 := Lib.hid (inB_t q0)
            go_wp2_with (first | (go_at_call 46; refine (sin_any _ _ _ _).mono ?_; rintro e w' ⟨rfl, rfl⟩) | (go_at_call 152; refine (stok_any _ _).mono ?_; rintro e w' ⟨rfl, rfl⟩))
            go_ret
            refine ⟨ret_bool (HR.out.trans (okI_is ?_)), hB.out⟩
            have := f0.out; have := HI.out; have := HO.out; rw [FP.out]; clear FB FP; simp at * <;> omega
        · cases q0 : inB 0 3 a with
          | false =>
            have f0 := Lib.hid (inB_f q0)
            go_wp2_with (first | (go_at_call 46; refine (sin_any _ _ _ _).mono ?_; rintro e w' ⟨rfl, rfl⟩) | (go_at_call 152; refine (stok_any _ _).mono ?_; rintro e w' ⟨rfl, rfl⟩))
            go_ret
            refine ⟨ret_bool (HR.out.trans (okI_is ?_)), hB.out⟩
            have := f0.out; have := HI.out; have := HO.out; clear FB FP; simp at * <;> omega
          | true =>
            have f0 := Lib.hid (inB_t q0)
            go_wp2_with (first | (go_at_call 46; refine (sin_any _ _ _ _).mono ?_; rintro e w' ⟨rfl, rfl⟩) | (go_at_call 152; refine (stok_any _ _).mono ?_; rintro e w' ⟨rfl, rfl⟩))
            go_ret
            refine ⟨ret_bool (HR.out.trans (okI_is ?_)), hB.out⟩
            have := f0.out; have := HI.out; have := HO.out; rw [FP.out]; clear FB FP; simp at * <;> omega
        · by_cases q0 : a = 0
          · have f0 := Lib.hid q0
            subst q0
            by_cases q1 : b = 0
            · have f1 := Lib.hid q1
              subst q1
              go_wp2_with (first | (go_at_call 46; refine (sin_any _ _ _ _).mono ?_; rintro e w' ⟨rfl, rfl⟩) | (go_at_call 152; refine (stok_any _ _).mono ?_; rintro e w' ⟨rfl, rfl⟩))
              go_ret
              refine ⟨ret_bool (HR.out.trans (okI_is ?_)), hB.out⟩
              have := f0.out; have := f1.out; have := HI.out; have := HO.out; clear FB FP; simp at * <;> omega
            · have f1 := Lib.hid q1
              have d1 : (b == 0) = false := by simpa using q1
              go_wp2_with (first | (go_at_call 46; refine (sin_any _ _ _ _).mono ?_; rintro e w' ⟨rfl, rfl⟩) | (go_at_call 152; refine (stok_any _ _).mono ?_; rintro e w' ⟨rfl, rfl⟩))
              go_ret
              refine ⟨ret_bool (HR.out.trans (okI_is ?_)), hB.out⟩
              have := f0.out; have := f1.out; have := HI.out; have := HO.out; clear FB FP; simp at * <;> omega
          · have f0 := Lib.hid q0
            have d0 : (a == 0) = false := by simpa using q0
            go_wp2_with (first | (go_at_call 46; refine (sin_any _ _ _ _).mono ?_; rintro e w' ⟨rfl, rfl⟩) | (go_at_call 152; refine (stok_any _ _).mono ?_; rintro e w' ⟨rfl, rfl⟩))
            go_ret
            refine ⟨ret_bool (HR.out.trans (okI_is ?_)), hB.out⟩
            have := f0.out; have := HI.out; have := HO.out; clear FB FP; simp at * <;> omega
      · have k : ∀ q, 1 ≤ q → q ≤ 11 → (op == q) = false := fun q h1 h2 => by simp; omega
        have k1 := k 1 (by omega) (by omega)
        have k2 := k 2 (by omega) (by omega)
        have k3 := k 3 (by omega) (by omega)
        have k4 := k 4 (by omega) (by omega)
        have k5 := k 5 (by omega) (by omega)
        have k6 := k 6 (by omega) (by omega)
        have k7 := k 7 (by omega) (by omega)
        have k8 := k 8 (by omega) (by omega)
        have k9 := k 9 (by omega) (by omega)
        have k10 := k 10 (by omega) (by omega)
        have k11 := k 11 (by omega) (by omega)
        have f0 := Lib.hid hop
        clear hop k
        go_wp2_with (first | (go_at_call 46; refine (sin_any _ _ _ _).mono ?_; rintro e w' ⟨rfl, rfl⟩) | (go_at_call 152; refine (stok_any _ _).mono ?_; rintro e w' ⟨rfl, rfl⟩))
        go_ret
        refine ⟨ret_bool (HR.out.trans (okI_is ?_)), hB.out⟩
        have := f0.out; have := HI.out; have := HO.out; clear FB FP; simp at * <;> omega

end Go.Proofs.Ytkeoefbkeommhaa
