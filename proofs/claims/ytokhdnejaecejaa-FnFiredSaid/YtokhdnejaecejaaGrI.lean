/-
  What the program's and the model's IsGraph answer. No statement of the seat is proved here.
-/
import Derived.Test.YtokhdnejaecejaaGrM
namespace Go.Proofs.Ytokhdnejaecejaa
open Go.RowKit

set_option maxRecDepth 100000 in
set_option maxHeartbeats 800000 in
theorem inode_any (n k : Int) (a : Option Addr) (m cap : Nat) (w : World) :
    Calls Try.prog 102 #[.agg #[.int .i64 n, .slice a m cap], .int .i64 k] w fun e w' => e = .returned (.bool (inB 0 (n - 1) k)) ∧ w' = w.alloc (.cells #[.int .i64 n, .slice a m cap] 29) := by
  have h1 := @inB_yes 0 (n - 1) k
  have h2 := @inB_lo 0 (n - 1) k
  have h3 := @inB_hi 0 (n - 1) k
  generalize inB 0 (n - 1) k = r at *
  by_cases c1 : k < 0
  · have e := h2 c1
    clear h1 h2 h3
    subst e
    have c1' : decide (0 ≤ k) = false := decide_eq_false (by omega)
    go_enter Try.func102, Try.ntmps102
    go_wp2
    go_ret
    exact ⟨rfl, rfl⟩
  · have c1' : decide (0 ≤ k) = true := decide_eq_true (by omega)
    by_cases c2 : k < n
    · have e := h1 (by omega) (by omega)
      clear h1 h2 h3
      subst e
      have c2' : decide (k < n) = true := decide_eq_true c2
      go_enter Try.func102, Try.ntmps102
      go_wp2
      go_ret
      exact ⟨rfl, rfl⟩
    · have e := h3 (by omega)
      clear h1 h2 h3
      subst e
      have c2' : decide (k < n) = false := decide_eq_false c2
      go_enter Try.func102, Try.ntmps102
      go_wp2
      go_ret
      exact ⟨rfl, rfl⟩

set_option maxHeartbeats 400000 in
theorem irate_any (n : Int) (w : World) :
    Calls Try.prog 103 #[.int .i64 n] w fun e w' => e = .returned (.bool (inB 1 5 n)) ∧ w' = w := by
  have h1 := @inB_yes 1 5 n
  have h2 := @inB_lo 1 5 n
  have h3 := @inB_hi 1 5 n
  generalize inB 1 5 n = r at *
  by_cases c1 : n < 1
  · have e := h2 c1
    clear h1 h2 h3
    subst e
    have c1' : decide (1 ≤ n) = false := decide_eq_false (by omega)
    go_enter Try.func103, Try.ntmps103
    go_wp2
    go_ret
    exact ⟨rfl, rfl⟩
  · have c1' : decide (1 ≤ n) = true := decide_eq_true (by omega)
    by_cases c2 : n ≤ 5
    · have e := h1 (by omega) c2
      clear h1 h2 h3
      subst e
      have c2' : decide (n ≤ 5) = true := decide_eq_true c2
      go_enter Try.func103, Try.ntmps103
      go_wp2
      go_ret
      exact ⟨rfl, rfl⟩
    · have e := h3 (by omega)
      clear h1 h2 h3
      subst e
      have c2' : decide (n ≤ 5) = false := decide_eq_false c2
      go_enter Try.func103, Try.ntmps103
      go_wp2
      go_ret
      exact ⟨rfl, rfl⟩

set_option maxRecDepth 100000 in
set_option maxHeartbeats 4000000 in
theorem iedge_any (n : Int) (a : Option Addr) (m cap : Nat) (x : Edg) (w : World) :
    Calls Try.prog 56 #[.agg #[.int .i64 n, .slice a m cap], .agg #[.int .i64 x.fr, .int .i64 x.to, .int .i64 x.mke, .int .i64 x.tk, .int .i64 x.tok]] w fun e w' => e = .returned (.bool (okE n x)) ∧ Below w.heap.size w w' := by
  obtain ⟨fr, to, mk, tk, tok⟩ := x
  simp only []
  obtain ⟨r, hr⟩ : ∃ r, r = okE n ⟨fr, to, mk, tk, tok⟩ := ⟨_, rfl⟩
  rw [← hr]
  have HR := Lib.hid (hr.trans (show okE n ⟨fr, to, mk, tk, tok⟩ = (inB 0 (n - 1) fr && inB 0 (n - 1) to && inB 1 5 mk && inB 1 5 tk && inB 0 50 tok) from rfl))
  clear hr
  go_enter Try.func56, Try.ntmps56
  cases q0 : inB 0 (n - 1) fr with
  | false =>
    rw [q0] at HR
    go_wp2_with (first | (go_at_call 102; refine (inode_any _ _ _ _ _ _).mono ?_; rintro e w' ⟨rfl, rfl⟩; rw [q0]) | (go_at_call 103; refine (irate_any _ _).mono ?_; rintro e w' ⟨rfl, rfl⟩))
    go_ret
    exact ⟨ret_bool HR.out, by repeat (first | exact Below.refl _ _ | apply Below.al)⟩
  | true =>
    cases q1 : inB 0 (n - 1) to with
    | false =>
      rw [q0, q1] at HR
      go_wp2_with (first | (go_at_call 102; refine (inode_any _ _ _ _ _ _).mono ?_; rintro e w' ⟨rfl, rfl⟩; first | rw [q0] | rw [q1]) | (go_at_call 103; refine (irate_any _ _).mono ?_; rintro e w' ⟨rfl, rfl⟩))
      go_ret
      exact ⟨ret_bool HR.out, by repeat (first | exact Below.refl _ _ | apply Below.al)⟩
    | true =>
      cases q2 : inB 1 5 mk with
      | false =>
        rw [q0, q1, q2] at HR
        go_wp2_with (first | (go_at_call 102; refine (inode_any _ _ _ _ _ _).mono ?_; rintro e w' ⟨rfl, rfl⟩; first | rw [q0] | rw [q1]) | (go_at_call 103; refine (irate_any _ _).mono ?_; rintro e w' ⟨rfl, rfl⟩; rw [q2]))
        go_ret
        exact ⟨ret_bool HR.out, by repeat (first | exact Below.refl _ _ | apply Below.al)⟩
      | true =>
        cases q3 : inB 1 5 tk with
        | false =>
          rw [q0, q1, q2, q3] at HR
          go_wp2_with (first | (go_at_call 102; refine (inode_any _ _ _ _ _ _).mono ?_; rintro e w' ⟨rfl, rfl⟩; first | rw [q0] | rw [q1]) | (go_at_call 103; refine (irate_any _ _).mono ?_; rintro e w' ⟨rfl, rfl⟩; first | rw [q2] | rw [q3]))
          go_ret
          exact ⟨ret_bool HR.out, by repeat (first | exact Below.refl _ _ | apply Below.al)⟩
        | true =>
          rw [q0, q1, q2, q3] at HR
          have h1 := @inB_yes 0 50 tok
          have h2 := @inB_lo 0 50 tok
          have h3 := @inB_hi 0 50 tok
          by_cases c1 : tok < 0
          · rw [h2 c1] at HR
            have c1' : decide (0 ≤ tok) = false := decide_eq_false (by omega)
            clear h1 h2 h3
            go_wp2_with (first | (go_at_call 102; refine (inode_any _ _ _ _ _ _).mono ?_; rintro e w' ⟨rfl, rfl⟩; first | rw [q0] | rw [q1]) | (go_at_call 103; refine (irate_any _ _).mono ?_; rintro e w' ⟨rfl, rfl⟩; first | rw [q2] | rw [q3]))
            go_ret
            exact ⟨ret_bool HR.out, by repeat (first | exact Below.refl _ _ | apply Below.al)⟩
          · have c1' : decide (0 ≤ tok) = true := decide_eq_true (by omega)
            by_cases c2 : tok ≤ 50
            · rw [h1 (by omega) c2] at HR
              have c2' : decide (tok ≤ 50) = true := decide_eq_true c2
              clear h1 h2 h3
              go_wp2_with (first | (go_at_call 102; refine (inode_any _ _ _ _ _ _).mono ?_; rintro e w' ⟨rfl, rfl⟩; first | rw [q0] | rw [q1]) | (go_at_call 103; refine (irate_any _ _).mono ?_; rintro e w' ⟨rfl, rfl⟩; first | rw [q2] | rw [q3]))
              go_ret
              exact ⟨ret_bool HR.out, by repeat (first | exact Below.refl _ _ | apply Below.al)⟩
            · rw [h3 (by omega)] at HR
              have c2' : decide (tok ≤ 50) = false := decide_eq_false c2
              clear h1 h2 h3
              go_wp2_with (first | (go_at_call 102; refine (inode_any _ _ _ _ _ _).mono ?_; rintro e w' ⟨rfl, rfl⟩; first | rw [q0] | rw [q1]) | (go_at_call 103; refine (irate_any _ _).mono ?_; rintro e w' ⟨rfl, rfl⟩; first | rw [q2] | rw [q3]))
              go_ret
              exact ⟨ret_bool HR.out, by repeat (first | exact Below.refl _ _ | apply Below.al)⟩

set_option maxRecDepth 100000 in
set_option maxHeartbeats 4000000 in
theorem iisg_any (v : Value) (g : Grf) (w : World) (h : GrV w v g) :
    Calls Try.prog 17 #[v] w fun e w' => e = .returned (.bool (okG g)) ∧ Below w.heap.size w w' := by
  obtain ⟨c, rfl, hc⟩ := h
  obtain ⟨n, es⟩ := g
  simp only [] at hc ⊢
  obtain ⟨r, hr⟩ : ∃ r, r = okG ⟨n, es⟩ := ⟨_, rfl⟩
  rw [← hr]
  have HR := Lib.hid hr
  clear hr
  obtain ⟨a, cap, rfl, _, hm, _, hrest⟩ := hc
  have hm' : es.length ≤ 9223372036854775807 := by unfold maxLen at hm; omega
  clear hm
  obtain ⟨m, hmm⟩ : ∃ m, m = es.length := ⟨_, rfl⟩
  rw [← hmm] at hm' ⊢
  have HM := Lib.hid hmm
  clear hmm
  have hb := Lib.hid ((Below.refl w.heap.size w).al (.cells #[.int .i64 n, .slice a m cap] 29))
  have hH := Lib.hid (hp1 w (.cells #[.int .i64 n, .slice a m cap] 29))
  by_cases hh : 0 ≤ n ∧ n ≤ 8 ∧ m ≤ 16
  · obtain ⟨h1, h2, h3⟩ := hh
    have HRA := Lib.hid (HR.out.trans (okG_all (g := ⟨n, es⟩) ⟨h1, h2, by rw [← HM.out]; exact h3⟩))
    have d1 : decide (n < 0) = false := decide_eq_false (by omega)
    have d2 : decide (n > 8) = false := decide_eq_false (by omega)
    have d2' : decide (8 < n) = false := decide_eq_false (by omega)
    have d3 : decide ((m : Int) > 16) = false := decide_eq_false (by omega)
    have d3' : decide (16 < (m : Int)) = false := decide_eq_false (by omega)
    go_enter Try.func17, Try.ntmps17
    go_wp2_with fail
    go_loopw [22] (fun i wr => ∃ k : Nat, k ≤ m ∧ i = .int .i64 k ∧ Hid ((es.take k).all (okE n) = true) ∧ Hid (wr.heap[w.heap.size]? = some (.cells #[.int .i64 n, .slice a m cap] 29)) ∧ Hid (Below w.heap.size w wr)) (fun i _ => m - (intOf i).toNat)
    case atStart => exact ⟨0, Nat.zero_le _, rfl, Lib.hid (by simp), hH, hb⟩
    case round =>
      obtain ⟨k, hk, rfl, HA, HG, HB⟩ := hrel
      by_cases hlt : k < m
      · rcases hrest with rfl | ⟨b, off, rfl, hbl, hcell⟩
        · exact absurd hlt (by have := HM.out; simp at this; omega)
        · obtain ⟨x, hx⟩ : ∃ x, es[k]? = some x := ⟨_, List.getElem?_eq_getElem (by rw [← HM.out]; exact hlt)⟩
          obtain ⟨e0, e1, e2, e3, e4⟩ := hcell k x hx
          have c0 := (HB.out.cell (p := ⟨b, off + k * 5, none⟩) hbl).trans e0
          have c1 := (HB.out.cell (p := ⟨b, off + k * 5 + 1, none⟩) hbl).trans e1
          have c2 := (HB.out.cell (p := ⟨b, off + k * 5 + 2, none⟩) hbl).trans e2
          have c3 := (HB.out.cell (p := ⟨b, off + k * 5 + 3, none⟩) hbl).trans e3
          have c4 := (HB.out.cell (p := ⟨b, off + k * 5 + 4, none⟩) hbl).trans e4
          have hbl2 : b < wr.heap.size := Nat.lt_of_lt_of_le hbl HB.out.size
          obtain ⟨g0, g1⟩ := cells2 HG.out
          have lg := lt_of HG.out
          have HX := Lib.hid hx
          clear hx hcell e0 e1 e2 e3 e4
          have hb5 := (Below.refl wr.heap.size wr).al (.cells #[.int .i64 x.fr, .int .i64 x.to, .int .i64 x.mke, .int .i64 x.tk, .int .i64 x.tok] 62)
          have HB5 := Lib.hid (HB.out.trans (hb5.mono HB.out.size))
          have HG5 := Lib.hid (blk_in HG.out hb5)
          clear hb5
          cases ht : okE n x with
          | true =>
            go_wp2_with (go_at_call 56; refine (iedge_any n _ m cap x _).mono ?_; rintro e w2 ⟨rfl, hb2⟩; rw [ht]; have HB2 := Lib.hid (HB5.out.trans (hb2.mono HB5.out.size)); have HG2 := Lib.hid (blk_in HG5.out hb2); clear hb2)
            go_roundw
            case rel => exact ⟨k + 1, by omega, by go_num, Lib.hid (allE_step HX.out HA.out ht), HG2, HB2⟩
            case measure => simp [intOf]; omega
          | false =>
            go_wp2_with (go_at_call 56; refine (iedge_any n _ m cap x _).mono ?_; rintro e w2 ⟨rfl, hb2⟩; rw [ht]; have HB2 := Lib.hid (HB5.out.trans (hb2.mono HB5.out.size)); clear hb2)
            go_ret
            exact ⟨ret_bool (HRA.out.trans (allE_no HX.out ht)), HB2.out⟩
      · go_wp2_with fail
        go_ret
        exact ⟨ret_bool (HRA.out.trans (allE_end (by rw [← HM.out]; exact hlt) HA.out)), HB.out⟩
  · have e := Lib.hid (HR.out.trans (okG_head (g := ⟨n, es⟩) (by show ¬ (0 ≤ n ∧ n ≤ 8 ∧ es.length ≤ 16); rw [← HM.out]; exact hh)))
    by_cases c1 : n < 0
    · have d1 : decide (n < 0) = true := decide_eq_true c1
      go_enter Try.func17, Try.ntmps17
      go_wp2_with fail
      go_ret
      exact ⟨ret_bool e.out, hb.out⟩
    · have d1 : decide (n < 0) = false := decide_eq_false c1
      by_cases c2 : n > 8
      · have d2 : decide (n > 8) = true := decide_eq_true c2
        have d2' : decide (8 < n) = true := decide_eq_true c2
        go_enter Try.func17, Try.ntmps17
        go_wp2_with fail
        go_ret
        exact ⟨ret_bool e.out, hb.out⟩
      · have d2 : decide (n > 8) = false := decide_eq_false c2
        have d2' : decide (8 < n) = false := decide_eq_false c2
        have d3 : decide ((m : Int) > 16) = true := decide_eq_true (by omega)
        have d3' : decide (16 < (m : Int)) = true := decide_eq_true (by omega)
        go_enter Try.func17, Try.ntmps17
        go_wp2_with fail
        go_ret
        exact ⟨ret_bool e.out, hb.out⟩
set_option maxRecDepth 100000 in
set_option maxHeartbeats 4000000 in
theorem sisg_any (v : Value) (g : Grf) (w : World) (h : GrV w v g) :
    Calls Try.prog 15 #[v] w fun e w' => e = .returned (.bool (okG g)) ∧ Below w.heap.size w w' := by
  obtain ⟨c, rfl, hc⟩ := h
  obtain ⟨n, es⟩ := g
  simp only [] at hc ⊢
  obtain ⟨r, hr⟩ : ∃ r, r = okG ⟨n, es⟩ := ⟨_, rfl⟩
  rw [← hr]
  have HR := Lib.hid hr
  clear hr
  obtain ⟨a, cap, rfl, _, hm, _, hrest⟩ := hc
  have hm' : es.length ≤ 9223372036854775807 := by unfold maxLen at hm; omega
  clear hm
  obtain ⟨m, hmm⟩ : ∃ m, m = es.length := ⟨_, rfl⟩
  rw [← hmm] at hm' ⊢
  have HM := Lib.hid hmm
  clear hmm
  have hb := Lib.hid ((Below.refl w.heap.size w).al (.cells #[.int .i64 n, .slice a m cap] 29))
  have hH := Lib.hid (hp1 w (.cells #[.int .i64 n, .slice a m cap] 29))
  by_cases hh : 0 ≤ n ∧ n ≤ 8 ∧ m ≤ 16
  · obtain ⟨h1, h2, h3⟩ := hh
    have HRA := Lib.hid (HR.out.trans (okG_all (g := ⟨n, es⟩) ⟨h1, h2, by rw [← HM.out]; exact h3⟩))
    have qn : inB 0 8 n = true := inB_yes h1 h2
    have d3 : decide ((m : Int) > 16) = false := decide_eq_false (by omega)
    have d3' : decide (16 < (m : Int)) = false := decide_eq_false (by omega)
    have wn : wrap64 (n - 1) = n - 1 := IntWalk.wrap64_in _ (by omega)
    go_enter Try.func15, Try.ntmps15
    go_wp2_with ((go_at_call 54; refine (sin_any _ _ _ _).mono ?_; rintro e w' ⟨rfl, rfl⟩; first | rw [qn]))
    go_loopw [18] (fun i wr => ∃ k : Nat, k ≤ m ∧ i = .int .i64 k ∧ Hid ((es.take k).all (okE n) = true) ∧ Hid (wr.heap[w.heap.size]? = some (.cells #[.int .i64 n, .slice a m cap] 29)) ∧ Hid (Below w.heap.size w wr)) (fun i _ => m - (intOf i).toNat)
    case atStart => exact ⟨0, Nat.zero_le _, rfl, Lib.hid (by simp), hH, hb⟩
    case round =>
      obtain ⟨k, hk, rfl, HA, HG, HB⟩ := hrel
      by_cases hlt : k < m
      · rcases hrest with rfl | ⟨b, off, rfl, hbl, hcell⟩
        · exact absurd hlt (by have := HM.out; simp at this; omega)
        · obtain ⟨x, hx⟩ : ∃ x, es[k]? = some x := ⟨_, List.getElem?_eq_getElem (by rw [← HM.out]; exact hlt)⟩
          obtain ⟨e0, e1, e2, e3, e4⟩ := hcell k x hx
          have c0 := (HB.out.cell (p := ⟨b, off + k * 5, none⟩) hbl).trans e0
          have c1 := (HB.out.cell (p := ⟨b, off + k * 5 + 1, none⟩) hbl).trans e1
          have c2 := (HB.out.cell (p := ⟨b, off + k * 5 + 2, none⟩) hbl).trans e2
          have c3 := (HB.out.cell (p := ⟨b, off + k * 5 + 3, none⟩) hbl).trans e3
          have c4 := (HB.out.cell (p := ⟨b, off + k * 5 + 4, none⟩) hbl).trans e4
          have hbl2 : b < wr.heap.size := Nat.lt_of_lt_of_le hbl HB.out.size
          obtain ⟨g0, g1⟩ := cells2 HG.out
          have lg := lt_of HG.out
          have HX := Lib.hid hx
          clear hx hcell e0 e1 e2 e3 e4
          have hb5 := (Below.refl wr.heap.size wr).al (.cells #[.int .i64 x.fr, .int .i64 x.to, .int .i64 x.mke, .int .i64 x.tk, .int .i64 x.tok] 62)
          have HB5 := Lib.hid (HB.out.trans (hb5.mono HB.out.size))
          have HG5 := Lib.hid (blk_in HG.out hb5)
          clear hb5
          cases q0 : inB 0 (n - 1) x.fr with
          | false =>
            have ht := Lib.hid (show okE n x = false by unfold okE; simp [q0])
            go_wp2_with ((go_at_call 54; refine (sin_any _ _ _ _).mono ?_; rintro e w' ⟨rfl, rfl⟩; first | rw [q0]))
            go_ret
            exact ⟨ret_bool (HRA.out.trans (allE_no HX.out ht.out)), HB5.out⟩
          | true =>
            cases q1 : inB 0 (n - 1) x.to with
            | false =>
              have ht := Lib.hid (show okE n x = false by unfold okE; simp [q1])
              go_wp2_with ((go_at_call 54; refine (sin_any _ _ _ _).mono ?_; rintro e w' ⟨rfl, rfl⟩; first | rw [q0] | rw [q1]))
              go_ret
              exact ⟨ret_bool (HRA.out.trans (allE_no HX.out ht.out)), HB5.out⟩
            | true =>
              cases q2 : inB 1 5 x.mke with
              | false =>
                have ht := Lib.hid (show okE n x = false by unfold okE; simp [q2])
                go_wp2_with ((go_at_call 54; refine (sin_any _ _ _ _).mono ?_; rintro e w' ⟨rfl, rfl⟩; first | rw [q0] | rw [q1] | rw [q2]))
                go_ret
                exact ⟨ret_bool (HRA.out.trans (allE_no HX.out ht.out)), HB5.out⟩
              | true =>
                cases q3 : inB 1 5 x.tk with
                | false =>
                  have ht := Lib.hid (show okE n x = false by unfold okE; simp [q3])
                  go_wp2_with ((go_at_call 54; refine (sin_any _ _ _ _).mono ?_; rintro e w' ⟨rfl, rfl⟩; first | rw [q0] | rw [q1] | rw [q2] | rw [q3]))
                  go_ret
                  exact ⟨ret_bool (HRA.out.trans (allE_no HX.out ht.out)), HB5.out⟩
                | true =>
                  cases q4 : inB 0 50 x.tok with
                  | false =>
                    have ht := Lib.hid (show okE n x = false by unfold okE; simp [q4])
                    go_wp2_with ((go_at_call 54; refine (sin_any _ _ _ _).mono ?_; rintro e w' ⟨rfl, rfl⟩; first | rw [q0] | rw [q1] | rw [q2] | rw [q3] | rw [q4]))
                    go_ret
                    exact ⟨ret_bool (HRA.out.trans (allE_no HX.out ht.out)), HB5.out⟩
                  | true =>
                    have ht : okE n x = true := by unfold okE; rw [q0, q1, q2, q3, q4]; rfl
                    skip
                    go_wp2_with ((go_at_call 54; refine (sin_any _ _ _ _).mono ?_; rintro e w' ⟨rfl, rfl⟩; first | rw [q0] | rw [q1] | rw [q2] | rw [q3] | rw [q4]))
                    go_roundw
                    case rel => exact ⟨k + 1, by omega, by go_num, Lib.hid (allE_step HX.out HA.out ht), HG5, HB5⟩
                    case measure => simp [intOf]; omega
      · go_wp2_with fail
        go_ret
        exact ⟨ret_bool (HRA.out.trans (allE_end (by rw [← HM.out]; exact hlt) HA.out)), HB.out⟩
  · have e := Lib.hid (HR.out.trans (okG_head (g := ⟨n, es⟩) (by show ¬ (0 ≤ n ∧ n ≤ 8 ∧ es.length ≤ 16); rw [← HM.out]; exact hh)))
    cases qn : inB 0 8 n with
    | false =>
      go_enter Try.func15, Try.ntmps15
      go_wp2_with ((go_at_call 54; refine (sin_any _ _ _ _).mono ?_; rintro e w' ⟨rfl, rfl⟩; first | rw [qn]))
      go_ret
      exact ⟨ret_bool e.out, hb.out⟩
    | true =>
      have hn := inB_t qn
      have d3 : decide ((m : Int) > 16) = true := decide_eq_true (by omega)
      have d3' : decide (16 < (m : Int)) = true := decide_eq_true (by omega)
      go_enter Try.func15, Try.ntmps15
      go_wp2_with ((go_at_call 54; refine (sin_any _ _ _ _).mono ?_; rintro e w' ⟨rfl, rfl⟩; first | rw [qn]))
      go_ret
      exact ⟨ret_bool e.out, hb.out⟩
end Go.Proofs.Ytokhdnejaecejaa
