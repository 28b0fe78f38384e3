/-
  What the law's own functions on instructions and slices of instructions do: a comparison, marks, sizes. No statement of the seat is proved here.
-/
import Derived.Test.YtkeoefbkeommhaaCode
import Derived.Test.YtkeoefbkeommhaaCopy
import Derived.Deep.RegionWith
namespace Go.Proofs.Ytkeoefbkeommhaa
open Go.RowKit

set_option maxRecDepth 100000 in
set_option maxHeartbeats 800000 in
theorem eqIns_ok (x : Ins) (w : World) :
    Calls Try.prog 166 #[.agg #[.int .i64 x.op, .int .i64 x.a, .int .i64 x.b, .int .i64 x.c], .agg #[.int .i64 x.op, .int .i64 x.a, .int .i64 x.b, .int .i64 x.c]] w fun e w' => e = .returned (.bool true) ∧ Below w.heap.size w w' := by
  obtain ⟨op, a, b, c⟩ := x
  simp only []
  have hb := Below.refl w.heap.size w
  go_enter Try.func166, Try.ntmps166
  go_wp2
  go_ret
  exact ⟨rfl, (hb.al _).al _⟩

set_option maxRecDepth 100000 in
set_option maxHeartbeats 800000 in
theorem eqInsS_ok (v u : Value) (xs : List Ins) (w : World) (h : SlI w v xs) (k : SlI w u xs) :
    Calls Try.prog 158 #[v, u] w fun e w' => e = .returned (.bool true) ∧ Below w.heap.size w w' := by
  obtain ⟨a, cap, rfl, hl, hm, hn, hc⟩ := h
  obtain ⟨a2, cap2, rfl, hl2, hm2, hn2, hc2⟩ := k
  have hm' : xs.length ≤ 9223372036854775807 := by unfold maxLen at hm; omega
  clear hm hn hm2 hn2 hl hl2
  have hb := Below.refl w.heap.size w
  go_enter Try.func158, Try.ntmps158
  go_wp2_with fail
  go_loopw [5] (fun i wr => ∃ k : Nat, k ≤ xs.length ∧ i = .int .i64 k ∧ Below w.heap.size w wr) (fun i _ => xs.length - (intOf i).toNat)
  case atStart => exact ⟨0, Nat.zero_le _, rfl, hb⟩
  case round =>
    clear hb
    obtain ⟨k, hk, rfl, hb⟩ := hrel
    by_cases hlt : k < xs.length
    · rcases hc with rfl | ⟨b, off, rfl, hbl, hcell⟩
      · exact absurd hlt (by simp)
      · rcases hc2 with rfl | ⟨b2, off2, rfl, hbl2, hcell2⟩
        · exact absurd hlt (by simp)
        · obtain ⟨x, hx⟩ : ∃ x, xs[k]? = some x := ⟨_, List.getElem?_eq_getElem hlt⟩
          obtain ⟨e0, e1, e2, e3⟩ := hcell k x hx
          obtain ⟨f0, f1, f2, f3⟩ := hcell2 k x hx
          have c0 := (hb.cell (p := ⟨b, off + k * 4, none⟩) hbl).trans e0
          have c1 := (hb.cell (p := ⟨b, off + k * 4 + 1, none⟩) hbl).trans e1
          have c2 := (hb.cell (p := ⟨b, off + k * 4 + 2, none⟩) hbl).trans e2
          have c3 := (hb.cell (p := ⟨b, off + k * 4 + 3, none⟩) hbl).trans e3
          have d0 := (hb.cell (p := ⟨b2, off2 + k * 4, none⟩) hbl2).trans f0
          have d1 := (hb.cell (p := ⟨b2, off2 + k * 4 + 1, none⟩) hbl2).trans f1
          have d2 := (hb.cell (p := ⟨b2, off2 + k * 4 + 2, none⟩) hbl2).trans f2
          have d3 := (hb.cell (p := ⟨b2, off2 + k * 4 + 3, none⟩) hbl2).trans f3
          have HB := Lib.hid hb
          clear hx hcell hcell2 e0 e1 e2 e3 f0 f1 f2 f3 hb
          go_wp2_with fail
          go_region_with (go_at_call 166; refine (eqIns_ok x _).mono ?_; rintro e w2 ⟨rfl, hb1⟩)
          all_goals
            go_wp2_with fail
            go_roundw
            case rel => exact ⟨k + 1, by omega, by go_num, HB.out.drew.trans (hb1.mono HB.out.size)⟩
            case measure => simp [intOf]; omega
    · go_wp2_with fail
      go_ret
      exact ⟨rfl, hb⟩

def marksI (k : Int) (n : Nat) : List Ins := (List.range n).map fun (i : Nat) => ⟨k + 4 * (i : Int), k + 4 * (i : Int) + 1, k + 4 * (i : Int) + 1 + 1, k + 4 * (i : Int) + 1 + 1 + 1⟩
def markedI (xs : List Ins) (k : Int) (j : Nat) : List Ins := marksI k j ++ xs.drop j
theorem marksI_len (k : Int) (n : Nat) : (marksI k n).length = n := by simp [marksI]
theorem markedI_len {xs : List Ins} {k : Int} {j : Nat} (h : j ≤ xs.length) : (markedI xs k j).length = xs.length := by simp [markedI, marksI_len]; omega
theorem markedI_all (xs : List Ins) (k : Int) {j : Nat} (h : j = xs.length) : markedI xs k j = marksI k xs.length := by simp [markedI, h]
theorem markedI_step {xs : List Ins} {k : Int} {j : Nat} (h : j < xs.length) : (markedI xs k j).set j ⟨k + 4 * (j : Int), k + 4 * (j : Int) + 1, k + 4 * (j : Int) + 1 + 1, k + 4 * (j : Int) + 1 + 1 + 1⟩ = markedI xs k (j + 1) := by
  unfold markedI marksI
  rw [List.range_succ, List.set_append, if_neg (by simp)]
  simp
  rw [List.drop_eq_getElem_cons (by simpa using h)]
  rfl
theorem marksI_at {k : Int} {n j : Nat} {x : Ins} (h : (marksI k n)[j]? = some x) : x = ⟨k + 4 * (j : Int), k + 4 * (j : Int) + 1, k + 4 * (j : Int) + 1 + 1, k + 4 * (j : Int) + 1 + 1 + 1⟩ := by
  unfold marksI at h
  rw [List.getElem?_map] at h
  rcases e : (List.range n)[j]? with _ | q
  · rw [e] at h; cases h
  · rw [e] at h
    have hq : q = j := by
      have := (List.getElem?_eq_some_iff.1 e).2
      simp at this; exact this.symm
    subst hq
    simpa using h.symm

set_option maxRecDepth 100000 in
set_option maxHeartbeats 1600000 in
theorem markInsS_any (lo : Nat) (v : Value) (xs : List Ins) (k : Int) (w : World) (h : OwnI lo w v xs) (hk0 : 0 ≤ k) (hk : k ≤ 2000000000) (hs : xs.length ≤ 2000000000) :
    Calls Try.prog 122 #[v, .int .i64 k] w fun e w' => e = .returned (.int .i64 (k + 4 * (xs.length : Int))) ∧ OwnI lo w' v (marksI k xs.length) ∧ w.grownBy w' v.ownBlock := by
  by_cases h0 : xs = []
  · subst h0
    obtain ⟨a, cap, rfl, _, _, _, _⟩ := h.sl
    have HO := Lib.hid h
    clear h
    go_enter Try.func122, Try.ntmps122
    go_wp2_with fail
    go_loop [1, 5] (fun t i => t = .int .i64 k ∧ i = .int .i64 0) (fun _ _ => 0)
    case atStart => exact ⟨rfl, rfl⟩
    case round =>
      obtain ⟨rfl, rfl⟩ := hrel
      go_wp2_with fail
      go_ret
      exact ⟨by simp, HO.out, World.grownBy.refl _ _⟩
  · have hne : 0 < xs.length := List.length_pos_iff.2 h0
    rcases h.2 with ⟨_, hn⟩ | ⟨g, cap, cur, rfl, hlo, _, hcap, _⟩
    · exact absurd hn (by omega)
    · obtain ⟨n, hnn⟩ : ∃ n, n = xs.length := ⟨_, rfl⟩
      have HO : Hid (w.ownsRow lo 156 4 (.slice (some ⟨g, 0, none⟩) xs.length cap) xs.length (cellsI xs)) := h
      rw [← hnn] at HO hs hne ⊢
      have HN := Lib.hid hnn
      have hg0 : w.grownBy w (some g) := World.grownBy.refl _ _
      clear h h0 hcap hnn
      go_enter Try.func122, Try.ntmps122
      go_wp2_with fail
      go_loopw [1, 5] (fun t i wr => ∃ j : Nat, j ≤ n ∧ i = .int .i64 j ∧ t = .int .i64 (k + 4 * (j : Int)) ∧ Hid (wr.ownsRow lo 156 4 (.slice (some ⟨g, 0, none⟩) n cap) n (cellsI (markedI xs k j))) ∧ w.grownBy wr (some g)) (fun _ i _ => n - (intOf i).toNat)
      case atStart => exact ⟨0, Nat.zero_le _, rfl, by simp, by simpa [markedI, marksI] using HO, hg0⟩
      case round =>
        clear HO hg0
        obtain ⟨j, hj, rfl, rfl, HO, hg⟩ := hrel
        by_cases hlt : j < n
        · have hlen : (markedI xs k j).length = n := by rw [markedI_len (by rw [← HN.out]; omega), ← HN.out]
          obtain ⟨z0, z1, z2, z3, ⟨y0, q0⟩, ⟨y1, q1⟩, ⟨y2, q2⟩, ⟨y3, q3⟩⟩ := four_at HO.out hlen hlt
          have R := stored4 HO.out hlen hlt ⟨k + 4 * (j : Int), k + 4 * (j : Int) + 1, k + 4 * (j : Int) + 1 + 1, k + 4 * (j : Int) + 1 + 1 + 1⟩
          rw [markedI_step (by rw [← HN.out]; exact hlt)] at R
          have HR := Lib.hid R
          clear R HO hlen
          go_wp2_with fail
          go_roundw
          case rel => exact ⟨j + 1, by omega, by go_num, by go_num, HR.out.1, hg.trans HR.out.2⟩
          case measure => simp [intOf]; omega
        · obtain rfl : j = n := by omega
          go_wp2_with fail
          go_ret
          refine ⟨rfl, ?_, hg⟩
          have := HO.out
          rw [markedI_all xs k HN.out] at this
          unfold OwnI
          rw [marksI_len]
          rw [← HN.out] at this
          exact this

set_option maxRecDepth 100000 in
set_option maxHeartbeats 1600000 in
theorem heldInsS_any (v : Value) (k : Int) (n : Nat) (w : World) (h : SlI w v (marksI k n)) (hk0 : 0 ≤ k) (hk : k ≤ 2000000000) (hs : n ≤ 2000000000) :
    Calls Try.prog 123 #[v, .int .i64 k] w fun e w' => e = .returned (.int .i64 (k + 4 * (n : Int))) ∧ w = w' := by
  obtain ⟨a, cap, rfl, hl, hm, hn, hc⟩ := h
  clear hm hn hl
  have hc : n = 0 ∨ ∃ b off, a = some ⟨b, off, none⟩ ∧ ∀ i, i < n → w.cell? ⟨b, off + i * 4, none⟩ = some (.int .i64 (k + 4 * (i : Int))) ∧ w.cell? ⟨b, off + i * 4 + 1, none⟩ = some (.int .i64 (k + 4 * (i : Int) + 1)) ∧
      w.cell? ⟨b, off + i * 4 + 2, none⟩ = some (.int .i64 (k + 4 * (i : Int) + 1 + 1)) ∧ w.cell? ⟨b, off + i * 4 + 3, none⟩ = some (.int .i64 (k + 4 * (i : Int) + 1 + 1 + 1)) := by
    rcases hc with hc | ⟨b, off, ha, _, hc⟩
    · left; simpa [marksI] using hc
    · right
      refine ⟨b, off, ha, fun i hi => ?_⟩
      obtain ⟨x, hx⟩ : ∃ x, (marksI k n)[i]? = some x := ⟨_, List.getElem?_eq_getElem (by rw [marksI_len]; exact hi)⟩
      have := hc i x hx
      rw [marksI_at hx] at this
      exact this
  rw [marksI_len]
  go_enter Try.func123, Try.ntmps123
  go_wp2_with fail
  go_loop [1, 5] (fun t i => ∃ j : Nat, j ≤ n ∧ i = .int .i64 j ∧ t = .int .i64 (k + 4 * (j : Int))) (fun _ i => n - (intOf i).toNat)
  case atStart => exact ⟨0, Nat.zero_le _, rfl, by simp⟩
  case round =>
    obtain ⟨j, hj, rfl, rfl⟩ := hrel
    by_cases hlt : j < n
    · rcases hc with rfl | ⟨b, off, rfl, hcell⟩
      · exact absurd hlt (by omega)
      · obtain ⟨c0, c1, c2, c3⟩ := hcell j hlt
        clear hcell
        go_wp2_with fail
        go_round
        case rel => exact ⟨j + 1, by omega, by go_num, by go_num⟩
        case measure => simp [intOf]; omega
    · obtain rfl : j = n := by omega
      go_wp2_with fail
      go_ret
      exact ⟨rfl, rfl⟩

theorem szInsS_any (v : Value) (xs : List Ins) (left : Int) (w : World) (h : SlI w v xs) (hl : 0 ≤ left ∧ left ≤ 1048576) :
    Calls Try.prog 149 #[v, .int .i64 left] w fun e w' => e = .returned (.int .i64 (if (xs.length : Int) ≤ left then left - xs.length else -1)) ∧ w = w' := by
  obtain ⟨a, cap, rfl, _, hm, _, _⟩ := h
  have hm' : xs.length ≤ 9223372036854775807 := by unfold maxLen at hm; omega
  have wi : wrap64 (left - xs.length) = left - xs.length := IntWalk.wrap64_in _ (by unfold maxLen at hm; omega)
  clear hm
  by_cases hc : (xs.length : Int) ≤ left
  · rw [if_pos hc]
    have d : decide (left - (xs.length : Int) < 0) = false := decide_eq_false (by omega)
    go_enter Try.func149, Try.ntmps149
    go_wp2
    go_ret
    exact ⟨rfl, rfl⟩
  · rw [if_neg hc]
    have d : decide (left - (xs.length : Int) < 0) = true := decide_eq_true (by omega)
    go_enter Try.func149, Try.ntmps149
    go_wp2
    go_ret
    exact ⟨rfl, rfl⟩
end Go.Proofs.Ytkeoefbkeommhaa
