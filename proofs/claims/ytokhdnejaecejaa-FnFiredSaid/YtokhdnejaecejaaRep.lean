/-
  What slices.Repeat of one element makes. No statement of the seat is proved here.
-/
import Derived.Test.YtokhdnejaecejaaCmM
import Derived.Test.YtokhdnejaecejaaGrP
import Derived.Test.YtokhdnejaecejaaMake
import Derived.Laws.Bits64b
import Derived.Deep.RegionLaw
namespace Go.Proofs.Ytokhdnejaecejaa
open Go.RowKit

theorem maskC (a : Nat) (ha : a < 18446744073709551616) : bits .and .u64 (a : Int) 4294967295 = ((a % 4294967296 : Nat) : Int) := by
  have h := bits_and_u64_nat a 4294967295 ha (by omega)
  have e : a &&& 4294967295 = a % 4294967296 := Nat.and_two_pow_sub_one_eq_mod a 32
  rw [e] at h
  exact h
set_option maxHeartbeats 1000000 in
theorem mul64_any (c : Nat) (h : c ≤ 1600) (w : World) :
    Calls Try.prog 150 #[.int .u64 1, .int .u64 c] w fun e w' => e = .returned (.tuple #[.int .u64 0, .int .u64 c]) ∧ w' = w := by
  have mc : bits .and .u64 (c : Int) 4294967295 = (c : Int) := by rw [maskC c (by omega), Nat.mod_eq_of_lt (by omega)]
  have m1 : bits .and .u64 (1 : Int) 4294967295 = 1 := maskC 1 (by omega)
  have m0 : bits .and .u64 (0 : Int) 4294967295 = 0 := maskC 0 (by omega)
  have d0 : (c : Int) / 4294967296 = 0 := by omega
  have wc : IntKind.u64.wrap (c : Int) = (c : Int) := by rw [IntKind.wrap_u64]; omega
  have w0 : IntKind.u64.wrap (0 : Int) = 0 := by rw [IntKind.wrap_u64]; omega
  go_enter Try.func150, Try.ntmps150
  go_wp2
  go_ret2
  exact ⟨rfl, rfl⟩
set_option maxHeartbeats 1000000 in
theorem mul_any (c : Nat) (h : c ≤ 1600) (w : World) :
    Calls Try.prog 107 #[.int .u64 1, .int .u64 c] w fun e w' => e = .returned (.tuple #[.int .u64 0, .int .u64 c]) ∧ w' = w := by
  go_enter Try.func107, Try.ntmps107
  go_wp2_with (go_at_call 150; refine (mul64_any c h _).mono ?_; rintro e w' ⟨rfl, hw⟩; rw [hw])
  go_ret2
  exact ⟨rfl, rfl⟩

def repT (v : Int) (n c : Nat) : List Int := List.replicate n v ++ List.replicate (c - n) 0
theorem repT_len {v : Int} {n c : Nat} (h : n ≤ c) : (repT v n c).length = c := by simp [repT]; omega
theorem repT_all (v : Int) (c : Nat) : repT v c c = List.replicate c v := by simp [repT]
theorem rep_splice {v : Int} {n k c : Nat} (h : n + k ≤ c) : splice (vals (repT v n c)) n (vals (List.replicate k v)) = vals (repT v (n + k) c) := by
  have e1 : (vals (repT v n c)).take n = vals (List.replicate n v) := by
    unfold vals repT; rw [List.map_append, List.take_left' (by simp)]
  have e2 : (vals (repT v n c)).drop (n + (vals (List.replicate k v)).length) = vals (List.replicate (c - (n + k)) 0) := by
    unfold vals repT
    rw [List.map_append, List.drop_append, List.drop_of_length_le (by simp), List.nil_append]
    simp only [List.length_map, List.length_replicate, ← List.map_drop, List.drop_replicate]
    congr 2; omega
  unfold splice
  rw [e1, e2]
  unfold repT vals
  rw [← List.replicate_append_replicate, List.map_append, List.map_append, List.append_assoc]

set_option maxRecDepth 100000 in
set_option maxHeartbeats 4000000 in
theorem irep_any (v : Int) (c b : Nat) (hc : c ≤ 1600) (w : World) (h : w.heap[b]? = some (.cells #[.int .i64 v] 3)) :
    Calls Try.prog 68 #[.slice (some ⟨b, 0, none⟩) 1 1, .int .i64 c] w fun e w' => ∃ v', e = .returned v' ∧ Own w.heap.size w' v' (List.replicate c v) ∧ Below w.heap.size w w' := by
  have HBK := Lib.hid h
  have hbl := lt_of h
  have wu : IntKind.u64.wrap (c : Int) = (c : Int) := by rw [IntKind.wrap_u64]; omega
  have wc : wrap64 (c : Int) = (c : Int) := IntWalk.wrap64_in _ (by omega)
  have d1 : decide ((c : Int) < 0) = false := decide_eq_false (by omega)
  have d2 : decide ((c : Int) > 9223372036854775807) = false := decide_eq_false (by omega)
  have d2' : decide (9223372036854775807 < (c : Int)) = false := decide_eq_false (by omega)
  obtain ⟨i0, hi, hz0, hz1, hz2⟩ := info_parts info
  clear h
  go_enter Try.func68, Try.ntmps68
  go_wp2_with (first | (go_at_call 107; refine (mul_any c hc _).mono ?_; rintro e w' ⟨rfl, hw⟩; rw [hw]) | (at_make; refine wpList_make_full _ rfl _ _ 33 rfl w.heap.size 3 i0 (.int .i64 0) 1 Try.underlying33 hi hz0 hz1 _ _ _ _ c rfl rfl rfl rfl ?b2 ?b3 ?b4 ?_))
  case b2 => rw [hz2]; omega
  case b3 => unfold maxLen; omega
  case b4 => exact Nat.le_refl _
  intro w1 hown hgrow
  have hb := (Below.refl w.heap.size w).grown hgrow (Nat.le_refl _) (by simp)
  have HO := Lib.hid (own_heap hown)
  have HBK1 := Lib.hid (blk_in HBK.out hb)
  have HZZ := Lib.hid (show (madeCells #[Value.int IntKind.i64 0] c).toList = vals (repT v 0 c) by
    rw [toList_madeCells_one]; simp [repT, vals])
  obtain ⟨Z, hZ⟩ : ∃ Z, Z = (madeCells #[Value.int IntKind.i64 0] c).toList := ⟨_, rfl⟩
  rw [← hZ] at HO HZZ
  have HB := Lib.hid hb
  have hgl : w.heap.size < w1.heap.size := (hown.lt w.heap.size rfl).2
  clear hgrow hi hz0 hz1 hz2 hown hZ hb
  obtain ⟨k0, hk0⟩ : ∃ k, k = min 1 c := ⟨_, rfl⟩
  obtain ⟨C, hC⟩ : ∃ C, C = vals (List.replicate k0 v) := ⟨_, rfl⟩
  have HC := Lib.hid hC
  have hCl : C.length = k0 := by rw [hC, vals_len]; simp
  have HK0 := Lib.hid hk0
  have HCL := Lib.hid hCl
  clear hC hCl hk0
  go_wp2_with (with_reducible refine wpList_copy_splice rfl (.tmp 31) (.tmp 32) 33 33 rfl 3 Try.underlying33 size1 (some ⟨w.heap.size, 0, none⟩) (some ⟨b, 0, none⟩) c c 1 1 rfl rfl w.heap.size 0 Z 3 HO.out C ?c1 ?c2 ?c3 ?c4 w.heap.size w HB.out (Nat.le_refl _) ?_)
  case c1 => rw [HCL.out, HK0.out]
  case c2 =>
    intro _ j u hj
    rw [HC.out] at hj
    have hj2 := (List.getElem?_eq_some_iff.1 hj).1
    rw [vals_len, List.length_replicate, HK0.out] at hj2
    obtain rfl : j = 0 := by omega
    rw [vals_at (by rw [List.length_replicate, HK0.out]; omega)] at hj
    rw [cell_of HBK1.out, ← hj]
    have : 0 < k0 := by rw [HK0.out]; omega
    simp [List.getD, this]
  case c3 => rw [HCL.out, HK0.out, HZZ.out, vals_len, repT_len (Nat.zero_le _)]; omega
  case c4 => rw [HC.out]; exact vals_one _
  intro w2 HG2 hb2
  have HH2 := Lib.hid (show w2.heap[w.heap.size]? = some (.cells (vals (repT v C.length c)).toArray 3) by
    have q := HG2.out
    rw [HZZ.out, HC.out, rep_splice (by rw [HK0.out]; omega), Nat.zero_add] at q
    rw [HCL.out]; exact q)
  have HB2 := Lib.hid hb2
  have hCc : C.length ≤ c ∧ (C.length = 0 → c = 0) := by rw [HCL.out, HK0.out]; omega
  clear HG2 hb2
  go_wp2_with fail
  go_loopw [8] (fun s wr => ∃ n : Nat, (n ≤ c ∧ (n = 0 → c = 0)) ∧ s = .int .i64 n ∧ Hid (wr.heap[w.heap.size]? = some (.cells (vals (repT v n c)).toArray 3)) ∧ Hid (Below w.heap.size w wr)) (fun s _ => c - (intOf s).toNat)
  case atStart => exact ⟨C.length, hCc, rfl, HH2, HB2⟩
  case round =>
    obtain ⟨n, ⟨hn, hn0⟩, rfl, HH, HB3⟩ := hrel
    by_cases hlt : n < c
    · obtain ⟨k, hk⟩ : ∃ k, k = min n (c - n) := ⟨_, rfl⟩
      obtain ⟨D, hD⟩ : ∃ D, D = vals (List.replicate k v) := ⟨_, rfl⟩
      obtain ⟨Y, hY⟩ : ∃ Y, Y = vals (repT v n c) := ⟨_, rfl⟩
      rw [← hY] at HH
      have HY := Lib.hid hY
      have HD := Lib.hid hD
      have HDL := Lib.hid (show D.length = k by rw [hD, vals_len]; simp)
      have HK := Lib.hid hk
      have hkk : k ≤ n ∧ k ≤ c - n ∧ 1 ≤ k := by rw [hk]; omega
      have hgr := lt_of HH.out
      have wn : wrap64 ((n : Int) + (D.length : Int)) = (n : Int) + (D.length : Int) := IntWalk.wrap64_in _ (by rw [HDL.out]; omega)
      clear hk hD hY
      go_wp2_with fail
      have HNE := Lib.hid (show ¬ c = n from Nat.ne_of_gt hlt)
      clear hn0 hCc wu wc d1 d2 d2'
      have HWN := Lib.hid (show IntKind.i64.wrap ((n : Int) + (D.length : Int)) = (n : Int) + (D.length : Int) from IntWalk.i64_in _ (by rw [HDL.out]; omega))
      have HP := Lib.hid (show ∀ (W : World), W.heap = wr.heap → ∀ j u, D[j]? = some u → W.cell? ((⟨w.heap.size, 0, none⟩ : Addr).add j) = some u from fun W hW j u hj => by
          rw [HD.out] at hj
          have hj2 := (List.getElem?_eq_some_iff.1 hj).1
          rw [vals_len, List.length_replicate] at hj2
          rw [Addr.add_lit, Nat.zero_add]
          refine (cell_of (by rw [hW]; exact HH.out) j).trans ?_
          rw [HY.out, ← hj]
          simp only [List.getElem?_toArray]
          rw [vals_at (by rw [repT_len hn]; omega), vals_at (by rw [List.length_replicate]; exact hj2)]
          have : j < n := by omega
          simp only [List.getD, repT]
          rw [List.getElem?_append_left (by rw [List.length_replicate]; exact this)]
          simp [hj2, this])
      have HF := Lib.hid (show n + D.length ≤ Y.length by rw [HDL.out, HY.out, vals_len, repT_len hn]; omega)
      have HM1 := Lib.hid (show D.length = Nat.min n (c - n) by rw [HDL.out, HK.out])
      have HV1 := Lib.hid (show ∀ u ∈ D, u.oneCell' = true by rw [HD.out]; exact vals_one _)
      go_region_law (refine step_copy_splice rfl (.tmp 41) (.tmp 44) 33 33 rfl 3 Try.underlying33 size1 (if c = n then some ⟨w.heap.size, 0, none⟩ else some ⟨w.heap.size, n, none⟩) (some ⟨w.heap.size, 0, none⟩) (c - n) (c - n) n c (by simp [Go.Act.eval, Go.Act.put]) (by simp [Go.Act.eval, Go.Act.put]) w.heap.size n Y 3 HH.out D HM1.out (fun _ => ⟨if_neg HNE.out, ⟨w.heap.size, 0, none⟩, rfl, HP.out _ rfl⟩) HF.out HV1.out w.heap.size w (by first | exact HB3.out | exact HB3.out.drew) (Nat.le_refl _) ?_; intro w4 HG4 hb4; have HB4 := Lib.hid hb4; clear hb4)
      all_goals
        have hnk : n + D.length ≤ c := by rw [HDL.out]; omega
        have hnk2 : (n + D.length = 0 → c = 0) := fun q => by rw [HDL.out] at q; omega
        have HNK := Lib.hid (And.intro hnk hnk2)
        clear hnk hnk2
        go_wp2_with fail
        go_roundw
        case rel =>
          refine ⟨n + D.length, HNK.out, ?_, Lib.hid (by have q := HG4.out; rw [HY.out, HD.out, rep_splice (by omega)] at q; rw [HDL.out]; exact q)⟩
          rw [HWN.out, Int.natCast_add]
        case measure =>
          rw [HWN.out]
          have := HDL.out
          simp only [intOf]
          omega
    · obtain rfl : n = c := by omega
      rw [repT_all] at HH
      go_wp2_with fail
      go_ret
      refine ⟨_, rfl, ?_, HB3.out⟩
      have q := heap_own (lo := w.heap.size) (n := n) HH.out (by rw [vals_len]; simp) (Nat.le_refl _) (by unfold maxLen; omega)
      unfold Own
      rw [List.length_replicate]
      exact q
end Go.Proofs.Ytokhdnejaecejaa
