/-
  What eachOnce answers. No statement of the seat is proved here.
-/
import Derived.Test.YtjphamgkigekkaaPorts
import Derived.Carry
namespace Go.Proofs.Ytjphamgkigekkaa
open Go.RowKit

theorem mem_take_of {es : List End} {k : Nat} {e : End} (hn : es.Nodup) (hx : es[k]? = some e) : e ∉ es.take k := by
  intro h
  obtain ⟨i, hi, he⟩ := List.getElem_of_mem h
  have hk := (List.getElem?_eq_some_iff.1 hx)
  rw [List.length_take] at hi
  rw [List.getElem_take] at he
  obtain ⟨hk1, hk2⟩ := hk
  have := (List.nodup_iff_pairwise_ne.1 hn)
  rw [List.pairwise_iff_getElem] at this
  exact this i k (by omega) hk1 (by omega) (he.trans hk2.symm)
theorem isEmpty_len (S : List End) : (((S.length : Nat) : Int) == 0) = S.isEmpty := by
  cases S with
  | nil => rfl
  | cons x xs => simp; omega

set_option maxRecDepth 100000 in
set_option maxHeartbeats 4000000 in
theorem ieach_any (lo : Nat) (v u : Value) (op es : List End) (w : World) (hv : OwnE lo w v op) (hu : OwnE lo w u es) (hn : op.Nodup) (hw1 : ∀ e ∈ op, wfE e) (hw2 : ∀ e ∈ es, wfE e) (hl : op.length ≤ 100) (hl2 : es.length ≤ 100) :
    Calls Try.prog 125 #[v, u] w fun e w' => e = .returned (.bool (once op es)) ∧ Below w.heap.size w w' := by
  have HV := Lib.hid hv
  have HU := Lib.hid hu
  obtain ⟨va, vc, rfl⟩ := hv.shape
  obtain ⟨ua, uc, rfl⟩ := hu.shape
  clear hv hu
  obtain ⟨m, hm⟩ : ∃ m, m = op.length := ⟨_, rfl⟩
  obtain ⟨n, hnn⟩ : ∃ n, n = es.length := ⟨_, rfl⟩
  obtain ⟨r, hr⟩ : ∃ r, r = once op es := ⟨_, rfl⟩
  rw [← hr, ← hm, ← hnn]
  rw [← hm] at hl
  rw [← hnn] at hl2
  have HM := Lib.hid hm
  have HN := Lib.hid hnn
  have HR := Lib.hid hr
  have HND := Lib.hid hn
  have HW1 := Lib.hid hw1
  have HW2 := Lib.hid hw2
  clear hm hnn hr hn hw1 hw2
  have hmk := @run_makeMap Try.prog
  have hb := Lib.hid ((Below.refl w.heap.size w).al (.map #[] 0))
  have hM0 := Lib.hid (MapIs.made w)
  go_enter Try.func125, Try.ntmps125
  go_wp2_with fail
  go_loopw [13] (fun i wr => ∃ k : Nat, k ≤ m ∧ i = .int .i64 k ∧ Hid (MapIs wr w.heap.size k (op.take k)) ∧ Hid (Below w.heap.size w wr)) (fun i _ => m - (intOf i).toNat)
  case atStart => exact ⟨0, Nat.zero_le _, rfl, Lib.hid (by simpa using hM0.out), Lib.hid hb.out⟩
  case round =>
    obtain ⟨k, hk, rfl, HP, HB⟩ := hrel
    by_cases hlt : k < m
    · obtain ⟨x, hx⟩ : ∃ x, op[k]? = some x := ⟨_, List.getElem?_eq_getElem (by rw [← HM.out]; exact hlt)⟩
      obtain ⟨g, cap, hva, hgl, c0, c1⟩ := (HV.out.below HB.out).at hx
      rw [← HM.out] at hva
      simp only [Value.slice.injEq, true_and] at hva
      obtain ⟨rfl, rfl⟩ := hva
      have hwx := HW1.out x (List.mem_of_getElem? hx)
      obtain ⟨w3, hput, hM3, ht3⟩ := (HP.out.below ((Below.refl _ _).al (.cells #[.int .i64 x.1, .int .i64 x.2] 119))).put (e := x) (by unfold maxLen; omega) hwx (mem_take_of HND.out hx)
      have hB3 := Lib.hid (mapTurned_below (HB.out.al (.cells #[.int .i64 x.1, .int .i64 x.2] 119)) ht3 (Nat.le_refl _))
      have hM4 := Lib.hid hM3
      have HX := Lib.hid hx
      clear hx hwx ht3 hM3
      obtain ⟨xa, xb⟩ := x
      unfold valE at hput
      simp only [] at c0 c1 hput
      go_wp2_with fail
      go_roundw
      case rel => exact ⟨k + 1, by omega, by go_num, Lib.hid (by
        have hk := (List.getElem?_eq_some_iff.1 HX.out).1
        rw [List.take_succ_eq_append_getElem hk, (List.getElem?_eq_some_iff.1 HX.out).2]
        exact hM4.out), Lib.hid hB3.out⟩
      case measure => simp [intOf]; omega
    · have hM1 : MapIs wr w.heap.size m op := by
        have := HP.out
        rwa [List.take_of_length_le (by rw [← HM.out]; omega), show k = m by omega] at this
      have HM1 := Lib.hid hM1
      clear hM1
      go_wp2_with fail
      go_loopw [22] (fun i wr' => ∃ (k : Nat) (S : List End), k ≤ n ∧ i = .int .i64 k ∧ Hid (MapIs wr' w.heap.size m S) ∧ Hid (once S (es.drop k) = r) ∧ Hid (Below w.heap.size w wr')) (fun i _ => n - (intOf i).toNat)
      case atStart => exact ⟨0, op, Nat.zero_le _, rfl, Lib.hid HM1.out, Lib.hid (by simpa using HR.out.symm), Lib.hid HB.out⟩
      case round =>
        obtain ⟨j, S, hj, rfl, HS, HO, HJ⟩ := hrel
        by_cases hjl : j < n
        · obtain ⟨x, hx⟩ : ∃ x, es[j]? = some x := ⟨_, List.getElem?_eq_getElem (by rw [← HN.out]; exact hjl)⟩
          obtain ⟨g, cap, hua, hgl, c0, c1⟩ := (HU.out.below HJ.out).at hx
          rw [← HN.out] at hua
          simp only [Value.slice.injEq, true_and] at hua
          obtain ⟨rfl, rfl⟩ := hua
          have hwx := HW2.out x (List.mem_of_getElem? hx)
          have HWX := Lib.hid hwx
          have HX := Lib.hid hx
          clear hx hwx
          obtain ⟨xa, xb⟩ := x
          simp only [] at c0 c1
          have HJ1 := Lib.hid (HJ.out.al (.cells #[.int .i64 xa, .int .i64 xb] 119))
          have HS1 := Lib.hid (HS.out.below ((Below.refl _ _).al (.cells #[.int .i64 xa, .int .i64 xb] 119)))
          have hH1 := Lib.hid (hp1 wr (.cells #[.int .i64 xa, .int .i64 xb] 119))
          have C := Lib.hid (iout_any xa xb (wr.alloc (.cells #[.int .i64 xa, .int .i64 xb] 119)))
          by_cases ho : (xa, xb) = outE
          · rw [decide_eq_true ho] at C
            have HE := Lib.hid ho
            clear ho
            go_wp2_with (go_at_call 145; refine C.out.mono ?_; rintro e w2 ⟨rfl, hb1⟩; have HB1 := Lib.hid hb1; clear hb1)
            go_roundw
            case rel => exact ⟨j + 1, S, by omega, by go_num, Lib.hid (HS1.out.below HB1.out), Lib.hid (by rw [← once_out (HE.out ▸ HX.out)]; exact HO.out), Lib.hid (HJ1.out.trans (HB1.out.mono HJ1.out.size))⟩
            case measure => simp [intOf]; omega
          · rw [decide_eq_false ho] at C
            have HE := Lib.hid ho
            clear ho
            by_cases hin : (xa, xb) ∈ S
            · have LK := Lib.hid (fun (W : World) (hW : MapIs W w.heap.size m S) => hW.look HWX.out)
              rw [decide_eq_true hin] at LK
              have HIN := Lib.hid hin
              clear hin
              go_wp2_with (go_at_call 145; refine C.out.mono ?_; rintro e w2 ⟨rfl, hb1⟩; have HB1 := Lib.hid hb1; have HS2 := Lib.hid (HS1.out.below hb1); have hx1 := blk_in hH1.out hb1; obtain ⟨d0, d1⟩ := cells2 hx1; have l1 := lt_of hx1; have lk := LK.out _ HS2.out; unfold valE at lk; simp only [] at lk; obtain ⟨w3, hdr, hM3, ht3⟩ := HS2.out.drop HWX.out HIN.out 0; have hB3 := Lib.hid (mapTurned_below (HJ1.out.trans (hb1.mono HJ1.out.size)) ht3 (Nat.le_refl _)); have HM3 := Lib.hid hM3; unfold valE at hdr; simp only [] at hdr; clear hb1 hx1 ht3 hM3)
              go_roundw
              case rel => exact ⟨j + 1, S.erase (xa, xb), by omega, by go_num, Lib.hid HM3.out, Lib.hid (by rw [← once_take HX.out HE.out HIN.out]; exact HO.out), Lib.hid hB3.out⟩
              case measure => simp [intOf]; omega
            · have LK := Lib.hid (fun (W : World) (hW : MapIs W w.heap.size m S) => hW.look HWX.out)
              rw [decide_eq_false hin] at LK
              have HIN := Lib.hid hin
              clear hin
              go_wp2_with (go_at_call 145; refine C.out.mono ?_; rintro e w2 ⟨rfl, hb1⟩; have HB1 := Lib.hid hb1; have HS2 := Lib.hid (HS1.out.below hb1); have hx1 := blk_in hH1.out hb1; obtain ⟨d0, d1⟩ := cells2 hx1; have l1 := lt_of hx1; have lk := LK.out _ HS2.out; unfold valE at lk; simp only [] at lk; clear hb1 hx1)
              go_ret
              refine ⟨ret_bool ?_, HJ1.out.trans (HB1.out.mono HJ1.out.size)⟩
              rw [← HO.out, once_not HX.out HE.out HIN.out]
        · have LN := Lib.hid (HS.out.len 0)
          have hlen := fun ty => HS.out.len ty
          go_wp2_with fail
          go_ret
          refine ⟨ret_bool ?_, HJ.out⟩
          have := HO.out
          rw [List.drop_of_length_le (by rw [← HN.out]; omega)] at this
          rw [← this, once_all, isEmpty_len]
end Go.Proofs.Ytjphamgkigekkaa
