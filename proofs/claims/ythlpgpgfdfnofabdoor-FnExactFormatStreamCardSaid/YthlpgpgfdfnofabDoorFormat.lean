/-
  What FormatStream answers, in the program and in its model: the decimal numerals, parted by commas. No statement of the seat is proved here.
-/
import Derived.Test.YthlpgpgfdfnofabDoorNum
import Derived.Test.YthlpgpgfdfnofabDoorStream
import Derived.Test.YthlpgpgfdfnofabDoorOwn
import Derived.Test.YthlpgpgfdfnofabDoorShelf
import Derived.WalkSmall
import Derived.Lib.Join
namespace Go.Proofs.YthlpgpgfdfnofabDoor
open Go.RowKit

theorem itoa_neg (N : Nat) (h : N ≠ 0) : Go.Lib.itoa (-(N : Int)) = 45 :: Go.Lib.decDigits N := by
  unfold Go.Lib.itoa
  rw [if_pos (by omega)]
  congr 2
  omega
theorem itoa_pos (N : Nat) : Go.Lib.itoa (N : Int) = Go.Lib.decDigits N := by
  unfold Go.Lib.itoa
  rw [if_neg (by omega)]
  rfl
theorem itoa_len {n : Int} (h1 : -999999 ≤ n) (h2 : n ≤ 999999) : (Go.Lib.itoa n).length ≤ 1000001 := by
  rcases Int.le_total 0 n with h | h
  · obtain ⟨N, rfl⟩ : ∃ N : Nat, n = (N : Int) := ⟨n.toNat, by omega⟩
    rw [itoa_pos, Go.Lib.decDigits_length]
    have := nDigits_le N
    omega
  · obtain ⟨N, rfl⟩ : ∃ N : Nat, n = -(N : Int) := ⟨(-n).toNat, by omega⟩
    by_cases h0 : N = 0
    · subst h0
      show (Go.Lib.itoa ((0 : Nat) : Int)).length ≤ _
      rw [itoa_pos, Go.Lib.decDigits_length]
      have := nDigits_le 0
      omega
    · rw [itoa_neg N h0, List.length_cons, Go.Lib.decDigits_length]
      have := nDigits_le N
      omega

set_option maxRecDepth 100000 in
set_option maxHeartbeats 800000 in
theorem number_any (n : Int) (w : World) (h1 : -999999 ≤ n) (h2 : n ≤ 999999) :
    Calls Tryd.prog 14 #[.int .i64 n] w fun e w' => e = .returned (.string ⟨(Go.Lib.itoa n).toArray⟩) ∧ Below w.heap.size w w' := by
  rcases (show n < 0 ∨ 0 ≤ n by omega) with h | h
  · obtain ⟨N, rfl⟩ : ∃ N : Nat, n = -(N : Int) := ⟨(-n).toNat, by omega⟩
    rw [itoa_neg N (by omega)]
    have hadd := fun (W : World) => run_string_add_sum (P := Tryd.prog) W ⟨#[45]⟩ ⟨(Go.Lib.decDigits N).toArray⟩ (by
      have := nDigits_le N
      simp [ByteArray.size, Go.Lib.decDigits_length]
      omega)
    have C := Lib.hid (number_pos N w (by omega))
    have HE := Lib.hid (show (⟨#[45]⟩ : ByteArray) ++ ⟨(Go.Lib.decDigits N).toArray⟩ = ⟨(45 :: Go.Lib.decDigits N).toArray⟩ from by
      rw [show (⟨#[45]⟩ : ByteArray) = ⟨[45].toArray⟩ from rfl, ByteArray.mk_append_mk]; rfl)
    obtain ⟨D, hD⟩ : ∃ D, Go.Lib.decDigits N = D := ⟨_, rfl⟩
    rw [hD] at C HE hadd ⊢
    clear hD
    go_enter Tryd.func14, Tryd.ntmps14
    go_wp2_with fail
    refine C.out.mono ?_
    rintro e w1 ⟨rfl, hb⟩
    go_wp2_with fail
    go_ret
    exact ⟨by rw [← HE.out]; rfl, hb⟩
  · obtain ⟨N, rfl⟩ : ∃ N : Nat, n = (N : Int) := ⟨n.toNat, by omega⟩
    rw [itoa_pos]
    exact number_pos N w (by omega)

def fmtT (xs : List Int) : List UInt8 := if isS xs then (if xs = [] then [46] else Go.Lib.join (xs.map Go.Lib.itoa) [44]) else []
theorem fmt1 {xs : List Int} (h : isS xs = false) : fmtT xs = [] := by simp [fmtT, h]
theorem fmt2 {xs : List Int} (h : isS xs = true) (k : xs = []) : fmtT xs = [46] := by subst k; unfold fmtT; rw [if_pos h, if_pos rfl]
theorem fmt3 {xs : List Int} (h : isS xs = true) (k : xs ≠ []) : fmtT xs = Go.Lib.join (xs.map Go.Lib.itoa) [44] := by simp [fmtT, h, k]

theorem tok_get {xs : List Int} (hs : isS xs = true) {k : Nat} (h : k < xs.length) : -999999 ≤ xs.getD k 0 ∧ xs.getD k 0 ≤ 999999 :=
  isTok_bd (isS_all hs _ (by simp [List.getD, h]))
theorem tail_len {r : List Int} (h : ∀ x ∈ r, -999999 ≤ x ∧ x ≤ 999999) (k : Nat) : (Go.Lib.joinTail [44] ((r.map Go.Lib.itoa).take k)).length ≤ r.length * 1000002 := by
  refine Nat.le_trans (Go.Lib.joinTail_take_le _ _ k) ?_
  rw [Go.Lib.joinTail_length]
  induction r with
  | nil => simp [Go.Lib.lens]
  | cons x r ih =>
    have h1 := itoa_len (h x List.mem_cons_self).1 (h x List.mem_cons_self).2
    have h2 := ih (fun y hy => h y (List.mem_cons_of_mem _ hy))
    simp [Go.Lib.lens] at h2 ⊢
    omega

set_option maxRecDepth 100000 in
set_option maxHeartbeats 1600000 in
theorem sformat_any (v : Value) (xs : List Int) (w : World) (h : Sl w v xs) :
    Calls Tryd.prog 5 #[v] w fun e w' => e = .returned (.string ⟨(fmtT xs).toArray⟩) ∧ Below w.heap.size w w' := by
  obtain ⟨a, cap, rfl, hr⟩ := h
  have C1 := Lib.hid (sstream_any _ xs w ⟨a, cap, rfl, hr⟩)
  cases h1 : isS xs with
  | false =>
    rw [fmt1 h1]
    rw [h1] at C1
    clear h1 hr
    go_enter Tryd.func5, Tryd.ntmps5
    go_wp2_with fail
    refine C1.out.mono ?_
    rintro e w' ⟨rfl, rfl⟩
    go_wp2_with fail
    go_ret
    exact ⟨rfl, Below.refl _ _⟩
  | true =>
    have hl1 := isS_len h1
    rw [h1] at C1
    cases xs with
    | nil =>
      rw [fmt2 h1 rfl]
      clear h1 hr
      go_enter Tryd.func5, Tryd.ntmps5
      go_wp2_with fail
      refine C1.out.mono ?_
      rintro e w' ⟨rfl, rfl⟩
      go_wp2_with fail
      go_ret
      exact ⟨rfl, Below.refl _ _⟩
    | cons x r =>
      rw [fmt3 h1 (by simp), List.map_cons, Go.Lib.join_cons]
      have hx := tok_get h1 (k := 0) (by simp)
      have hrt : ∀ y ∈ r, -999999 ≤ y ∧ y ≤ 999999 := fun y hy => isTok_bd (isS_all h1 y (List.mem_cons_of_mem _ hy))
      obtain ⟨hlc, _, _, hc⟩ := hr
      rcases hc with hc | ⟨b, off, rfl, hbl, hcell⟩
      · simp at hc
      · have hc0 := hcell 0 (by simp)
        have HCR := Lib.hid (fun j (hj : j < r.length) => hcell (j + 1) (by simp; omega))
        simp only [List.getD_cons_zero, Nat.add_zero] at hx hc0
        simp only [List.length_cons] at hlc hl1 C1 ⊢
        have HT := Lib.hid (fun k => tail_len hrt k)
        have HRT := Lib.hid hrt
        have hxl := itoa_len hx.1 hx.2
        clear hcell h1 hrt
        obtain ⟨m, hm⟩ : ∃ m, r.length = m := ⟨_, rfl⟩
        rw [hm] at hlc hl1 C1 ⊢
        have HM := Lib.hid hm
        clear hm
        by_cases hcap : cap = 1
        · subst hcap
          obtain rfl : m = 0 := by omega
          go_enter Tryd.func5, Tryd.ntmps5
          go_wp2_with fail
          refine C1.out.mono ?_
          rintro e w' ⟨rfl, rfl⟩
          go_wp2_with fail
          refine (number_any x _ hx.1 hx.2).mono ?_
          rintro e w1 ⟨rfl, hb⟩
          go_wp2_with fail
          go_loopw [3, 19] (fun s i wr => ∃ (k : Nat) (l : List UInt8), k ≤ 0 ∧ i = .int .i64 k ∧ s = .string ⟨l.toArray⟩ ∧ Hid (l = Go.Lib.itoa x ++ Go.Lib.joinTail [44] ((r.map Go.Lib.itoa).take k)) ∧ Below w.heap.size w wr) (fun _ i _ => 0 - (intOf i).toNat)
          case atStart => exact ⟨0, _, Nat.zero_le _, rfl, rfl, by simp [Hid, Go.Lib.joinTail], hb⟩
          case round =>
            clear hb
            obtain ⟨k, l, hk, rfl, rfl, HE, hb⟩ := hrel
            by_cases hlt : k < 0
            · exact absurd hlt (by omega)
            · go_wp2_with fail
              go_ret
              have e := HE.out
              rw [List.take_of_length_le (by rw [List.length_map, HM.out]; omega)] at e
              exact ⟨by rw [← e]; rfl, hb⟩
        · skip
          go_enter Tryd.func5, Tryd.ntmps5
          go_wp2_with fail
          refine C1.out.mono ?_
          rintro e w' ⟨rfl, rfl⟩
          go_wp2_with fail
          refine (number_any x _ hx.1 hx.2).mono ?_
          rintro e w1 ⟨rfl, hb⟩
          go_wp2_with fail
          go_loopw [3, 19] (fun s i wr => ∃ (k : Nat) (l : List UInt8), k ≤ m ∧ i = .int .i64 k ∧ s = .string ⟨l.toArray⟩ ∧ Hid (l = Go.Lib.itoa x ++ Go.Lib.joinTail [44] ((r.map Go.Lib.itoa).take k)) ∧ Below w.heap.size w wr) (fun _ i _ => m - (intOf i).toNat)
          case atStart => exact ⟨0, _, Nat.zero_le _, rfl, rfl, by simp [Hid, Go.Lib.joinTail], hb⟩
          case round =>
            clear hb
            obtain ⟨k, l, hk, rfl, rfl, HE, hb⟩ := hrel
            by_cases hlt : k < m
            · obtain ⟨y, hy⟩ : ∃ y, y = r.getD k 0 := ⟨_, rfl⟩
              have hck := (hb.cell (p := ⟨b, off + (k + 1), none⟩) hbl).trans (HCR.out k (by rw [HM.out]; exact hlt))
              rw [List.getD_cons_succ, ← hy, show off + (k + 1) = off + 1 + k by omega] at hck
              have hyb := HRT.out y (by rw [hy]; simp [List.getD, show k < r.length by rw [HM.out]; exact hlt])
              have hll : l.length ≤ 500000000 := by
                have h1 := congrArg List.length HE.out
                have h2 := HT.out k
                rw [List.length_append] at h1
                rw [HM.out] at h2
                omega
              have hyl := itoa_len hyb.1 hyb.2
              have ES := Lib.hid (show l ++ [44] ++ Go.Lib.itoa y = Go.Lib.itoa x ++ Go.Lib.joinTail [44] ((r.map Go.Lib.itoa).take (k + 1)) by
                rw [Go.Lib.joinTail_take_succ [44] (r.map Go.Lib.itoa) k (Go.Lib.itoa y) (by rw [hy]; simp [List.getD, show k < r.length by rw [HM.out]; exact hlt]), HE.out]
                simp)
              have CY := Lib.hid (fun w => number_any y w hyb.1 hyb.2)
              obtain ⟨z, hz⟩ : ∃ z, Go.Lib.itoa y = z := ⟨_, rfl⟩
              rw [hz] at CY ES hyl
              have hs1 : (⟨l.toArray⟩ : ByteArray).size ≤ 500000000 := by simpa [ByteArray.size] using hll
              have hs2 : (⟨z.toArray⟩ : ByteArray).size ≤ 1000001 := by simpa [ByteArray.size] using hyl
              have hs3 : (⟨#[44]⟩ : ByteArray).size = 1 := rfl
              have hadd1 := fun (W : World) => run_string_add_sum (P := Tryd.prog) W ⟨l.toArray⟩ ⟨#[44]⟩ (by omega)
              have hadd2 := fun (W : World) => run_string_add_sum (P := Tryd.prog) W (⟨l.toArray⟩ ++ ⟨#[44]⟩) ⟨z.toArray⟩ (by rw [ByteArray.size_append]; omega)
              have HEA := Lib.hid (show ((⟨l.toArray⟩ : ByteArray) ++ ⟨#[44]⟩) ++ ⟨z.toArray⟩ = ⟨(l ++ [44] ++ z).toArray⟩ by
                rw [show (⟨#[44]⟩ : ByteArray) = ⟨[44].toArray⟩ from rfl, ByteArray.mk_append_mk, ByteArray.mk_append_mk])
              have HB := Lib.hid hb
              clear hz hy hs1 hs2 hs3 hb HE
              go_wp2_with fail
              refine (CY.out _).mono ?_
              rintro e w2 ⟨rfl, hb2⟩
              have hb3 := HB.out.trans (hb2.mono HB.out.size)
              clear hb2
              go_wp2_with fail
              go_roundw
              case rel => exact ⟨k + 1, _, by omega, by go_num, by rw [HEA.out], ES.out, hb3⟩
              case measure => simp [intOf]; omega
            · go_wp2_with fail
              go_ret
              have e := HE.out
              rw [List.take_of_length_le (by rw [List.length_map, HM.out]; omega)] at e
              exact ⟨by rw [← e]; rfl, hb⟩

end Go.Proofs.YthlpgpgfdfnofabDoor
