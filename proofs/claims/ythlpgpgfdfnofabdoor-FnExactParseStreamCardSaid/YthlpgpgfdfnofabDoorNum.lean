/-
  What the model's own number text is: the decimal numeral. No statement of the seat is proved here.
-/
import Derived.Test.YthlpgpgfdfnofabDoorBase
import Derived.Lib.ItoaNum
namespace Go.Proofs.YthlpgpgfdfnofabDoor
open Go.RowKit

def pre (r : Nat) : List UInt8 := if r = 0 then [] else Go.Lib.decDigits r
def dig (r : Nat) : UInt8 := UInt8.ofNat (48 + r % 10)
theorem pre_zero : pre 0 = [] := rfl
theorem dec_pre (n : Nat) : pre (n / 10) ++ [dig n] = Go.Lib.decDigits n := by
  by_cases h : n < 10
  · rw [show n / 10 = 0 by omega, pre_zero, Go.Lib.decDigits, dif_pos h]
    simp [dig, Nat.mod_eq_of_lt h]
  · conv => rhs; rw [Go.Lib.decDigits, dif_neg h]
    unfold pre dig
    rw [if_neg (by omega)]
theorem pre_step {r : Nat} {l D : List UInt8} (h : pre r ++ l = D) (hr : r ≠ 0) : pre (r / 10) ++ (dig r :: l) = D := by
  rw [← h]
  conv => rhs; unfold pre; rw [if_neg hr, ← dec_pre]
  simp
theorem nDigits_le (u : Nat) : Go.Lib.nDigits u ≤ u + 1 := by
  induction u using Nat.strongRecOn with
  | _ u ih =>
    by_cases h : u < 10
    · rw [Go.Lib.nDigits_small h]; omega
    · rw [Go.Lib.nDigits_big h]
      have := ih (u / 10) (by omega)
      omega
theorem dig_of {x : Int} {r : Nat} (h : x = 48 + (r : Int) % 10) : UInt8.ofNat x.toNat = dig r := by
  unfold dig
  rw [h]
  congr 1

set_option maxRecDepth 100000 in
set_option maxHeartbeats 800000 in
theorem number_pos (N : Nat) (w : World) (hN : N ≤ 999999999) :
    Calls Tryd.prog 14 #[.int .i64 N] w fun e w' => e = .returned (.string ⟨(Go.Lib.decDigits N).toArray⟩) ∧ Below w.heap.size w w' := by
  have kc := fun (W : World) (x : Int) => run_convert_bytes_arg (P := Tryd.prog) (W.alloc (.cells #[.int .u8 x] 5)) 38 5 Tryd.underlying38 Tryd.underlying5 W.heap.size 0 1 1 [x] rfl
    (fun i hi => by obtain rfl : i = 0 := (by omega); rw [Nat.zero_add, cell_of_row _ _ _ _ _ _ (heap_alloc_new W _)]; rfl) 9 Tryd.underlying9
  have hD := nDigits_le N
  have hl0 : ((⟨(Go.Lib.decDigits N).toArray⟩ : ByteArray)).size = Go.Lib.nDigits N := by simp [ByteArray.size, Go.Lib.decDigits_length]
  have e0 : strOfNums [48 + (N : Int) % 10] = ⟨[dig N].toArray⟩ := by unfold strOfNums; rw [List.map_cons, List.map_nil, dig_of rfl]
  have hb0 := (Below.refl w.heap.size w).alloc (Nat.le_refl _) (.cells #[.int .u8 (48 + (N : Int) % 10)] 5)
  have hlen := Go.Lib.decDigits_length N
  obtain ⟨D, hD0⟩ : ∃ D, Go.Lib.decDigits N = D := ⟨_, rfl⟩
  have hp := dec_pre N
  rw [hD0] at hp hlen ⊢
  have HD0 := Lib.hid hD0
  have HP := Lib.hid hp
  have HE := Lib.hid e0
  have HL := Lib.hid hlen
  clear hD0 hp e0 hlen hl0
  go_enter Tryd.func14, Tryd.ntmps14
  go_wp2_with fail
  go_loopw [0, 3] (fun t s wr => ∃ (r : Nat) (l : List UInt8), r ≤ 999999999 ∧ t = .int .i64 r ∧ s = .string ⟨l.toArray⟩ ∧ Hid (pre r ++ l = D) ∧ Below w.heap.size w wr) (fun t _ _ => (intOf t).toNat)
  case atStart => exact ⟨N / 10, [dig N], by omega, by rw [Int.natCast_ediv]; rfl, by rw [HE.out], HP.out, hb0⟩
  case round =>
    clear HP HE hb0
    obtain ⟨r, l, hr, rfl, rfl, HE, hb⟩ := hrel
    by_cases h0 : r = 0
    · subst h0
      go_wp2_with fail
      go_ret
      have := HE.out
      rw [pre_zero, List.nil_append] at this
      exact ⟨by rw [← this]; rfl, hb⟩
    · have hr0 : 0 < r := by omega
      have hll : l.length ≤ 1000000000 := by
        have := congrArg List.length HE.out
        rw [List.length_append, HL.out] at this
        omega
      have hsz : (⟨l.toArray⟩ : ByteArray).size ≤ 1000000000 := by simpa [ByteArray.size] using hll
      have hsz2 : (strOfNums [48 + (r : Int) % 10]).size = 1 := by rw [strOfNums_size]; rfl
      have hadd := fun (W : World) => run_string_add_sum (P := Tryd.prog) W (strOfNums [48 + (r : Int) % 10]) ⟨l.toArray⟩ (by omega)
      have ea : strOfNums [48 + (r : Int) % 10] ++ (⟨l.toArray⟩ : ByteArray) = ⟨(dig r :: l).toArray⟩ := by
        unfold strOfNums
        rw [List.map_cons, List.map_nil, dig_of rfl, ByteArray.mk_append_mk]
        rfl
      have HEA := Lib.hid ea
      have HS := Lib.hid (pre_step HE.out h0)
      have hszb := hb.size
      have HB := Lib.hid hb
      clear ea hsz hsz2 hb HE
      go_wp2_with fail
      go_roundw
      case rel => exact ⟨r / 10, dig r :: l, by omega, by rw [Int.natCast_ediv]; rfl, by rw [HEA.out], HS.out, HB.out.alloc hszb _⟩
      case measure => simp [intOf]; omega

end Go.Proofs.YthlpgpgfdfnofabDoor
