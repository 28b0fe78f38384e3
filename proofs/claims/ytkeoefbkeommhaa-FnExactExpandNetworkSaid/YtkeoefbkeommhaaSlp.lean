/-
  What the model's l3Has, LinkTo, LinkFrom answer. No statement of the seat is proved here.
  What the program's isProcessOf answers. No statement of the seat is proved here.
-/
import Derived.Test.YtkeoefbkeommhaaSNet
import Derived.Test.YtkeoefbkeommhaaMlt
import Derived.Test.YtkeoefbkeommhaaNetA
namespace Go.Proofs.Ytkeoefbkeommhaa
open Go.RowKit

def hasP (n : Net) (p : Int) : Bool := decide (0 ≤ p ∧ p < (n.progs.length : Int))
set_option maxHeartbeats 800000 in
theorem shas_any (v : Value) (n : Net) (p : Int) (w : World) (h : NetV w v n) :
    Calls Try.prog 67 #[v, .int .i64 p] w fun e w' => e = .returned (.bool (hasP n p)) ∧ Below w.heap.size w w' := by
  obtain ⟨c, d, rfl, hp, hl⟩ := h
  have hlen := hp.len
  obtain ⟨pa, pcap, rfl⟩ := hp.shape
  obtain ⟨m, hm⟩ : ∃ m, m = n.progs.length := ⟨_, rfl⟩
  have HR := Lib.hid (show hasP n p = decide (0 ≤ p ∧ p < (m : Int)) by rw [hm]; rfl)
  rw [← hm] at hlen ⊢
  clear hm hp hl
  obtain ⟨r, hr⟩ : ∃ r, r = hasP n p := ⟨_, rfl⟩
  rw [← hr] at HR ⊢
  clear hr
  have hb := Lib.hid ((Below.refl w.heap.size w).al (.cells #[.slice pa m pcap, d] 31))
  by_cases h0 : 0 ≤ p
  · by_cases h1 : p < (m : Int)
    · have hh := Lib.hid (show r = true by rw [HR.out]; exact decide_eq_true ⟨h0, h1⟩)
      have d0 : decide (p ≥ 0) = true := decide_eq_true h0
      go_enter Try.func67, Try.ntmps67
      go_wp2_with fail
      go_ret
      exact ⟨ret_bool (by first | (rw [hh.out]; done) | (rw [hh.out]; simp [h1]; done) | simp_all), hb.out⟩
    · have hh := Lib.hid (show r = false by rw [HR.out]; exact decide_eq_false (fun q => h1 q.2))
      have d0 : decide (p ≥ 0) = true := decide_eq_true h0
      go_enter Try.func67, Try.ntmps67
      go_wp2_with fail
      go_ret
      exact ⟨ret_bool (by first | (rw [hh.out]; done) | (rw [hh.out]; simp [h1]; done) | simp_all), hb.out⟩
  · have hh := Lib.hid (show r = false by rw [HR.out]; exact decide_eq_false (fun q => h0 q.1))
    have d0 : decide (p ≥ 0) = false := decide_eq_false h0
    go_enter Try.func67, Try.ntmps67
    go_wp2_with fail
    go_ret
    exact ⟨ret_bool (by first | (rw [hh.out]; done) | (rw [hh.out]; simp [h0]; done) | simp_all), hb.out⟩

set_option maxHeartbeats 800000 in
theorem ispro_any (v : Value) (n : Net) (p : Int) (w : World) (h : NetV w v n) :
    Calls Try.prog 69 #[v, .int .i64 p] w fun e w' => e = .returned (.bool (decide (0 ≤ p ∧ p < (n.progs.length : Int)))) ∧ Below w.heap.size w w' := by
  obtain ⟨c, d, rfl, hp, hl⟩ := h
  have hlen := hp.len
  obtain ⟨pa, pcap, rfl⟩ := hp.shape
  obtain ⟨m, hm⟩ : ∃ m, m = n.progs.length := ⟨_, rfl⟩
  obtain ⟨r, hr⟩ : ∃ r, r = decide (0 ≤ p ∧ p < (n.progs.length : Int)) := ⟨_, rfl⟩
  rw [← hr]
  rw [← hm] at hr hlen ⊢
  have HR := Lib.hid hr
  clear hm hp hl hr
  have hb := Lib.hid ((Below.refl w.heap.size w).al (.cells #[.slice pa m pcap, d] 31))
  by_cases h0 : 0 ≤ p
  · by_cases h1 : p < (m : Int)
    · have hh := Lib.hid (show r = true by rw [HR.out]; exact decide_eq_true ⟨h0, h1⟩)
      go_enter Try.func69, Try.ntmps69
      go_wp2_with fail
      go_ret
      exact ⟨ret_bool (by first | (rw [hh.out]; done) | (rw [hh.out]; simp [h0, h1]; done) | simp_all), hb.out⟩
    · have hh := Lib.hid (show r = false by rw [HR.out]; exact decide_eq_false (fun q => h1 q.2))
      go_enter Try.func69, Try.ntmps69
      go_wp2_with fail
      go_ret
      exact ⟨ret_bool (by first | (rw [hh.out]; done) | (rw [hh.out]; simp [h1]; done) | simp_all), hb.out⟩
  · have hh := Lib.hid (show r = false by rw [HR.out]; exact decide_eq_false (fun q => h0 q.1))
    go_enter Try.func69, Try.ntmps69
    go_wp2_with fail
    go_ret
    exact ⟨ret_bool (by first | (rw [hh.out]; done) | (rw [hh.out]; simp [h0]; done) | simp_all), hb.out⟩
end Go.Proofs.Ytkeoefbkeommhaa
