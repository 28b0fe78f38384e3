/-
  What the program's isProcessOf answers. No statement of the seat is proved here.
-/
import Derived.Test.YtjphamgkigekkaaNetW
namespace Go.Proofs.Ytjphamgkigekkaa
open Go.RowKit

set_option maxHeartbeats 800000 in
theorem ispro_any (v : Value) (n : Net) (p : Int) (w : World) (h : NetV w v n) :
    Calls Try.prog 99 #[v, .int .i64 p] w fun e w' => e = .returned (.bool (decide (0 ≤ p ∧ p < (n.progs.length : Int)))) ∧ Below w.heap.size w w' := by
  obtain ⟨c, d, rfl, hp, hl⟩ := h
  have hlen := hp.len
  obtain ⟨pa, pcap, rfl⟩ := hp.shape
  obtain ⟨m, hm⟩ : ∃ m, m = n.progs.length := ⟨_, rfl⟩
  obtain ⟨r, hr⟩ : ∃ r, r = decide (0 ≤ p ∧ p < (n.progs.length : Int)) := ⟨_, rfl⟩
  rw [← hr]
  rw [← hm] at hr hlen ⊢
  have HR := Lib.hid hr
  clear hm hp hl hr
  have hb := Lib.hid ((Below.refl w.heap.size w).al (.cells #[.slice pa m pcap, d] 34))
  by_cases h0 : 0 ≤ p
  · by_cases h1 : p < (m : Int)
    · have hh := Lib.hid (show r = true by rw [HR.out]; exact decide_eq_true ⟨h0, h1⟩)
      go_enter Try.func99, Try.ntmps99
      go_wp2_with fail
      go_ret
      exact ⟨ret_bool (by first | (rw [hh.out]; done) | (rw [hh.out]; simp [h0, h1]; done) | simp_all), hb.out⟩
    · have hh := Lib.hid (show r = false by rw [HR.out]; exact decide_eq_false (fun q => h1 q.2))
      go_enter Try.func99, Try.ntmps99
      go_wp2_with fail
      go_ret
      exact ⟨ret_bool (by first | (rw [hh.out]; done) | (rw [hh.out]; simp [h1]; done) | simp_all), hb.out⟩
  · have hh := Lib.hid (show r = false by rw [HR.out]; exact decide_eq_false (fun q => h0 q.1))
    go_enter Try.func99, Try.ntmps99
    go_wp2_with fail
    go_ret
    exact ⟨ret_bool (by first | (rw [hh.out]; done) | (rw [hh.out]; simp [h0]; done) | simp_all), hb.out⟩

end Go.Proofs.Ytjphamgkigekkaa
