/-
  What an instruction computes, in one contract each: isJumpDone, computed, l2Value. No statement of the seat is proved here.
-/
import Derived.Test.YtjphamgkigekkaaExec1
namespace Go.Proofs.Ytjphamgkigekkaa
open Go.RowKit

def jumpB (x : Ins) (r : List Int) : Bool := if x.op = 9 then (rg r x.a == 0) else if x.op = 10 then decide (rg r x.a < 0) else true
theorem valI_1 (a b c : Int) (r : List Int) (t : Int) : valI ⟨1, a, b, c⟩ r t = t := by simp [valI]
theorem valI_3 (a b c : Int) (r : List Int) (t : Int) : valI ⟨3, a, b, c⟩ r t = b := by simp [valI]
theorem valI_4 (a b c : Int) (r : List Int) (t : Int) : valI ⟨4, a, b, c⟩ r t = wrapT (rg r b + rg r c) := by simp [valI]
theorem valI_5 (a b c : Int) (r : List Int) (t : Int) : valI ⟨5, a, b, c⟩ r t = wrapT (rg r b - rg r c) := by simp [valI]
theorem valI_6 (a b c : Int) (r : List Int) (t : Int) : valI ⟨6, a, b, c⟩ r t = wrapT (rg r b * rg r c) := by simp [valI]
theorem valI_7 (a b c : Int) (r : List Int) (t : Int) : valI ⟨7, a, b, c⟩ r t = restI (rg r b) (rg r c) := by simp [valI]
theorem jumpB_8 (a b c : Int) (r : List Int) : jumpB ⟨8, a, b, c⟩ r = true := by simp [jumpB]
theorem jumpB_9 (a b c : Int) (r : List Int) : jumpB ⟨9, a, b, c⟩ r = (rg r a == 0) := by simp [jumpB]
theorem jumpB_10 (a b c : Int) (r : List Int) : jumpB ⟨10, a, b, c⟩ r = decide (rg r a < 0) := by simp [jumpB]


set_option maxRecDepth 100000 in
set_option maxHeartbeats 4000000 in
theorem icomp_3 (a b c : Int) (v : Value) (regs : List Int) (w : World) (h : Sl w v regs) (hlen : regs.length = 4) (hs : isS regs = true) :
    Calls Try.prog 163 #[.agg #[.int .i64 3, .int .i64 a, .int .i64 b, .int .i64 c], v] w fun e w' => e = .returned (.int .i64 (b)) ∧ Below w.heap.size w w' := by
  obtain ⟨v0, cap, rfl, _, _, _, hcell⟩ := h
  have hl4 := hlen
  rw [hlen] at hcell ⊢
  obtain ⟨bb, off, rfl, hbl, hc⟩ : ∃ bb off, v0 = some ⟨bb, off, none⟩ ∧ bb < w.heap.size ∧ ∀ i, i < 4 → w.cell? ⟨bb, off + i, none⟩ = some (.int .i64 (regs.getD i 0)) := by
    rcases hcell with rfl | h
    · simp at hlen
    · exact h
  clear hc hlen hs hl4 hbl
  have HB := Lib.hid ((Below.refl w.heap.size w).al (.cells #[.int .i64 3, .int .i64 a, .int .i64 b, .int .i64 c] 156))
  go_enter Try.func163, Try.ntmps163
  go_wp2_with fail
  go_ret
  exact ⟨rfl, HB.out⟩


set_option maxRecDepth 100000 in
set_option maxHeartbeats 4000000 in
theorem sval_1 (a b c : Int) (v : Value) (regs : List Int) (t : Int) (w : World) (h : Sl w v regs) (hlen : regs.length = 4) (hs : isS regs = true) :
    Calls Try.prog 153 #[.agg #[.int .i64 1, .int .i64 a, .int .i64 b, .int .i64 c], v, .int .i64 t] w fun e w' => e = .returned (.int .i64 (t)) ∧ Below w.heap.size w w' := by
  obtain ⟨v0, cap, rfl, _, _, _, hcell⟩ := h
  have hl4 := hlen
  rw [hlen] at hcell ⊢
  obtain ⟨bb, off, rfl, hbl, hc⟩ : ∃ bb off, v0 = some ⟨bb, off, none⟩ ∧ bb < w.heap.size ∧ ∀ i, i < 4 → w.cell? ⟨bb, off + i, none⟩ = some (.int .i64 (regs.getD i 0)) := by
    rcases hcell with rfl | h
    · simp at hlen
    · exact h
  clear hc hlen hs hl4 hbl
  have HB := Lib.hid ((Below.refl w.heap.size w).al (.cells #[.int .i64 1, .int .i64 a, .int .i64 b, .int .i64 c] 156))
  go_enter Try.func153, Try.ntmps153
  go_wp2_with fail
  go_ret
  exact ⟨rfl, HB.out⟩


set_option maxRecDepth 100000 in
set_option maxHeartbeats 4000000 in
theorem sval_3 (a b c : Int) (v : Value) (regs : List Int) (t : Int) (w : World) (h : Sl w v regs) (hlen : regs.length = 4) (hs : isS regs = true) :
    Calls Try.prog 153 #[.agg #[.int .i64 3, .int .i64 a, .int .i64 b, .int .i64 c], v, .int .i64 t] w fun e w' => e = .returned (.int .i64 (b)) ∧ Below w.heap.size w w' := by
  obtain ⟨v0, cap, rfl, _, _, _, hcell⟩ := h
  have hl4 := hlen
  rw [hlen] at hcell ⊢
  obtain ⟨bb, off, rfl, hbl, hc⟩ : ∃ bb off, v0 = some ⟨bb, off, none⟩ ∧ bb < w.heap.size ∧ ∀ i, i < 4 → w.cell? ⟨bb, off + i, none⟩ = some (.int .i64 (regs.getD i 0)) := by
    rcases hcell with rfl | h
    · simp at hlen
    · exact h
  clear hc hlen hs hl4 hbl
  have HB := Lib.hid ((Below.refl w.heap.size w).al (.cells #[.int .i64 3, .int .i64 a, .int .i64 b, .int .i64 c] 156))
  go_enter Try.func153, Try.ntmps153
  go_wp2_with fail
  go_ret
  exact ⟨rfl, HB.out⟩


set_option maxRecDepth 100000 in
set_option maxHeartbeats 4000000 in
theorem sval_o (op : Int) (a b c : Int) (v : Value) (regs : List Int) (t : Int) (w : World) (h : Sl w v regs) (hlen : regs.length = 4) (hs : isS regs = true) (ha : 0 ≤ a ∧ a ≤ 3) (hop : op ≠ 1 ∧ op ≠ 3 ∧ op ≠ 4 ∧ op ≠ 5 ∧ op ≠ 6 ∧ op ≠ 7) :
    Calls Try.prog 153 #[.agg #[.int .i64 op, .int .i64 a, .int .i64 b, .int .i64 c], v, .int .i64 t] w fun e w' => e = .returned (.int .i64 (rg regs a)) ∧ Below w.heap.size w w' := by
  obtain ⟨v0, cap, rfl, _, _, _, hcell⟩ := h
  have hl4 := hlen
  rw [hlen] at hcell ⊢
  obtain ⟨bb, off, rfl, hbl, hc⟩ : ∃ bb off, v0 = some ⟨bb, off, none⟩ ∧ bb < w.heap.size ∧ ∀ i, i < 4 → w.cell? ⟨bb, off + i, none⟩ = some (.int .i64 (regs.getD i 0)) := by
    rcases hcell with rfl | h
    · simp at hlen
    · exact h
  obtain ⟨k1, hk1⟩ : ∃ k : Nat, a = k := ⟨(a).toNat, by omega⟩
  subst hk1
  have c1 := hc k1 (by omega)
  have t1 := tok_t (rg_tok hs (k1 : Int))
  obtain ⟨r1, hr1⟩ : ∃ z, z = rg regs (k1 : Int) := ⟨_, rfl⟩
  rw [show regs.getD k1 0 = rg regs (k1 : Int) by unfold rg; rw [Int.toNat_natCast], ← hr1] at c1
  rw [← hr1] at t1
  rw [← hr1]
  clear hr1 hc hlen hs hl4
  have T1 := Lib.hid t1
  clear t1
  have HB := Lib.hid ((Below.refl w.heap.size w).al (.cells #[.int .i64 op, .int .i64 k1, .int .i64 b, .int .i64 c] 156))
  have n1 : (op == 1) = false := by simp; omega
  have n3 : (op == 3) = false := by simp; omega
  have n4 : (op == 4) = false := by simp; omega
  have n5 : (op == 5) = false := by simp; omega
  have n6 : (op == 6) = false := by simp; omega
  have n7 : (op == 7) = false := by simp; omega
  clear hop
  go_enter Try.func153, Try.ntmps153
  go_wp2_with fail
  go_ret
  exact ⟨rfl, HB.out⟩


set_option maxRecDepth 100000 in
set_option maxHeartbeats 4000000 in
theorem ijump_8 (a b c : Int) (v : Value) (regs : List Int) (w : World) (h : Sl w v regs) (hlen : regs.length = 4) (hs : isS regs = true) :
    Calls Try.prog 164 #[.agg #[.int .i64 8, .int .i64 a, .int .i64 b, .int .i64 c], v] w fun e w' => e = .returned (.bool (true)) ∧ Below w.heap.size w w' := by
  obtain ⟨v0, cap, rfl, _, _, _, hcell⟩ := h
  have hl4 := hlen
  rw [hlen] at hcell ⊢
  obtain ⟨bb, off, rfl, hbl, hc⟩ : ∃ bb off, v0 = some ⟨bb, off, none⟩ ∧ bb < w.heap.size ∧ ∀ i, i < 4 → w.cell? ⟨bb, off + i, none⟩ = some (.int .i64 (regs.getD i 0)) := by
    rcases hcell with rfl | h
    · simp at hlen
    · exact h
  clear hc hlen hs hl4 hbl
  have HB := Lib.hid ((Below.refl w.heap.size w).al (.cells #[.int .i64 8, .int .i64 a, .int .i64 b, .int .i64 c] 156))
  go_enter Try.func164, Try.ntmps164
  go_wp2_with fail
  go_ret
  exact ⟨by simp, HB.out⟩


set_option maxRecDepth 100000 in
set_option maxHeartbeats 4000000 in
theorem ijump_9 (a b c : Int) (v : Value) (regs : List Int) (w : World) (h : Sl w v regs) (hlen : regs.length = 4) (hs : isS regs = true) (ha : 0 ≤ a ∧ a ≤ 3) :
    Calls Try.prog 164 #[.agg #[.int .i64 9, .int .i64 a, .int .i64 b, .int .i64 c], v] w fun e w' => e = .returned (.bool (rg regs a == 0)) ∧ Below w.heap.size w w' := by
  obtain ⟨v0, cap, rfl, _, _, _, hcell⟩ := h
  have hl4 := hlen
  rw [hlen] at hcell ⊢
  obtain ⟨bb, off, rfl, hbl, hc⟩ : ∃ bb off, v0 = some ⟨bb, off, none⟩ ∧ bb < w.heap.size ∧ ∀ i, i < 4 → w.cell? ⟨bb, off + i, none⟩ = some (.int .i64 (regs.getD i 0)) := by
    rcases hcell with rfl | h
    · simp at hlen
    · exact h
  obtain ⟨k1, hk1⟩ : ∃ k : Nat, a = k := ⟨(a).toNat, by omega⟩
  subst hk1
  have c1 := hc k1 (by omega)
  have t1 := tok_t (rg_tok hs (k1 : Int))
  obtain ⟨r1, hr1⟩ : ∃ z, z = rg regs (k1 : Int) := ⟨_, rfl⟩
  rw [show regs.getD k1 0 = rg regs (k1 : Int) by unfold rg; rw [Int.toNat_natCast], ← hr1] at c1
  rw [← hr1] at t1
  rw [← hr1]
  clear hr1 hc hlen hs hl4
  have T1 := Lib.hid t1
  clear t1
  have HB := Lib.hid ((Below.refl w.heap.size w).al (.cells #[.int .i64 9, .int .i64 k1, .int .i64 b, .int .i64 c] 156))
  go_enter Try.func164, Try.ntmps164
  go_wp2_with fail
  go_ret
  exact ⟨rfl, HB.out⟩


set_option maxRecDepth 100000 in
set_option maxHeartbeats 4000000 in
theorem ijump_10 (a b c : Int) (v : Value) (regs : List Int) (w : World) (h : Sl w v regs) (hlen : regs.length = 4) (hs : isS regs = true) (ha : 0 ≤ a ∧ a ≤ 3) :
    Calls Try.prog 164 #[.agg #[.int .i64 10, .int .i64 a, .int .i64 b, .int .i64 c], v] w fun e w' => e = .returned (.bool (decide (rg regs a < 0))) ∧ Below w.heap.size w w' := by
  obtain ⟨v0, cap, rfl, _, _, _, hcell⟩ := h
  have hl4 := hlen
  rw [hlen] at hcell ⊢
  obtain ⟨bb, off, rfl, hbl, hc⟩ : ∃ bb off, v0 = some ⟨bb, off, none⟩ ∧ bb < w.heap.size ∧ ∀ i, i < 4 → w.cell? ⟨bb, off + i, none⟩ = some (.int .i64 (regs.getD i 0)) := by
    rcases hcell with rfl | h
    · simp at hlen
    · exact h
  obtain ⟨k1, hk1⟩ : ∃ k : Nat, a = k := ⟨(a).toNat, by omega⟩
  subst hk1
  have c1 := hc k1 (by omega)
  have t1 := tok_t (rg_tok hs (k1 : Int))
  obtain ⟨r1, hr1⟩ : ∃ z, z = rg regs (k1 : Int) := ⟨_, rfl⟩
  rw [show regs.getD k1 0 = rg regs (k1 : Int) by unfold rg; rw [Int.toNat_natCast], ← hr1] at c1
  rw [← hr1] at t1
  rw [← hr1]
  clear hr1 hc hlen hs hl4
  have T1 := Lib.hid t1
  clear t1
  have HB := Lib.hid ((Below.refl w.heap.size w).al (.cells #[.int .i64 10, .int .i64 k1, .int .i64 b, .int .i64 c] 156))
  go_enter Try.func164, Try.ntmps164
  go_wp2_with fail
  go_ret
  exact ⟨rfl, HB.out⟩


theorem icomp_any (x : Ins) (v : Value) (regs : List Int) (i o n : Int) (w : World) (h : Sl w v regs) (hlen : regs.length = 4) (hs : isS regs = true) (hx : okI i o n x = true) (hop : 3 ≤ x.op ∧ x.op ≤ 7) :
    Calls Try.prog 163 #[.agg #[.int .i64 x.op, .int .i64 x.a, .int .i64 x.b, .int .i64 x.c], v] w fun e w' => e = .returned (.int .i64 (valI x regs 0)) ∧ Below w.heap.size w w' := by
  have hk := of_decide_eq_true hx
  obtain ⟨op, a, b, c⟩ := x
  simp only [] at hk hop ⊢
  have : op = 3 ∨ op = 4 ∨ op = 5 ∨ op = 6 ∨ op = 7 := by omega
  rcases this with rfl | rfl | rfl | rfl | rfl
  · rw [valI_3]; exact icomp_3 a b c v regs w h hlen hs
  · rw [valI_4]; exact icomp_4 a b c v regs w h hlen hs (by omega) (by omega)
  · rw [valI_5]; exact icomp_5 a b c v regs w h hlen hs (by omega) (by omega)
  · rw [valI_6]; exact icomp_6 a b c v regs w h hlen hs (by omega) (by omega)
  · rw [valI_7]; exact icomp_7 a b c v regs w h hlen hs (by omega) (by omega)
theorem sval_any (x : Ins) (v : Value) (regs : List Int) (t : Int) (i o n : Int) (w : World) (h : Sl w v regs) (hlen : regs.length = 4) (hs : isS regs = true) (hx : okI i o n x = true) :
    Calls Try.prog 153 #[.agg #[.int .i64 x.op, .int .i64 x.a, .int .i64 x.b, .int .i64 x.c], v, .int .i64 t] w fun e w' => e = .returned (.int .i64 (valI x regs t)) ∧ Below w.heap.size w w' := by
  have hk := of_decide_eq_true hx
  obtain ⟨op, a, b, c⟩ := x
  simp only [] at hk ⊢
  by_cases hq : op ≠ 1 ∧ op ≠ 3 ∧ op ≠ 4 ∧ op ≠ 5 ∧ op ≠ 6 ∧ op ≠ 7
  · have e : valI ⟨op, a, b, c⟩ regs t = rg regs a := by
      unfold valI; simp only []
      rw [if_neg (by omega), if_neg (by omega), if_neg (by omega), if_neg (by omega), if_neg (by omega), if_neg (by omega)]
    rw [e]
    exact sval_o op a b c v regs t w h hlen hs (by omega) hq
  · have : op = 1 ∨ op = 3 ∨ op = 4 ∨ op = 5 ∨ op = 6 ∨ op = 7 := by omega
    clear hq
    rcases this with rfl | rfl | rfl | rfl | rfl | rfl
    · rw [valI_1]; exact sval_1 a b c v regs t w h hlen hs
    · rw [valI_3]; exact sval_3 a b c v regs t w h hlen hs
    · rw [valI_4]; exact sval_4 a b c v regs t w h hlen hs (by omega) (by omega)
    · rw [valI_5]; exact sval_5 a b c v regs t w h hlen hs (by omega) (by omega)
    · rw [valI_6]; exact sval_6 a b c v regs t w h hlen hs (by omega) (by omega)
    · rw [valI_7]; exact sval_7 a b c v regs t w h hlen hs (by omega) (by omega)
theorem ijump_any (x : Ins) (v : Value) (regs : List Int) (i o n : Int) (w : World) (h : Sl w v regs) (hlen : regs.length = 4) (hs : isS regs = true) (hx : okI i o n x = true) (hop : 8 ≤ x.op ∧ x.op ≤ 10) :
    Calls Try.prog 164 #[.agg #[.int .i64 x.op, .int .i64 x.a, .int .i64 x.b, .int .i64 x.c], v] w fun e w' => e = .returned (.bool (jumpB x regs)) ∧ Below w.heap.size w w' := by
  have hk := of_decide_eq_true hx
  obtain ⟨op, a, b, c⟩ := x
  simp only [] at hk hop ⊢
  have : op = 8 ∨ op = 9 ∨ op = 10 := by omega
  rcases this with rfl | rfl | rfl
  · rw [jumpB_8]; exact ijump_8 a b c v regs w h hlen hs
  · rw [jumpB_9]; exact ijump_9 a b c v regs w h hlen hs (by omega)
  · rw [jumpB_10]; exact ijump_10 a b c v regs w h hlen hs (by omega)


end Go.Proofs.Ytjphamgkigekkaa
